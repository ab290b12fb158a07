/- The contract of the document's answer PurgeOf: the same acts, in memory of their own, and the same error as label.Purge. -/
import Derived.Test.YtijpncibpfbkaaaPurge
import Derived.Test.YtijpncibpfbkaaaMay
import Derived.Test.YtijpncibpfbkaaaDom
import Derived.LoopTactic
import Derived.Lib.QuietBelow
namespace Go.Proofs.Ytijpncibpfbkaaa
open Go.ChangeShapes Go.WideShapes Go.ChangeAt Go.RowKit
set_option linter.unusedVariables false

theorem keepOf_get (ls : List (Int × Int)) (l kind : Int) (keep : List Int) (j : Nat) (hj : j < keep.length) (n : Int) (h : n = if kind = 6 ∧ hid ls l (j : Int) = true then 0 else keep.getD j 0) : (keepOf ls l kind keep).take (j + 1) = (keepOf ls l kind keep).take j ++ [n] := by
  have hl : j < (keepOf ls l kind keep).length := by rw [keepOf_len]; exact hj
  rw [List.take_succ_eq_append_getElem hl]
  congr 1
  rw [h]
  unfold keepOf
  by_cases h6 : kind = 6
  · simp [h6, hj]
  · simp [h6, hj]

set_option maxHeartbeats 16000000 in
set_option maxRecDepth 100000 in
theorem purgeOf_any (s p : Int) (ad : Option Addr) (len cap : Nat) (ls : List (Int × Int)) (l : Int) (aa : Option Addr) (alen acap : Nat) (xs : List AV) (w : World) (h : IsLabs w ad len cap ls) (hx : IsActs w aa alen acap xs)
    (hsz : alen * 120 ≤ 140737488355328) (hks : ∀ i, (xs.getD i default).keep.length * 8 ≤ 140737488355328) :
    Calls Try.prog 14 #[.agg #[.int .i64 s, .slice ad len cap, .int .i64 p], .int .i64 l, .slice aa alen acap] w fun e w' => ∃ (ao : Option Addr) (cp : Nat) (ys : List AV),
      e = .returned (.tuple #[.slice ao ys.length cp, .int .i64 (purgeErr s ls p l)]) ∧ IsActs w' ao ys.length cp ys ∧ ys.map AV.bare = purgeR s ls p l xs ∧ Below w.heap.size w w' := by
  obtain ⟨i0, hi, li0, li1, li2⟩ := info_parts actInfo
  obtain ⟨j0, hj, lj0, lj1, lj2⟩ := info_parts intInfo
  have hmx : len ≤ maxLen := Nat.le_trans h.2.1 h.2.2.1
  have hA : Below w.heap.size w (w.alloc (.cells #[.int .i64 s, .slice ad len cap, .int .i64 p] 24)) := (Below.refl _ _).alloc (Nat.le_refl _) _
  have hno : ∀ w' : World, IsActs w' none ([] : List AV).length 0 [] := fun w' => ⟨rfl, Nat.le_refl _, Nat.zero_le _, fun hh => absurd hh (by simp)⟩
  by_cases hF : cfgFault s ls p = 0
  · cases hl : plc l len with
    | false =>
      have hE : purgeErr s ls p l = 6 := by unfold purgeErr; rw [if_pos hF, h.1, hl]; rfl
      have hR : purgeR s ls p l xs = [] := by unfold purgeR; rw [hE]; rfl
      rw [hE, hR]
      go_enter Try.func14, Try.ntmps14
      go_wp2_with (first
        | (go_at_call 8; refine (fault_any s p ad len cap ls _ (h.below hA)).mono ?_; rintro e w1 ⟨rfl, hb1⟩; have hz1 : w.heap.size < w1.heap.size := (by have := hb1.size; simp at this; omega); obtain ⟨hc1, hf1⟩ := bcell hb1)
        | (go_at_call 22; refine (labelMay_any _ _ _ _ _ _ _ hmx).mono ?_; rintro e w2 ⟨rfl, hb2⟩))
      go_ret2
      exact ⟨none, 0, [], rfl, hno _, rfl, hA.trans ((hb1.mono (by simp)).trans (hb2.mono (by omega)))⟩
    | true =>
      have hE : purgeErr s ls p l = 0 := by unfold purgeErr; rw [if_pos hF, h.1, hl]; rfl
      have hR : purgeR s ls p l xs = purgeF ls l xs := by unfold purgeR; rw [hE]; rfl
      rw [hE, hR]
      have hl' := plc_true hl
      obtain ⟨li, rfl⟩ : ∃ i : Nat, l = i := ⟨l.toNat, by omega⟩
      obtain ⟨bk, boff, rfl, hLab⟩ := h.2.2.2 (by omega)
      have hlen := h.1
      have hil : (li : Int) < (len : Int) := by omega
      go_enter Try.func14, Try.ntmps14
      go_wp2_with (first
        | (go_at_call 8; refine (fault_any s p _ len cap ls _ (h.below hA)).mono ?_; rintro e w1 ⟨rfl, hb1⟩; have hz1 : w.heap.size < w1.heap.size := (by have := hb1.size; simp at this; omega); obtain ⟨hc1, hf1⟩ := bcell hb1)
        | (go_at_call 22; refine (labelMay_any _ _ _ _ _ _ _ hmx).mono ?_; rintro e w2 ⟨rfl, hb2⟩))
      have hW2 : Below (w.heap.size + 1) (w.alloc (.cells #[.int .i64 s, .slice (some ⟨bk, boff, none⟩) len cap, .int .i64 p] 24)) w2 := (hb1.mono (by simp)).trans (hb2.mono (by omega))
      have hB2 : Below w.heap.size w w2 := hA.trans (hW2.mono (by omega))
      have d0 : w2.cell? ⟨w.heap.size, 0, none⟩ = some (.int .i64 s) := by rw [hW2.cell (p := ⟨w.heap.size, 0, none⟩) (by simp)]; go_simp
      have d1 : w2.cell? ⟨w.heap.size, 1, none⟩ = some (.slice (some ⟨bk, boff, none⟩) len cap) := by rw [hW2.cell (p := ⟨w.heap.size, 1, none⟩) (by simp)]; go_simp
      have d2 : w2.cell? ⟨w.heap.size, 2, none⟩ = some (.int .i64 p) := by rw [hW2.cell (p := ⟨w.heap.size, 2, none⟩) (by simp)]; go_simp
      have z2 : w.heap.size < w2.heap.size := by have := hW2.size; simp at this; omega
      have hx2 := hx.below hB2
      have hLab2 := hLab.below hB2
      obtain ⟨xl, hxl⟩ : ∃ x, x = ls.getD li (0, 0) := ⟨_, rfl⟩
      have HXL : Hid (xl = ls.getD li (0, 0)) := hxl
      obtain ⟨m0, m1⟩ := hLab2.2 li (by omega)
      rw [← hxl] at m0 m1
      clear hxl hb1 hb2 hc1 hf1 hz1 hW2 hA
      have hbkz : bk < w2.heap.size := hLab2.1
      go_loopw [9, 10] (fun v i wr => ∃ (k : Nat) (ao : Option Addr) (cp : Nat) (ys : List AV), k ≤ alen ∧ i = .int .i64 k ∧ v = .slice ao ys.length cp ∧ OwnActs wr w2.heap.size (.slice ao ys.length cp) ys ∧ ys.map AV.bare = purgeF ls li (xs.take k) ∧ Below w2.heap.size w2 wr) (fun _ i _ => alen - (intOf i).toNat)
      case atStart => exact ⟨0, none, 0, [], Nat.zero_le _, rfl, rfl, ownActs_nil _ _, by simp [purgeF], Below.refl _ _⟩
      case round =>
        obtain ⟨k, ao, cp, ys, hk, rfl, rfl, hO, hm, hb⟩ := hrel
        have hlx := hx2.1
        by_cases hlt : k < alen
        · have hlt' : (k : Int) < (alen : Int) := by omega
          obtain ⟨wr0, hwr0⟩ : ∃ w0 : World, w0 = wr := ⟨_, rfl⟩
          rw [← hwr0] at hO hb ⊢
          clear hwr0
          obtain ⟨b, off, rfl, hAt⟩ := (hx2.below hb).2.2.2 (by omega)
          obtain ⟨hcells, hints⟩ := hAt.2 k (by omega)
          have hkk := hks k
          have hylen : ys.length ≤ k := by
            have e1 := congrArg List.length hm
            have e2 := purgeF_len ls li (xs.take k)
            simp at e1 e2
            omega
          have hst := purgeF_take (ls := ls) (l := li) (xs := xs) (k := k) (by omega)
          obtain ⟨x, ex⟩ : ∃ x, x = xs.getD k default := ⟨_, rfl⟩
          rw [← ex] at hcells hints hkk hst
          clear ex
          obtain ⟨kind, site, to, label, pick, ka, kl, kc, c0, c1, c2, c3, c4, line, keep⟩ := x
          simp only [] at hints hkk
          have hnums : Nums keep := hints.2.2.2.1
          obtain rfl : kl = keep.length := hints.1.symm
          have a0 := hcells 0 (by decide)
          have a1 := hcells 1 (by decide)
          have a2 := hcells 2 (by decide)
          have a3 := hcells 3 (by decide)
          have a4 := hcells 4 (by decide)
          have a5 := hcells 5 (by decide)
          have a6 := hcells 6 (by decide)
          have a7 := hcells 7 (by decide)
          have a8 := hcells 8 (by decide)
          have a9 := hcells 9 (by decide)
          have a10 := hcells 10 (by decide)
          have a11 := hcells 11 (by decide)
          simp [AV.cells] at a0 a1 a2 a3 a4 a5 a6 a7 a8 a9 a10 a11
          clear hcells hAt
          have hbz : b < wr0.heap.size := World.block_lt_of_cell? wr0 _ a0
          go_wp2
          obtain ⟨wo, hwo⟩ : ∃ wo : World, wo = wr0.alloc (.cells #[.int .i64 kind, .int .i64 site, .int .i64 to, .int .i64 label, .int .i64 pick, .slice ka keep.length kc, .int .i64 c0, .int .i64 c1, .int .i64 c2, .int .i64 c3, .int .i64 c4, .string line] 50) := ⟨_, rfl⟩
          have hbo0 : Below wr0.heap.size wr0 wo := by rw [hwo]; exact (Below.refl _ _).alloc (Nat.le_refl _) _
          have zwo : wr0.heap.size < wo.heap.size := by rw [hwo]; simp
          have q0 : wo.cell? ⟨wr0.heap.size, 0, none⟩ = some (.int .i64 kind) := by rw [hwo]; go_simp
          have q1 : wo.cell? ⟨wr0.heap.size, 1, none⟩ = some (.int .i64 site) := by rw [hwo]; go_simp
          have q2 : wo.cell? ⟨wr0.heap.size, 2, none⟩ = some (.int .i64 to) := by rw [hwo]; go_simp
          have q3 : wo.cell? ⟨wr0.heap.size, 3, none⟩ = some (.int .i64 label) := by rw [hwo]; go_simp
          have q4 : wo.cell? ⟨wr0.heap.size, 4, none⟩ = some (.int .i64 pick) := by rw [hwo]; go_simp
          have q5 : wo.cell? ⟨wr0.heap.size, 5, none⟩ = some (.slice ka keep.length kc) := by rw [hwo]; go_simp
          have q6 : wo.cell? ⟨wr0.heap.size, 6, none⟩ = some (.int .i64 c0) := by rw [hwo]; go_simp
          have q7 : wo.cell? ⟨wr0.heap.size, 7, none⟩ = some (.int .i64 c1) := by rw [hwo]; go_simp
          have q8 : wo.cell? ⟨wr0.heap.size, 8, none⟩ = some (.int .i64 c2) := by rw [hwo]; go_simp
          have q9 : wo.cell? ⟨wr0.heap.size, 9, none⟩ = some (.int .i64 c3) := by rw [hwo]; go_simp
          have q10 : wo.cell? ⟨wr0.heap.size, 10, none⟩ = some (.int .i64 c4) := by rw [hwo]; go_simp
          have q11 : wo.cell? ⟨wr0.heap.size, 11, none⟩ = some (.string line) := by rw [hwo]; go_simp
          have qf : wo.frozen? ⟨wr0.heap.size, 5, none⟩ = false := by rw [hwo]; go_simp
          rw [← hwo]
          clear hwo a0 a1 a2 a3 a4 a5 a6 a7 a8 a9 a10 a11
          have hb2o : Below w2.heap.size w2 wo := hb.trans (hbo0.mono hb.size)
          have hbo1 := hb2o.size
          have p0 := (hb2o.cell (p := ⟨w.heap.size, 0, none⟩) z2).trans d0
          have p1 := (hb2o.cell (p := ⟨w.heap.size, 1, none⟩) z2).trans d1
          have p2 := (hb2o.cell (p := ⟨w.heap.size, 2, none⟩) z2).trans d2
          have p3 := (hb2o.cell (p := ⟨bk, boff + li * 2, none⟩) hbkz).trans m0
          have p4 := (hb2o.cell (p := ⟨bk, boff + li * 2 + 1, none⟩) hbkz).trans m1
          have hLo := hLab2.below hb2o
          have hko := hints.below hbo0
          have hOo := hO.below hbo0
          go_loopw [12, 13] (fun v i wr => ∃ (j : Nat) (ko : Option Addr) (kcp : Nat), j ≤ keep.length ∧ i = .int .i64 j ∧ v = .slice ko j kcp ∧ wr.ownsRow wo.heap.size 3 1 (.slice ko j kcp) j (((keepOf ls li kind keep).take j).map (Value.int .i64)) ∧ Below wo.heap.size wo wr) (fun _ i _ => keep.length - (intOf i).toNat)
          case atStart => exact ⟨0, none, 0, Nat.zero_le _, rfl, rfl, by simpa using World.ownsRow_nil wo wo.heap.size 3 1, Below.refl _ _⟩
          case round =>
            obtain ⟨j, ko, kcp, hjk, rfl, rfl, hok, hbo⟩ := hrel
            have zr := hbo.size
            have r0 := (hbo.cell (p := ⟨wr0.heap.size, 0, none⟩) zwo).trans q0
            have r1 := (hbo.cell (p := ⟨wr0.heap.size, 1, none⟩) zwo).trans q1
            have r2 := (hbo.cell (p := ⟨wr0.heap.size, 2, none⟩) zwo).trans q2
            have r3 := (hbo.cell (p := ⟨wr0.heap.size, 3, none⟩) zwo).trans q3
            have r4 := (hbo.cell (p := ⟨wr0.heap.size, 4, none⟩) zwo).trans q4
            have r5 := (hbo.cell (p := ⟨wr0.heap.size, 5, none⟩) zwo).trans q5
            have r6 := (hbo.cell (p := ⟨wr0.heap.size, 6, none⟩) zwo).trans q6
            have r7 := (hbo.cell (p := ⟨wr0.heap.size, 7, none⟩) zwo).trans q7
            have r8 := (hbo.cell (p := ⟨wr0.heap.size, 8, none⟩) zwo).trans q8
            have r9 := (hbo.cell (p := ⟨wr0.heap.size, 9, none⟩) zwo).trans q9
            have r10 := (hbo.cell (p := ⟨wr0.heap.size, 10, none⟩) zwo).trans q10
            have r11 := (hbo.cell (p := ⟨wr0.heap.size, 11, none⟩) zwo).trans q11
            have rf := (hbo.frozen (p := ⟨wr0.heap.size, 5, none⟩) zwo).trans qf
            have t0 := (hbo.cell (p := ⟨w.heap.size, 0, none⟩) (by show w.heap.size < _; omega)).trans p0
            have t1 := (hbo.cell (p := ⟨w.heap.size, 1, none⟩) (by show w.heap.size < _; omega)).trans p1
            have t2 := (hbo.cell (p := ⟨w.heap.size, 2, none⟩) (by show w.heap.size < _; omega)).trans p2
            have t3 := (hbo.cell (p := ⟨bk, boff + li * 2, none⟩) (by show bk < _; omega)).trans p3
            have t4 := (hbo.cell (p := ⟨bk, boff + li * 2 + 1, none⟩) (by show bk < _; omega)).trans p4
            by_cases hjl : j < keep.length
            · have hjl' : (j : Int) < (keep.length : Int) := by omega
              obtain ⟨kb, koff, rfl, hkbz, hkcell⟩ := (hko.below hbo).2.2.2.2 (by omega)
              obtain ⟨z, hz⟩ : ∃ z, z = keep.getD j 0 := ⟨_, rfl⟩
              have hzc := hkcell j hjl
              rw [← hz] at hzc
              have hget := keepOf_get ls li kind keep j hjl
              rw [← hz] at hget
              clear hz hkcell
              have g0 := fun d os => cell_regrown r0 d os
              have g1 := fun d os => cell_regrown t0 d os
              have g2 := fun d os => cell_regrown t1 d os
              have g3 := fun d os => cell_regrown t2 d os
              have g4 := fun d os => cell_regrown t3 d os
              have g5 := fun d os => cell_regrown t4 d os
              by_cases h6 : kind = 6
              · have h6b : (kind == 6) = true := by simpa using h6
                cases hp : plc (j : Int) len with
                | false =>
                  have HT : Hid ((keepOf ls li kind keep).take (j + 1) = (keepOf ls li kind keep).take j ++ [z]) := hget z (by rw [if_neg]; intro hh; have := hh.2; unfold hid at this; rw [hlen, hp] at this; simp at this)
                  clear hget h6
                  have cM : ∀ w', Calls Try.prog 22 #[.agg #[.int .i64 s, .slice (some ⟨bk, boff, none⟩) len cap, .int .i64 p], .int .i64 j] w' fun e w'' => e = .returned (.bool false) ∧ Below w'.heap.size w' w'' := fun w' => by
                    rw [← hp]
                    exact labelMay_any _ _ _ _ _ _ _ hmx
                  go_wp2
                  refine wp_region_quiet_below (by kernel_rfl) (by kernel_rfl) ?_
                  repeat (go_big_quiet_step ((exact Calls.regrown_of (cM _))))
                  refine wpQuiet_nil ?_
                  intro _ hw'
                  obtain ⟨⟨dq, osq⟩, hw''⟩ := hw'
                  subst hw''
                  have hBr := below_regrown wr dq osq
                  obtain ⟨WR, hWR⟩ : ∃ WR : World, WR = Go.Sort.grow (redrawn wr dq) osq := ⟨_, rfl⟩
                  rw [← hWR] at hBr ⊢
                  clear hWR
                  have hbR : Below wo.heap.size wo WR := hbo.trans (hBr.mono hbo.size)
                  have hokR := own_below' hok hBr
                  go_wp2_with (at_builtin; refine wpList_append_own _ rfl _ _ 46 rfl wo.heap.size 3 j0 (.int .i64 0) 1 8 Try.underlying46 hj lj0 lj1 lj2 rfl (by decide) (.slice ko j kcp) j _ rfl (hokR.alloc _) ⟨WR.heap.size, 0, none⟩ 1 1 [.int .i64 z] rfl rfl (news_new #[.int .i64 z] _ rfl) (by intro u hu; simp at hu; subst hu; rfl) (by unfold maxLen; omega) (by omega) (by have := hbR.size; simp; omega) ?_)
                  intro v' w5 hown hgrow _
                  obtain ⟨g, cp', hv', hg1, hg2⟩ := World.ownsRow.form hown (by omega)
                  rw [hv'] at hown ⊢
                  have hB5 : Below wo.heap.size wo w5 := Below.grown (hbR.alloc hbR.size _) hgrow (by have := hbR.size; simp; omega) (fun m hm' => (hok.lt m hm').1)
                  clear hgrow
                  go_wp2
                  go_roundw
                  case rel => exact ⟨j + 1, some ⟨g, 0, none⟩, cp', by omega, by go_num, rfl, by rw [HT.out, List.map_append, List.map_take]; exact hown, hB5⟩
                  case measure => simp [intOf]; omega
                | true =>
                  have hp' := plc_true hp
                  have hjl2 : (j : Int) < (len : Int) := by omega
                  obtain ⟨y, hy⟩ : ∃ y, y = ls.getD j (0, 0) := ⟨_, rfl⟩
                  obtain ⟨n0, n1⟩ := (hLo.below hbo).2 j (by omega)
                  rw [← hy] at n0 n1
                  have g6 := fun d os => cell_regrown n0 d os
                  have g7 := fun d os => cell_regrown n1 d os
                  have cM : ∀ w', Calls Try.prog 22 #[.agg #[.int .i64 s, .slice (some ⟨bk, boff, none⟩) len cap, .int .i64 p], .int .i64 j] w' fun e w'' => e = .returned (.bool true) ∧ Below w'.heap.size w' w'' := fun w' => by
                    rw [← hp]
                    exact labelMay_any _ _ _ _ _ _ _ hmx
                  have hhid : hid ls li (j : Int) = !abv xl.1 xl.2 y.1 y.2 := by
                    unfold hid labAtI
                    rw [hlen, hp, HXL.out, hy]
                    simp
                  cases hD : abv xl.1 xl.2 y.1 y.2 with
                  | true =>
                    have HT : Hid ((keepOf ls li kind keep).take (j + 1) = (keepOf ls li kind keep).take j ++ [z]) := hget z (by rw [if_neg]; rw [hhid, hD]; simp)
                    have cD : ∀ w', Calls Try.prog 23 #[.agg #[.int .i64 xl.1, .int .i64 xl.2], .agg #[.int .i64 y.1, .int .i64 y.2]] w' fun e w'' => e = .returned (.bool true) ∧ Below w'.heap.size w' w'' := fun w' => by
                      rw [← hD]
                      exact dominates_any _ _ _ _ _
                    clear hget h6 hy hhid hD hp
                    go_wp2
                    refine wp_region_quiet_below (by kernel_rfl) (by kernel_rfl) ?_
                    repeat (go_big_quiet_step ((first | exact Calls.regrown_of (cM _) | exact Calls.regrown_of (cD _))))
                    refine wpQuiet_nil ?_
                    intro _ hw'
                    obtain ⟨⟨dq, osq⟩, hw''⟩ := hw'
                    subst hw''
                    have hBr := below_regrown wr dq osq
                    obtain ⟨WR, hWR⟩ : ∃ WR : World, WR = Go.Sort.grow (redrawn wr dq) osq := ⟨_, rfl⟩
                    rw [← hWR] at hBr ⊢
                    clear hWR
                    have hbR : Below wo.heap.size wo WR := hbo.trans (hBr.mono hbo.size)
                    have hokR := own_below' hok hBr
                    go_wp2_with (at_builtin; refine wpList_append_own _ rfl _ _ 46 rfl wo.heap.size 3 j0 (.int .i64 0) 1 8 Try.underlying46 hj lj0 lj1 lj2 rfl (by decide) (.slice ko j kcp) j _ rfl (hokR.alloc _) ⟨WR.heap.size, 0, none⟩ 1 1 [.int .i64 z] rfl rfl (news_new #[.int .i64 z] _ rfl) (by intro u hu; simp at hu; subst hu; rfl) (by unfold maxLen; omega) (by omega) (by have := hbR.size; simp; omega) ?_)
                    intro v' w5 hown hgrow _
                    obtain ⟨g, cp', hv', hg1, hg2⟩ := World.ownsRow.form hown (by omega)
                    rw [hv'] at hown ⊢
                    have hB5 : Below wo.heap.size wo w5 := Below.grown (hbR.alloc hbR.size _) hgrow (by have := hbR.size; simp; omega) (fun m hm' => (hok.lt m hm').1)
                    clear hgrow
                    go_wp2
                    go_roundw
                    case rel => exact ⟨j + 1, some ⟨g, 0, none⟩, cp', by omega, by go_num, rfl, by rw [HT.out, List.map_append, List.map_take]; exact hown, hB5⟩
                    case measure => simp [intOf]; omega
                  | false =>
                    have HT : Hid ((keepOf ls li kind keep).take (j + 1) = (keepOf ls li kind keep).take j ++ [0]) := hget 0 (by rw [if_pos]; rw [hhid, hD]; exact ⟨h6, rfl⟩)
                    have cD : ∀ w', Calls Try.prog 23 #[.agg #[.int .i64 xl.1, .int .i64 xl.2], .agg #[.int .i64 y.1, .int .i64 y.2]] w' fun e w'' => e = .returned (.bool false) ∧ Below w'.heap.size w' w'' := fun w' => by
                      rw [← hD]
                      exact dominates_any _ _ _ _ _
                    clear hget h6 hy hhid hD hp
                    go_wp2
                    refine wp_region_quiet_below (by kernel_rfl) (by kernel_rfl) ?_
                    repeat (go_big_quiet_step ((first | exact Calls.regrown_of (cM _) | exact Calls.regrown_of (cD _))))
                    refine wpQuiet_nil ?_
                    intro _ hw'
                    obtain ⟨⟨dq, osq⟩, hw''⟩ := hw'
                    subst hw''
                    have hBr := below_regrown wr dq osq
                    obtain ⟨WR, hWR⟩ : ∃ WR : World, WR = Go.Sort.grow (redrawn wr dq) osq := ⟨_, rfl⟩
                    rw [← hWR] at hBr ⊢
                    clear hWR
                    have hbR : Below wo.heap.size wo WR := hbo.trans (hBr.mono hbo.size)
                    have hokR := own_below' hok hBr
                    go_wp2_with (at_builtin; refine wpList_append_own _ rfl _ _ 46 rfl wo.heap.size 3 j0 (.int .i64 0) 1 8 Try.underlying46 hj lj0 lj1 lj2 rfl (by decide) (.slice ko j kcp) j _ rfl (hokR.alloc _) ⟨WR.heap.size, 0, none⟩ 1 1 [.int .i64 0] rfl rfl (news_new #[.int .i64 0] _ rfl) (by intro u hu; simp at hu; subst hu; rfl) (by unfold maxLen; omega) (by omega) (by have := hbR.size; simp; omega) ?_)
                    intro v' w5 hown hgrow _
                    obtain ⟨g, cp', hv', hg1, hg2⟩ := World.ownsRow.form hown (by omega)
                    rw [hv'] at hown ⊢
                    have hB5 : Below wo.heap.size wo w5 := Below.grown (hbR.alloc hbR.size _) hgrow (by have := hbR.size; simp; omega) (fun m hm' => (hok.lt m hm').1)
                    clear hgrow
                    go_wp2
                    go_roundw
                    case rel => exact ⟨j + 1, some ⟨g, 0, none⟩, cp', by omega, by go_num, rfl, by rw [HT.out, List.map_append, List.map_take]; exact hown, hB5⟩
                    case measure => simp [intOf]; omega
              · have h6b : (kind == 6) = false := by simpa using h6
                have HT : Hid ((keepOf ls li kind keep).take (j + 1) = (keepOf ls li kind keep).take j ++ [z]) := hget z (by rw [if_neg]; intro hh; exact h6 hh.1)
                clear hget h6
                go_wp2
                refine wp_region_quiet_below (by kernel_rfl) (by kernel_rfl) ?_
                repeat (go_big_quiet_step ((fail)))
                refine wpQuiet_nil ?_
                intro _ hw'
                obtain ⟨⟨dq, osq⟩, hw''⟩ := hw'
                subst hw''
                have hBr := below_regrown wr dq osq
                obtain ⟨WR, hWR⟩ : ∃ WR : World, WR = Go.Sort.grow (redrawn wr dq) osq := ⟨_, rfl⟩
                rw [← hWR] at hBr ⊢
                clear hWR
                have hbR : Below wo.heap.size wo WR := hbo.trans (hBr.mono hbo.size)
                have hokR := own_below' hok hBr
                go_wp2_with (at_builtin; refine wpList_append_own _ rfl _ _ 46 rfl wo.heap.size 3 j0 (.int .i64 0) 1 8 Try.underlying46 hj lj0 lj1 lj2 rfl (by decide) (.slice ko j kcp) j _ rfl (hokR.alloc _) ⟨WR.heap.size, 0, none⟩ 1 1 [.int .i64 z] rfl rfl (news_new #[.int .i64 z] _ rfl) (by intro u hu; simp at hu; subst hu; rfl) (by unfold maxLen; omega) (by omega) (by have := hbR.size; simp; omega) ?_)
                intro v' w5 hown hgrow _
                obtain ⟨g, cp', hv', hg1, hg2⟩ := World.ownsRow.form hown (by omega)
                rw [hv'] at hown ⊢
                have hB5 : Below wo.heap.size wo w5 := Below.grown (hbR.alloc hbR.size _) hgrow (by have := hbR.size; simp; omega) (fun m hm' => (hok.lt m hm').1)
                clear hgrow
                go_wp2
                go_roundw
                case rel => exact ⟨j + 1, some ⟨g, 0, none⟩, cp', by omega, by go_num, rfl, by rw [HT.out, List.map_append, List.map_take]; exact hown, hB5⟩
                case measure => simp [intOf]; omega
            · have hje : j = keep.length := by omega
              subst hje
              have hok2 : wr.ownsRow wo.heap.size 3 1 (.slice ko keep.length kcp) keep.length ((keepOf ls li kind keep).map (Value.int .i64)) := by
                have e : (keepOf ls li kind keep).take keep.length = keepOf ls li kind keep := by rw [← keepOf_len ls li kind keep, List.take_length]
                rw [e] at hok
                exact hok
              clear hok
              have hbw : Below wr0.heap.size wr0 wr := hbo0.trans (hbo.mono hbo0.size)
              have hOs0 := hO.setNew hbw (a := ⟨wr0.heap.size, 5, none⟩) (Nat.le_refl _) (.slice ko keep.length kcp)
              have hbs0 : Below wr0.heap.size wr0 (wr.setCell ⟨wr0.heap.size, 5, none⟩ (.slice ko keep.length kcp)) := hbw.setCell (Nat.le_refl _) _
              have hks0 : (wr.setCell ⟨wr0.heap.size, 5, none⟩ (.slice ko keep.length kcp)).ownsRow w2.heap.size 3 1 (.slice ko keep.length kcp) keep.length ((keepOf ls li kind keep).map (Value.int .i64)) := by
                refine ownsRow_setCell_other (own_base hok2 (by omega)) (fun he => ?_) _
                have : wo.heap.size ≤ wr0.heap.size := (hok2.lt _ he).1
                omega
              obtain ⟨w4, hw4⟩ : ∃ w4 : World, w4 = wr.setCell ⟨wr0.heap.size, 5, none⟩ (.slice ko keep.length kcp) := ⟨_, rfl⟩
              have zw4 : wr0.heap.size < w4.heap.size := by rw [hw4]; simp; omega
              have zz4 : w4.heap.size = wr.heap.size := by rw [hw4]; simp
              have hOs : OwnActs w4 w2.heap.size (.slice ao ys.length cp) ys := by rw [hw4]; exact hOs0
              have hbs : Below wr0.heap.size wr0 w4 := by rw [hw4]; exact hbs0
              have hks2 : w4.ownsRow w2.heap.size 3 1 (.slice ko keep.length kcp) keep.length ((keepOf ls li kind keep).map (Value.int .i64)) := by rw [hw4]; exact hks0
              clear hOs0 hbs0 hks0
              have f0 : w4.cell? ⟨wr0.heap.size, 0, none⟩ = some (.int .i64 kind) := by rw [hw4]; go_simp
              have f1 : w4.cell? ⟨wr0.heap.size, 1, none⟩ = some (.int .i64 site) := by rw [hw4]; go_simp
              have f2 : w4.cell? ⟨wr0.heap.size, 2, none⟩ = some (.int .i64 to) := by rw [hw4]; go_simp
              have f3 : w4.cell? ⟨wr0.heap.size, 3, none⟩ = some (.int .i64 label) := by rw [hw4]; go_simp
              have f4 : w4.cell? ⟨wr0.heap.size, 4, none⟩ = some (.int .i64 pick) := by rw [hw4]; go_simp
              have f5 : w4.cell? ⟨wr0.heap.size, 5, none⟩ = some (.slice ko keep.length kcp) := by rw [hw4]; go_simp
              have f6 : w4.cell? ⟨wr0.heap.size, 6, none⟩ = some (.int .i64 c0) := by rw [hw4]; go_simp
              have f7 : w4.cell? ⟨wr0.heap.size, 7, none⟩ = some (.int .i64 c1) := by rw [hw4]; go_simp
              have f8 : w4.cell? ⟨wr0.heap.size, 8, none⟩ = some (.int .i64 c2) := by rw [hw4]; go_simp
              have f9 : w4.cell? ⟨wr0.heap.size, 9, none⟩ = some (.int .i64 c3) := by rw [hw4]; go_simp
              have f10 : w4.cell? ⟨wr0.heap.size, 10, none⟩ = some (.int .i64 c4) := by rw [hw4]; go_simp
              have f11 : w4.cell? ⟨wr0.heap.size, 11, none⟩ = some (.string line) := by rw [hw4]; go_simp
              have hne : ∀ q : Addr, q.block < wr0.heap.size → w4.cell? q = wr.cell? q := fun q hq => by rw [hw4]; exact World.cell?_of_block (Below.heap_setCell wr _ _ _ (by show q.block ≠ wr0.heap.size; omega))
              have hzb := hb.size
              have s0 := (hne ⟨w.heap.size, 0, none⟩ (by show w.heap.size < _; omega)).trans t0
              have s1 := (hne ⟨w.heap.size, 1, none⟩ (by show w.heap.size < _; omega)).trans t1
              have s2 := (hne ⟨w.heap.size, 2, none⟩ (by show w.heap.size < _; omega)).trans t2
              have s3 := (hne ⟨bk, boff + li * 2, none⟩ (by show bk < _; omega)).trans t3
              have s4 := (hne ⟨bk, boff + li * 2 + 1, none⟩ (by show bk < _; omega)).trans t4
              have g0 := fun d os => cell_regrown f0 d os
              have g1 := fun d os => cell_regrown s0 d os
              have g2 := fun d os => cell_regrown s1 d os
              have g3 := fun d os => cell_regrown s2 d os
              have g4 := fun d os => cell_regrown s3 d os
              have g5 := fun d os => cell_regrown s4 d os
              have g8 := fun d os => cell_regrown f3 d os
              cases hH : hasLab kind with
              | false =>
                have HST : Hid (purgeF ls li (xs.take (k + 1)) = purgeF ls li (xs.take k) ++ [AV.bare ⟨kind, site, to, label, pick, none, 0, 0, c0, c1, c2, c3, c4, line, keepOf ls li kind keep⟩]) := by
                  show _ = _
                  rw [hst]; simp [purgeStep, hH, AV.bare]
                clear hst
                have hkind : kind = 5 ∨ kind = 7 ∨ kind = 6 := by
                  unfold hasLab at hH
                  simp at hH
                  omega
                rcases hkind with h5 | h7 | h6
                · have e5 : (kind == 5) = true := by simpa using h5
                  clear h5 hH hne
                  go_wp2
                  rw [← hw4]
                  clear hw4
                  refine wp_region_quiet_below (by kernel_rfl) (by kernel_rfl) ?_
                  repeat (go_big_quiet_step ((fail)))
                  refine wpQuiet_nil ?_
                  intro _ hw'
                  obtain ⟨⟨dq, osq⟩, hw''⟩ := hw'
                  subst hw''
                  have hBr := below_regrown w4 dq osq
                  obtain ⟨WR, hWR⟩ : ∃ WR : World, WR = Go.Sort.grow (redrawn w4 dq) osq := ⟨_, rfl⟩
                  rw [← hWR] at hBr ⊢
                  clear hWR
                  have hB4 : Below wr0.heap.size wr0 WR := hbs.trans (hBr.mono (by have := hbs.size; omega))
                  have hOR := hOs.below hBr
                  have hkR := own_below' hks2 hBr
                  have y0 : WR.cell? ⟨wr0.heap.size, 0, none⟩ = some (.int .i64 kind) := by rw [hBr.cell (p := ⟨wr0.heap.size, 0, none⟩) zw4]; exact f0
                  have y1 : WR.cell? ⟨wr0.heap.size, 1, none⟩ = some (.int .i64 site) := by rw [hBr.cell (p := ⟨wr0.heap.size, 1, none⟩) zw4]; exact f1
                  have y2 : WR.cell? ⟨wr0.heap.size, 2, none⟩ = some (.int .i64 to) := by rw [hBr.cell (p := ⟨wr0.heap.size, 2, none⟩) zw4]; exact f2
                  have y3 : WR.cell? ⟨wr0.heap.size, 3, none⟩ = some (.int .i64 label) := by rw [hBr.cell (p := ⟨wr0.heap.size, 3, none⟩) zw4]; exact f3
                  have y4 : WR.cell? ⟨wr0.heap.size, 4, none⟩ = some (.int .i64 pick) := by rw [hBr.cell (p := ⟨wr0.heap.size, 4, none⟩) zw4]; exact f4
                  have y5 : WR.cell? ⟨wr0.heap.size, 5, none⟩ = some (.slice ko keep.length kcp) := by rw [hBr.cell (p := ⟨wr0.heap.size, 5, none⟩) zw4]; exact f5
                  have y6 : WR.cell? ⟨wr0.heap.size, 6, none⟩ = some (.int .i64 c0) := by rw [hBr.cell (p := ⟨wr0.heap.size, 6, none⟩) zw4]; exact f6
                  have y7 : WR.cell? ⟨wr0.heap.size, 7, none⟩ = some (.int .i64 c1) := by rw [hBr.cell (p := ⟨wr0.heap.size, 7, none⟩) zw4]; exact f7
                  have y8 : WR.cell? ⟨wr0.heap.size, 8, none⟩ = some (.int .i64 c2) := by rw [hBr.cell (p := ⟨wr0.heap.size, 8, none⟩) zw4]; exact f8
                  have y9 : WR.cell? ⟨wr0.heap.size, 9, none⟩ = some (.int .i64 c3) := by rw [hBr.cell (p := ⟨wr0.heap.size, 9, none⟩) zw4]; exact f9
                  have y10 : WR.cell? ⟨wr0.heap.size, 10, none⟩ = some (.int .i64 c4) := by rw [hBr.cell (p := ⟨wr0.heap.size, 10, none⟩) zw4]; exact f10
                  have y11 : WR.cell? ⟨wr0.heap.size, 11, none⟩ = some (.string line) := by rw [hBr.cell (p := ⟨wr0.heap.size, 11, none⟩) zw4]; exact f11
                  have hbase : w2.heap.size ≤ WR.heap.size := by have := hb.size; have := hB4.size; omega
                  go_wp2_with (at_builtin; refine wpList_append_own _ rfl _ _ 34 rfl w2.heap.size 50 i0 (.agg #[.int .i64 0, .int .i64 0, .int .i64 0, .int .i64 0, .int .i64 0, .slice none 0 0, .int .i64 0, .int .i64 0, .int .i64 0, .int .i64 0, .int .i64 0, .string .empty]) 12 120 Try.underlying34 hi li0 li1 li2 rfl (by decide) (.slice ao ys.length cp) ys.length (flatActs ys) rfl (hOR.row.alloc _) ⟨WR.heap.size, 0, none⟩ 1 1 (AV.cells ⟨kind, site, to, label, pick, ko, keep.length, kcp, c0, c1, c2, c3, c4, line, keepOf ls li kind keep⟩) rfl rfl (news_new #[.int .i64 kind, .int .i64 site, .int .i64 to, .int .i64 label, .int .i64 pick, .slice ko keep.length kcp, .int .i64 c0, .int .i64 c1, .int .i64 c2, .int .i64 c3, .int .i64 c4, .string line] _ rfl) (cells_one _) (by unfold maxLen; omega) (by omega) (by simp; omega) ?_)
                  intro v' w5 hown hgrow _
                  obtain ⟨g, cp', hv', hg1, hg2⟩ := World.ownsRow.form hown (by omega)
                  rw [hv'] at hown ⊢
                  have R := hOR.push (w1 := WR.alloc (.cells #[.int .i64 kind, .int .i64 site, .int .i64 to, .int .i64 label, .int .i64 pick, .slice ko keep.length kcp, .int .i64 c0, .int .i64 c1, .int .i64 c2, .int .i64 c3, .int .i64 c4, .string line] 50)) (y := ⟨kind, site, to, label, pick, ko, keep.length, kcp, c0, c1, c2, c3, c4, line, keepOf ls li kind keep⟩) ((Below.refl _ _).alloc (Nat.le_refl _) _) (hkR.alloc _) (keepOf_nums hnums) hown hgrow
                  have hB5 : Below w2.heap.size w2 w5 := by
                    refine Below.grown ((hb.trans (hB4.mono hb.size)).alloc hbase _) hgrow (by simp; omega) (fun m hm' => ?_)
                    exact (hO.row.lt m hm').1
                  clear hown hgrow
                  go_wp2
                  go_roundw
                  case rel =>
                    refine ⟨k + 1, some ⟨g, 0, none⟩, cp', ys ++ [⟨kind, site, to, label, pick, ko, keep.length, kcp, c0, c1, c2, c3, c4, line, keepOf ls li kind keep⟩], by omega, by go_num, by simp, by simpa using R, ?_, hB5⟩
                    rw [List.map_append, hm, HST.out]
                    rfl
                  case measure => simp [intOf]; omega
                · have e5 : (kind == 5) = false := by simp; omega
                  have e7 : (kind == 7) = true := by simpa using h7
                  clear h7 hH hne
                  go_wp2
                  rw [← hw4]
                  clear hw4
                  refine wp_region_quiet_below (by kernel_rfl) (by kernel_rfl) ?_
                  repeat (go_big_quiet_step ((fail)))
                  refine wpQuiet_nil ?_
                  intro _ hw'
                  obtain ⟨⟨dq, osq⟩, hw''⟩ := hw'
                  subst hw''
                  have hBr := below_regrown w4 dq osq
                  obtain ⟨WR, hWR⟩ : ∃ WR : World, WR = Go.Sort.grow (redrawn w4 dq) osq := ⟨_, rfl⟩
                  rw [← hWR] at hBr ⊢
                  clear hWR
                  have hB4 : Below wr0.heap.size wr0 WR := hbs.trans (hBr.mono (by have := hbs.size; omega))
                  have hOR := hOs.below hBr
                  have hkR := own_below' hks2 hBr
                  have y0 : WR.cell? ⟨wr0.heap.size, 0, none⟩ = some (.int .i64 kind) := by rw [hBr.cell (p := ⟨wr0.heap.size, 0, none⟩) zw4]; exact f0
                  have y1 : WR.cell? ⟨wr0.heap.size, 1, none⟩ = some (.int .i64 site) := by rw [hBr.cell (p := ⟨wr0.heap.size, 1, none⟩) zw4]; exact f1
                  have y2 : WR.cell? ⟨wr0.heap.size, 2, none⟩ = some (.int .i64 to) := by rw [hBr.cell (p := ⟨wr0.heap.size, 2, none⟩) zw4]; exact f2
                  have y3 : WR.cell? ⟨wr0.heap.size, 3, none⟩ = some (.int .i64 label) := by rw [hBr.cell (p := ⟨wr0.heap.size, 3, none⟩) zw4]; exact f3
                  have y4 : WR.cell? ⟨wr0.heap.size, 4, none⟩ = some (.int .i64 pick) := by rw [hBr.cell (p := ⟨wr0.heap.size, 4, none⟩) zw4]; exact f4
                  have y5 : WR.cell? ⟨wr0.heap.size, 5, none⟩ = some (.slice ko keep.length kcp) := by rw [hBr.cell (p := ⟨wr0.heap.size, 5, none⟩) zw4]; exact f5
                  have y6 : WR.cell? ⟨wr0.heap.size, 6, none⟩ = some (.int .i64 c0) := by rw [hBr.cell (p := ⟨wr0.heap.size, 6, none⟩) zw4]; exact f6
                  have y7 : WR.cell? ⟨wr0.heap.size, 7, none⟩ = some (.int .i64 c1) := by rw [hBr.cell (p := ⟨wr0.heap.size, 7, none⟩) zw4]; exact f7
                  have y8 : WR.cell? ⟨wr0.heap.size, 8, none⟩ = some (.int .i64 c2) := by rw [hBr.cell (p := ⟨wr0.heap.size, 8, none⟩) zw4]; exact f8
                  have y9 : WR.cell? ⟨wr0.heap.size, 9, none⟩ = some (.int .i64 c3) := by rw [hBr.cell (p := ⟨wr0.heap.size, 9, none⟩) zw4]; exact f9
                  have y10 : WR.cell? ⟨wr0.heap.size, 10, none⟩ = some (.int .i64 c4) := by rw [hBr.cell (p := ⟨wr0.heap.size, 10, none⟩) zw4]; exact f10
                  have y11 : WR.cell? ⟨wr0.heap.size, 11, none⟩ = some (.string line) := by rw [hBr.cell (p := ⟨wr0.heap.size, 11, none⟩) zw4]; exact f11
                  have hbase : w2.heap.size ≤ WR.heap.size := by have := hb.size; have := hB4.size; omega
                  go_wp2_with (at_builtin; refine wpList_append_own _ rfl _ _ 34 rfl w2.heap.size 50 i0 (.agg #[.int .i64 0, .int .i64 0, .int .i64 0, .int .i64 0, .int .i64 0, .slice none 0 0, .int .i64 0, .int .i64 0, .int .i64 0, .int .i64 0, .int .i64 0, .string .empty]) 12 120 Try.underlying34 hi li0 li1 li2 rfl (by decide) (.slice ao ys.length cp) ys.length (flatActs ys) rfl (hOR.row.alloc _) ⟨WR.heap.size, 0, none⟩ 1 1 (AV.cells ⟨kind, site, to, label, pick, ko, keep.length, kcp, c0, c1, c2, c3, c4, line, keepOf ls li kind keep⟩) rfl rfl (news_new #[.int .i64 kind, .int .i64 site, .int .i64 to, .int .i64 label, .int .i64 pick, .slice ko keep.length kcp, .int .i64 c0, .int .i64 c1, .int .i64 c2, .int .i64 c3, .int .i64 c4, .string line] _ rfl) (cells_one _) (by unfold maxLen; omega) (by omega) (by simp; omega) ?_)
                  intro v' w5 hown hgrow _
                  obtain ⟨g, cp', hv', hg1, hg2⟩ := World.ownsRow.form hown (by omega)
                  rw [hv'] at hown ⊢
                  have R := hOR.push (w1 := WR.alloc (.cells #[.int .i64 kind, .int .i64 site, .int .i64 to, .int .i64 label, .int .i64 pick, .slice ko keep.length kcp, .int .i64 c0, .int .i64 c1, .int .i64 c2, .int .i64 c3, .int .i64 c4, .string line] 50)) (y := ⟨kind, site, to, label, pick, ko, keep.length, kcp, c0, c1, c2, c3, c4, line, keepOf ls li kind keep⟩) ((Below.refl _ _).alloc (Nat.le_refl _) _) (hkR.alloc _) (keepOf_nums hnums) hown hgrow
                  have hB5 : Below w2.heap.size w2 w5 := by
                    refine Below.grown ((hb.trans (hB4.mono hb.size)).alloc hbase _) hgrow (by simp; omega) (fun m hm' => ?_)
                    exact (hO.row.lt m hm').1
                  clear hown hgrow
                  go_wp2
                  go_roundw
                  case rel =>
                    refine ⟨k + 1, some ⟨g, 0, none⟩, cp', ys ++ [⟨kind, site, to, label, pick, ko, keep.length, kcp, c0, c1, c2, c3, c4, line, keepOf ls li kind keep⟩], by omega, by go_num, by simp, by simpa using R, ?_, hB5⟩
                    rw [List.map_append, hm, HST.out]
                    rfl
                  case measure => simp [intOf]; omega
                · have e5 : (kind == 5) = false := by simp; omega
                  have e7 : (kind == 7) = false := by simp; omega
                  have e6 : (kind == 6) = true := by simpa using h6
                  clear h6 hH hne
                  go_wp2
                  rw [← hw4]
                  clear hw4
                  refine wp_region_quiet_below (by kernel_rfl) (by kernel_rfl) ?_
                  repeat (go_big_quiet_step ((fail)))
                  refine wpQuiet_nil ?_
                  intro _ hw'
                  obtain ⟨⟨dq, osq⟩, hw''⟩ := hw'
                  subst hw''
                  have hBr := below_regrown w4 dq osq
                  obtain ⟨WR, hWR⟩ : ∃ WR : World, WR = Go.Sort.grow (redrawn w4 dq) osq := ⟨_, rfl⟩
                  rw [← hWR] at hBr ⊢
                  clear hWR
                  have hB4 : Below wr0.heap.size wr0 WR := hbs.trans (hBr.mono (by have := hbs.size; omega))
                  have hOR := hOs.below hBr
                  have hkR := own_below' hks2 hBr
                  have y0 : WR.cell? ⟨wr0.heap.size, 0, none⟩ = some (.int .i64 kind) := by rw [hBr.cell (p := ⟨wr0.heap.size, 0, none⟩) zw4]; exact f0
                  have y1 : WR.cell? ⟨wr0.heap.size, 1, none⟩ = some (.int .i64 site) := by rw [hBr.cell (p := ⟨wr0.heap.size, 1, none⟩) zw4]; exact f1
                  have y2 : WR.cell? ⟨wr0.heap.size, 2, none⟩ = some (.int .i64 to) := by rw [hBr.cell (p := ⟨wr0.heap.size, 2, none⟩) zw4]; exact f2
                  have y3 : WR.cell? ⟨wr0.heap.size, 3, none⟩ = some (.int .i64 label) := by rw [hBr.cell (p := ⟨wr0.heap.size, 3, none⟩) zw4]; exact f3
                  have y4 : WR.cell? ⟨wr0.heap.size, 4, none⟩ = some (.int .i64 pick) := by rw [hBr.cell (p := ⟨wr0.heap.size, 4, none⟩) zw4]; exact f4
                  have y5 : WR.cell? ⟨wr0.heap.size, 5, none⟩ = some (.slice ko keep.length kcp) := by rw [hBr.cell (p := ⟨wr0.heap.size, 5, none⟩) zw4]; exact f5
                  have y6 : WR.cell? ⟨wr0.heap.size, 6, none⟩ = some (.int .i64 c0) := by rw [hBr.cell (p := ⟨wr0.heap.size, 6, none⟩) zw4]; exact f6
                  have y7 : WR.cell? ⟨wr0.heap.size, 7, none⟩ = some (.int .i64 c1) := by rw [hBr.cell (p := ⟨wr0.heap.size, 7, none⟩) zw4]; exact f7
                  have y8 : WR.cell? ⟨wr0.heap.size, 8, none⟩ = some (.int .i64 c2) := by rw [hBr.cell (p := ⟨wr0.heap.size, 8, none⟩) zw4]; exact f8
                  have y9 : WR.cell? ⟨wr0.heap.size, 9, none⟩ = some (.int .i64 c3) := by rw [hBr.cell (p := ⟨wr0.heap.size, 9, none⟩) zw4]; exact f9
                  have y10 : WR.cell? ⟨wr0.heap.size, 10, none⟩ = some (.int .i64 c4) := by rw [hBr.cell (p := ⟨wr0.heap.size, 10, none⟩) zw4]; exact f10
                  have y11 : WR.cell? ⟨wr0.heap.size, 11, none⟩ = some (.string line) := by rw [hBr.cell (p := ⟨wr0.heap.size, 11, none⟩) zw4]; exact f11
                  have hbase : w2.heap.size ≤ WR.heap.size := by have := hb.size; have := hB4.size; omega
                  go_wp2_with (at_builtin; refine wpList_append_own _ rfl _ _ 34 rfl w2.heap.size 50 i0 (.agg #[.int .i64 0, .int .i64 0, .int .i64 0, .int .i64 0, .int .i64 0, .slice none 0 0, .int .i64 0, .int .i64 0, .int .i64 0, .int .i64 0, .int .i64 0, .string .empty]) 12 120 Try.underlying34 hi li0 li1 li2 rfl (by decide) (.slice ao ys.length cp) ys.length (flatActs ys) rfl (hOR.row.alloc _) ⟨WR.heap.size, 0, none⟩ 1 1 (AV.cells ⟨kind, site, to, label, pick, ko, keep.length, kcp, c0, c1, c2, c3, c4, line, keepOf ls li kind keep⟩) rfl rfl (news_new #[.int .i64 kind, .int .i64 site, .int .i64 to, .int .i64 label, .int .i64 pick, .slice ko keep.length kcp, .int .i64 c0, .int .i64 c1, .int .i64 c2, .int .i64 c3, .int .i64 c4, .string line] _ rfl) (cells_one _) (by unfold maxLen; omega) (by omega) (by simp; omega) ?_)
                  intro v' w5 hown hgrow _
                  obtain ⟨g, cp', hv', hg1, hg2⟩ := World.ownsRow.form hown (by omega)
                  rw [hv'] at hown ⊢
                  have R := hOR.push (w1 := WR.alloc (.cells #[.int .i64 kind, .int .i64 site, .int .i64 to, .int .i64 label, .int .i64 pick, .slice ko keep.length kcp, .int .i64 c0, .int .i64 c1, .int .i64 c2, .int .i64 c3, .int .i64 c4, .string line] 50)) (y := ⟨kind, site, to, label, pick, ko, keep.length, kcp, c0, c1, c2, c3, c4, line, keepOf ls li kind keep⟩) ((Below.refl _ _).alloc (Nat.le_refl _) _) (hkR.alloc _) (keepOf_nums hnums) hown hgrow
                  have hB5 : Below w2.heap.size w2 w5 := by
                    refine Below.grown ((hb.trans (hB4.mono hb.size)).alloc hbase _) hgrow (by simp; omega) (fun m hm' => ?_)
                    exact (hO.row.lt m hm').1
                  clear hown hgrow
                  go_wp2
                  go_roundw
                  case rel =>
                    refine ⟨k + 1, some ⟨g, 0, none⟩, cp', ys ++ [⟨kind, site, to, label, pick, ko, keep.length, kcp, c0, c1, c2, c3, c4, line, keepOf ls li kind keep⟩], by omega, by go_num, by simp, by simpa using R, ?_, hB5⟩
                    rw [List.map_append, hm, HST.out]
                    rfl
                  case measure => simp [intOf]; omega
              | true =>
                have hkind : kind ≠ 5 ∧ kind ≠ 7 ∧ kind ≠ 6 := by simpa [hasLab] using hH
                have e5 : (kind == 5) = false := by simpa using hkind.1
                have e7 : (kind == 7) = false := by simpa using hkind.2.1
                have e6 : (kind == 6) = false := by simpa using hkind.2.2
                clear hkind
                cases hp : plc label len with
                | false =>
                  have hD0 : hid ls li label = false := by unfold hid; rw [hlen, hp]; rfl
                  have HST : Hid (purgeF ls li (xs.take (k + 1)) = purgeF ls li (xs.take k) ++ [AV.bare ⟨kind, site, to, label, pick, none, 0, 0, c0, c1, c2, c3, c4, line, keepOf ls li kind keep⟩]) := by
                    show _ = _
                    rw [hst]; simp [purgeStep, hH, hD0, AV.bare]
                  clear hst
                  have cM : ∀ w', Calls Try.prog 22 #[.agg #[.int .i64 s, .slice (some ⟨bk, boff, none⟩) len cap, .int .i64 p], .int .i64 label] w' fun e w'' => e = .returned (.bool false) ∧ Below w'.heap.size w' w'' := fun w' => by
                    rw [← hp]
                    exact labelMay_any _ _ _ _ _ _ _ hmx
                  clear hD0 hp hH hne
                  go_wp2
                  rw [← hw4]
                  clear hw4
                  refine wp_region_quiet_below (by kernel_rfl) (by kernel_rfl) ?_
                  repeat (go_big_quiet_step ((exact Calls.regrown_of (cM _))))
                  refine wpQuiet_nil ?_
                  intro _ hw'
                  obtain ⟨⟨dq, osq⟩, hw''⟩ := hw'
                  subst hw''
                  have hBr := below_regrown w4 dq osq
                  obtain ⟨WR, hWR⟩ : ∃ WR : World, WR = Go.Sort.grow (redrawn w4 dq) osq := ⟨_, rfl⟩
                  rw [← hWR] at hBr ⊢
                  clear hWR
                  have hB4 : Below wr0.heap.size wr0 WR := hbs.trans (hBr.mono (by have := hbs.size; omega))
                  have hOR := hOs.below hBr
                  have hkR := own_below' hks2 hBr
                  have y0 : WR.cell? ⟨wr0.heap.size, 0, none⟩ = some (.int .i64 kind) := by rw [hBr.cell (p := ⟨wr0.heap.size, 0, none⟩) zw4]; exact f0
                  have y1 : WR.cell? ⟨wr0.heap.size, 1, none⟩ = some (.int .i64 site) := by rw [hBr.cell (p := ⟨wr0.heap.size, 1, none⟩) zw4]; exact f1
                  have y2 : WR.cell? ⟨wr0.heap.size, 2, none⟩ = some (.int .i64 to) := by rw [hBr.cell (p := ⟨wr0.heap.size, 2, none⟩) zw4]; exact f2
                  have y3 : WR.cell? ⟨wr0.heap.size, 3, none⟩ = some (.int .i64 label) := by rw [hBr.cell (p := ⟨wr0.heap.size, 3, none⟩) zw4]; exact f3
                  have y4 : WR.cell? ⟨wr0.heap.size, 4, none⟩ = some (.int .i64 pick) := by rw [hBr.cell (p := ⟨wr0.heap.size, 4, none⟩) zw4]; exact f4
                  have y5 : WR.cell? ⟨wr0.heap.size, 5, none⟩ = some (.slice ko keep.length kcp) := by rw [hBr.cell (p := ⟨wr0.heap.size, 5, none⟩) zw4]; exact f5
                  have y6 : WR.cell? ⟨wr0.heap.size, 6, none⟩ = some (.int .i64 c0) := by rw [hBr.cell (p := ⟨wr0.heap.size, 6, none⟩) zw4]; exact f6
                  have y7 : WR.cell? ⟨wr0.heap.size, 7, none⟩ = some (.int .i64 c1) := by rw [hBr.cell (p := ⟨wr0.heap.size, 7, none⟩) zw4]; exact f7
                  have y8 : WR.cell? ⟨wr0.heap.size, 8, none⟩ = some (.int .i64 c2) := by rw [hBr.cell (p := ⟨wr0.heap.size, 8, none⟩) zw4]; exact f8
                  have y9 : WR.cell? ⟨wr0.heap.size, 9, none⟩ = some (.int .i64 c3) := by rw [hBr.cell (p := ⟨wr0.heap.size, 9, none⟩) zw4]; exact f9
                  have y10 : WR.cell? ⟨wr0.heap.size, 10, none⟩ = some (.int .i64 c4) := by rw [hBr.cell (p := ⟨wr0.heap.size, 10, none⟩) zw4]; exact f10
                  have y11 : WR.cell? ⟨wr0.heap.size, 11, none⟩ = some (.string line) := by rw [hBr.cell (p := ⟨wr0.heap.size, 11, none⟩) zw4]; exact f11
                  have hbase : w2.heap.size ≤ WR.heap.size := by have := hb.size; have := hB4.size; omega
                  go_wp2_with (at_builtin; refine wpList_append_own _ rfl _ _ 34 rfl w2.heap.size 50 i0 (.agg #[.int .i64 0, .int .i64 0, .int .i64 0, .int .i64 0, .int .i64 0, .slice none 0 0, .int .i64 0, .int .i64 0, .int .i64 0, .int .i64 0, .int .i64 0, .string .empty]) 12 120 Try.underlying34 hi li0 li1 li2 rfl (by decide) (.slice ao ys.length cp) ys.length (flatActs ys) rfl (hOR.row.alloc _) ⟨WR.heap.size, 0, none⟩ 1 1 (AV.cells ⟨kind, site, to, label, pick, ko, keep.length, kcp, c0, c1, c2, c3, c4, line, keepOf ls li kind keep⟩) rfl rfl (news_new #[.int .i64 kind, .int .i64 site, .int .i64 to, .int .i64 label, .int .i64 pick, .slice ko keep.length kcp, .int .i64 c0, .int .i64 c1, .int .i64 c2, .int .i64 c3, .int .i64 c4, .string line] _ rfl) (cells_one _) (by unfold maxLen; omega) (by omega) (by simp; omega) ?_)
                  intro v' w5 hown hgrow _
                  obtain ⟨g, cp', hv', hg1, hg2⟩ := World.ownsRow.form hown (by omega)
                  rw [hv'] at hown ⊢
                  have R := hOR.push (w1 := WR.alloc (.cells #[.int .i64 kind, .int .i64 site, .int .i64 to, .int .i64 label, .int .i64 pick, .slice ko keep.length kcp, .int .i64 c0, .int .i64 c1, .int .i64 c2, .int .i64 c3, .int .i64 c4, .string line] 50)) (y := ⟨kind, site, to, label, pick, ko, keep.length, kcp, c0, c1, c2, c3, c4, line, keepOf ls li kind keep⟩) ((Below.refl _ _).alloc (Nat.le_refl _) _) (hkR.alloc _) (keepOf_nums hnums) hown hgrow
                  have hB5 : Below w2.heap.size w2 w5 := by
                    refine Below.grown ((hb.trans (hB4.mono hb.size)).alloc hbase _) hgrow (by simp; omega) (fun m hm' => ?_)
                    exact (hO.row.lt m hm').1
                  clear hown hgrow
                  go_wp2
                  go_roundw
                  case rel =>
                    refine ⟨k + 1, some ⟨g, 0, none⟩, cp', ys ++ [⟨kind, site, to, label, pick, ko, keep.length, kcp, c0, c1, c2, c3, c4, line, keepOf ls li kind keep⟩], by omega, by go_num, by simp, by simpa using R, ?_, hB5⟩
                    rw [List.map_append, hm, HST.out]
                    rfl
                  case measure => simp [intOf]; omega
                | true =>
                  have hp' := plc_true hp
                  obtain ⟨lb, rfl⟩ : ∃ i : Nat, label = i := ⟨label.toNat, by omega⟩
                  have hjl2 : (lb : Int) < (len : Int) := by omega
                  obtain ⟨y, hy⟩ : ∃ y, y = ls.getD lb (0, 0) := ⟨_, rfl⟩
                  obtain ⟨n0, n1⟩ := (hLo.below hbo).2 lb (by omega)
                  rw [← hy] at n0 n1
                  have n2 := (hne ⟨bk, boff + lb * 2, none⟩ (by show bk < _; omega)).trans n0
                  have n3 := (hne ⟨bk, boff + lb * 2 + 1, none⟩ (by show bk < _; omega)).trans n1
                  have g6 := fun d os => cell_regrown n2 d os
                  have g7 := fun d os => cell_regrown n3 d os
                  have cM : ∀ w', Calls Try.prog 22 #[.agg #[.int .i64 s, .slice (some ⟨bk, boff, none⟩) len cap, .int .i64 p], .int .i64 lb] w' fun e w'' => e = .returned (.bool true) ∧ Below w'.heap.size w' w'' := fun w' => by
                    rw [← hp]
                    exact labelMay_any _ _ _ _ _ _ _ hmx
                  have hhid : hid ls li (lb : Int) = !abv xl.1 xl.2 y.1 y.2 := by
                    unfold hid labAtI
                    rw [hlen, hp, HXL.out, hy]
                    simp
                  cases hD : abv xl.1 xl.2 y.1 y.2 with
                  | true =>
                    have hD0 : hid ls li (lb : Int) = false := by rw [hhid, hD]; rfl
                    have HST : Hid (purgeF ls li (xs.take (k + 1)) = purgeF ls li (xs.take k) ++ [AV.bare ⟨kind, site, to, (lb : Int), pick, none, 0, 0, c0, c1, c2, c3, c4, line, keepOf ls li kind keep⟩]) := by
                      show _ = _
                      rw [hst]; simp [purgeStep, hH, hD0, AV.bare]
                    clear hst
                    have cD : ∀ w', Calls Try.prog 23 #[.agg #[.int .i64 xl.1, .int .i64 xl.2], .agg #[.int .i64 y.1, .int .i64 y.2]] w' fun e w'' => e = .returned (.bool true) ∧ Below w'.heap.size w' w'' := fun w' => by
                      rw [← hD]
                      exact dominates_any _ _ _ _ _
                    clear hD0 hp hH hne hhid hy hD
                    go_wp2
                    rw [← hw4]
                    clear hw4
                    refine wp_region_quiet_below (by kernel_rfl) (by kernel_rfl) ?_
                    repeat (go_big_quiet_step ((first | exact Calls.regrown_of (cM _) | exact Calls.regrown_of (cD _))))
                    refine wpQuiet_nil ?_
                    intro _ hw'
                    obtain ⟨⟨dq, osq⟩, hw''⟩ := hw'
                    subst hw''
                    have hBr := below_regrown w4 dq osq
                    obtain ⟨WR, hWR⟩ : ∃ WR : World, WR = Go.Sort.grow (redrawn w4 dq) osq := ⟨_, rfl⟩
                    rw [← hWR] at hBr ⊢
                    clear hWR
                    have hB4 : Below wr0.heap.size wr0 WR := hbs.trans (hBr.mono (by have := hbs.size; omega))
                    have hOR := hOs.below hBr
                    have hkR := own_below' hks2 hBr
                    have y0 : WR.cell? ⟨wr0.heap.size, 0, none⟩ = some (.int .i64 kind) := by rw [hBr.cell (p := ⟨wr0.heap.size, 0, none⟩) zw4]; exact f0
                    have y1 : WR.cell? ⟨wr0.heap.size, 1, none⟩ = some (.int .i64 site) := by rw [hBr.cell (p := ⟨wr0.heap.size, 1, none⟩) zw4]; exact f1
                    have y2 : WR.cell? ⟨wr0.heap.size, 2, none⟩ = some (.int .i64 to) := by rw [hBr.cell (p := ⟨wr0.heap.size, 2, none⟩) zw4]; exact f2
                    have y3 : WR.cell? ⟨wr0.heap.size, 3, none⟩ = some (.int .i64 (lb : Int)) := by rw [hBr.cell (p := ⟨wr0.heap.size, 3, none⟩) zw4]; exact f3
                    have y4 : WR.cell? ⟨wr0.heap.size, 4, none⟩ = some (.int .i64 pick) := by rw [hBr.cell (p := ⟨wr0.heap.size, 4, none⟩) zw4]; exact f4
                    have y5 : WR.cell? ⟨wr0.heap.size, 5, none⟩ = some (.slice ko keep.length kcp) := by rw [hBr.cell (p := ⟨wr0.heap.size, 5, none⟩) zw4]; exact f5
                    have y6 : WR.cell? ⟨wr0.heap.size, 6, none⟩ = some (.int .i64 c0) := by rw [hBr.cell (p := ⟨wr0.heap.size, 6, none⟩) zw4]; exact f6
                    have y7 : WR.cell? ⟨wr0.heap.size, 7, none⟩ = some (.int .i64 c1) := by rw [hBr.cell (p := ⟨wr0.heap.size, 7, none⟩) zw4]; exact f7
                    have y8 : WR.cell? ⟨wr0.heap.size, 8, none⟩ = some (.int .i64 c2) := by rw [hBr.cell (p := ⟨wr0.heap.size, 8, none⟩) zw4]; exact f8
                    have y9 : WR.cell? ⟨wr0.heap.size, 9, none⟩ = some (.int .i64 c3) := by rw [hBr.cell (p := ⟨wr0.heap.size, 9, none⟩) zw4]; exact f9
                    have y10 : WR.cell? ⟨wr0.heap.size, 10, none⟩ = some (.int .i64 c4) := by rw [hBr.cell (p := ⟨wr0.heap.size, 10, none⟩) zw4]; exact f10
                    have y11 : WR.cell? ⟨wr0.heap.size, 11, none⟩ = some (.string line) := by rw [hBr.cell (p := ⟨wr0.heap.size, 11, none⟩) zw4]; exact f11
                    have hbase : w2.heap.size ≤ WR.heap.size := by have := hb.size; have := hB4.size; omega
                    go_wp2_with (at_builtin; refine wpList_append_own _ rfl _ _ 34 rfl w2.heap.size 50 i0 (.agg #[.int .i64 0, .int .i64 0, .int .i64 0, .int .i64 0, .int .i64 0, .slice none 0 0, .int .i64 0, .int .i64 0, .int .i64 0, .int .i64 0, .int .i64 0, .string .empty]) 12 120 Try.underlying34 hi li0 li1 li2 rfl (by decide) (.slice ao ys.length cp) ys.length (flatActs ys) rfl (hOR.row.alloc _) ⟨WR.heap.size, 0, none⟩ 1 1 (AV.cells ⟨kind, site, to, (lb : Int), pick, ko, keep.length, kcp, c0, c1, c2, c3, c4, line, keepOf ls li kind keep⟩) rfl rfl (news_new #[.int .i64 kind, .int .i64 site, .int .i64 to, .int .i64 (lb : Int), .int .i64 pick, .slice ko keep.length kcp, .int .i64 c0, .int .i64 c1, .int .i64 c2, .int .i64 c3, .int .i64 c4, .string line] _ rfl) (cells_one _) (by unfold maxLen; omega) (by omega) (by simp; omega) ?_)
                    intro v' w5 hown hgrow _
                    obtain ⟨g, cp', hv', hg1, hg2⟩ := World.ownsRow.form hown (by omega)
                    rw [hv'] at hown ⊢
                    have R := hOR.push (w1 := WR.alloc (.cells #[.int .i64 kind, .int .i64 site, .int .i64 to, .int .i64 (lb : Int), .int .i64 pick, .slice ko keep.length kcp, .int .i64 c0, .int .i64 c1, .int .i64 c2, .int .i64 c3, .int .i64 c4, .string line] 50)) (y := ⟨kind, site, to, (lb : Int), pick, ko, keep.length, kcp, c0, c1, c2, c3, c4, line, keepOf ls li kind keep⟩) ((Below.refl _ _).alloc (Nat.le_refl _) _) (hkR.alloc _) (keepOf_nums hnums) hown hgrow
                    have hB5 : Below w2.heap.size w2 w5 := by
                      refine Below.grown ((hb.trans (hB4.mono hb.size)).alloc hbase _) hgrow (by simp; omega) (fun m hm' => ?_)
                      exact (hO.row.lt m hm').1
                    clear hown hgrow
                    go_wp2
                    go_roundw
                    case rel =>
                      refine ⟨k + 1, some ⟨g, 0, none⟩, cp', ys ++ [⟨kind, site, to, (lb : Int), pick, ko, keep.length, kcp, c0, c1, c2, c3, c4, line, keepOf ls li kind keep⟩], by omega, by go_num, by simp, by simpa using R, ?_, hB5⟩
                      rw [List.map_append, hm, HST.out]
                      rfl
                    case measure => simp [intOf]; omega
                  | false =>
                    have hD0 : hid ls li (lb : Int) = true := by rw [hhid, hD]; rfl
                    have HST : Hid (purgeF ls li (xs.take (k + 1)) = purgeF ls li (xs.take k)) := by
                      show purgeF ls li (xs.take (k + 1)) = purgeF ls li (xs.take k)
                      rw [hst]; simp [purgeStep, hH, hD0]
                    have cD : ∀ w', Calls Try.prog 23 #[.agg #[.int .i64 xl.1, .int .i64 xl.2], .agg #[.int .i64 y.1, .int .i64 y.2]] w' fun e w'' => e = .returned (.bool false) ∧ Below w'.heap.size w' w'' := fun w' => by
                      rw [← hD]
                      exact dominates_any _ _ _ _ _
                    clear hD0 hp hH hne hhid hy hD hst
                    go_wp2
                    rw [← hw4]
                    clear hw4
                    refine wp_region_quiet_below (by kernel_rfl) (by kernel_rfl) ?_
                    repeat (go_big_quiet_step ((first | exact Calls.regrown_of (cM _) | exact Calls.regrown_of (cD _))))
                    refine wpQuiet_nil ?_
                    intro _ hw'
                    obtain ⟨⟨dq, osq⟩, hw''⟩ := hw'
                    subst hw''
                    have hBr := below_regrown w4 dq osq
                    have hB4 : Below wr0.heap.size wr0 (Go.Sort.grow (redrawn w4 dq) osq) := hbs.trans (hBr.mono hbs.size)
                    have hO4 := hO.below hB4
                    go_wp2
                    go_roundw
                    case rel => exact ⟨k + 1, ao, cp, ys, by omega, by go_num, rfl, hO4, by rw [HST.out]; exact hm, hb.trans (hB4.mono hb.size)⟩
                    case measure => simp [intOf]; omega
        · have hke : k = alen := by omega
          have HE : Hid (purgeF ls li (xs.take k) = purgeF ls li xs) := by
            show _ = _
            rw [hke, ← hlx, List.take_length]
          go_wp2
          go_ret2
          exact ⟨ao, cp, ys, rfl, hO.isActs.2, by rw [← HE.out]; exact hm, hB2.trans (hb.mono hB2.size)⟩
  · have hE : purgeErr s ls p l = cfgFault s ls p := by unfold purgeErr; rw [if_neg hF]
    have hR : purgeR s ls p l xs = [] := by unfold purgeR; rw [hE, if_neg hF]
    rw [hE, hR]
    go_enter Try.func14, Try.ntmps14
    go_wp2_with (go_at_call 8; refine (fault_any s p ad len cap ls _ (h.below hA)).mono ?_; rintro e w1 ⟨rfl, hb1⟩)
    go_ret2
    exact ⟨none, 0, [], rfl, hno _, rfl, hA.trans (hb1.mono (by simp))⟩
end Go.Proofs.Ytijpncibpfbkaaa
