/- Texts of this claim, one behind the other. -/
import Derived.Test.YtgohpgollpjlnaaDoorM3ConsoleShows
import Derived.Deep.DeepCutAuto
import Derived.Deep.CutBlock
import Derived.Test.YtgohpgollpjlnaaDoorProg
import Derived.WalkKit
import Derived.ProofKit
import Derived.Below
import Derived.Deep.QuietTactic
import Derived.BigQuiet
import Derived.LoopTactic
import Derived.WalkSmall
import Derived.Test.YtgohpgollpjlnaaDoorA0ConsoleShows
/- The contract of the document's StoreMay: at every store it tells whether it may be. -/
namespace Go.Proofs.YtgohpgollpjlnaaDoor.St
open Go.ChangeShapes Go.WideShapes Go.ChangeAt Go.RowKit
set_option linter.unusedVariables false

theorem take_any_at {α : Type} [Inhabited α] {p : α → Bool} {xs : List α} {j : Nat} (hj : j < xs.length) : (xs.take (j + 1)).any p = ((xs.take j).any p || p (xs.getD j default)) := by
  rw [take_at hj, List.any_append]
  simp
theorem any_take_none {α : Type} [Inhabited α] {p : α → Bool} {xs : List α} {k : Nat} (hk : k ≤ xs.length) (h : ∀ i, i < k → p (xs.getD i default) = false) : (xs.take k).any p = false := by
  rw [List.any_eq_false]
  intro x hx
  obtain ⟨i, hi, rfl⟩ := List.getElem_of_mem hx
  have hi1 : i < k := by simp at hi; omega
  have hi2 : i < xs.length := by omega
  have := h i hi1
  simpa [List.getD, hi2] using this
theorem any_take_some {α : Type} [Inhabited α] {p : α → Bool} {xs : List α} {k i : Nat} (hk : k ≤ xs.length) (hi : i < k) (h : p (xs.getD i default) = true) : (xs.take k).any p = true := by
  rw [List.any_eq_true]
  have hi2 : i < xs.length := by omega
  exact ⟨xs.getD i default, by rw [List.mem_take_iff_getElem]; exact ⟨i, by omega, by simp [List.getD, hi2]⟩, h⟩

theorem overGo_at' {xs : List (Int × Int)} {k : Nat} (hk : k < xs.length) (h : overGo [] xs = overGo (xs.take k) (xs.drop k)) :
    overGo [] xs = (!(decide (xs.getD k default ∈ xs.take k)) && txOK (xs.getD k default) && overGo (xs.take (k + 1)) (xs.drop (k + 1))) := by
  rw [h, drop_at hk, take_at hk]
  rfl
theorem in_eq {n lo hi : Int} {b : Bool} (h : inR n lo hi = b) (w : World) : Calls Tryd.prog 53 #[.int .i64 n, .int .i64 lo, .int .i64 hi] w fun e w' => e = .returned (.bool b) ∧ Below w.heap.size w w' := by
  rw [← h]
  exact in_below n lo hi w

set_option maxRecDepth 100000 in
set_option maxHeartbeats 16000000 in
theorem storeMay_any (s : SV) (w : World) (h : IsStore w s) :
    Calls Tryd.prog 29 #[s.val] w fun e w' => e = .returned (.bool (storeOK s)) ∧ Below w.heap.size w w' := by
  rw [← ref_is]
  have hDo := fun t w' h1 => doubtOf_ref s t w' h1
  have hOv := fun t w' h1 => isOver_ref s t w' h1
  have hh := h
  obtain ⟨R, eR⟩ : ∃ R, R = refOK s := ⟨_, rfl⟩
  have e0 : Hid (R = (decide (s.locks.length ≤ 24) && itemsR none s.items && lkR s.doubts [] s.locks && dbR s.locks s.over [] s.doubts && overGo [] s.over)) := eR
  rw [← eR]
  clear eR
  obtain ⟨ia, il, ic, la, ll, lc, da, dl, dc, oa, ol, oc, items, locks, doubts, over⟩ := s
  obtain ⟨⟨ilen, icap, imax, _, imem⟩, ⟨llen, lcap, lmax, _, lmem⟩, ⟨dlen, dcap, dmax, _, dmem⟩, ⟨olen, ocap, omax, _, omem⟩⟩ := h
  simp only [SV.val] at *
  rw [llen] at e0
  have HI : Hid (items.length = il) := ilen
  have HL : Hid (locks.length = ll) := llen
  have HD : Hid (doubts.length = dl) := dlen
  have HO : Hid (over.length = ol) := olen
  clear ilen llen dlen olen
  unfold maxLen at imax lmax dmax omax
  obtain ⟨W, hW⟩ : ∃ W : World, W = w.alloc (.cells #[.slice ia il ic, .slice la ll lc, .slice da dl dc, .slice oa ol oc] 55) := ⟨_, rfl⟩
  have hB : Below w.heap.size w W := by rw [hW]; exact (Below.refl _ _).alloc (Nat.le_refl _) _
  have zW : w.heap.size < W.heap.size := by rw [hW]; simp
  have c0 : W.cell? ⟨w.heap.size, 0, none⟩ = some (.slice ia il ic) := by rw [hW]; go_simp
  have c1 : W.cell? ⟨w.heap.size, 1, none⟩ = some (.slice la ll lc) := by rw [hW]; go_simp
  have c2 : W.cell? ⟨w.heap.size, 2, none⟩ = some (.slice da dl dc) := by rw [hW]; go_simp
  have c3 : W.cell? ⟨w.heap.size, 3, none⟩ = some (.slice oa ol oc) := by rw [hW]; go_simp
  have KA : Hid (∀ U : World, Below W.heap.size W U → U.cell? ⟨w.heap.size, 0, none⟩ = some (.slice ia il ic) ∧ U.cell? ⟨w.heap.size, 1, none⟩ = some (.slice la ll lc) ∧ U.cell? ⟨w.heap.size, 2, none⟩ = some (.slice da dl dc) ∧ U.cell? ⟨w.heap.size, 3, none⟩ = some (.slice oa ol oc)) := fun U hU =>
    ⟨(hU.cell (p := ⟨w.heap.size, 0, none⟩) zW).trans c0, (hU.cell (p := ⟨w.heap.size, 1, none⟩) zW).trans c1, (hU.cell (p := ⟨w.heap.size, 2, none⟩) zW).trans c2, (hU.cell (p := ⟨w.heap.size, 3, none⟩) zW).trans c3⟩
  have HS : Hid (∀ U : World, Below W.heap.size W U → IsDoubts U da dl dc doubts ∧ IsTxns U oa ol oc over) := fun U hU => by
    have hs := hh.below (hB.trans (hU.mono hB.size))
    exact ⟨hs.doubts, hs.over⟩
  clear hh
  by_cases h24 : ll ≤ 24
  · have h24' : (ll : Int) ≤ 24 := by omega
    have e1 : Hid (R = (itemsR none items && lkR doubts [] locks && dbR locks over [] doubts && overGo [] over)) := by show _ = _; rw [e0.out]; simp [h24]
    clear e0
    go_enter Tryd.func29, Tryd.ntmps29
    go_wp2
    rw [← hW]
    clear hW c0 c1 c2 c3
    go_loopw [3] (fun s3 wr => ∃ (k : Nat), k ≤ il ∧ s3 = .int .i64 k ∧ Hid (itemsR none items = itemsR (prevK items k) (items.drop k)) ∧ Below W.heap.size W wr) (fun s3 _ => il - (intOf s3).toNat)
    case atStart => exact ⟨0, Nat.zero_le _, rfl, by show _ = _; simp [prevK], Below.refl _ _⟩
    case round =>
    obtain ⟨k, hk, rfl, hat, hb⟩ := hrel
    obtain ⟨c0, c1, c2, c3⟩ := KA.out _ hb
    have hwr := hB.trans (hb.mono hB.size)
    by_cases hlt : k < il
    · have hlt' : (k : Int) < (il : Int) := by omega
      obtain ⟨b, off, rfl, zb, hc⟩ := imem (by omega)
      have hkl : k < items.length := by have := HI.out; omega
      have hcells := hc k hlt
      have hpc : ∀ j, j + 1 = k → w.cell? ⟨b, off + j * 3, none⟩ = some (.int .i64 (items.getD j default).key) := fun j hj => by have := hc j (by omega) 0 (by decide); simpa [ItV.cells] using this
      have hn : Hid (itemsR none items = (inR (items.getD k default).key 0 7 && inR (items.getD k default).value 0 1073741824 && inR (items.getD k default).version 1 1048576 && (match prevK items k with | none => true | some q => !(decide ((items.getD k default).key ≤ q))) && itemsR (prevK items (k + 1)) (items.drop (k + 1)))) := itemsR_at hkl hat.out
      clear hat hc imem lmem dmem omem
      obtain ⟨x, ex⟩ : ∃ x, x = items.getD k default := ⟨_, rfl⟩
      rw [← ex] at hcells hn
      clear ex
      obtain ⟨key, value, version⟩ := x
      have a0 := hcells 0 (by decide)
      have a1 := hcells 1 (by decide)
      have a2 := hcells 2 (by decide)
      simp [ItV.cells] at a0 a1 a2
      rw [← hwr.cell (p := ⟨b, off + k * 3, none⟩) zb] at a0
      rw [← hwr.cell (p := ⟨b, off + k * 3 + 1, none⟩) zb] at a1
      rw [← hwr.cell (p := ⟨b, off + k * 3 + 2, none⟩) zb] at a2
      clear hcells
      obtain ⟨V, hV⟩ : ∃ V : World, V = wr.alloc (.cells #[.int .i64 key, .int .i64 value, .int .i64 version] 109) := ⟨_, rfl⟩
      have bV : Below W.heap.size W V := by rw [hV]; exact hb.alloc hb.size _
      have zV : wr.heap.size < V.heap.size := by rw [hV]; simp
      have p0 : V.cell? ⟨wr.heap.size, 0, none⟩ = some (.int .i64 key) := by rw [hV]; go_simp
      have p1 : V.cell? ⟨wr.heap.size, 1, none⟩ = some (.int .i64 value) := by rw [hV]; go_simp
      have p2 : V.cell? ⟨wr.heap.size, 2, none⟩ = some (.int .i64 version) := by rw [hV]; go_simp
      have hwV := hB.trans (bV.mono hB.size)

      simp only at hn
      obtain ⟨A, eA⟩ : ∃ A, A = inR key 0 7 := ⟨_, rfl⟩
      obtain ⟨B, eB⟩ : ∃ A, A = inR value 0 1073741824 := ⟨_, rfl⟩
      obtain ⟨C, eC⟩ : ∃ A, A = inR version 1 1048576 := ⟨_, rfl⟩
      rw [← eA, ← eB, ← eC] at hn
      replace eA := eA.symm
      replace eB := eB.symm
      replace eC := eC.symm
      go_upto_region 7 with (fail)
      rw [← hV]
      clear hV a0 a1 a2 c0 c1 c2 c3
      obtain ⟨c0, c1, c2, c3⟩ := KA.out _ bV
      have r0 := fun d os => cell_regrown c0 d os
      have r4 := fun d os => cell_regrown p0 d os
      have r5 := fun d os => cell_regrown p1 d os
      have r6 := fun d os => cell_regrown p2 d os
      cases A with
      | false =>
        refine wp_region_quiet_below (by kernel_rfl) (by kernel_rfl) ?_
        repeat (go_big_quiet_step ((exact Calls.regrown_of (in_eq (by assumption) _))))
        refine wpQuiet_nil ?_
        intro _ hw'
        obtain ⟨⟨dq, osq⟩, hw''⟩ := hw'
        subst hw''
        go_wp2
        go_ret
        exact ⟨by rw [e1.out, hn.out]; simp, hwV.trans ((below_regrown V dq osq).mono hwV.size)⟩
      | true =>
        cases B with
        | false =>
          refine wp_region_quiet_below (by kernel_rfl) (by kernel_rfl) ?_
          repeat (go_big_quiet_step ((exact Calls.regrown_of (in_eq (by assumption) _))))
          refine wpQuiet_nil ?_
          intro _ hw'
          obtain ⟨⟨dq, osq⟩, hw''⟩ := hw'
          subst hw''
          go_wp2
          go_ret
          exact ⟨by rw [e1.out, hn.out]; simp, hwV.trans ((below_regrown V dq osq).mono hwV.size)⟩
        | true =>
          cases C with
          | false =>
            refine wp_region_quiet_below (by kernel_rfl) (by kernel_rfl) ?_
            repeat (go_big_quiet_step ((exact Calls.regrown_of (in_eq (by assumption) _))))
            refine wpQuiet_nil ?_
            intro _ hw'
            obtain ⟨⟨dq, osq⟩, hw''⟩ := hw'
            subst hw''
            go_wp2
            go_ret
            exact ⟨by rw [e1.out, hn.out]; simp, hwV.trans ((below_regrown V dq osq).mono hwV.size)⟩
          | true =>
            cases k with
            | zero =>
              refine wp_region_quiet_below (by kernel_rfl) (by kernel_rfl) ?_
              repeat (go_big_quiet_step ((exact Calls.regrown_of (in_eq (by assumption) _))))
              refine wpQuiet_nil ?_
              intro _ hw'
              obtain ⟨⟨dq, osq⟩, hw''⟩ := hw'
              subst hw''
              go_wp2
              go_roundw
              case rel => exact ⟨1, by omega, by go_num, by show _ = _; rw [hn.out]; simp [prevK], bV.trans ((below_regrown V dq osq).mono bV.size)⟩
              case measure => simp [intOf]; omega
            | succ j =>
              have hp := hpc j rfl
              rw [← hwV.cell (p := ⟨b, off + j * 3, none⟩) zb] at hp
              obtain ⟨q, eq⟩ : ∃ q, q = (items.getD j default).key := ⟨_, rfl⟩
              simp only [prevK] at hn
              rw [← eq] at hn hp
              clear hpc eq
              have r7 := fun d os => cell_regrown hp d os
              have hj0 : decide ((0 : Int) < (j : Int) + 1) = true := by simp
              have hj1 : (0 : Int) < (j : Int) + 1 := by omega
              have hjm : ((j + 1 : Nat) : Int) - 1 = (j : Int) := by omega
              have hjl : (j : Int) < (il : Int) := by omega
              by_cases hle : key ≤ q
              · have hd : decide (key ≤ q) = true := by simp [hle]
                refine wp_region_quiet_below (by kernel_rfl) (by kernel_rfl) ?_
                repeat (go_big_quiet_step ((exact Calls.regrown_of (in_eq (by assumption) _))))
                refine wpQuiet_nil ?_
                intro _ hw'
                obtain ⟨⟨dq, osq⟩, hw''⟩ := hw'
                subst hw''
                go_wp2
                go_ret
                exact ⟨by rw [e1.out, hn.out, hd]; simp, hwV.trans ((below_regrown V dq osq).mono hwV.size)⟩
              · have hd : decide (key ≤ q) = false := by simp [hle]
                refine wp_region_quiet_below (by kernel_rfl) (by kernel_rfl) ?_
                repeat (go_big_quiet_step ((exact Calls.regrown_of (in_eq (by assumption) _))))
                refine wpQuiet_nil ?_
                intro _ hw'
                obtain ⟨⟨dq, osq⟩, hw''⟩ := hw'
                subst hw''
                go_wp2
                go_roundw
                case rel => exact ⟨j + 1 + 1, by omega, by go_num, by show _ = _; rw [hn.out, hd]; simp [prevK], bV.trans ((below_regrown V dq osq).mono bV.size)⟩
                case measure => simp [intOf]; omega
    · have hfin : Hid (itemsR none items = true) := by
        show _ = _
        rw [hat.out, List.drop_eq_nil_of_le (by have := HI.out; omega)]
        rfl
      have e2 : Hid (R = (lkR doubts [] locks && dbR locks over [] doubts && overGo [] over)) := by show _ = _; rw [e1.out, hfin.out]; simp
      clear e1 hfin hat imem
      go_wp2
      go_loopw [5] (fun s5 wr => ∃ (k : Nat), k ≤ ll ∧ s5 = .int .i64 k ∧ Hid (lkR doubts [] locks = lkR doubts (locks.take k) (locks.drop k)) ∧ Below W.heap.size W wr) (fun s5 _ => ll - (intOf s5).toNat)
      case atStart => exact ⟨0, Nat.zero_le _, rfl, by show _ = _; simp, hb⟩
      case round =>
        clear c0 c1 c2 c3 hb hwr
        obtain ⟨k, hk, rfl, hat, hb⟩ := hrel
        obtain ⟨X, eX⟩ : ∃ X, X = wr := ⟨_, rfl⟩
        rw [← eX] at hb ⊢
        clear eX
        obtain ⟨c0, c1, c2, c3⟩ := KA.out _ hb
        have hwr := hB.trans (hb.mono hB.size)
        by_cases hlt : k < ll
        · have hlt' : (k : Int) < (ll : Int) := by omega
          obtain ⟨b, off, rfl, zb, hc⟩ := lmem (by omega)
          have hkl : k < locks.length := by have := HL.out; omega
          have hcells := hc k hlt
          have hn : Hid (lkR doubts [] locks = ((doubts.any (dbT (locks.getD k default).t) && lkRest (locks.getD k default)) && !((locks.take k).any (against (locks.getD k default))) && lkR doubts (locks.take (k + 1)) (locks.drop (k + 1)))) := lkR_at hkl hat.out
          have hCell : Hid (∀ i, i < ll → ∀ j, j < 6 → w.cell? ⟨b, off + i * 6 + j, none⟩ = (locks.getD i default).cells[j]?) := hc
          clear hat hc lmem dmem omem
          obtain ⟨x, ex⟩ : ∃ x, x = locks.getD k default := ⟨_, rfl⟩
          rw [← ex] at hcells hn
          clear ex
          have hDx := fun w' h1 => hDo x.t w' h1
          have hIx := idxI_any (dbT x.t) doubts
          have hag : Hid (∀ y, against x y = (decide (y.key = x.key) && (decide (y.t = x.t) || y.write || x.write))) := fun y => rfl
          obtain ⟨⟨site, num⟩, key, write, value, ask⟩ := x
          have hlr : lkRest ⟨(site, num), key, write, value, ask⟩ = (inR key 0 7 && inR value 0 1073741824 && inR ask 0 1048576 && (write || (decide (value = 0) && decide (ask = 0)))) := rfl
          rw [hlr] at hn
          clear hlr hDo hOv
          have a0 := hcells 0 (by decide)
          have a1 := hcells 1 (by decide)
          have a2 := hcells 2 (by decide)
          have a3 := hcells 3 (by decide)
          have a4 := hcells 4 (by decide)
          have a5 := hcells 5 (by decide)
          simp [LkV.cells] at a0 a1 a2 a3 a4 a5
          rw [← hwr.cell (p := ⟨b, off + k * 6, none⟩) zb] at a0
          rw [← hwr.cell (p := ⟨b, off + k * 6 + 1, none⟩) zb] at a1
          rw [← hwr.cell (p := ⟨b, off + k * 6 + 2, none⟩) zb] at a2
          rw [← hwr.cell (p := ⟨b, off + k * 6 + 3, none⟩) zb] at a3
          rw [← hwr.cell (p := ⟨b, off + k * 6 + 4, none⟩) zb] at a4
          rw [← hwr.cell (p := ⟨b, off + k * 6 + 5, none⟩) zb] at a5
          clear hcells
          obtain ⟨V, hV⟩ : ∃ V : World, V = X.alloc (.cells #[.int .i64 site, .int .i64 num, .int .i64 key, .bool write, .int .i64 value, .int .i64 ask] 111) := ⟨_, rfl⟩
          have bV : Below W.heap.size W V := by rw [hV]; exact hb.alloc hb.size _
          have zV : X.heap.size < V.heap.size := by rw [hV]; simp
          have p0 : V.cell? ⟨X.heap.size, 0, none⟩ = some (.int .i64 site) := by rw [hV]; go_simp
          have p1 : V.cell? ⟨X.heap.size, 1, none⟩ = some (.int .i64 num) := by rw [hV]; go_simp
          have p2 : V.cell? ⟨X.heap.size, 2, none⟩ = some (.int .i64 key) := by rw [hV]; go_simp
          have p3 : V.cell? ⟨X.heap.size, 3, none⟩ = some (.bool write) := by rw [hV]; go_simp
          have p4 : V.cell? ⟨X.heap.size, 4, none⟩ = some (.int .i64 value) := by rw [hV]; go_simp
          have p5 : V.cell? ⟨X.heap.size, 5, none⟩ = some (.int .i64 ask) := by rw [hV]; go_simp
          have hwV := hB.trans (bV.mono hB.size)
          simp only at hn hDx hIx
          obtain ⟨G, eG⟩ : ∃ G, G = idxI (dbT (site, num)) doubts := ⟨_, rfl⟩
          rw [← eG] at hDx hIx
          rw [← hIx] at hn
          clear eG hIx
          obtain ⟨A, eA⟩ : ∃ A, A = inR key 0 7 := ⟨_, rfl⟩
          obtain ⟨B, eB⟩ : ∃ A, A = inR value 0 1073741824 := ⟨_, rfl⟩
          obtain ⟨C, eC⟩ : ∃ A, A = inR ask 0 1048576 := ⟨_, rfl⟩
          rw [← eA, ← eB, ← eC] at hn
          replace eA := eA.symm
          replace eB := eB.symm
          replace eC := eC.symm
          have HV : Hid (∀ U : World, Below V.heap.size V U → (U.cell? ⟨w.heap.size, 0, none⟩ = some (.slice ia il ic) ∧ U.cell? ⟨w.heap.size, 1, none⟩ = some (.slice (some ⟨b, off, none⟩) ll lc) ∧ U.cell? ⟨w.heap.size, 2, none⟩ = some (.slice da dl dc) ∧ U.cell? ⟨w.heap.size, 3, none⟩ = some (.slice oa ol oc)) ∧ U.cell? ⟨X.heap.size, 0, none⟩ = some (.int .i64 site) ∧ U.cell? ⟨X.heap.size, 1, none⟩ = some (.int .i64 num) ∧ U.cell? ⟨X.heap.size, 2, none⟩ = some (.int .i64 key) ∧ U.cell? ⟨X.heap.size, 3, none⟩ = some (.bool write) ∧ U.cell? ⟨X.heap.size, 4, none⟩ = some (.int .i64 value) ∧ U.cell? ⟨X.heap.size, 5, none⟩ = some (.int .i64 ask)) := fun U hU =>
            ⟨KA.out U (bV.trans (hU.mono bV.size)), (hU.cell (p := ⟨X.heap.size, 0, none⟩) zV).trans p0, (hU.cell (p := ⟨X.heap.size, 1, none⟩) zV).trans p1, (hU.cell (p := ⟨X.heap.size, 2, none⟩) zV).trans p2, (hU.cell (p := ⟨X.heap.size, 3, none⟩) zV).trans p3, (hU.cell (p := ⟨X.heap.size, 4, none⟩) zV).trans p4, (hU.cell (p := ⟨X.heap.size, 5, none⟩) zV).trans p5⟩
          have hDV := (HS.out _ bV).1
          go_upto_region 13 with (fail)
          rw [← hV]
          clear hV a0 a1 a2 a3 a4 a5 c0 c1 c2 c3
          obtain ⟨c0, c1, c2, c3⟩ := KA.out _ bV
          obtain ⟨F, eF⟩ : ∃ F, F = (decide (0 ≤ G) && (A && B && C && (write || (decide (value = 0) && decide (ask = 0))))) := ⟨_, rfl⟩
          rw [← eF] at hn
          have HF : Hid (F = (decide (0 ≤ G) && (A && B && C && (write || (decide (value = 0) && decide (ask = 0)))))) := eF
          clear eF
          go_cut [112] (fun s112 wc => s112 = .bool (!F) ∧ Below V.heap.size V wc)
          case first =>
            clear hn
            by_cases hG : 0 ≤ G
            · have hG' : ¬ G < 0 := by omega
              cases A with
              | false =>
                go_wp2_with (first | (go_at_call 54; refine (hDx _ hDV).mono ?_; rintro e u ⟨rfl, hu⟩; clear c0 c1 c2 c3 p0 p1 p2 p3 p4 p5; obtain ⟨⟨c0, c1, c2, c3⟩, p0, p1, p2, p3, p4, p5⟩ := HV.out _ hu) | (go_at_call 53; refine (in_any _ _ _ _).mono ?_; rintro e v ⟨rfl, hv⟩; rw [hv]; clear hv; first | rw [eA] | rw [eB] | rw [eC]))
                go_meet
                case rel => exact ⟨by rw [HF.out]; simp [*], hu⟩
              | true =>
                cases B with
                | false =>
                  go_wp2_with (first | (go_at_call 54; refine (hDx _ hDV).mono ?_; rintro e u ⟨rfl, hu⟩; clear c0 c1 c2 c3 p0 p1 p2 p3 p4 p5; obtain ⟨⟨c0, c1, c2, c3⟩, p0, p1, p2, p3, p4, p5⟩ := HV.out _ hu) | (go_at_call 53; refine (in_any _ _ _ _).mono ?_; rintro e v ⟨rfl, hv⟩; rw [hv]; clear hv; first | rw [eA] | rw [eB] | rw [eC]))
                  go_meet
                  case rel => exact ⟨by rw [HF.out]; simp [*], hu⟩
                | true =>
                  cases C with
                  | false =>
                    go_wp2_with (first | (go_at_call 54; refine (hDx _ hDV).mono ?_; rintro e u ⟨rfl, hu⟩; clear c0 c1 c2 c3 p0 p1 p2 p3 p4 p5; obtain ⟨⟨c0, c1, c2, c3⟩, p0, p1, p2, p3, p4, p5⟩ := HV.out _ hu) | (go_at_call 53; refine (in_any _ _ _ _).mono ?_; rintro e v ⟨rfl, hv⟩; rw [hv]; clear hv; first | rw [eA] | rw [eB] | rw [eC]))
                    go_meet
                    case rel => exact ⟨by rw [HF.out]; simp [*], hu⟩
                  | true =>
                    cases write with
                    | true =>
                      go_wp2_with (first | (go_at_call 54; refine (hDx _ hDV).mono ?_; rintro e u ⟨rfl, hu⟩; clear c0 c1 c2 c3 p0 p1 p2 p3 p4 p5; obtain ⟨⟨c0, c1, c2, c3⟩, p0, p1, p2, p3, p4, p5⟩ := HV.out _ hu) | (go_at_call 53; refine (in_any _ _ _ _).mono ?_; rintro e v ⟨rfl, hv⟩; rw [hv]; clear hv; first | rw [eA] | rw [eB] | rw [eC]))
                      go_meet
                      case rel => exact ⟨by rw [HF.out]; simp [*], hu⟩
                    | false =>
                      by_cases hv0 : value = 0
                      · subst hv0
                        by_cases ha0 : ask = 0
                        · subst ha0
                          go_wp2_with (first | (go_at_call 54; refine (hDx _ hDV).mono ?_; rintro e u ⟨rfl, hu⟩; clear c0 c1 c2 c3 p0 p1 p2 p3 p4 p5; obtain ⟨⟨c0, c1, c2, c3⟩, p0, p1, p2, p3, p4, p5⟩ := HV.out _ hu) | (go_at_call 53; refine (in_any _ _ _ _).mono ?_; rintro e v ⟨rfl, hv⟩; rw [hv]; clear hv; first | rw [eA] | rw [eB] | rw [eC]))
                          go_meet
                          case rel => exact ⟨by rw [HF.out]; simp [*], hu⟩
                        · skip
                          go_wp2_with (first | (go_at_call 54; refine (hDx _ hDV).mono ?_; rintro e u ⟨rfl, hu⟩; clear c0 c1 c2 c3 p0 p1 p2 p3 p4 p5; obtain ⟨⟨c0, c1, c2, c3⟩, p0, p1, p2, p3, p4, p5⟩ := HV.out _ hu) | (go_at_call 53; refine (in_any _ _ _ _).mono ?_; rintro e v ⟨rfl, hv⟩; rw [hv]; clear hv; first | rw [eA] | rw [eB] | rw [eC]))
                          go_meet
                          case rel => exact ⟨by rw [HF.out]; simp [*], hu⟩
                      · skip
                        go_wp2_with (first | (go_at_call 54; refine (hDx _ hDV).mono ?_; rintro e u ⟨rfl, hu⟩; clear c0 c1 c2 c3 p0 p1 p2 p3 p4 p5; obtain ⟨⟨c0, c1, c2, c3⟩, p0, p1, p2, p3, p4, p5⟩ := HV.out _ hu) | (go_at_call 53; refine (in_any _ _ _ _).mono ?_; rintro e v ⟨rfl, hv⟩; rw [hv]; clear hv; first | rw [eA] | rw [eB] | rw [eC]))
                        go_meet
                        case rel => exact ⟨by rw [HF.out]; simp [*], hu⟩
            · have hG' : G < 0 := by omega
              go_wp2_with (first | (go_at_call 54; refine (hDx _ hDV).mono ?_; rintro e u ⟨rfl, hu⟩; clear c0 c1 c2 c3 p0 p1 p2 p3 p4 p5; obtain ⟨⟨c0, c1, c2, c3⟩, p0, p1, p2, p3, p4, p5⟩ := HV.out _ hu) | (go_at_call 53; refine (in_any _ _ _ _).mono ?_; rintro e v ⟨rfl, hv⟩; rw [hv]; clear hv; first | rw [eA] | rw [eB] | rw [eC]))
              go_meet
              case rel => exact ⟨by rw [HF.out]; simp [*], hu⟩
          case rest =>
            obtain ⟨rfl, hu⟩ := hcut
            clear c0 c1 c2 c3 p0 p1 p2 p3 p4 p5 eA eB eC HF
            obtain ⟨⟨c0, c1, c2, c3⟩, p0, p1, p2, p3, p4, p5⟩ := HV.out _ hu
            have hwu := hwV.trans (hu.mono hwV.size)
            cases F with
            | false =>
              go_wp2
              go_ret
              exact ⟨by rw [e2.out, hn.out]; simp, hwu⟩
            | true =>
              go_wp2
              go_loopw [7] (fun s7 wr => ∃ (j : Nat), j ≤ k ∧ s7 = .int .i64 j ∧ (∀ i, i < j → against ⟨(site, num), key, write, value, ask⟩ (locks.getD i default) = false) ∧ Below V.heap.size V wr) (fun s7 _ => k - (intOf s7).toNat)
              case atStart => exact ⟨0, Nat.zero_le _, rfl, fun i hi => absurd hi (by omega), hu⟩
              case round =>
                obtain ⟨j, hj, rfl, hnot, hb3⟩ := hrel
                clear c0 c1 c2 c3 p0 p1 p2 p3 p4 p5
                obtain ⟨Y, eY⟩ : ∃ Y, Y = wr := ⟨_, rfl⟩
                rw [← eY] at hb3 ⊢
                clear eY
                obtain ⟨⟨c0, c1, c2, c3⟩, p0, p1, p2, p3, p4, p5⟩ := HV.out _ hb3
                have hwY := hwV.trans (hb3.mono hwV.size)
                have hWY := bV.trans (hb3.mono bV.size)
                by_cases hjk : j < k
                · have hjk' : (j : Int) < (k : Int) := by omega
                  have hjl' : (j : Int) < (ll : Int) := by omega
                  have hcells := hCell.out j (by omega)
                  have hhit := any_take_some (p := against ⟨(site, num), key, write, value, ask⟩) (xs := locks) (k := k) (i := j) (by omega) hjk
                  have hnot' : against ⟨(site, num), key, write, value, ask⟩ (locks.getD j default) = false → ∀ i, i < j + 1 → against ⟨(site, num), key, write, value, ask⟩ (locks.getD i default) = false := fun hf i hi => by
                    by_cases e : i = j
                    · rw [e]; exact hf
                    · exact hnot i (by omega)
                  obtain ⟨y, ey⟩ : ∃ y, y = locks.getD j default := ⟨_, rfl⟩
                  rw [← ey] at hcells hhit hnot'
                  clear ey
                  obtain ⟨AG, eAG⟩ : ∃ AG, AG = against ⟨(site, num), key, write, value, ask⟩ y := ⟨_, rfl⟩
                  rw [← eAG] at hhit hnot'
                  have hAy : Hid (AG = (decide (y.key = key) && (decide (y.t = (site, num)) || y.write || write))) := eAG
                  clear eAG
                  obtain ⟨⟨site2, num2⟩, key2, write2, value2, ask2⟩ := y
                  have a0 := hcells 0 (by decide)
                  have a1 := hcells 1 (by decide)
                  have a2 := hcells 2 (by decide)
                  have a3 := hcells 3 (by decide)
                  have a4 := hcells 4 (by decide)
                  have a5 := hcells 5 (by decide)
                  simp [LkV.cells] at a0 a1 a2 a3 a4 a5
                  rw [← hwY.cell (p := ⟨b, off + j * 6, none⟩) zb] at a0
                  rw [← hwY.cell (p := ⟨b, off + j * 6 + 1, none⟩) zb] at a1
                  rw [← hwY.cell (p := ⟨b, off + j * 6 + 2, none⟩) zb] at a2
                  rw [← hwY.cell (p := ⟨b, off + j * 6 + 3, none⟩) zb] at a3
                  rw [← hwY.cell (p := ⟨b, off + j * 6 + 4, none⟩) zb] at a4
                  rw [← hwY.cell (p := ⟨b, off + j * 6 + 5, none⟩) zb] at a5
                  clear hcells
                  have hAl : Below V.heap.size V (Y.alloc (.cells #[.int .i64 site2, .int .i64 num2, .int .i64 key2, .bool write2, .int .i64 value2, .int .i64 ask2] 111)) := hb3.alloc hb3.size _
                  obtain ⟨Z, hZ⟩ : ∃ Z : World, Z = Y.alloc (.cells #[.int .i64 site2, .int .i64 num2, .int .i64 key2, .bool write2, .int .i64 value2, .int .i64 ask2] 111) := ⟨_, rfl⟩
                  have q0 : Z.cell? ⟨Y.heap.size, 0, none⟩ = some (.int .i64 site2) := by rw [hZ]; go_simp
                  have q1 : Z.cell? ⟨Y.heap.size, 1, none⟩ = some (.int .i64 num2) := by rw [hZ]; go_simp
                  have q2 : Z.cell? ⟨Y.heap.size, 2, none⟩ = some (.int .i64 key2) := by rw [hZ]; go_simp
                  have q3 : Z.cell? ⟨Y.heap.size, 3, none⟩ = some (.bool write2) := by rw [hZ]; go_simp
                  rw [← hZ] at hAl
                  go_upto_region 19 with (fail)
                  rw [← hZ]
                  clear hZ c0 c1 c2 c3 p0 p1 p2 p3 p4 p5 a0 a1 a2 a3 a4 a5
                  obtain ⟨⟨c0, c1, c2, c3⟩, p0, p1, p2, p3, p4, p5⟩ := HV.out _ hAl
                  have hwZ := hwV.trans (hAl.mono hwV.size)
                  go_cut [142] (fun s142 wc => s142 = .bool AG ∧ wc = Z)
                  case first =>
                    clear hhit hnot' hnot hn
                    go_wp2
                    all_goals go_meet
                    all_goals (refine ⟨?_, rfl⟩; rw [hAy.out]; first | (simp_all; done) | (simp_all; rfl) | (simp_all; omega))
                  case rest =>
                    obtain ⟨rfl, rfl⟩ := hcut
                    cases AG with
                    | true =>
                      have hh := hhit rfl
                      go_wp2
                      go_ret
                      exact ⟨by rw [e2.out, hn.out, hh]; simp, hwZ⟩
                    | false =>
                      have hh := hnot' rfl
                      clear hhit hnot'
                      go_wp2
                      go_roundw
                      case rel => exact ⟨j + 1, by omega, by go_num, hh, hAl⟩
                      case measure => simp [intOf]; omega
                · have hjk2 : j = k := by omega
                  subst hjk2
                  have hany := any_take_none (p := against ⟨(site, num), key, write, value, ask⟩) (xs := locks) (k := j) (by omega) hnot
                  go_wp2
                  go_roundw
                  case rel => exact ⟨j + 1, by omega, by go_num, by show _ = _; rw [hn.out, hany]; simp, hWY⟩
                  case measure => simp [intOf]; omega
        · have hfin : Hid (lkR doubts [] locks = true) := by
            show _ = _
            rw [hat.out, List.drop_eq_nil_of_le (by have := HL.out; omega)]
            rfl
          have e3 : Hid (R = (dbR locks over [] doubts && overGo [] over)) := by show _ = _; rw [e2.out, hfin.out]; simp
          clear e2 hfin hat
          go_wp2
          go_loopw [9] (fun s9 wr => ∃ (k : Nat), k ≤ dl ∧ s9 = .int .i64 k ∧ Hid (dbR locks over [] doubts = dbR locks over (doubts.take k) (doubts.drop k)) ∧ Below W.heap.size W wr) (fun s9 _ => dl - (intOf s9).toNat)
          case atStart => exact ⟨0, Nat.zero_le _, rfl, by show _ = _; simp, hb⟩
          case round =>
            clear c0 c1 c2 c3 hb hwr
            obtain ⟨k, hk, rfl, hat, hb⟩ := hrel
            obtain ⟨X2, eX⟩ : ∃ X, X = wr := ⟨_, rfl⟩
            rw [← eX] at hb ⊢
            clear eX
            obtain ⟨c0, c1, c2, c3⟩ := KA.out _ hb
            have hwr := hB.trans (hb.mono hB.size)
            by_cases hlt : k < dl
            · have hlt' : (k : Int) < (dl : Int) := by omega
              obtain ⟨b, off, rfl, zb, hc⟩ := dmem (by omega)
              have hkl : k < doubts.length := by have := HD.out; omega
              have hcells := hc k hlt
              have hn : Hid (dbR locks over [] doubts = (txOK (doubts.getD k default).t && inR (doubts.getD k default).age 0 1048576 && locks.any (ofT (doubts.getD k default).t) && !((doubts.take k).any (dbT (doubts.getD k default).t)) && !(decide ((doubts.getD k default).t ∈ over)) && dbR locks over (doubts.take (k + 1)) (doubts.drop (k + 1)))) := dbR_at hkl hat.out
              have hfi := first_is hkl
              clear hat hc dmem omem
              obtain ⟨x, ex⟩ : ∃ x, x = doubts.getD k default := ⟨_, rfl⟩
              rw [← ex] at hcells hn hfi
              clear ex
              rw [← hfi] at hn
              clear hfi
              have hDx := fun w' h1 => hDo x.t w' h1
              have hOx := fun w' h1 => hOv x.t w' h1
              have hTx := fun w' => plainTxn_any x.t w'
              obtain ⟨⟨site, num⟩, age⟩ := x
              clear hDo hOv
              have a0 := hcells 0 (by decide)
              have a1 := hcells 1 (by decide)
              have a2 := hcells 2 (by decide)
              simp [DbV.cells] at a0 a1 a2
              rw [← hwr.cell (p := ⟨b, off + k * 3, none⟩) zb] at a0
              rw [← hwr.cell (p := ⟨b, off + k * 3 + 1, none⟩) zb] at a1
              rw [← hwr.cell (p := ⟨b, off + k * 3 + 2, none⟩) zb] at a2
              clear hcells
              obtain ⟨V, hV⟩ : ∃ V : World, V = X2.alloc (.cells #[.int .i64 site, .int .i64 num, .int .i64 age] 60) := ⟨_, rfl⟩
              have bV : Below W.heap.size W V := by rw [hV]; exact hb.alloc hb.size _
              have zV : X2.heap.size < V.heap.size := by rw [hV]; simp
              have p0 : V.cell? ⟨X2.heap.size, 0, none⟩ = some (.int .i64 site) := by rw [hV]; go_simp
              have p1 : V.cell? ⟨X2.heap.size, 1, none⟩ = some (.int .i64 num) := by rw [hV]; go_simp
              have p2 : V.cell? ⟨X2.heap.size, 2, none⟩ = some (.int .i64 age) := by rw [hV]; go_simp
              have hwV := hB.trans (bV.mono hB.size)
              simp only at hn hDx hOx hTx
              obtain ⟨G, eG⟩ : ∃ G, G = idxI (dbT (site, num)) doubts := ⟨_, rfl⟩
              obtain ⟨O, eO⟩ : ∃ G, G = decide ((site, num) ∈ over) := ⟨_, rfl⟩
              obtain ⟨T, eT⟩ : ∃ G, G = txOK (site, num) := ⟨_, rfl⟩
              rw [← eG] at hDx hn
              rw [← eO] at hOx hn
              rw [← eT] at hTx hn
              clear eG eO eT
              obtain ⟨A, eA⟩ : ∃ A, A = inR age 0 1048576 := ⟨_, rfl⟩
              rw [← eA] at hn
              replace eA := eA.symm
              have HV : Hid (∀ U : World, Below V.heap.size V U → (U.cell? ⟨w.heap.size, 0, none⟩ = some (.slice ia il ic) ∧ U.cell? ⟨w.heap.size, 1, none⟩ = some (.slice la ll lc) ∧ U.cell? ⟨w.heap.size, 2, none⟩ = some (.slice (some ⟨b, off, none⟩) dl dc) ∧ U.cell? ⟨w.heap.size, 3, none⟩ = some (.slice oa ol oc)) ∧ U.cell? ⟨X2.heap.size, 0, none⟩ = some (.int .i64 site) ∧ U.cell? ⟨X2.heap.size, 1, none⟩ = some (.int .i64 num) ∧ U.cell? ⟨X2.heap.size, 2, none⟩ = some (.int .i64 age)) := fun U hU =>
                ⟨KA.out U (bV.trans (hU.mono bV.size)), (hU.cell (p := ⟨X2.heap.size, 0, none⟩) zV).trans p0, (hU.cell (p := ⟨X2.heap.size, 1, none⟩) zV).trans p1, (hU.cell (p := ⟨X2.heap.size, 2, none⟩) zV).trans p2⟩
              go_upto_region 24 with (fail)
              go_wp2
              rw [← hV]
              clear hV a0 a1 a2 c0 c1 c2 c3
              obtain ⟨c0, c1, c2, c3⟩ := KA.out _ bV
              go_loopw [11, 12] (fun s11 s12 wr => ∃ (j : Nat), j ≤ ll ∧ s12 = .int .i64 j ∧ s11 = .bool ((locks.take j).any (ofT (site, num))) ∧ Below V.heap.size V wr) (fun _ s12 _ => ll - (intOf s12).toNat)
              case atStart => exact ⟨0, Nat.zero_le _, rfl, by simp, Below.refl _ _⟩
              case round =>
                obtain ⟨j, hj, rfl, rfl, hb3⟩ := hrel
                clear c0 c1 c2 c3 p0 p1 p2
                obtain ⟨Y, eY⟩ : ∃ Y, Y = wr := ⟨_, rfl⟩
                rw [← eY] at hb3 ⊢
                clear eY
                obtain ⟨⟨c0, c1, c2, c3⟩, p0, p1, p2⟩ := HV.out _ hb3
                have hwY := hwV.trans (hb3.mono hwV.size)
                have hWY := bV.trans (hb3.mono bV.size)
                by_cases hjl : j < ll
                · have hjl' : (j : Int) < (ll : Int) := by omega
                  have hjk : j < locks.length := by have := HL.out; omega
                  have hst := take_any_at (p := ofT (site, num)) hjk
                  obtain ⟨b2, off2, rfl, zb2, hc2⟩ := lmem (by omega)
                  have hcells := hc2 j hjl
                  obtain ⟨y, ey⟩ : ∃ y, y = locks.getD j default := ⟨_, rfl⟩
                  rw [← ey] at hcells hst
                  clear ey hc2
                  obtain ⟨H, eH⟩ : ∃ H, H = (locks.take j).any (ofT (site, num)) := ⟨_, rfl⟩
                  rw [← eH] at hst ⊢
                  have Hst : Hid ((locks.take (j + 1)).any (ofT (site, num)) = (H || ofT (site, num) y)) := hst
                  clear eH hst
                  obtain ⟨⟨site2, num2⟩, key2, write2, value2, ask2⟩ := y
                  have a0 := hcells 0 (by decide)
                  have a1 := hcells 1 (by decide)
                  simp [LkV.cells] at a0 a1
                  rw [← hwY.cell (p := ⟨b2, off2 + j * 6, none⟩) zb2] at a0
                  rw [← hwY.cell (p := ⟨b2, off2 + j * 6 + 1, none⟩) zb2] at a1
                  clear hcells hn
                  cases H with
                  | true =>
                    go_wp2
                    go_quiet (fail)
                    go_wp2
                    go_roundw
                    case rel => exact ⟨j + 1, by omega, by go_num, by rw [Hst.out]; rfl, below_drewN hb3 nq⟩
                    case measure => simp [intOf]; omega
                  | false =>
                    by_cases e1 : site2 = site
                    · by_cases e2 : num2 = num
                      · subst e1 e2
                        go_wp2
                        go_quiet (fail)
                        go_wp2
                        go_roundw
                        case rel => exact ⟨j + 1, by omega, by go_num, by rw [Hst.out]; simp [ofT], below_drewN hb3 nq⟩
                        case measure => simp [intOf]; omega
                      · have e4 : (num2 == num) = false := by simpa using e2
                        subst e1
                        go_wp2
                        go_quiet (fail)
                        go_wp2
                        go_roundw
                        case rel => exact ⟨j + 1, by omega, by go_num, by rw [Hst.out]; simp [ofT, e2], below_drewN hb3 nq⟩
                        case measure => simp [intOf]; omega
                    · have e4 : (site2 == site) = false := by simpa using e1
                      go_wp2
                      go_quiet (fail)
                      go_wp2
                      go_roundw
                      case rel => exact ⟨j + 1, by omega, by go_num, by rw [Hst.out]; simp [ofT, e1], below_drewN hb3 nq⟩
                      case measure => simp [intOf]; omega
                · have hje : j = ll := by omega
                  have etk : locks.take j = locks := List.take_of_length_le (by have := HL.out; omega)
                  rw [etk]
                  clear etk hje
                  obtain ⟨H, eH⟩ : ∃ H, H = locks.any (ofT (site, num)) := ⟨_, rfl⟩
                  rw [← eH] at hn ⊢
                  clear eH
                  have hY1 := (HS.out _ hWY).1
                  obtain ⟨F, eF⟩ : ∃ F, F = (T && A && H && decide (G = (k : Int)) && !O) := ⟨_, rfl⟩
                  rw [← eF] at hn
                  have HF : Hid (F = (T && A && H && decide (G = (k : Int)) && !O)) := eF
                  clear eF
                  have hvY : Below V.heap.size V Y := hb3
                  go_upto_region 30 with (fail)
                  go_cut [201] (fun s201 wc => s201 = .bool (!F) ∧ Below V.heap.size V wc)
                  case first =>
                    clear hn hb3
                    cases T with
                    | false =>
                        go_wp2_with (first | (go_at_call 30; refine (hTx _).mono ?_; rintro e u ⟨rfl, hu⟩; replace hvY := hvY.trans (hu.mono hvY.size); clear hu c0 c1 c2 c3 p0 p1 p2; obtain ⟨⟨c0, c1, c2, c3⟩, p0, p1, p2⟩ := HV.out _ hvY) | (go_at_call 53; refine (in_any _ _ _ _).mono ?_; rintro e v ⟨rfl, hv⟩; rw [hv, eA]; clear hv) | (go_at_call 54; refine (hDx _ (HS.out _ (bV.trans (hvY.mono bV.size))).1).mono ?_; rintro e u ⟨rfl, hu⟩; replace hvY := hvY.trans (hu.mono hvY.size); clear hu c0 c1 c2 c3 p0 p1 p2; obtain ⟨⟨c0, c1, c2, c3⟩, p0, p1, p2⟩ := HV.out _ hvY) | (go_at_call 55; refine (hOx _ (HS.out _ (bV.trans (hvY.mono bV.size))).2).mono ?_; rintro e u ⟨rfl, hu⟩; replace hvY := hvY.trans (hu.mono hvY.size); clear hu c0 c1 c2 c3 p0 p1 p2; obtain ⟨⟨c0, c1, c2, c3⟩, p0, p1, p2⟩ := HV.out _ hvY))
                        go_meet
                        case rel => exact ⟨by rw [HF.out]; simp [*], hvY⟩
                      | true =>
                        cases A with
                        | false =>
                          go_wp2_with (first | (go_at_call 30; refine (hTx _).mono ?_; rintro e u ⟨rfl, hu⟩; replace hvY := hvY.trans (hu.mono hvY.size); clear hu c0 c1 c2 c3 p0 p1 p2; obtain ⟨⟨c0, c1, c2, c3⟩, p0, p1, p2⟩ := HV.out _ hvY) | (go_at_call 53; refine (in_any _ _ _ _).mono ?_; rintro e v ⟨rfl, hv⟩; rw [hv, eA]; clear hv) | (go_at_call 54; refine (hDx _ (HS.out _ (bV.trans (hvY.mono bV.size))).1).mono ?_; rintro e u ⟨rfl, hu⟩; replace hvY := hvY.trans (hu.mono hvY.size); clear hu c0 c1 c2 c3 p0 p1 p2; obtain ⟨⟨c0, c1, c2, c3⟩, p0, p1, p2⟩ := HV.out _ hvY) | (go_at_call 55; refine (hOx _ (HS.out _ (bV.trans (hvY.mono bV.size))).2).mono ?_; rintro e u ⟨rfl, hu⟩; replace hvY := hvY.trans (hu.mono hvY.size); clear hu c0 c1 c2 c3 p0 p1 p2; obtain ⟨⟨c0, c1, c2, c3⟩, p0, p1, p2⟩ := HV.out _ hvY))
                          go_meet
                          case rel => exact ⟨by rw [HF.out]; simp [*], hvY⟩
                        | true =>
                          cases H with
                          | false =>
                            go_wp2_with (first | (go_at_call 30; refine (hTx _).mono ?_; rintro e u ⟨rfl, hu⟩; replace hvY := hvY.trans (hu.mono hvY.size); clear hu c0 c1 c2 c3 p0 p1 p2; obtain ⟨⟨c0, c1, c2, c3⟩, p0, p1, p2⟩ := HV.out _ hvY) | (go_at_call 53; refine (in_any _ _ _ _).mono ?_; rintro e v ⟨rfl, hv⟩; rw [hv, eA]; clear hv) | (go_at_call 54; refine (hDx _ (HS.out _ (bV.trans (hvY.mono bV.size))).1).mono ?_; rintro e u ⟨rfl, hu⟩; replace hvY := hvY.trans (hu.mono hvY.size); clear hu c0 c1 c2 c3 p0 p1 p2; obtain ⟨⟨c0, c1, c2, c3⟩, p0, p1, p2⟩ := HV.out _ hvY) | (go_at_call 55; refine (hOx _ (HS.out _ (bV.trans (hvY.mono bV.size))).2).mono ?_; rintro e u ⟨rfl, hu⟩; replace hvY := hvY.trans (hu.mono hvY.size); clear hu c0 c1 c2 c3 p0 p1 p2; obtain ⟨⟨c0, c1, c2, c3⟩, p0, p1, p2⟩ := HV.out _ hvY))
                            go_meet
                            case rel => exact ⟨by rw [HF.out]; simp [*], hvY⟩
                          | true =>
                            by_cases hGk : G = (k : Int)
                            · subst hGk
                              cases O with
                              | false =>
                                go_wp2_with (first | (go_at_call 30; refine (hTx _).mono ?_; rintro e u ⟨rfl, hu⟩; replace hvY := hvY.trans (hu.mono hvY.size); clear hu c0 c1 c2 c3 p0 p1 p2; obtain ⟨⟨c0, c1, c2, c3⟩, p0, p1, p2⟩ := HV.out _ hvY) | (go_at_call 53; refine (in_any _ _ _ _).mono ?_; rintro e v ⟨rfl, hv⟩; rw [hv, eA]; clear hv) | (go_at_call 54; refine (hDx _ (HS.out _ (bV.trans (hvY.mono bV.size))).1).mono ?_; rintro e u ⟨rfl, hu⟩; replace hvY := hvY.trans (hu.mono hvY.size); clear hu c0 c1 c2 c3 p0 p1 p2; obtain ⟨⟨c0, c1, c2, c3⟩, p0, p1, p2⟩ := HV.out _ hvY) | (go_at_call 55; refine (hOx _ (HS.out _ (bV.trans (hvY.mono bV.size))).2).mono ?_; rintro e u ⟨rfl, hu⟩; replace hvY := hvY.trans (hu.mono hvY.size); clear hu c0 c1 c2 c3 p0 p1 p2; obtain ⟨⟨c0, c1, c2, c3⟩, p0, p1, p2⟩ := HV.out _ hvY))
                                go_meet
                                case rel => exact ⟨by rw [HF.out]; simp [*], hvY⟩
                              | true =>
                                go_wp2_with (first | (go_at_call 30; refine (hTx _).mono ?_; rintro e u ⟨rfl, hu⟩; replace hvY := hvY.trans (hu.mono hvY.size); clear hu c0 c1 c2 c3 p0 p1 p2; obtain ⟨⟨c0, c1, c2, c3⟩, p0, p1, p2⟩ := HV.out _ hvY) | (go_at_call 53; refine (in_any _ _ _ _).mono ?_; rintro e v ⟨rfl, hv⟩; rw [hv, eA]; clear hv) | (go_at_call 54; refine (hDx _ (HS.out _ (bV.trans (hvY.mono bV.size))).1).mono ?_; rintro e u ⟨rfl, hu⟩; replace hvY := hvY.trans (hu.mono hvY.size); clear hu c0 c1 c2 c3 p0 p1 p2; obtain ⟨⟨c0, c1, c2, c3⟩, p0, p1, p2⟩ := HV.out _ hvY) | (go_at_call 55; refine (hOx _ (HS.out _ (bV.trans (hvY.mono bV.size))).2).mono ?_; rintro e u ⟨rfl, hu⟩; replace hvY := hvY.trans (hu.mono hvY.size); clear hu c0 c1 c2 c3 p0 p1 p2; obtain ⟨⟨c0, c1, c2, c3⟩, p0, p1, p2⟩ := HV.out _ hvY))
                                go_meet
                                case rel => exact ⟨by rw [HF.out]; simp [*], hvY⟩
                            · skip
                              go_wp2_with (first | (go_at_call 30; refine (hTx _).mono ?_; rintro e u ⟨rfl, hu⟩; replace hvY := hvY.trans (hu.mono hvY.size); clear hu c0 c1 c2 c3 p0 p1 p2; obtain ⟨⟨c0, c1, c2, c3⟩, p0, p1, p2⟩ := HV.out _ hvY) | (go_at_call 53; refine (in_any _ _ _ _).mono ?_; rintro e v ⟨rfl, hv⟩; rw [hv, eA]; clear hv) | (go_at_call 54; refine (hDx _ (HS.out _ (bV.trans (hvY.mono bV.size))).1).mono ?_; rintro e u ⟨rfl, hu⟩; replace hvY := hvY.trans (hu.mono hvY.size); clear hu c0 c1 c2 c3 p0 p1 p2; obtain ⟨⟨c0, c1, c2, c3⟩, p0, p1, p2⟩ := HV.out _ hvY) | (go_at_call 55; refine (hOx _ (HS.out _ (bV.trans (hvY.mono bV.size))).2).mono ?_; rintro e u ⟨rfl, hu⟩; replace hvY := hvY.trans (hu.mono hvY.size); clear hu c0 c1 c2 c3 p0 p1 p2; obtain ⟨⟨c0, c1, c2, c3⟩, p0, p1, p2⟩ := HV.out _ hvY))
                              go_meet
                              case rel => exact ⟨by rw [HF.out]; simp [*], hvY⟩
                  case rest =>
                    obtain ⟨rfl, hu⟩ := hcut
                    have hwu := hwV.trans (hu.mono hwV.size)
                    have hWu := bV.trans (hu.mono bV.size)
                    cases F with
                    | false =>
                      go_wp2
                      go_ret
                      exact ⟨by rw [e3.out, hn.out]; simp, hwu⟩
                    | true =>
                      go_wp2
                      go_roundw
                      case rel => exact ⟨k + 1, by omega, by go_num, by show _ = _; rw [hn.out]; simp, hWu⟩
                      case measure => simp [intOf]; omega
            · have hfin : Hid (dbR locks over [] doubts = true) := by
                show _ = _
                rw [hat.out, List.drop_eq_nil_of_le (by have := HD.out; omega)]
                rfl
              have e4 : Hid (R = overGo [] over) := by show _ = _; rw [e3.out, hfin.out]; simp
              clear e3 hfin hat
              go_wp2
              go_loopw [13] (fun s13 wr => ∃ (k : Nat), k ≤ ol ∧ s13 = .int .i64 k ∧ Hid (overGo [] over = overGo (over.take k) (over.drop k)) ∧ Below W.heap.size W wr) (fun s13 _ => ol - (intOf s13).toNat)
              case atStart => exact ⟨0, Nat.zero_le _, rfl, by show _ = _; simp, hb⟩
              case round =>
                clear c0 c1 c2 c3 hb hwr
                obtain ⟨k, hk, rfl, hat, hb⟩ := hrel
                obtain ⟨X3, eX⟩ : ∃ X, X = wr := ⟨_, rfl⟩
                rw [← eX] at hb ⊢
                clear eX
                obtain ⟨c0, c1, c2, c3⟩ := KA.out _ hb
                have hwr := hB.trans (hb.mono hB.size)
                by_cases hlt : k < ol
                · have hlt' : (k : Int) < (ol : Int) := by omega
                  obtain ⟨b, off, rfl, zb, hc⟩ := omem (by omega)
                  have hkl : k < over.length := by have := HO.out; omega
                  have hcells := hc k hlt
                  have hCell : Hid (∀ i, i < ol → ∀ j, j < 2 → w.cell? ⟨b, off + i * 2 + j, none⟩ = (txCells (over.getD i default))[j]?) := hc
                  have hn : Hid (overGo [] over = (!(decide (over.getD k default ∈ over.take k)) && txOK (over.getD k default) && overGo (over.take (k + 1)) (over.drop (k + 1)))) := overGo_at' hkl hat.out
                  clear hat hc omem
                  obtain ⟨x, ex⟩ : ∃ x, x = over.getD k default := ⟨_, rfl⟩
                  rw [← ex] at hcells hn
                  clear ex
                  have hTx := fun w' => plainTxn_any x w'
                  obtain ⟨site, num⟩ := x
                  clear hDo hOv
                  have a0 := hcells 0 (by decide)
                  have a1 := hcells 1 (by decide)
                  simp [txCells] at a0 a1
                  clear hcells
                  simp only at hTx
                  obtain ⟨T, eT⟩ : ∃ G, G = txOK (site, num) := ⟨_, rfl⟩
                  rw [← eT] at hTx hn
                  clear eT
                  go_wp2
                  go_loopw [14] (fun s14 wr => ∃ (j : Nat), j ≤ k ∧ s14 = .int .i64 j ∧ (∀ i, i < j → over.getD i default ≠ (site, num)) ∧ Below W.heap.size W wr) (fun s14 _ => k - (intOf s14).toNat)
                  case atStart => exact ⟨0, Nat.zero_le _, rfl, fun i hi => absurd hi (by omega), hb⟩
                  case round =>
                    obtain ⟨j, hj, rfl, hnot, hb3⟩ := hrel
                    clear c0 c1 c2 c3
                    obtain ⟨Y, eY⟩ : ∃ Y, Y = wr := ⟨_, rfl⟩
                    rw [← eY] at hb3 ⊢
                    clear eY
                    obtain ⟨c0, c1, c2, c3⟩ := KA.out _ hb3
                    have hwY := hB.trans (hb3.mono hB.size)
                    have a0' := (hwY.cell (p := ⟨b, off + k * 2, none⟩) zb).trans a0
                    have a1' := (hwY.cell (p := ⟨b, off + k * 2 + 1, none⟩) zb).trans a1
                    by_cases hjk : j < k
                    · have hjk' : (j : Int) < (k : Int) := by omega
                      have hjl' : (j : Int) < (ol : Int) := by omega
                      have hjo : j < over.length := by omega
                      have hcells := hCell.out j (by omega)
                      have hmem : over.getD j default ∈ over.take k := by rw [List.mem_take_iff_getElem]; exact ⟨j, by omega, by simp [List.getD, hjo]⟩
                      have hnot' : over.getD j default ≠ (site, num) → ∀ i, i < j + 1 → over.getD i default ≠ (site, num) := fun hf i hi => by
                        by_cases e : i = j
                        · rw [e]; exact hf
                        · exact hnot i (by omega)
                      obtain ⟨y, ey⟩ : ∃ y, y = over.getD j default := ⟨_, rfl⟩
                      rw [← ey] at hcells hmem hnot'
                      clear ey
                      obtain ⟨site2, num2⟩ := y
                      have q0 := hcells 0 (by decide)
                      have q1 := hcells 1 (by decide)
                      simp [txCells] at q0 q1
                      rw [← hwY.cell (p := ⟨b, off + j * 2, none⟩) zb] at q0
                      rw [← hwY.cell (p := ⟨b, off + j * 2 + 1, none⟩) zb] at q1
                      clear hcells
                      by_cases e1 : site2 = site
                      · by_cases e2 : num2 = num
                        · subst e1 e2
                          have hd : decide ((site2, num2) ∈ over.take k) = true := by simp [hmem]
                          clear hnot'
                          go_wp2
                          go_quiet (fail)
                          go_wp2
                          go_ret
                          exact ⟨by rw [e4.out, hn.out, hd]; simp, below_drewN hwY nq⟩
                        · have hh := hnot' (by simp; intro _ e; exact e2 e)
                          have e3 : (num2 == num) = false := by simpa using e2
                          clear hnot' hmem
                          subst e1
                          go_wp2
                          go_quiet (fail)
                          go_wp2
                          go_roundw
                          case rel => exact ⟨j + 1, by omega, by go_num, hh, below_drewN hb3 nq⟩
                          case measure => simp [intOf]; omega
                      · have hh := hnot' (by simp; intro e; exact absurd e e1)
                        have e3 : (site2 == site) = false := by simpa using e1
                        clear hnot' hmem
                        go_wp2
                        go_quiet (fail)
                        go_wp2
                        go_roundw
                        case rel => exact ⟨j + 1, by omega, by go_num, hh, below_drewN hb3 nq⟩
                        case measure => simp [intOf]; omega
                    · have hjk2 : j = k := by omega
                      subst hjk2
                      have hd : decide ((site, num) ∈ over.take j) = false := by
                        simp only [decide_eq_false_iff_not]
                        intro hm
                        obtain ⟨i, hi, e⟩ := List.getElem_of_mem hm
                        have hij : i < j := by simp at hi; omega
                        have hio : i < over.length := by omega
                        have e' : over[i] = (site, num) := by simpa using e
                        exact hnot i hij (by simp [List.getD, hio, e'])
                      cases T with
                      | false =>
                        go_wp2_with (go_at_call 30; refine (hTx _).mono ?_; rintro e u ⟨rfl, hu⟩)
                        go_ret
                        exact ⟨by rw [e4.out, hn.out]; simp, hwY.trans (hu.mono hwY.size)⟩
                      | true =>
                        go_wp2_with (go_at_call 30; refine (hTx _).mono ?_; rintro e u ⟨rfl, hu⟩)
                        go_roundw
                        case rel => exact ⟨j + 1, by omega, by go_num, by show _ = _; rw [hn.out, hd]; simp, hb3.trans (hu.mono hb3.size)⟩
                        case measure => simp [intOf]; omega
                · have hfin : overGo [] over = true := by
                    rw [hat.out, List.drop_eq_nil_of_le (by have := HO.out; omega)]
                    rfl
                  go_wp2
                  go_ret
                  exact ⟨by rw [e4.out, hfin]; rfl, hwr⟩
  · have h24' : (24 : Int) < (ll : Int) := by omega
    go_enter Tryd.func29, Tryd.ntmps29
    go_wp2
    rw [← hW]
    go_ret
    exact ⟨by rw [e0.out]; simp [h24], hB⟩
end Go.Proofs.YtgohpgollpjlnaaDoor.St
/- Contracts of slices.Index and slices.Contains at labels: Contains tells whether a label is among those of a slice; what was in memory stays. -/
namespace Go.Proofs.YtgohpgollpjlnaaDoor
open Go.ChangeShapes Go.WideShapes Go.ChangeAt Go.RowKit

/-- Labels that lie in memory one behind the other. -/
def Labs (w : World) (b off : Nat) (ls : List (Int × Int)) : Prop :=
  b < w.heap.size ∧ ∀ i, i < ls.length → w.cell? ⟨b, off + i * 2, none⟩ = some (.int .i64 (ls.getD i (0, 0)).1) ∧ w.cell? ⟨b, off + i * 2 + 1, none⟩ = some (.int .i64 (ls.getD i (0, 0)).2)

theorem Labs.below {w w' : World} {b off : Nat} {ls : List (Int × Int)} (h : Labs w b off ls) (hb : Below w.heap.size w w') : Labs w' b off ls := by
  obtain ⟨hc, _⟩ := bcell hb
  refine ⟨Nat.lt_of_lt_of_le h.1 hb.size, fun i hi => ?_⟩
  rw [hc _ _ h.1, hc _ _ h.1]
  exact h.2 i hi

theorem Labs.take {w : World} {b off : Nat} {ls : List (Int × Int)} (h : Labs w b off ls) (k : Nat) : Labs w b off (ls.take k) := by
  refine ⟨h.1, fun i hi => ?_⟩
  have hi' : i < k ∧ i < ls.length := by simp at hi; omega
  have := h.2 i hi'.2
  simpa [List.getD, List.getElem?_take, hi'.1] using this

theorem not_take_succ {ls : List (Int × Int)} {k : Nat} {p : Int × Int} (hk : k < ls.length) (h : p ∉ ls.take k) (hne : ¬ (p.1 = (ls.getD k (0, 0)).1 ∧ p.2 = (ls.getD k (0, 0)).2)) : p ∉ ls.take (k + 1) := by
  rw [List.take_succ_eq_append_getElem hk]
  simp only [List.mem_append, List.mem_singleton, not_or]
  refine ⟨h, fun e => hne ?_⟩
  simp [List.getD, hk, e]

theorem mem_of_getD {ls : List (Int × Int)} {k : Nat} {p : Int × Int} (hk : k < ls.length) (h1 : p.1 = (ls.getD k (0, 0)).1) (h2 : p.2 = (ls.getD k (0, 0)).2) : p ∈ ls := by
  have : p = ls[k] := by
    simp [List.getD, hk] at h1 h2
    exact Prod.ext h1 h2
  rw [this]
  exact List.getElem_mem hk

set_option maxHeartbeats 1000000 in
theorem index_any (b off cap : Nat) (ls : List (Int × Int)) (x y : Int) (w : World) (hl : ls.length ≤ 100) (h : Labs w b off ls) :
    Calls Tryd.prog 110 #[.slice (some ⟨b, off, none⟩) ls.length cap, .agg #[.int .i64 x, .int .i64 y]] w fun e w' => ∃ r : Int, e = .returned (.int .i64 r) ∧ (0 ≤ r ↔ (x, y) ∈ ls) ∧ Below w.heap.size w w' := by
  go_enter Tryd.func110, Tryd.ntmps110
  go_wp2
  go_loopw [8] (fun i wr => ∃ k : Nat, k ≤ ls.length ∧ i = .int .i64 k ∧ (x, y) ∉ ls.take k ∧ Below (w.heap.size + 1) (w.alloc (.cells #[.int .i64 x, .int .i64 y] 80)) wr) (fun i _ => ls.length - (intOf i).toNat)
  case atStart => exact ⟨0, Nat.zero_le _, rfl, by simp, Below.refl _ _⟩
  case round =>
    obtain ⟨k, hk, rfl, hno, hb⟩ := hrel
    by_cases hlt : k < ls.length
    · have hbw : Below w.heap.size w wr := ((Below.refl _ _).alloc (Nat.le_refl _) _).trans (hb.mono (by omega))
      have hr := (h.below hbw).2 k hlt
      obtain ⟨p, hp⟩ : ∃ p, p = (ls.getD k (0, 0)).1 := ⟨_, rfl⟩
      obtain ⟨q, hq⟩ : ∃ q, q = (ls.getD k (0, 0)).2 := ⟨_, rfl⟩
      rw [← hp, ← hq] at hr
      obtain ⟨c0, c1⟩ := hr
      have c2 : wr.cell? ⟨w.heap.size, 0, none⟩ = some (.int .i64 x) := by
        rw [hb.cell (p := ⟨w.heap.size, 0, none⟩) (by simp)]; go_simp
      have c3 : wr.cell? ⟨w.heap.size, 1, none⟩ = some (.int .i64 y) := by
        rw [hb.cell (p := ⟨w.heap.size, 1, none⟩) (by simp)]; go_simp
      by_cases e1 : x = p
      · by_cases e2 : y = q
        · have hm : (x, y) ∈ ls := mem_of_getD hlt (by rw [e1, hp]) (by rw [e2, hq])
          clear hp hq
          subst e1 e2
          go_wp2
          go_quiet (fail)
          go_wp2
          go_ret
          exact ⟨k, rfl, by simp [hm], below_drewN hbw nq⟩
        · have hn := not_take_succ (p := (x, y)) hlt hno (by rw [← hp, ← hq]; simp [e2])
          have e3 : (y == q) = false := by simpa using e2
          clear hp hq
          subst e1
          go_wp2
          go_quiet (fail)
          go_wp2
          go_roundw
          case rel => exact ⟨k + 1, by omega, by go_num, hn, below_drewN hb nq⟩
          case measure => simp [intOf]; omega
      · have hn := not_take_succ (p := (x, y)) hlt hno (by rw [← hp, ← hq]; simp [e1])
        have e3 : (x == p) = false := by simpa using e1
        clear hp hq
        go_wp2
        go_quiet (fail)
        go_wp2
        go_roundw
        case rel => exact ⟨k + 1, by omega, by go_num, hn, below_drewN hb nq⟩
        case measure => simp [intOf]; omega
    · have he : k = ls.length := by omega
      subst he
      rw [List.take_length] at hno
      go_wp2
      go_ret
      exact ⟨-1, rfl, by simp [hno], ((Below.refl _ _).alloc (Nat.le_refl _) _).trans (hb.mono (by omega))⟩

theorem contains_any (b off n cap : Nat) (ls : List (Int × Int)) (x y : Int) (w : World) (hn : ls.length = n) (hl : n ≤ 100) (h : Labs w b off ls) :
    Calls Tryd.prog 80 #[.slice (some ⟨b, off, none⟩) n cap, .agg #[.int .i64 x, .int .i64 y]] w fun e w' => e = .returned (.bool (decide ((x, y) ∈ ls))) ∧ Below w.heap.size w w' := by
  subst hn
  have hA : Below w.heap.size w (w.alloc (.cells #[.int .i64 x, .int .i64 y] 80)) := (Below.refl _ _).alloc (Nat.le_refl _) _
  go_enter Tryd.func80, Tryd.ntmps80
  go_wp2_with (go_at_call 110; refine (index_any _ _ _ _ _ _ _ hl (h.below hA)).mono ?_; rintro e w1 ⟨r, rfl, hr, hb1⟩)
  go_ret
  exact ⟨rfl, hA.trans (hb1.mono (by simp))⟩
end Go.Proofs.YtgohpgollpjlnaaDoor
/- What a config's fault is, on numbers: of the sites, the labels one by one, the patience; and contracts of the two small range tests. -/
namespace Go.Proofs.YtgohpgollpjlnaaDoor
open Go.ChangeShapes Go.WideShapes Go.ChangeAt Go.RowKit

def inB (l c : Int) : Bool := decide (0 ≤ l ∧ l ≤ 9 ∧ 0 ≤ c ∧ c ≤ 15)

/-- The fault of the first label that has one: 'seen' are those ahead. -/
def labFault (seen : List (Int × Int)) : List (Int × Int) → Int
  | [] => 0
  | a :: r => if inB a.1 a.2 = false then 2 else if a ∈ seen then 7 else labFault (seen ++ [a]) r

def cfgFault (s : Int) (ls : List (Int × Int)) (p : Int) : Int :=
  if s < 1 ∨ 4 < s then 2 else if ls.length < 1 ∨ 6 < ls.length then 1 else if labFault [] ls ≠ 0 then labFault [] ls else if p < 1 ∨ 1048576 < p then 2 else 0

theorem cfg_sites {s : Int} {ls : List (Int × Int)} {p : Int} (h : s < 1 ∨ 4 < s) : cfgFault s ls p = 2 := by simp [cfgFault, h]
theorem cfg_size {s : Int} {ls : List (Int × Int)} {p : Int} (h1 : 1 ≤ s) (h2 : s ≤ 4) (h : ls.length < 1 ∨ 6 < ls.length) : cfgFault s ls p = 1 := by
  unfold cfgFault
  rw [if_neg (by omega), if_pos h]
theorem cfg_lab {s : Int} {ls : List (Int × Int)} {p : Int} {f : Int} (h1 : 1 ≤ s) (h2 : s ≤ 4) (h3 : 1 ≤ ls.length) (h4 : ls.length ≤ 6) (h : labFault [] ls = f) (hf : f ≠ 0) : cfgFault s ls p = f := by
  unfold cfgFault
  rw [if_neg (by omega), if_neg (by omega), if_pos (by rw [h]; exact hf), h]
theorem cfg_late {s : Int} {ls : List (Int × Int)} {p : Int} (h1 : 1 ≤ s) (h2 : s ≤ 4) (h3 : 1 ≤ ls.length) (h4 : ls.length ≤ 6) (h : labFault [] ls = 0) (hp : p < 1 ∨ 1048576 < p) : cfgFault s ls p = 2 := by
  unfold cfgFault
  rw [if_neg (by omega), if_neg (by omega), if_neg (by simp [h]), if_pos hp]
theorem cfg_ok {s : Int} {ls : List (Int × Int)} {p : Int} (h1 : 1 ≤ s) (h2 : s ≤ 4) (h3 : 1 ≤ ls.length) (h4 : ls.length ≤ 6) (h : labFault [] ls = 0) (p1 : 1 ≤ p) (p2 : p ≤ 1048576) : cfgFault s ls p = 0 := by
  unfold cfgFault
  rw [if_neg (by omega), if_neg (by omega), if_neg (by simp [h]), if_neg (by omega)]

theorem cfg_zero {s : Int} {ls : List (Int × Int)} {p : Int} (h : cfgFault s ls p = 0) : 1 ≤ s ∧ s ≤ 4 ∧ 1 ≤ ls.length ∧ ls.length ≤ 6 ∧ labFault [] ls = 0 ∧ 1 ≤ p ∧ p ≤ 1048576 := by
  unfold cfgFault at h
  split at h
  · simp at h
  · split at h
    · simp at h
    · split at h
      · contradiction
      · split at h
        · simp at h
        · rename_i _ _ hz _
          have : labFault [] ls = 0 := Classical.not_not.1 hz
          omega

/-- Where the labels ahead of place k have no fault: the whole's fault is that of the rest. -/
def labAt (ls : List (Int × Int)) (k : Nat) : Prop := labFault [] ls = labFault (ls.take k) (ls.drop k)

theorem labAt_zero (ls : List (Int × Int)) : labAt ls 0 := by simp [labAt]
theorem drop_here {ls : List (Int × Int)} {k : Nat} (hk : k < ls.length) : ls.drop k = ls.getD k (0, 0) :: ls.drop (k + 1) := by
  rw [List.drop_eq_getElem_cons hk]; simp [List.getD, hk]
theorem take_here {ls : List (Int × Int)} {k : Nat} (hk : k < ls.length) : ls.take (k + 1) = ls.take k ++ [ls.getD k (0, 0)] := by
  rw [List.take_succ_eq_append_getElem hk]; simp [List.getD, hk]
theorem labAt_range {ls : List (Int × Int)} {k : Nat} (hk : k < ls.length) (h : labAt ls k) (hb : inB (ls.getD k (0, 0)).1 (ls.getD k (0, 0)).2 = false) : labFault [] ls = 2 := by
  rw [h, drop_here hk, labFault, if_pos hb]
theorem labAt_twice {ls : List (Int × Int)} {k : Nat} (hk : k < ls.length) (h : labAt ls k) (hb : inB (ls.getD k (0, 0)).1 (ls.getD k (0, 0)).2 = true) (hm : ls.getD k (0, 0) ∈ ls.take k) : labFault [] ls = 7 := by
  rw [h, drop_here hk, labFault, if_neg (by rw [hb]; simp), if_pos hm]
theorem labAt_succ {ls : List (Int × Int)} {k : Nat} (hk : k < ls.length) (h : labAt ls k) (hb : inB (ls.getD k (0, 0)).1 (ls.getD k (0, 0)).2 = true) (hm : ls.getD k (0, 0) ∉ ls.take k) : labAt ls (k + 1) := by
  unfold labAt
  rw [h, drop_here hk, labFault, if_neg (by rw [hb]; simp), if_neg hm, take_here hk]
theorem labAt_end {ls : List (Int × Int)} (h : labAt ls ls.length) : labFault [] ls = 0 := by
  rw [h, List.drop_length]; rfl

def inR (n lo hi : Int) : Bool := decide (lo ≤ n ∧ n ≤ hi)
theorem inR_true {n lo hi : Int} (h1 : lo ≤ n) (h2 : n ≤ hi) : inR n lo hi = true := by simp [inR, h1, h2]
theorem inR_false {n lo hi : Int} (h : n < lo ∨ hi < n) : inR n lo hi = false := by simp [inR]; omega
theorem inR_of {n lo hi : Int} (h : inR n lo hi = true) : lo ≤ n ∧ n ≤ hi := by simpa [inR] using h
theorem inR_not {n lo hi : Int} (h : inR n lo hi = false) : n < lo ∨ hi < n := by simp [inR] at h; omega

theorem within_any (n lo hi : Int) (w : World) :
    Calls Tryd.prog 78 #[.int .i64 n, .int .i64 lo, .int .i64 hi] w fun e w' => e = .returned (.bool (inR n lo hi)) ∧ w' = w := by
  go_enter Tryd.func78, Tryd.ntmps78
  go_wp2
  all_goals go_ret
  all_goals exact ⟨ret_bool (by unfold inR; rw [Bool.eq_iff_iff]; simp; omega), rfl⟩

theorem inB_of (x y : Int) : inB x y = (inR x 0 9 && inR y 0 15) := by
  unfold inB inR
  rw [Bool.eq_iff_iff]
  simp
  omega

theorem inBounds_any (l c : Int) (w : World) :
    Calls Tryd.prog 79 #[.agg #[.int .i64 l, .int .i64 c]] w fun e w' => e = .returned (.bool (inB l c)) ∧ Below w.heap.size w w' := by
  have hA : Below w.heap.size w (w.alloc (.cells #[.int .i64 l, .int .i64 c] 80)) := (Below.refl _ _).alloc (Nat.le_refl _) _
  rw [inB_of]
  cases h1 : inR l 0 9 with
  | false =>
    go_enter Tryd.func79, Tryd.ntmps79
    go_wp2_with (go_at_call 78; refine (within_any _ _ _ _).mono ?_; rintro e w1 ⟨rfl, hu1⟩; rw [hu1]; clear hu1)
    go_ret
    exact ⟨rfl, hA⟩
  | true =>
    go_enter Tryd.func79, Tryd.ntmps79
    go_wp2_with (go_at_call 78; refine (within_any _ _ _ _).mono ?_; rintro e w1 ⟨rfl, hu1⟩; rw [hu1]; clear hu1)
    go_ret
    exact ⟨by simp, hA⟩
end Go.Proofs.YtgohpgollpjlnaaDoor
