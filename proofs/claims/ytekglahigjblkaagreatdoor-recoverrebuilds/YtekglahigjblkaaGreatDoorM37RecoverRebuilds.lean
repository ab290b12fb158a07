/- Texts of this claim, one behind the other. -/
import Derived.Test.YtekglahigjblkaaGreatDoorM36RecoverRebuilds
import Derived.Test.YtekglahigjblkaaGreatDoorM22RecoverRebuilds
import Derived.Deep.DeepCutAuto
import Derived.Deep.CutBlock
import Derived.Test.YtekglahigjblkaaGreatDoorM20RecoverRebuilds
import Derived.Test.YtekglahigjblkaaGreatDoorM19RecoverRebuilds
/- The contract of the document's StoreMay: at every store it tells whether it may be. -/
namespace Go.Proofs.YtekglahigjblkaaGreatDoor.St
open Go.ChangeShapes Go.WideShapes Go.ChangeAt Go.RowKit
set_option linter.unusedVariables false

theorem take_any_at {α : Type} [Inhabited α] {p : α → Bool} {xs : List α} {j : Nat} (hj : j < xs.length) : (xs.take (j + 1)).any p = ((xs.take j).any p || p (xs.getD j default)) := by
  rw [take_at hj, List.any_append]
  simp
theorem any_take_none {α : Type} [Inhabited α] {p : α → Bool} {xs : List α} {k : Nat} (hk : k ≤ xs.length) (h : ∀ i, i < k → p (xs.getD i default) = false) : (xs.take k).any p = false := by
  rw [List.any_eq_false]
  intro x hx
  obtain ⟨i, hi, rfl⟩ := List.getElem_of_mem hx
  have hi1 : i < k := by simp at hi; omega
  have hi2 : i < xs.length := by omega
  have := h i hi1
  simpa [List.getD, hi2] using this
theorem any_take_some {α : Type} [Inhabited α] {p : α → Bool} {xs : List α} {k i : Nat} (hk : k ≤ xs.length) (hi : i < k) (h : p (xs.getD i default) = true) : (xs.take k).any p = true := by
  rw [List.any_eq_true]
  have hi2 : i < xs.length := by omega
  exact ⟨xs.getD i default, by rw [List.mem_take_iff_getElem]; exact ⟨i, by omega, by simp [List.getD, hi2]⟩, h⟩

theorem overGo_at' {xs : List (Int × Int)} {k : Nat} (hk : k < xs.length) (h : overGo [] xs = overGo (xs.take k) (xs.drop k)) :
    overGo [] xs = (!(decide (xs.getD k default ∈ xs.take k)) && txOK (xs.getD k default) && overGo (xs.take (k + 1)) (xs.drop (k + 1))) := by
  rw [h, drop_at hk, take_at hk]
  rfl
theorem in_eq {n lo hi : Int} {b : Bool} (h : inR n lo hi = b) (w : World) : Calls Tryz.prog 14 #[.int .i64 n, .int .i64 lo, .int .i64 hi] w fun e w' => e = .returned (.bool b) ∧ Below w.heap.size w w' := by
  rw [← h]
  exact in_below n lo hi w

set_option maxRecDepth 100000 in
set_option maxHeartbeats 16000000 in
theorem storeMay_any (s : SV) (w : World) (h : IsStore w s) :
    Calls Tryz.prog 56 #[s.val] w fun e w' => e = .returned (.bool (storeOK s)) ∧ Below w.heap.size w w' := by
  rw [← ref_is]
  have hDo := fun t w' h1 => doubtOf_ref s t w' h1
  have hOv := fun t w' h1 => isOver_ref s t w' h1
  have hh := h
  obtain ⟨R, eR⟩ : ∃ R, R = refOK s := ⟨_, rfl⟩
  have e0 : Hid (R = (decide (s.locks.length ≤ 24) && itemsR none s.items && lkR s.doubts [] s.locks && dbR s.locks s.over [] s.doubts && overGo [] s.over)) := eR
  rw [← eR]
  clear eR
  obtain ⟨ia, il, ic, la, ll, lc, da, dl, dc, oa, ol, oc, items, locks, doubts, over⟩ := s
  obtain ⟨⟨ilen, icap, imax, _, imem⟩, ⟨llen, lcap, lmax, _, lmem⟩, ⟨dlen, dcap, dmax, _, dmem⟩, ⟨olen, ocap, omax, _, omem⟩⟩ := h
  simp only [SV.val] at *
  rw [llen] at e0
  have HI : Hid (items.length = il) := ilen
  have HL : Hid (locks.length = ll) := llen
  have HD : Hid (doubts.length = dl) := dlen
  have HO : Hid (over.length = ol) := olen
  clear ilen llen dlen olen
  unfold maxLen at imax lmax dmax omax
  obtain ⟨W, hW⟩ : ∃ W : World, W = w.alloc (.cells #[.slice ia il ic, .slice la ll lc, .slice da dl dc, .slice oa ol oc] 31) := ⟨_, rfl⟩
  have hB : Below w.heap.size w W := by rw [hW]; exact (Below.refl _ _).alloc (Nat.le_refl _) _
  have zW : w.heap.size < W.heap.size := by rw [hW]; simp
  have c0 : W.cell? ⟨w.heap.size, 0, none⟩ = some (.slice ia il ic) := by rw [hW]; go_simp
  have c1 : W.cell? ⟨w.heap.size, 1, none⟩ = some (.slice la ll lc) := by rw [hW]; go_simp
  have c2 : W.cell? ⟨w.heap.size, 2, none⟩ = some (.slice da dl dc) := by rw [hW]; go_simp
  have c3 : W.cell? ⟨w.heap.size, 3, none⟩ = some (.slice oa ol oc) := by rw [hW]; go_simp
  have KA : Hid (∀ U : World, Below W.heap.size W U → U.cell? ⟨w.heap.size, 0, none⟩ = some (.slice ia il ic) ∧ U.cell? ⟨w.heap.size, 1, none⟩ = some (.slice la ll lc) ∧ U.cell? ⟨w.heap.size, 2, none⟩ = some (.slice da dl dc) ∧ U.cell? ⟨w.heap.size, 3, none⟩ = some (.slice oa ol oc)) := fun U hU =>
    ⟨(hU.cell (p := ⟨w.heap.size, 0, none⟩) zW).trans c0, (hU.cell (p := ⟨w.heap.size, 1, none⟩) zW).trans c1, (hU.cell (p := ⟨w.heap.size, 2, none⟩) zW).trans c2, (hU.cell (p := ⟨w.heap.size, 3, none⟩) zW).trans c3⟩
  have HS : Hid (∀ U : World, Below W.heap.size W U → IsDoubts U da dl dc doubts ∧ IsTxns U oa ol oc over) := fun U hU => by
    have hs := hh.below (hB.trans (hU.mono hB.size))
    exact ⟨hs.doubts, hs.over⟩
  clear hh
  by_cases h24 : ll ≤ 24
  · have h24' : (ll : Int) ≤ 24 := by omega
    have e1 : Hid (R = (itemsR none items && lkR doubts [] locks && dbR locks over [] doubts && overGo [] over)) := by show _ = _; rw [e0.out]; simp [h24]
    clear e0
    go_enter Tryz.func56, Tryz.ntmps56
    go_wp2
    rw [← hW]
    clear hW c0 c1 c2 c3
    go_loopw [3] (fun s3 wr => ∃ (k : Nat), k ≤ il ∧ s3 = .int .i64 k ∧ Hid (itemsR none items = itemsR (prevK items k) (items.drop k)) ∧ Below W.heap.size W wr) (fun s3 _ => il - (intOf s3).toNat)
    case atStart => exact ⟨0, Nat.zero_le _, rfl, by show _ = _; simp [prevK], Below.refl _ _⟩
    case round =>
    obtain ⟨k, hk, rfl, hat, hb⟩ := hrel
    obtain ⟨c0, c1, c2, c3⟩ := KA.out _ hb
    have hwr := hB.trans (hb.mono hB.size)
    by_cases hlt : k < il
    · have hlt' : (k : Int) < (il : Int) := by omega
      obtain ⟨b, off, rfl, zb, hc⟩ := imem (by omega)
      have hkl : k < items.length := by have := HI.out; omega
      have hcells := hc k hlt
      have hpc : ∀ j, j + 1 = k → w.cell? ⟨b, off + j * 3, none⟩ = some (.int .i64 (items.getD j default).key) := fun j hj => by have := hc j (by omega) 0 (by decide); simpa [ItV.cells] using this
      have hn : Hid (itemsR none items = (inR (items.getD k default).key 0 7 && inR (items.getD k default).value 0 1073741824 && inR (items.getD k default).version 1 1048576 && (match prevK items k with | none => true | some q => !(decide ((items.getD k default).key ≤ q))) && itemsR (prevK items (k + 1)) (items.drop (k + 1)))) := itemsR_at hkl hat.out
      clear hat hc imem lmem dmem omem
      obtain ⟨x, ex⟩ : ∃ x, x = items.getD k default := ⟨_, rfl⟩
      rw [← ex] at hcells hn
      clear ex
      obtain ⟨key, value, version⟩ := x
      have a0 := hcells 0 (by decide)
      have a1 := hcells 1 (by decide)
      have a2 := hcells 2 (by decide)
      simp [ItV.cells] at a0 a1 a2
      rw [← hwr.cell (p := ⟨b, off + k * 3, none⟩) zb] at a0
      rw [← hwr.cell (p := ⟨b, off + k * 3 + 1, none⟩) zb] at a1
      rw [← hwr.cell (p := ⟨b, off + k * 3 + 2, none⟩) zb] at a2
      clear hcells
      obtain ⟨V, hV⟩ : ∃ V : World, V = wr.alloc (.cells #[.int .i64 key, .int .i64 value, .int .i64 version] 68) := ⟨_, rfl⟩
      have bV : Below W.heap.size W V := by rw [hV]; exact hb.alloc hb.size _
      have zV : wr.heap.size < V.heap.size := by rw [hV]; simp
      have p0 : V.cell? ⟨wr.heap.size, 0, none⟩ = some (.int .i64 key) := by rw [hV]; go_simp
      have p1 : V.cell? ⟨wr.heap.size, 1, none⟩ = some (.int .i64 value) := by rw [hV]; go_simp
      have p2 : V.cell? ⟨wr.heap.size, 2, none⟩ = some (.int .i64 version) := by rw [hV]; go_simp
      have hwV := hB.trans (bV.mono hB.size)

      simp only at hn
      obtain ⟨A, eA⟩ : ∃ A, A = inR key 0 7 := ⟨_, rfl⟩
      obtain ⟨B, eB⟩ : ∃ A, A = inR value 0 1073741824 := ⟨_, rfl⟩
      obtain ⟨C, eC⟩ : ∃ A, A = inR version 1 1048576 := ⟨_, rfl⟩
      rw [← eA, ← eB, ← eC] at hn
      replace eA := eA.symm
      replace eB := eB.symm
      replace eC := eC.symm
      go_upto_region 7 with (fail)
      rw [← hV]
      clear hV a0 a1 a2 c0 c1 c2 c3
      obtain ⟨c0, c1, c2, c3⟩ := KA.out _ bV
      have r0 := fun d os => cell_regrown c0 d os
      have r4 := fun d os => cell_regrown p0 d os
      have r5 := fun d os => cell_regrown p1 d os
      have r6 := fun d os => cell_regrown p2 d os
      cases A with
      | false =>
        refine wp_region_quiet_below (by kernel_rfl) (by kernel_rfl) ?_
        repeat (go_big_quiet_step ((exact Calls.regrown_of (in_eq (by assumption) _))))
        refine wpQuiet_nil ?_
        intro _ hw'
        obtain ⟨⟨dq, osq⟩, hw''⟩ := hw'
        subst hw''
        go_wp2
        go_ret
        exact ⟨by rw [e1.out, hn.out]; simp, hwV.trans ((below_regrown V dq osq).mono hwV.size)⟩
      | true =>
        cases B with
        | false =>
          refine wp_region_quiet_below (by kernel_rfl) (by kernel_rfl) ?_
          repeat (go_big_quiet_step ((exact Calls.regrown_of (in_eq (by assumption) _))))
          refine wpQuiet_nil ?_
          intro _ hw'
          obtain ⟨⟨dq, osq⟩, hw''⟩ := hw'
          subst hw''
          go_wp2
          go_ret
          exact ⟨by rw [e1.out, hn.out]; simp, hwV.trans ((below_regrown V dq osq).mono hwV.size)⟩
        | true =>
          cases C with
          | false =>
            refine wp_region_quiet_below (by kernel_rfl) (by kernel_rfl) ?_
            repeat (go_big_quiet_step ((exact Calls.regrown_of (in_eq (by assumption) _))))
            refine wpQuiet_nil ?_
            intro _ hw'
            obtain ⟨⟨dq, osq⟩, hw''⟩ := hw'
            subst hw''
            go_wp2
            go_ret
            exact ⟨by rw [e1.out, hn.out]; simp, hwV.trans ((below_regrown V dq osq).mono hwV.size)⟩
          | true =>
            cases k with
            | zero =>
              refine wp_region_quiet_below (by kernel_rfl) (by kernel_rfl) ?_
              repeat (go_big_quiet_step ((exact Calls.regrown_of (in_eq (by assumption) _))))
              refine wpQuiet_nil ?_
              intro _ hw'
              obtain ⟨⟨dq, osq⟩, hw''⟩ := hw'
              subst hw''
              go_wp2
              go_roundw
              case rel => exact ⟨1, by omega, by go_num, by show _ = _; rw [hn.out]; simp [prevK], bV.trans ((below_regrown V dq osq).mono bV.size)⟩
              case measure => simp [intOf]; omega
            | succ j =>
              have hp := hpc j rfl
              rw [← hwV.cell (p := ⟨b, off + j * 3, none⟩) zb] at hp
              obtain ⟨q, eq⟩ : ∃ q, q = (items.getD j default).key := ⟨_, rfl⟩
              simp only [prevK] at hn
              rw [← eq] at hn hp
              clear hpc eq
              have r7 := fun d os => cell_regrown hp d os
              have hj0 : decide ((0 : Int) < (j : Int) + 1) = true := by simp
              have hj1 : (0 : Int) < (j : Int) + 1 := by omega
              have hjm : ((j + 1 : Nat) : Int) - 1 = (j : Int) := by omega
              have hjl : (j : Int) < (il : Int) := by omega
              by_cases hle : key ≤ q
              · have hd : decide (key ≤ q) = true := by simp [hle]
                refine wp_region_quiet_below (by kernel_rfl) (by kernel_rfl) ?_
                repeat (go_big_quiet_step ((exact Calls.regrown_of (in_eq (by assumption) _))))
                refine wpQuiet_nil ?_
                intro _ hw'
                obtain ⟨⟨dq, osq⟩, hw''⟩ := hw'
                subst hw''
                go_wp2
                go_ret
                exact ⟨by rw [e1.out, hn.out, hd]; simp, hwV.trans ((below_regrown V dq osq).mono hwV.size)⟩
              · have hd : decide (key ≤ q) = false := by simp [hle]
                refine wp_region_quiet_below (by kernel_rfl) (by kernel_rfl) ?_
                repeat (go_big_quiet_step ((exact Calls.regrown_of (in_eq (by assumption) _))))
                refine wpQuiet_nil ?_
                intro _ hw'
                obtain ⟨⟨dq, osq⟩, hw''⟩ := hw'
                subst hw''
                go_wp2
                go_roundw
                case rel => exact ⟨j + 1 + 1, by omega, by go_num, by show _ = _; rw [hn.out, hd]; simp [prevK], bV.trans ((below_regrown V dq osq).mono bV.size)⟩
                case measure => simp [intOf]; omega
    · have hfin : Hid (itemsR none items = true) := by
        show _ = _
        rw [hat.out, List.drop_eq_nil_of_le (by have := HI.out; omega)]
        rfl
      have e2 : Hid (R = (lkR doubts [] locks && dbR locks over [] doubts && overGo [] over)) := by show _ = _; rw [e1.out, hfin.out]; simp
      clear e1 hfin hat imem
      go_wp2
      go_loopw [5] (fun s5 wr => ∃ (k : Nat), k ≤ ll ∧ s5 = .int .i64 k ∧ Hid (lkR doubts [] locks = lkR doubts (locks.take k) (locks.drop k)) ∧ Below W.heap.size W wr) (fun s5 _ => ll - (intOf s5).toNat)
      case atStart => exact ⟨0, Nat.zero_le _, rfl, by show _ = _; simp, hb⟩
      case round =>
        clear c0 c1 c2 c3 hb hwr
        obtain ⟨k, hk, rfl, hat, hb⟩ := hrel
        obtain ⟨X, eX⟩ : ∃ X, X = wr := ⟨_, rfl⟩
        rw [← eX] at hb ⊢
        clear eX
        obtain ⟨c0, c1, c2, c3⟩ := KA.out _ hb
        have hwr := hB.trans (hb.mono hB.size)
        by_cases hlt : k < ll
        · have hlt' : (k : Int) < (ll : Int) := by omega
          obtain ⟨b, off, rfl, zb, hc⟩ := lmem (by omega)
          have hkl : k < locks.length := by have := HL.out; omega
          have hcells := hc k hlt
          have hn : Hid (lkR doubts [] locks = ((doubts.any (dbT (locks.getD k default).t) && lkRest (locks.getD k default)) && !((locks.take k).any (against (locks.getD k default))) && lkR doubts (locks.take (k + 1)) (locks.drop (k + 1)))) := lkR_at hkl hat.out
          have hCell : Hid (∀ i, i < ll → ∀ j, j < 6 → w.cell? ⟨b, off + i * 6 + j, none⟩ = (locks.getD i default).cells[j]?) := hc
          clear hat hc lmem dmem omem
          obtain ⟨x, ex⟩ : ∃ x, x = locks.getD k default := ⟨_, rfl⟩
          rw [← ex] at hcells hn
          clear ex
          have hDx := fun w' h1 => hDo x.t w' h1
          have hIx := idxI_any (dbT x.t) doubts
          have hag : Hid (∀ y, against x y = (decide (y.key = x.key) && (decide (y.t = x.t) || y.write || x.write))) := fun y => rfl
          obtain ⟨⟨site, num⟩, key, write, value, ask⟩ := x
          have hlr : lkRest ⟨(site, num), key, write, value, ask⟩ = (inR key 0 7 && inR value 0 1073741824 && inR ask 0 1048576 && (write || (decide (value = 0) && decide (ask = 0)))) := rfl
          rw [hlr] at hn
          clear hlr hDo hOv
          have a0 := hcells 0 (by decide)
          have a1 := hcells 1 (by decide)
          have a2 := hcells 2 (by decide)
          have a3 := hcells 3 (by decide)
          have a4 := hcells 4 (by decide)
          have a5 := hcells 5 (by decide)
          simp [LkV.cells] at a0 a1 a2 a3 a4 a5
          rw [← hwr.cell (p := ⟨b, off + k * 6, none⟩) zb] at a0
          rw [← hwr.cell (p := ⟨b, off + k * 6 + 1, none⟩) zb] at a1
          rw [← hwr.cell (p := ⟨b, off + k * 6 + 2, none⟩) zb] at a2
          rw [← hwr.cell (p := ⟨b, off + k * 6 + 3, none⟩) zb] at a3
          rw [← hwr.cell (p := ⟨b, off + k * 6 + 4, none⟩) zb] at a4
          rw [← hwr.cell (p := ⟨b, off + k * 6 + 5, none⟩) zb] at a5
          clear hcells
          obtain ⟨V, hV⟩ : ∃ V : World, V = X.alloc (.cells #[.int .i64 site, .int .i64 num, .int .i64 key, .bool write, .int .i64 value, .int .i64 ask] 70) := ⟨_, rfl⟩
          have bV : Below W.heap.size W V := by rw [hV]; exact hb.alloc hb.size _
          have zV : X.heap.size < V.heap.size := by rw [hV]; simp
          have p0 : V.cell? ⟨X.heap.size, 0, none⟩ = some (.int .i64 site) := by rw [hV]; go_simp
          have p1 : V.cell? ⟨X.heap.size, 1, none⟩ = some (.int .i64 num) := by rw [hV]; go_simp
          have p2 : V.cell? ⟨X.heap.size, 2, none⟩ = some (.int .i64 key) := by rw [hV]; go_simp
          have p3 : V.cell? ⟨X.heap.size, 3, none⟩ = some (.bool write) := by rw [hV]; go_simp
          have p4 : V.cell? ⟨X.heap.size, 4, none⟩ = some (.int .i64 value) := by rw [hV]; go_simp
          have p5 : V.cell? ⟨X.heap.size, 5, none⟩ = some (.int .i64 ask) := by rw [hV]; go_simp
          have hwV := hB.trans (bV.mono hB.size)
          simp only at hn hDx hIx
          obtain ⟨G, eG⟩ : ∃ G, G = idxI (dbT (site, num)) doubts := ⟨_, rfl⟩
          rw [← eG] at hDx hIx
          rw [← hIx] at hn
          clear eG hIx
          obtain ⟨A, eA⟩ : ∃ A, A = inR key 0 7 := ⟨_, rfl⟩
          obtain ⟨B, eB⟩ : ∃ A, A = inR value 0 1073741824 := ⟨_, rfl⟩
          obtain ⟨C, eC⟩ : ∃ A, A = inR ask 0 1048576 := ⟨_, rfl⟩
          rw [← eA, ← eB, ← eC] at hn
          replace eA := eA.symm
          replace eB := eB.symm
          replace eC := eC.symm
          have HV : Hid (∀ U : World, Below V.heap.size V U → (U.cell? ⟨w.heap.size, 0, none⟩ = some (.slice ia il ic) ∧ U.cell? ⟨w.heap.size, 1, none⟩ = some (.slice (some ⟨b, off, none⟩) ll lc) ∧ U.cell? ⟨w.heap.size, 2, none⟩ = some (.slice da dl dc) ∧ U.cell? ⟨w.heap.size, 3, none⟩ = some (.slice oa ol oc)) ∧ U.cell? ⟨X.heap.size, 0, none⟩ = some (.int .i64 site) ∧ U.cell? ⟨X.heap.size, 1, none⟩ = some (.int .i64 num) ∧ U.cell? ⟨X.heap.size, 2, none⟩ = some (.int .i64 key) ∧ U.cell? ⟨X.heap.size, 3, none⟩ = some (.bool write) ∧ U.cell? ⟨X.heap.size, 4, none⟩ = some (.int .i64 value) ∧ U.cell? ⟨X.heap.size, 5, none⟩ = some (.int .i64 ask)) := fun U hU =>
            ⟨KA.out U (bV.trans (hU.mono bV.size)), (hU.cell (p := ⟨X.heap.size, 0, none⟩) zV).trans p0, (hU.cell (p := ⟨X.heap.size, 1, none⟩) zV).trans p1, (hU.cell (p := ⟨X.heap.size, 2, none⟩) zV).trans p2, (hU.cell (p := ⟨X.heap.size, 3, none⟩) zV).trans p3, (hU.cell (p := ⟨X.heap.size, 4, none⟩) zV).trans p4, (hU.cell (p := ⟨X.heap.size, 5, none⟩) zV).trans p5⟩
          have hDV := (HS.out _ bV).1
          go_upto_region 13 with (fail)
          rw [← hV]
          clear hV a0 a1 a2 a3 a4 a5 c0 c1 c2 c3
          obtain ⟨c0, c1, c2, c3⟩ := KA.out _ bV
          obtain ⟨F, eF⟩ : ∃ F, F = (decide (0 ≤ G) && (A && B && C && (write || (decide (value = 0) && decide (ask = 0))))) := ⟨_, rfl⟩
          rw [← eF] at hn
          have HF : Hid (F = (decide (0 ≤ G) && (A && B && C && (write || (decide (value = 0) && decide (ask = 0)))))) := eF
          clear eF
          go_cut [112] (fun s112 wc => s112 = .bool (!F) ∧ Below V.heap.size V wc)
          case first =>
            clear hn
            by_cases hG : 0 ≤ G
            · have hG' : ¬ G < 0 := by omega
              cases A with
              | false =>
                go_wp2_with (first | (go_at_call 39; refine (hDx _ hDV).mono ?_; rintro e u ⟨rfl, hu⟩; clear c0 c1 c2 c3 p0 p1 p2 p3 p4 p5; obtain ⟨⟨c0, c1, c2, c3⟩, p0, p1, p2, p3, p4, p5⟩ := HV.out _ hu) | (go_at_call 14; refine (in_any _ _ _ _).mono ?_; rintro e v ⟨rfl, hv⟩; rw [hv]; clear hv; first | rw [eA] | rw [eB] | rw [eC]))
                go_meet
                case rel => exact ⟨by rw [HF.out]; simp [*], hu⟩
              | true =>
                cases B with
                | false =>
                  go_wp2_with (first | (go_at_call 39; refine (hDx _ hDV).mono ?_; rintro e u ⟨rfl, hu⟩; clear c0 c1 c2 c3 p0 p1 p2 p3 p4 p5; obtain ⟨⟨c0, c1, c2, c3⟩, p0, p1, p2, p3, p4, p5⟩ := HV.out _ hu) | (go_at_call 14; refine (in_any _ _ _ _).mono ?_; rintro e v ⟨rfl, hv⟩; rw [hv]; clear hv; first | rw [eA] | rw [eB] | rw [eC]))
                  go_meet
                  case rel => exact ⟨by rw [HF.out]; simp [*], hu⟩
                | true =>
                  cases C with
                  | false =>
                    go_wp2_with (first | (go_at_call 39; refine (hDx _ hDV).mono ?_; rintro e u ⟨rfl, hu⟩; clear c0 c1 c2 c3 p0 p1 p2 p3 p4 p5; obtain ⟨⟨c0, c1, c2, c3⟩, p0, p1, p2, p3, p4, p5⟩ := HV.out _ hu) | (go_at_call 14; refine (in_any _ _ _ _).mono ?_; rintro e v ⟨rfl, hv⟩; rw [hv]; clear hv; first | rw [eA] | rw [eB] | rw [eC]))
                    go_meet
                    case rel => exact ⟨by rw [HF.out]; simp [*], hu⟩
                  | true =>
                    cases write with
                    | true =>
                      go_wp2_with (first | (go_at_call 39; refine (hDx _ hDV).mono ?_; rintro e u ⟨rfl, hu⟩; clear c0 c1 c2 c3 p0 p1 p2 p3 p4 p5; obtain ⟨⟨c0, c1, c2, c3⟩, p0, p1, p2, p3, p4, p5⟩ := HV.out _ hu) | (go_at_call 14; refine (in_any _ _ _ _).mono ?_; rintro e v ⟨rfl, hv⟩; rw [hv]; clear hv; first | rw [eA] | rw [eB] | rw [eC]))
                      go_meet
                      case rel => exact ⟨by rw [HF.out]; simp [*], hu⟩
                    | false =>
                      by_cases hv0 : value = 0
                      · subst hv0
                        by_cases ha0 : ask = 0
                        · subst ha0
                          go_wp2_with (first | (go_at_call 39; refine (hDx _ hDV).mono ?_; rintro e u ⟨rfl, hu⟩; clear c0 c1 c2 c3 p0 p1 p2 p3 p4 p5; obtain ⟨⟨c0, c1, c2, c3⟩, p0, p1, p2, p3, p4, p5⟩ := HV.out _ hu) | (go_at_call 14; refine (in_any _ _ _ _).mono ?_; rintro e v ⟨rfl, hv⟩; rw [hv]; clear hv; first | rw [eA] | rw [eB] | rw [eC]))
                          go_meet
                          case rel => exact ⟨by rw [HF.out]; simp [*], hu⟩
                        · skip
                          go_wp2_with (first | (go_at_call 39; refine (hDx _ hDV).mono ?_; rintro e u ⟨rfl, hu⟩; clear c0 c1 c2 c3 p0 p1 p2 p3 p4 p5; obtain ⟨⟨c0, c1, c2, c3⟩, p0, p1, p2, p3, p4, p5⟩ := HV.out _ hu) | (go_at_call 14; refine (in_any _ _ _ _).mono ?_; rintro e v ⟨rfl, hv⟩; rw [hv]; clear hv; first | rw [eA] | rw [eB] | rw [eC]))
                          go_meet
                          case rel => exact ⟨by rw [HF.out]; simp [*], hu⟩
                      · skip
                        go_wp2_with (first | (go_at_call 39; refine (hDx _ hDV).mono ?_; rintro e u ⟨rfl, hu⟩; clear c0 c1 c2 c3 p0 p1 p2 p3 p4 p5; obtain ⟨⟨c0, c1, c2, c3⟩, p0, p1, p2, p3, p4, p5⟩ := HV.out _ hu) | (go_at_call 14; refine (in_any _ _ _ _).mono ?_; rintro e v ⟨rfl, hv⟩; rw [hv]; clear hv; first | rw [eA] | rw [eB] | rw [eC]))
                        go_meet
                        case rel => exact ⟨by rw [HF.out]; simp [*], hu⟩
            · have hG' : G < 0 := by omega
              go_wp2_with (first | (go_at_call 39; refine (hDx _ hDV).mono ?_; rintro e u ⟨rfl, hu⟩; clear c0 c1 c2 c3 p0 p1 p2 p3 p4 p5; obtain ⟨⟨c0, c1, c2, c3⟩, p0, p1, p2, p3, p4, p5⟩ := HV.out _ hu) | (go_at_call 14; refine (in_any _ _ _ _).mono ?_; rintro e v ⟨rfl, hv⟩; rw [hv]; clear hv; first | rw [eA] | rw [eB] | rw [eC]))
              go_meet
              case rel => exact ⟨by rw [HF.out]; simp [*], hu⟩
          case rest =>
            obtain ⟨rfl, hu⟩ := hcut
            clear c0 c1 c2 c3 p0 p1 p2 p3 p4 p5 eA eB eC HF
            obtain ⟨⟨c0, c1, c2, c3⟩, p0, p1, p2, p3, p4, p5⟩ := HV.out _ hu
            have hwu := hwV.trans (hu.mono hwV.size)
            cases F with
            | false =>
              go_wp2
              go_ret
              exact ⟨by rw [e2.out, hn.out]; simp, hwu⟩
            | true =>
              go_wp2
              go_loopw [7] (fun s7 wr => ∃ (j : Nat), j ≤ k ∧ s7 = .int .i64 j ∧ (∀ i, i < j → against ⟨(site, num), key, write, value, ask⟩ (locks.getD i default) = false) ∧ Below V.heap.size V wr) (fun s7 _ => k - (intOf s7).toNat)
              case atStart => exact ⟨0, Nat.zero_le _, rfl, fun i hi => absurd hi (by omega), hu⟩
              case round =>
                obtain ⟨j, hj, rfl, hnot, hb3⟩ := hrel
                clear c0 c1 c2 c3 p0 p1 p2 p3 p4 p5
                obtain ⟨Y, eY⟩ : ∃ Y, Y = wr := ⟨_, rfl⟩
                rw [← eY] at hb3 ⊢
                clear eY
                obtain ⟨⟨c0, c1, c2, c3⟩, p0, p1, p2, p3, p4, p5⟩ := HV.out _ hb3
                have hwY := hwV.trans (hb3.mono hwV.size)
                have hWY := bV.trans (hb3.mono bV.size)
                by_cases hjk : j < k
                · have hjk' : (j : Int) < (k : Int) := by omega
                  have hjl' : (j : Int) < (ll : Int) := by omega
                  have hcells := hCell.out j (by omega)
                  have hhit := any_take_some (p := against ⟨(site, num), key, write, value, ask⟩) (xs := locks) (k := k) (i := j) (by omega) hjk
                  have hnot' : against ⟨(site, num), key, write, value, ask⟩ (locks.getD j default) = false → ∀ i, i < j + 1 → against ⟨(site, num), key, write, value, ask⟩ (locks.getD i default) = false := fun hf i hi => by
                    by_cases e : i = j
                    · rw [e]; exact hf
                    · exact hnot i (by omega)
                  obtain ⟨y, ey⟩ : ∃ y, y = locks.getD j default := ⟨_, rfl⟩
                  rw [← ey] at hcells hhit hnot'
                  clear ey
                  obtain ⟨AG, eAG⟩ : ∃ AG, AG = against ⟨(site, num), key, write, value, ask⟩ y := ⟨_, rfl⟩
                  rw [← eAG] at hhit hnot'
                  have hAy : Hid (AG = (decide (y.key = key) && (decide (y.t = (site, num)) || y.write || write))) := eAG
                  clear eAG
                  obtain ⟨⟨site2, num2⟩, key2, write2, value2, ask2⟩ := y
                  have a0 := hcells 0 (by decide)
                  have a1 := hcells 1 (by decide)
                  have a2 := hcells 2 (by decide)
                  have a3 := hcells 3 (by decide)
                  have a4 := hcells 4 (by decide)
                  have a5 := hcells 5 (by decide)
                  simp [LkV.cells] at a0 a1 a2 a3 a4 a5
                  rw [← hwY.cell (p := ⟨b, off + j * 6, none⟩) zb] at a0
                  rw [← hwY.cell (p := ⟨b, off + j * 6 + 1, none⟩) zb] at a1
                  rw [← hwY.cell (p := ⟨b, off + j * 6 + 2, none⟩) zb] at a2
                  rw [← hwY.cell (p := ⟨b, off + j * 6 + 3, none⟩) zb] at a3
                  rw [← hwY.cell (p := ⟨b, off + j * 6 + 4, none⟩) zb] at a4
                  rw [← hwY.cell (p := ⟨b, off + j * 6 + 5, none⟩) zb] at a5
                  clear hcells
                  have hAl : Below V.heap.size V (Y.alloc (.cells #[.int .i64 site2, .int .i64 num2, .int .i64 key2, .bool write2, .int .i64 value2, .int .i64 ask2] 70)) := hb3.alloc hb3.size _
                  obtain ⟨Z, hZ⟩ : ∃ Z : World, Z = Y.alloc (.cells #[.int .i64 site2, .int .i64 num2, .int .i64 key2, .bool write2, .int .i64 value2, .int .i64 ask2] 70) := ⟨_, rfl⟩
                  have q0 : Z.cell? ⟨Y.heap.size, 0, none⟩ = some (.int .i64 site2) := by rw [hZ]; go_simp
                  have q1 : Z.cell? ⟨Y.heap.size, 1, none⟩ = some (.int .i64 num2) := by rw [hZ]; go_simp
                  have q2 : Z.cell? ⟨Y.heap.size, 2, none⟩ = some (.int .i64 key2) := by rw [hZ]; go_simp
                  have q3 : Z.cell? ⟨Y.heap.size, 3, none⟩ = some (.bool write2) := by rw [hZ]; go_simp
                  rw [← hZ] at hAl
                  go_upto_region 19 with (fail)
                  rw [← hZ]
                  clear hZ c0 c1 c2 c3 p0 p1 p2 p3 p4 p5 a0 a1 a2 a3 a4 a5
                  obtain ⟨⟨c0, c1, c2, c3⟩, p0, p1, p2, p3, p4, p5⟩ := HV.out _ hAl
                  have hwZ := hwV.trans (hAl.mono hwV.size)
                  go_cut [142] (fun s142 wc => s142 = .bool AG ∧ wc = Z)
                  case first =>
                    clear hhit hnot' hnot hn
                    go_wp2
                    all_goals go_meet
                    all_goals (refine ⟨?_, rfl⟩; rw [hAy.out]; first | (simp_all; done) | (simp_all; rfl) | (simp_all; omega))
                  case rest =>
                    obtain ⟨rfl, rfl⟩ := hcut
                    cases AG with
                    | true =>
                      have hh := hhit rfl
                      go_wp2
                      go_ret
                      exact ⟨by rw [e2.out, hn.out, hh]; simp, hwZ⟩
                    | false =>
                      have hh := hnot' rfl
                      clear hhit hnot'
                      go_wp2
                      go_roundw
                      case rel => exact ⟨j + 1, by omega, by go_num, hh, hAl⟩
                      case measure => simp [intOf]; omega
                · have hjk2 : j = k := by omega
                  subst hjk2
                  have hany := any_take_none (p := against ⟨(site, num), key, write, value, ask⟩) (xs := locks) (k := j) (by omega) hnot
                  go_wp2
                  go_roundw
                  case rel => exact ⟨j + 1, by omega, by go_num, by show _ = _; rw [hn.out, hany]; simp, hWY⟩
                  case measure => simp [intOf]; omega
        · have hfin : Hid (lkR doubts [] locks = true) := by
            show _ = _
            rw [hat.out, List.drop_eq_nil_of_le (by have := HL.out; omega)]
            rfl
          have e3 : Hid (R = (dbR locks over [] doubts && overGo [] over)) := by show _ = _; rw [e2.out, hfin.out]; simp
          clear e2 hfin hat
          go_wp2
          go_loopw [9] (fun s9 wr => ∃ (k : Nat), k ≤ dl ∧ s9 = .int .i64 k ∧ Hid (dbR locks over [] doubts = dbR locks over (doubts.take k) (doubts.drop k)) ∧ Below W.heap.size W wr) (fun s9 _ => dl - (intOf s9).toNat)
          case atStart => exact ⟨0, Nat.zero_le _, rfl, by show _ = _; simp, hb⟩
          case round =>
            clear c0 c1 c2 c3 hb hwr
            obtain ⟨k, hk, rfl, hat, hb⟩ := hrel
            obtain ⟨X2, eX⟩ : ∃ X, X = wr := ⟨_, rfl⟩
            rw [← eX] at hb ⊢
            clear eX
            obtain ⟨c0, c1, c2, c3⟩ := KA.out _ hb
            have hwr := hB.trans (hb.mono hB.size)
            by_cases hlt : k < dl
            · have hlt' : (k : Int) < (dl : Int) := by omega
              obtain ⟨b, off, rfl, zb, hc⟩ := dmem (by omega)
              have hkl : k < doubts.length := by have := HD.out; omega
              have hcells := hc k hlt
              have hn : Hid (dbR locks over [] doubts = (txOK (doubts.getD k default).t && inR (doubts.getD k default).age 0 1048576 && locks.any (ofT (doubts.getD k default).t) && !((doubts.take k).any (dbT (doubts.getD k default).t)) && !(decide ((doubts.getD k default).t ∈ over)) && dbR locks over (doubts.take (k + 1)) (doubts.drop (k + 1)))) := dbR_at hkl hat.out
              have hfi := first_is hkl
              clear hat hc dmem omem
              obtain ⟨x, ex⟩ : ∃ x, x = doubts.getD k default := ⟨_, rfl⟩
              rw [← ex] at hcells hn hfi
              clear ex
              rw [← hfi] at hn
              clear hfi
              have hDx := fun w' h1 => hDo x.t w' h1
              have hOx := fun w' h1 => hOv x.t w' h1
              have hTx := fun w' => plainTxn_any x.t w'
              obtain ⟨⟨site, num⟩, age⟩ := x
              clear hDo hOv
              have a0 := hcells 0 (by decide)
              have a1 := hcells 1 (by decide)
              have a2 := hcells 2 (by decide)
              simp [DbV.cells] at a0 a1 a2
              rw [← hwr.cell (p := ⟨b, off + k * 3, none⟩) zb] at a0
              rw [← hwr.cell (p := ⟨b, off + k * 3 + 1, none⟩) zb] at a1
              rw [← hwr.cell (p := ⟨b, off + k * 3 + 2, none⟩) zb] at a2
              clear hcells
              obtain ⟨V, hV⟩ : ∃ V : World, V = X2.alloc (.cells #[.int .i64 site, .int .i64 num, .int .i64 age] 72) := ⟨_, rfl⟩
              have bV : Below W.heap.size W V := by rw [hV]; exact hb.alloc hb.size _
              have zV : X2.heap.size < V.heap.size := by rw [hV]; simp
              have p0 : V.cell? ⟨X2.heap.size, 0, none⟩ = some (.int .i64 site) := by rw [hV]; go_simp
              have p1 : V.cell? ⟨X2.heap.size, 1, none⟩ = some (.int .i64 num) := by rw [hV]; go_simp
              have p2 : V.cell? ⟨X2.heap.size, 2, none⟩ = some (.int .i64 age) := by rw [hV]; go_simp
              have hwV := hB.trans (bV.mono hB.size)
              simp only at hn hDx hOx hTx
              obtain ⟨G, eG⟩ : ∃ G, G = idxI (dbT (site, num)) doubts := ⟨_, rfl⟩
              obtain ⟨O, eO⟩ : ∃ G, G = decide ((site, num) ∈ over) := ⟨_, rfl⟩
              obtain ⟨T, eT⟩ : ∃ G, G = txOK (site, num) := ⟨_, rfl⟩
              rw [← eG] at hDx hn
              rw [← eO] at hOx hn
              rw [← eT] at hTx hn
              clear eG eO eT
              obtain ⟨A, eA⟩ : ∃ A, A = inR age 0 1048576 := ⟨_, rfl⟩
              rw [← eA] at hn
              replace eA := eA.symm
              have HV : Hid (∀ U : World, Below V.heap.size V U → (U.cell? ⟨w.heap.size, 0, none⟩ = some (.slice ia il ic) ∧ U.cell? ⟨w.heap.size, 1, none⟩ = some (.slice la ll lc) ∧ U.cell? ⟨w.heap.size, 2, none⟩ = some (.slice (some ⟨b, off, none⟩) dl dc) ∧ U.cell? ⟨w.heap.size, 3, none⟩ = some (.slice oa ol oc)) ∧ U.cell? ⟨X2.heap.size, 0, none⟩ = some (.int .i64 site) ∧ U.cell? ⟨X2.heap.size, 1, none⟩ = some (.int .i64 num) ∧ U.cell? ⟨X2.heap.size, 2, none⟩ = some (.int .i64 age)) := fun U hU =>
                ⟨KA.out U (bV.trans (hU.mono bV.size)), (hU.cell (p := ⟨X2.heap.size, 0, none⟩) zV).trans p0, (hU.cell (p := ⟨X2.heap.size, 1, none⟩) zV).trans p1, (hU.cell (p := ⟨X2.heap.size, 2, none⟩) zV).trans p2⟩
              go_upto_region 24 with (fail)
              go_wp2
              rw [← hV]
              clear hV a0 a1 a2 c0 c1 c2 c3
              obtain ⟨c0, c1, c2, c3⟩ := KA.out _ bV
              go_loopw [11, 12] (fun s11 s12 wr => ∃ (j : Nat), j ≤ ll ∧ s12 = .int .i64 j ∧ s11 = .bool ((locks.take j).any (ofT (site, num))) ∧ Below V.heap.size V wr) (fun _ s12 _ => ll - (intOf s12).toNat)
              case atStart => exact ⟨0, Nat.zero_le _, rfl, by simp, Below.refl _ _⟩
              case round =>
                obtain ⟨j, hj, rfl, rfl, hb3⟩ := hrel
                clear c0 c1 c2 c3 p0 p1 p2
                obtain ⟨Y, eY⟩ : ∃ Y, Y = wr := ⟨_, rfl⟩
                rw [← eY] at hb3 ⊢
                clear eY
                obtain ⟨⟨c0, c1, c2, c3⟩, p0, p1, p2⟩ := HV.out _ hb3
                have hwY := hwV.trans (hb3.mono hwV.size)
                have hWY := bV.trans (hb3.mono bV.size)
                by_cases hjl : j < ll
                · have hjl' : (j : Int) < (ll : Int) := by omega
                  have hjk : j < locks.length := by have := HL.out; omega
                  have hst := take_any_at (p := ofT (site, num)) hjk
                  obtain ⟨b2, off2, rfl, zb2, hc2⟩ := lmem (by omega)
                  have hcells := hc2 j hjl
                  obtain ⟨y, ey⟩ : ∃ y, y = locks.getD j default := ⟨_, rfl⟩
                  rw [← ey] at hcells hst
                  clear ey hc2
                  obtain ⟨H, eH⟩ : ∃ H, H = (locks.take j).any (ofT (site, num)) := ⟨_, rfl⟩
                  rw [← eH] at hst ⊢
                  have Hst : Hid ((locks.take (j + 1)).any (ofT (site, num)) = (H || ofT (site, num) y)) := hst
                  clear eH hst
                  obtain ⟨⟨site2, num2⟩, key2, write2, value2, ask2⟩ := y
                  have a0 := hcells 0 (by decide)
                  have a1 := hcells 1 (by decide)
                  simp [LkV.cells] at a0 a1
                  rw [← hwY.cell (p := ⟨b2, off2 + j * 6, none⟩) zb2] at a0
                  rw [← hwY.cell (p := ⟨b2, off2 + j * 6 + 1, none⟩) zb2] at a1
                  clear hcells hn
                  cases H with
                  | true =>
                    go_wp2
                    go_quiet (fail)
                    go_wp2
                    go_roundw
                    case rel => exact ⟨j + 1, by omega, by go_num, by rw [Hst.out]; rfl, below_drewN hb3 nq⟩
                    case measure => simp [intOf]; omega
                  | false =>
                    by_cases e1 : site2 = site
                    · by_cases e2 : num2 = num
                      · subst e1 e2
                        go_wp2
                        go_quiet (fail)
                        go_wp2
                        go_roundw
                        case rel => exact ⟨j + 1, by omega, by go_num, by rw [Hst.out]; simp [ofT], below_drewN hb3 nq⟩
                        case measure => simp [intOf]; omega
                      · have e4 : (num2 == num) = false := by simpa using e2
                        subst e1
                        go_wp2
                        go_quiet (fail)
                        go_wp2
                        go_roundw
                        case rel => exact ⟨j + 1, by omega, by go_num, by rw [Hst.out]; simp [ofT, e2], below_drewN hb3 nq⟩
                        case measure => simp [intOf]; omega
                    · have e4 : (site2 == site) = false := by simpa using e1
                      go_wp2
                      go_quiet (fail)
                      go_wp2
                      go_roundw
                      case rel => exact ⟨j + 1, by omega, by go_num, by rw [Hst.out]; simp [ofT, e1], below_drewN hb3 nq⟩
                      case measure => simp [intOf]; omega
                · have hje : j = ll := by omega
                  have etk : locks.take j = locks := List.take_of_length_le (by have := HL.out; omega)
                  rw [etk]
                  clear etk hje
                  obtain ⟨H, eH⟩ : ∃ H, H = locks.any (ofT (site, num)) := ⟨_, rfl⟩
                  rw [← eH] at hn ⊢
                  clear eH
                  have hY1 := (HS.out _ hWY).1
                  obtain ⟨F, eF⟩ : ∃ F, F = (T && A && H && decide (G = (k : Int)) && !O) := ⟨_, rfl⟩
                  rw [← eF] at hn
                  have HF : Hid (F = (T && A && H && decide (G = (k : Int)) && !O)) := eF
                  clear eF
                  have hvY : Below V.heap.size V Y := hb3
                  go_upto_region 30 with (fail)
                  go_cut [201] (fun s201 wc => s201 = .bool (!F) ∧ Below V.heap.size V wc)
                  case first =>
                    clear hn hb3
                    cases T with
                    | false =>
                        go_wp2_with (first | (go_at_call 57; refine (hTx _).mono ?_; rintro e u ⟨rfl, hu⟩; replace hvY := hvY.trans (hu.mono hvY.size); clear hu c0 c1 c2 c3 p0 p1 p2; obtain ⟨⟨c0, c1, c2, c3⟩, p0, p1, p2⟩ := HV.out _ hvY) | (go_at_call 14; refine (in_any _ _ _ _).mono ?_; rintro e v ⟨rfl, hv⟩; rw [hv, eA]; clear hv) | (go_at_call 39; refine (hDx _ (HS.out _ (bV.trans (hvY.mono bV.size))).1).mono ?_; rintro e u ⟨rfl, hu⟩; replace hvY := hvY.trans (hu.mono hvY.size); clear hu c0 c1 c2 c3 p0 p1 p2; obtain ⟨⟨c0, c1, c2, c3⟩, p0, p1, p2⟩ := HV.out _ hvY) | (go_at_call 36; refine (hOx _ (HS.out _ (bV.trans (hvY.mono bV.size))).2).mono ?_; rintro e u ⟨rfl, hu⟩; replace hvY := hvY.trans (hu.mono hvY.size); clear hu c0 c1 c2 c3 p0 p1 p2; obtain ⟨⟨c0, c1, c2, c3⟩, p0, p1, p2⟩ := HV.out _ hvY))
                        go_meet
                        case rel => exact ⟨by rw [HF.out]; simp [*], hvY⟩
                      | true =>
                        cases A with
                        | false =>
                          go_wp2_with (first | (go_at_call 57; refine (hTx _).mono ?_; rintro e u ⟨rfl, hu⟩; replace hvY := hvY.trans (hu.mono hvY.size); clear hu c0 c1 c2 c3 p0 p1 p2; obtain ⟨⟨c0, c1, c2, c3⟩, p0, p1, p2⟩ := HV.out _ hvY) | (go_at_call 14; refine (in_any _ _ _ _).mono ?_; rintro e v ⟨rfl, hv⟩; rw [hv, eA]; clear hv) | (go_at_call 39; refine (hDx _ (HS.out _ (bV.trans (hvY.mono bV.size))).1).mono ?_; rintro e u ⟨rfl, hu⟩; replace hvY := hvY.trans (hu.mono hvY.size); clear hu c0 c1 c2 c3 p0 p1 p2; obtain ⟨⟨c0, c1, c2, c3⟩, p0, p1, p2⟩ := HV.out _ hvY) | (go_at_call 36; refine (hOx _ (HS.out _ (bV.trans (hvY.mono bV.size))).2).mono ?_; rintro e u ⟨rfl, hu⟩; replace hvY := hvY.trans (hu.mono hvY.size); clear hu c0 c1 c2 c3 p0 p1 p2; obtain ⟨⟨c0, c1, c2, c3⟩, p0, p1, p2⟩ := HV.out _ hvY))
                          go_meet
                          case rel => exact ⟨by rw [HF.out]; simp [*], hvY⟩
                        | true =>
                          cases H with
                          | false =>
                            go_wp2_with (first | (go_at_call 57; refine (hTx _).mono ?_; rintro e u ⟨rfl, hu⟩; replace hvY := hvY.trans (hu.mono hvY.size); clear hu c0 c1 c2 c3 p0 p1 p2; obtain ⟨⟨c0, c1, c2, c3⟩, p0, p1, p2⟩ := HV.out _ hvY) | (go_at_call 14; refine (in_any _ _ _ _).mono ?_; rintro e v ⟨rfl, hv⟩; rw [hv, eA]; clear hv) | (go_at_call 39; refine (hDx _ (HS.out _ (bV.trans (hvY.mono bV.size))).1).mono ?_; rintro e u ⟨rfl, hu⟩; replace hvY := hvY.trans (hu.mono hvY.size); clear hu c0 c1 c2 c3 p0 p1 p2; obtain ⟨⟨c0, c1, c2, c3⟩, p0, p1, p2⟩ := HV.out _ hvY) | (go_at_call 36; refine (hOx _ (HS.out _ (bV.trans (hvY.mono bV.size))).2).mono ?_; rintro e u ⟨rfl, hu⟩; replace hvY := hvY.trans (hu.mono hvY.size); clear hu c0 c1 c2 c3 p0 p1 p2; obtain ⟨⟨c0, c1, c2, c3⟩, p0, p1, p2⟩ := HV.out _ hvY))
                            go_meet
                            case rel => exact ⟨by rw [HF.out]; simp [*], hvY⟩
                          | true =>
                            by_cases hGk : G = (k : Int)
                            · subst hGk
                              cases O with
                              | false =>
                                go_wp2_with (first | (go_at_call 57; refine (hTx _).mono ?_; rintro e u ⟨rfl, hu⟩; replace hvY := hvY.trans (hu.mono hvY.size); clear hu c0 c1 c2 c3 p0 p1 p2; obtain ⟨⟨c0, c1, c2, c3⟩, p0, p1, p2⟩ := HV.out _ hvY) | (go_at_call 14; refine (in_any _ _ _ _).mono ?_; rintro e v ⟨rfl, hv⟩; rw [hv, eA]; clear hv) | (go_at_call 39; refine (hDx _ (HS.out _ (bV.trans (hvY.mono bV.size))).1).mono ?_; rintro e u ⟨rfl, hu⟩; replace hvY := hvY.trans (hu.mono hvY.size); clear hu c0 c1 c2 c3 p0 p1 p2; obtain ⟨⟨c0, c1, c2, c3⟩, p0, p1, p2⟩ := HV.out _ hvY) | (go_at_call 36; refine (hOx _ (HS.out _ (bV.trans (hvY.mono bV.size))).2).mono ?_; rintro e u ⟨rfl, hu⟩; replace hvY := hvY.trans (hu.mono hvY.size); clear hu c0 c1 c2 c3 p0 p1 p2; obtain ⟨⟨c0, c1, c2, c3⟩, p0, p1, p2⟩ := HV.out _ hvY))
                                go_meet
                                case rel => exact ⟨by rw [HF.out]; simp [*], hvY⟩
                              | true =>
                                go_wp2_with (first | (go_at_call 57; refine (hTx _).mono ?_; rintro e u ⟨rfl, hu⟩; replace hvY := hvY.trans (hu.mono hvY.size); clear hu c0 c1 c2 c3 p0 p1 p2; obtain ⟨⟨c0, c1, c2, c3⟩, p0, p1, p2⟩ := HV.out _ hvY) | (go_at_call 14; refine (in_any _ _ _ _).mono ?_; rintro e v ⟨rfl, hv⟩; rw [hv, eA]; clear hv) | (go_at_call 39; refine (hDx _ (HS.out _ (bV.trans (hvY.mono bV.size))).1).mono ?_; rintro e u ⟨rfl, hu⟩; replace hvY := hvY.trans (hu.mono hvY.size); clear hu c0 c1 c2 c3 p0 p1 p2; obtain ⟨⟨c0, c1, c2, c3⟩, p0, p1, p2⟩ := HV.out _ hvY) | (go_at_call 36; refine (hOx _ (HS.out _ (bV.trans (hvY.mono bV.size))).2).mono ?_; rintro e u ⟨rfl, hu⟩; replace hvY := hvY.trans (hu.mono hvY.size); clear hu c0 c1 c2 c3 p0 p1 p2; obtain ⟨⟨c0, c1, c2, c3⟩, p0, p1, p2⟩ := HV.out _ hvY))
                                go_meet
                                case rel => exact ⟨by rw [HF.out]; simp [*], hvY⟩
                            · skip
                              go_wp2_with (first | (go_at_call 57; refine (hTx _).mono ?_; rintro e u ⟨rfl, hu⟩; replace hvY := hvY.trans (hu.mono hvY.size); clear hu c0 c1 c2 c3 p0 p1 p2; obtain ⟨⟨c0, c1, c2, c3⟩, p0, p1, p2⟩ := HV.out _ hvY) | (go_at_call 14; refine (in_any _ _ _ _).mono ?_; rintro e v ⟨rfl, hv⟩; rw [hv, eA]; clear hv) | (go_at_call 39; refine (hDx _ (HS.out _ (bV.trans (hvY.mono bV.size))).1).mono ?_; rintro e u ⟨rfl, hu⟩; replace hvY := hvY.trans (hu.mono hvY.size); clear hu c0 c1 c2 c3 p0 p1 p2; obtain ⟨⟨c0, c1, c2, c3⟩, p0, p1, p2⟩ := HV.out _ hvY) | (go_at_call 36; refine (hOx _ (HS.out _ (bV.trans (hvY.mono bV.size))).2).mono ?_; rintro e u ⟨rfl, hu⟩; replace hvY := hvY.trans (hu.mono hvY.size); clear hu c0 c1 c2 c3 p0 p1 p2; obtain ⟨⟨c0, c1, c2, c3⟩, p0, p1, p2⟩ := HV.out _ hvY))
                              go_meet
                              case rel => exact ⟨by rw [HF.out]; simp [*], hvY⟩
                  case rest =>
                    obtain ⟨rfl, hu⟩ := hcut
                    have hwu := hwV.trans (hu.mono hwV.size)
                    have hWu := bV.trans (hu.mono bV.size)
                    cases F with
                    | false =>
                      go_wp2
                      go_ret
                      exact ⟨by rw [e3.out, hn.out]; simp, hwu⟩
                    | true =>
                      go_wp2
                      go_roundw
                      case rel => exact ⟨k + 1, by omega, by go_num, by show _ = _; rw [hn.out]; simp, hWu⟩
                      case measure => simp [intOf]; omega
            · have hfin : Hid (dbR locks over [] doubts = true) := by
                show _ = _
                rw [hat.out, List.drop_eq_nil_of_le (by have := HD.out; omega)]
                rfl
              have e4 : Hid (R = overGo [] over) := by show _ = _; rw [e3.out, hfin.out]; simp
              clear e3 hfin hat
              go_wp2
              go_loopw [13] (fun s13 wr => ∃ (k : Nat), k ≤ ol ∧ s13 = .int .i64 k ∧ Hid (overGo [] over = overGo (over.take k) (over.drop k)) ∧ Below W.heap.size W wr) (fun s13 _ => ol - (intOf s13).toNat)
              case atStart => exact ⟨0, Nat.zero_le _, rfl, by show _ = _; simp, hb⟩
              case round =>
                clear c0 c1 c2 c3 hb hwr
                obtain ⟨k, hk, rfl, hat, hb⟩ := hrel
                obtain ⟨X3, eX⟩ : ∃ X, X = wr := ⟨_, rfl⟩
                rw [← eX] at hb ⊢
                clear eX
                obtain ⟨c0, c1, c2, c3⟩ := KA.out _ hb
                have hwr := hB.trans (hb.mono hB.size)
                by_cases hlt : k < ol
                · have hlt' : (k : Int) < (ol : Int) := by omega
                  obtain ⟨b, off, rfl, zb, hc⟩ := omem (by omega)
                  have hkl : k < over.length := by have := HO.out; omega
                  have hcells := hc k hlt
                  have hCell : Hid (∀ i, i < ol → ∀ j, j < 2 → w.cell? ⟨b, off + i * 2 + j, none⟩ = (txCells (over.getD i default))[j]?) := hc
                  have hn : Hid (overGo [] over = (!(decide (over.getD k default ∈ over.take k)) && txOK (over.getD k default) && overGo (over.take (k + 1)) (over.drop (k + 1)))) := overGo_at' hkl hat.out
                  clear hat hc omem
                  obtain ⟨x, ex⟩ : ∃ x, x = over.getD k default := ⟨_, rfl⟩
                  rw [← ex] at hcells hn
                  clear ex
                  have hTx := fun w' => plainTxn_any x w'
                  obtain ⟨site, num⟩ := x
                  clear hDo hOv
                  have a0 := hcells 0 (by decide)
                  have a1 := hcells 1 (by decide)
                  simp [txCells] at a0 a1
                  clear hcells
                  simp only at hTx
                  obtain ⟨T, eT⟩ : ∃ G, G = txOK (site, num) := ⟨_, rfl⟩
                  rw [← eT] at hTx hn
                  clear eT
                  go_wp2
                  go_loopw [14] (fun s14 wr => ∃ (j : Nat), j ≤ k ∧ s14 = .int .i64 j ∧ (∀ i, i < j → over.getD i default ≠ (site, num)) ∧ Below W.heap.size W wr) (fun s14 _ => k - (intOf s14).toNat)
                  case atStart => exact ⟨0, Nat.zero_le _, rfl, fun i hi => absurd hi (by omega), hb⟩
                  case round =>
                    obtain ⟨j, hj, rfl, hnot, hb3⟩ := hrel
                    clear c0 c1 c2 c3
                    obtain ⟨Y, eY⟩ : ∃ Y, Y = wr := ⟨_, rfl⟩
                    rw [← eY] at hb3 ⊢
                    clear eY
                    obtain ⟨c0, c1, c2, c3⟩ := KA.out _ hb3
                    have hwY := hB.trans (hb3.mono hB.size)
                    have a0' := (hwY.cell (p := ⟨b, off + k * 2, none⟩) zb).trans a0
                    have a1' := (hwY.cell (p := ⟨b, off + k * 2 + 1, none⟩) zb).trans a1
                    by_cases hjk : j < k
                    · have hjk' : (j : Int) < (k : Int) := by omega
                      have hjl' : (j : Int) < (ol : Int) := by omega
                      have hjo : j < over.length := by omega
                      have hcells := hCell.out j (by omega)
                      have hmem : over.getD j default ∈ over.take k := by rw [List.mem_take_iff_getElem]; exact ⟨j, by omega, by simp [List.getD, hjo]⟩
                      have hnot' : over.getD j default ≠ (site, num) → ∀ i, i < j + 1 → over.getD i default ≠ (site, num) := fun hf i hi => by
                        by_cases e : i = j
                        · rw [e]; exact hf
                        · exact hnot i (by omega)
                      obtain ⟨y, ey⟩ : ∃ y, y = over.getD j default := ⟨_, rfl⟩
                      rw [← ey] at hcells hmem hnot'
                      clear ey
                      obtain ⟨site2, num2⟩ := y
                      have q0 := hcells 0 (by decide)
                      have q1 := hcells 1 (by decide)
                      simp [txCells] at q0 q1
                      rw [← hwY.cell (p := ⟨b, off + j * 2, none⟩) zb] at q0
                      rw [← hwY.cell (p := ⟨b, off + j * 2 + 1, none⟩) zb] at q1
                      clear hcells
                      by_cases e1 : site2 = site
                      · by_cases e2 : num2 = num
                        · subst e1 e2
                          have hd : decide ((site2, num2) ∈ over.take k) = true := by simp [hmem]
                          clear hnot'
                          go_wp2
                          go_quiet (fail)
                          go_wp2
                          go_ret
                          exact ⟨by rw [e4.out, hn.out, hd]; simp, below_drewN hwY nq⟩
                        · have hh := hnot' (by simp; intro _ e; exact e2 e)
                          have e3 : (num2 == num) = false := by simpa using e2
                          clear hnot' hmem
                          subst e1
                          go_wp2
                          go_quiet (fail)
                          go_wp2
                          go_roundw
                          case rel => exact ⟨j + 1, by omega, by go_num, hh, below_drewN hb3 nq⟩
                          case measure => simp [intOf]; omega
                      · have hh := hnot' (by simp; intro e; exact absurd e e1)
                        have e3 : (site2 == site) = false := by simpa using e1
                        clear hnot' hmem
                        go_wp2
                        go_quiet (fail)
                        go_wp2
                        go_roundw
                        case rel => exact ⟨j + 1, by omega, by go_num, hh, below_drewN hb3 nq⟩
                        case measure => simp [intOf]; omega
                    · have hjk2 : j = k := by omega
                      subst hjk2
                      have hd : decide ((site, num) ∈ over.take j) = false := by
                        simp only [decide_eq_false_iff_not]
                        intro hm
                        obtain ⟨i, hi, e⟩ := List.getElem_of_mem hm
                        have hij : i < j := by simp at hi; omega
                        have hio : i < over.length := by omega
                        have e' : over[i] = (site, num) := by simpa using e
                        exact hnot i hij (by simp [List.getD, hio, e'])
                      cases T with
                      | false =>
                        go_wp2_with (go_at_call 57; refine (hTx _).mono ?_; rintro e u ⟨rfl, hu⟩)
                        go_ret
                        exact ⟨by rw [e4.out, hn.out]; simp, hwY.trans (hu.mono hwY.size)⟩
                      | true =>
                        go_wp2_with (go_at_call 57; refine (hTx _).mono ?_; rintro e u ⟨rfl, hu⟩)
                        go_roundw
                        case rel => exact ⟨j + 1, by omega, by go_num, by show _ = _; rw [hn.out, hd]; simp, hb3.trans (hu.mono hb3.size)⟩
                        case measure => simp [intOf]; omega
                · have hfin : overGo [] over = true := by
                    rw [hat.out, List.drop_eq_nil_of_le (by have := HO.out; omega)]
                    rfl
                  go_wp2
                  go_ret
                  exact ⟨by rw [e4.out, hfin]; rfl, hwr⟩
  · have h24' : (24 : Int) < (ll : Int) := by omega
    go_enter Tryz.func56, Tryz.ntmps56
    go_wp2
    rw [← hW]
    go_ret
    exact ⟨by rw [e0.out]; simp [h24], hB⟩
end Go.Proofs.YtekglahigjblkaaGreatDoor.St
/- The contract of the document's askFault. -/
namespace Go.Proofs.YtekglahigjblkaaGreatDoor.St
open Go.ChangeShapes Go.WideShapes Go.ChangeAt Go.RowKit
set_option linter.unusedVariables false

def askErr (s : SV) (t : Int × Int) (key : Int) : Int := if storeOK s then (if txOK t && inR key 0 7 then 0 else 2) else 9

set_option maxHeartbeats 1000000 in
theorem askFault_any (s : SV) (t : Int × Int) (key : Int) (w : World) (h : IsStore w s) :
    Calls Tryz.prog 33 #[s.val, .agg #[.int .i64 t.1, .int .i64 t.2], .int .i64 key] w fun e w' => e = .returned (.int .i64 (askErr s t key)) ∧ Below w.heap.size w w' := by
  have hM := fun w' h1 => storeMay_any s w' h1
  have hT := fun w' => plainTxn_any t w'
  have eR : Hid (askErr s t key = if storeOK s then (if txOK t && inR key 0 7 then 0 else 2) else 9) := rfl
  obtain ⟨R, e0⟩ : ∃ R, R = askErr s t key := ⟨_, rfl⟩
  obtain ⟨S, e1⟩ : ∃ R, R = storeOK s := ⟨_, rfl⟩
  obtain ⟨T, e2⟩ : ∃ R, R = txOK t := ⟨_, rfl⟩
  obtain ⟨K, e3⟩ : ∃ R, R = inR key 0 7 := ⟨_, rfl⟩
  rw [← e0, ← e1, ← e2, ← e3] at eR
  rw [← e1] at hM
  rw [← e2] at hT
  rw [← e0]
  replace e3 := e3.symm
  clear e0 e1 e2
  have hh := h
  obtain ⟨ia, il, ic, la, ll, lc, da, dl, dc, oa, ol, oc, items, locks, doubts, over⟩ := s
  obtain ⟨ts, tn⟩ := t
  simp only [SV.val] at *
  obtain ⟨W, hW⟩ : ∃ W : World, W = (w.alloc (.cells #[.slice ia il ic, .slice la ll lc, .slice da dl dc, .slice oa ol oc] 31)).alloc (.cells #[.int .i64 ts, .int .i64 tn] 51) := ⟨_, rfl⟩
  have hB : Below w.heap.size w W := by rw [hW]; exact ((Below.refl _ _).alloc (Nat.le_refl _) _).alloc (by simp) _
  have zW : W.heap.size = w.heap.size + 2 := by rw [hW]; simp
  have z1 : w.heap.size + 1 < W.heap.size := by omega
  clear zW
  have c0 : W.cell? ⟨w.heap.size, 0, none⟩ = some (.slice ia il ic) := by rw [hW]; go_simp
  have c1 : W.cell? ⟨w.heap.size, 1, none⟩ = some (.slice la ll lc) := by rw [hW]; go_simp
  have c2 : W.cell? ⟨w.heap.size, 2, none⟩ = some (.slice da dl dc) := by rw [hW]; go_simp
  have c3 : W.cell? ⟨w.heap.size, 3, none⟩ = some (.slice oa ol oc) := by rw [hW]; go_simp
  have d0 : W.cell? ⟨w.heap.size + 1, 0, none⟩ = some (.int .i64 ts) := by rw [hW]; go_simp
  have d1 : W.cell? ⟨w.heap.size + 1, 1, none⟩ = some (.int .i64 tn) := by rw [hW]; go_simp
  have hSW := hh.below hB
  go_enter Tryz.func33, Tryz.ntmps33
  go_upto_region 1 with (fail)
  rw [← hW]
  clear hW
  cases S <;> cases T <;> cases K
  all_goals
    go_wp2_with (first
      | (go_at_call 56; refine (hM _ hSW).mono ?_; rintro e w1 ⟨rfl, hb1⟩; have hw1 := hB.trans (hb1.mono hB.size); have x0 := (hb1.cell (p := ⟨w.heap.size + 1, 0, none⟩) z1).trans d0; have x1 := (hb1.cell (p := ⟨w.heap.size + 1, 1, none⟩) z1).trans d1)
      | (go_at_call 57; refine (hT _).mono ?_; rintro e w2 ⟨rfl, hb2⟩; have hw2 := hw1.trans (hb2.mono hw1.size))
      | (go_at_call 14; refine (in_any _ _ _ _).mono ?_; rintro e u ⟨rfl, hu⟩; rw [hu, e3]; clear hu))
    go_ret
    exact ⟨by rw [eR.out]; rfl, by first | exact hw2 | exact hw1⟩

end Go.Proofs.YtekglahigjblkaaGreatDoor.St
/- Contracts of the document's functions that look through a store: lockOf, others, itemOf, askFault. -/
namespace Go.Proofs.YtekglahigjblkaaGreatDoor.St
open Go.ChangeShapes Go.WideShapes Go.ChangeAt Go.RowKit
set_option linter.unusedVariables false

theorem countP_at {α : Type} [Inhabited α] {p : α → Bool} {xs : List α} {j : Nat} (hj : j < xs.length) : (xs.take (j + 1)).countP p = (xs.take j).countP p + (if p (xs.getD j default) then 1 else 0) := by
  rw [take_at hj, List.countP_append]
  simp [List.countP_cons]
set_option maxHeartbeats 4000000 in
theorem lockOf_any (s : SV) (t : Int × Int) (key : Int) (w : World) (h : IsLocks w s.la s.ll s.lc s.locks) :
    Calls Tryz.prog 35 #[s.val, .agg #[.int .i64 t.1, .int .i64 t.2], .int .i64 key] w fun e w' => e = .returned (.int .i64 (idxI (byT t key) s.locks)) ∧ Below w.heap.size w w' := by
  obtain ⟨ia, il, ic, la, ll, lc, da, dl, dc, oa, ol, oc, items, locks, doubts, over⟩ := s
  obtain ⟨ts, tn⟩ := t
  simp only [SV.val] at *
  obtain ⟨hlen, hcap, hmax, _, hmem⟩ := h
  have HL : Hid (locks.length = ll) := hlen
  clear hlen
  unfold maxLen at hmax
  obtain ⟨W, hW⟩ : ∃ W : World, W = (w.alloc (.cells #[.slice ia il ic, .slice la ll lc, .slice da dl dc, .slice oa ol oc] 31)).alloc (.cells #[.int .i64 ts, .int .i64 tn] 51) := ⟨_, rfl⟩
  have hB : Below w.heap.size w W := by rw [hW]; exact ((Below.refl _ _).alloc (Nat.le_refl _) _).alloc (by simp) _
  have zW : W.heap.size = w.heap.size + 2 := by rw [hW]; simp
  have c1 : W.cell? ⟨w.heap.size, 1, none⟩ = some (.slice la ll lc) := by rw [hW]; go_simp
  have d0 : W.cell? ⟨w.heap.size + 1, 0, none⟩ = some (.int .i64 ts) := by rw [hW]; go_simp
  have d1 : W.cell? ⟨w.heap.size + 1, 1, none⟩ = some (.int .i64 tn) := by rw [hW]; go_simp
  have z0 : w.heap.size < W.heap.size := by omega
  have z1 : w.heap.size + 1 < W.heap.size := by omega
  clear zW
  go_enter Tryz.func35, Tryz.ntmps35
  go_wp2
  rw [← hW]
  clear hW
  go_loopw [7] (fun s7 wr => ∃ (k : Nat), k ≤ ll ∧ s7 = .int .i64 k ∧ (∀ i, i < k → byT (ts, tn) key (locks.getD i default) = false) ∧ Below W.heap.size W wr) (fun s7 _ => ll - (intOf s7).toNat)
  case atStart => exact ⟨0, Nat.zero_le _, rfl, fun i hi => absurd hi (by omega), Below.refl _ _⟩
  case round =>
    obtain ⟨k, hk, rfl, hnot, hb⟩ := hrel
    have hwr := hB.trans (hb.mono hB.size)
    have x2 := (hb.cell (p := ⟨w.heap.size, 1, none⟩) z0).trans c1
    have y0 := (hb.cell (p := ⟨w.heap.size + 1, 0, none⟩) z1).trans d0
    have y1 := (hb.cell (p := ⟨w.heap.size + 1, 1, none⟩) z1).trans d1
    by_cases hlt : k < ll
    · have hlt' : (k : Int) < (ll : Int) := by omega
      obtain ⟨b, off, rfl, zb, hc⟩ := hmem (by omega)
      have hcells := hc k hlt
      have hhit := idxI_hit (p := byT (ts, tn) key) (l := locks) (k := k) (by have := HL.out; omega) hnot
      have hnot' : byT (ts, tn) key (locks.getD k default) = false → ∀ i, i < k + 1 → byT (ts, tn) key (locks.getD i default) = false := fun hf i hi => by
        by_cases e : i = k
        · rw [e]; exact hf
        · exact hnot i (by omega)
      obtain ⟨x, ex⟩ : ∃ x, x = locks.getD k default := ⟨_, rfl⟩
      rw [← ex] at hcells hhit hnot'
      clear ex
      obtain ⟨⟨site, num⟩, key2, write, value, ask⟩ := x
      have a0 := hcells 0 (by decide)
      have a1 := hcells 1 (by decide)
      have a2 := hcells 2 (by decide)
      simp [LkV.cells] at a0 a1 a2
      rw [← hwr.cell (p := ⟨b, off + k * 6, none⟩) zb] at a0
      rw [← hwr.cell (p := ⟨b, off + k * 6 + 1, none⟩) zb] at a1
      rw [← hwr.cell (p := ⟨b, off + k * 6 + 2, none⟩) zb] at a2
      clear hcells hc
      by_cases e1 : site = ts
      · by_cases e2 : num = tn
        · subst e1 e2
          by_cases e5 : key2 = key
          · subst e5
            have hh := hhit (by simp [byT])
            clear hhit hnot'
            go_wp2
            go_quiet (fail)
            go_wp2
            go_ret
            exact ⟨by rw [hh]; rfl, below_drewN hwr nq⟩
          · have hh := hnot' (by simp [byT, e5])
            have e6 : (key2 == key) = false := by simpa using e5
            clear hhit hnot'
            go_wp2
            go_quiet (fail)
            go_wp2
            go_roundw
            case rel => exact ⟨k + 1, by omega, by go_num, hh, below_drewN hb nq⟩
            case measure => simp [intOf]; omega
        · have hh := hnot' (by simp [byT]; intro _ e; exact absurd e e2)
          have e3 : (num == tn) = false := by simpa using e2
          clear hhit hnot'
          subst e1
          go_wp2
          go_quiet (fail)
          go_wp2
          go_roundw
          case rel => exact ⟨k + 1, by omega, by go_num, hh, below_drewN hb nq⟩
          case measure => simp [intOf]; omega
      · have hh := hnot' (by simp [byT]; intro e; exact absurd e e1)
        have e3 : (site == ts) = false := by simpa using e1
        clear hhit hnot'
        go_wp2
        go_quiet (fail)
        go_wp2
        go_roundw
        case rel => exact ⟨k + 1, by omega, by go_num, hh, below_drewN hb nq⟩
        case measure => simp [intOf]; omega
    · have hfin : idxI (byT (ts, tn) key) locks = -1 := idxI_none (fun i hi => hnot i (by have := HL.out; omega))
      go_wp2
      go_ret
      exact ⟨by rw [hfin]; rfl, hwr⟩

set_option maxHeartbeats 4000000 in
theorem itemOf_any (s : SV) (ky : Int) (w : World) (h : IsItems w s.ia s.il s.ic s.items) :
    Calls Tryz.prog 37 #[s.val, .int .i64 ky] w fun e w' => e = .returned (itemAt s.items ky).val ∧ Below w.heap.size w w' := by
  obtain ⟨ia, il, ic, la, ll, lc, da, dl, dc, oa, ol, oc, items, locks, doubts, over⟩ := s
  simp only [SV.val] at *
  have eR : Hid (itemAt items ky = if idxI (kyT ky) items < 0 then ⟨ky, 0, 0⟩ else items.getD (idxI (kyT ky) items).toNat default) := rfl
  obtain ⟨R, e0⟩ : ∃ R, R = itemAt items ky := ⟨_, rfl⟩
  rw [← e0] at eR ⊢
  clear e0
  obtain ⟨rk, rv, rn⟩ := R
  simp only [ItV.val]
  obtain ⟨hlen, hcap, hmax, _, hmem⟩ := h
  have HL : Hid (items.length = il) := hlen
  clear hlen
  unfold maxLen at hmax
  obtain ⟨W, hW⟩ : ∃ W : World, W = (w.alloc (.cells #[.slice ia il ic, .slice la ll lc, .slice da dl dc, .slice oa ol oc] 31)).alloc (.cells #[.int .i64 0, .int .i64 0, .int .i64 0] 68) := ⟨_, rfl⟩
  have hB : Below w.heap.size w W := by rw [hW]; exact ((Below.refl _ _).alloc (Nat.le_refl _) _).alloc (by simp) _
  have zW : W.heap.size = w.heap.size + 2 := by rw [hW]; simp
  have c0 : W.cell? ⟨w.heap.size, 0, none⟩ = some (.slice ia il ic) := by rw [hW]; go_simp
  have r0 : W.cell? ⟨w.heap.size + 1, 0, none⟩ = some (.int .i64 0) := by rw [hW]; go_simp
  have r1 : W.cell? ⟨w.heap.size + 1, 1, none⟩ = some (.int .i64 0) := by rw [hW]; go_simp
  have r2 : W.cell? ⟨w.heap.size + 1, 2, none⟩ = some (.int .i64 0) := by rw [hW]; go_simp
  have f0 : W.frozen? ⟨w.heap.size + 1, 0, none⟩ = false := by rw [hW]; go_simp
  have f1 : W.frozen? ⟨w.heap.size + 1, 1, none⟩ = false := by rw [hW]; go_simp
  have f2 : W.frozen? ⟨w.heap.size + 1, 2, none⟩ = false := by rw [hW]; go_simp
  have z0 : w.heap.size < W.heap.size := by omega
  have z1 : w.heap.size + 1 < W.heap.size := by omega
  clear zW
  have hfin : ∀ x y z, Below w.heap.size w (((W.setCell ⟨w.heap.size + 1, 0, none⟩ x).setCell ⟨w.heap.size + 1, 1, none⟩ y).setCell ⟨w.heap.size + 1, 2, none⟩ z) := fun x y z =>
    ((hB.setCell (by simp) _).setCell (by simp) _).setCell (by simp) _
  go_enter Tryz.func37, Tryz.ntmps37
  go_wp2
  rw [← hW]
  clear hW
  go_loopw [5] (fun s5 wr => ∃ (k : Nat), k ≤ il ∧ s5 = .int .i64 k ∧ (∀ i, i < k → kyT ky (items.getD i default) = false) ∧ wr = W) (fun s5 _ => il - (intOf s5).toNat)
  case atStart => exact ⟨0, Nat.zero_le _, rfl, fun i hi => absurd hi (by omega), rfl⟩
  case round =>
    obtain ⟨k, hk, rfl, hnot, hwr⟩ := hrel
    subst hwr
    by_cases hlt : k < il
    · have hlt' : (k : Int) < (il : Int) := by omega
      obtain ⟨b, off, rfl, zb, hc⟩ := hmem (by omega)
      have hcells := hc k hlt
      have hhit := idxI_hit (p := kyT ky) (l := items) (k := k) (by have := HL.out; omega) hnot
      have hnot' : kyT ky (items.getD k default) = false → ∀ i, i < k + 1 → kyT ky (items.getD i default) = false := fun hf i hi => by
        by_cases e : i = k
        · rw [e]; exact hf
        · exact hnot i (by omega)
      have hR : kyT ky (items.getD k default) = true → ItV.mk rk rv rn = items.getD k default := fun hp => by
        have := hhit hp
        rw [eR.out, this, if_neg (by omega)]
        simp
      obtain ⟨x, ex⟩ : ∃ x, x = items.getD k default := ⟨_, rfl⟩
      rw [← ex] at hcells hnot' hR
      clear ex hhit eR
      obtain ⟨key2, value, version⟩ := x
      have a0 := hcells 0 (by decide)
      have a1 := hcells 1 (by decide)
      have a2 := hcells 2 (by decide)
      simp [ItV.cells] at a0 a1 a2
      rw [← hB.cell (p := ⟨b, off + k * 3, none⟩) zb] at a0
      rw [← hB.cell (p := ⟨b, off + k * 3 + 1, none⟩) zb] at a1
      rw [← hB.cell (p := ⟨b, off + k * 3 + 2, none⟩) zb] at a2
      clear hcells hc
      by_cases e5 : key2 = ky
      · subst e5
        obtain ⟨rfl, rfl, rfl⟩ := ItV.mk.inj (hR (by simp [kyT]))
        clear hR hnot'
        go_wp2
        refine bodyPost_ret (v := .agg #[.int .i64 _, .int .i64 _, .int .i64 _]) (by simp [results, Tryz.results37, go_sem, r0, r1, r2]) rfl ⟨rfl, hfin _ _ _⟩
      · have hh := hnot' (by simp [kyT, e5])
        clear hnot' hR
        go_wp2
        go_roundw
        case rel => exact ⟨k + 1, by omega, by go_num, hh, by first | trivial | rfl⟩
        case measure => simp [intOf]; omega
    · have hfi : idxI (kyT ky) items = -1 := idxI_none (fun i hi => hnot i (by have := HL.out; omega))
      have hR := eR.out
      rw [hfi, if_pos (by omega)] at hR
      clear eR
      obtain ⟨rfl, rfl, rfl⟩ := ItV.mk.inj hR
      go_wp2
      refine bodyPost_ret (v := .agg #[.int .i64 _, .int .i64 0, .int .i64 0]) (by simp [results, Tryz.results37, go_sem, r0, r1, r2]; first | done | rfl) rfl ⟨rfl, hfin _ _ _⟩
end Go.Proofs.YtekglahigjblkaaGreatDoor.St
