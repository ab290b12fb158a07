/- Texts of this claim, one behind the other. -/
import Derived.Test.YtekglahigjblkaaGreatDoorM13RecoverRebuilds
import Derived.Deep.RegionWith
import Derived.Deep.RegionHeld3
import Derived.Deep.Cut
import Derived.Lib.QuietBelow
/- Contracts of store.against, and of the function that it hands back. -/
namespace Go.Proofs.YtekglahigjblkaaGreatDoor.St
open Go.ChangeShapes Go.WideShapes Go.ChangeAt Go.RowKit
set_option linter.unusedVariables false

set_option maxHeartbeats 2000000 in
theorem against_asks (b : Nat) (k : LkV) (w : World) (c0 : w.cell? ⟨b, 0, none⟩ = some (.int .i64 k.t.1)) (c1 : w.cell? ⟨b, 1, none⟩ = some (.int .i64 k.t.2)) (c2 : w.cell? ⟨b, 2, none⟩ = some (.int .i64 k.key)) (c3 : w.cell? ⟨b, 3, none⟩ = some (.bool k.write)) (z : b < w.heap.size) : Asks 109 #[.pointer (some ⟨b, 0, none⟩)] LkV.val (against k) w := by
  refine ⟨enters_of Tryz.func109 (by kernel_rfl) rfl, fun x w' hb => ?_⟩
  rw [← hb.cell (p := ⟨b, 0, none⟩) z] at c0
  rw [← hb.cell (p := ⟨b, 1, none⟩) z] at c1
  rw [← hb.cell (p := ⟨b, 2, none⟩) z] at c2
  rw [← hb.cell (p := ⟨b, 3, none⟩) z] at c3
  have y := Nat.lt_of_lt_of_le z hb.size
  obtain ⟨⟨ts, tn⟩, ky, wt, vl, ak⟩ := k
  obtain ⟨⟨site, num⟩, key, write, value, ask⟩ := x
  simp only [LkV.val] at *
  have hA : ∀ o, Below w'.heap.size w' (w'.alloc o) := fun o => (Below.refl _ _).alloc (Nat.le_refl _) _
  show Calls Tryz.prog 109 #[_, .pointer (some ⟨b, 0, none⟩)] w' _
  go_enter Tryz.func109, Tryz.ntmps109
  go_wp2
  all_goals go_ret
  all_goals exact ⟨ret_bool (by simp_all [against]), hA _⟩
theorem against_any (k : LkV) (w : World) :
    Calls Tryz.prog 107 #[k.val] w fun e w' => ∃ b : Nat, e = .returned (.func (.func 109) #[] #[.pointer (some ⟨b, 0, none⟩)]) ∧ Asks 109 #[.pointer (some ⟨b, 0, none⟩)] LkV.val (against k) w' ∧ Below w.heap.size w w' := by
  obtain ⟨⟨site, num⟩, key, write, value, ask⟩ := k
  simp only [LkV.val]
  obtain ⟨W, hW⟩ : ∃ W : World, W = w.alloc (.cells #[.int .i64 site, .int .i64 num, .int .i64 key, .bool write, .int .i64 value, .int .i64 ask] 70) := ⟨_, rfl⟩
  have hB : Below w.heap.size w W := by rw [hW]; exact (Below.refl _ _).alloc (Nat.le_refl _) _
  have zW : w.heap.size < W.heap.size := by rw [hW]; simp
  have c0 : W.cell? ⟨w.heap.size, 0, none⟩ = some (.int .i64 site) := by rw [hW]; go_simp
  have c1 : W.cell? ⟨w.heap.size, 1, none⟩ = some (.int .i64 num) := by rw [hW]; go_simp
  have c2 : W.cell? ⟨w.heap.size, 2, none⟩ = some (.int .i64 key) := by rw [hW]; go_simp
  have c3 : W.cell? ⟨w.heap.size, 3, none⟩ = some (.bool write) := by rw [hW]; go_simp
  have hq := against_asks w.heap.size ⟨(site, num), key, write, value, ask⟩ W c0 c1 c2 c3 zW
  go_enter Tryz.func107, Tryz.ntmps107
  go_wp2
  rw [← hW]
  go_ret
  exact ⟨_, rfl, hq, hB⟩
end Go.Proofs.YtekglahigjblkaaGreatDoor.St
/- Contracts of store.lockMayBe and locksMayBe. -/
namespace Go.Proofs.YtekglahigjblkaaGreatDoor.St
open Go.ChangeShapes Go.WideShapes Go.ChangeAt Go.RowKit
set_option linter.unusedVariables false

set_option maxHeartbeats 2000000 in
theorem lockMayBe_any (k : LkV) (w : World) :
    Calls Tryz.prog 106 #[k.val] w fun e w' => e = .returned (.bool (lockOK k)) ∧ Below w.heap.size w w' := by
  obtain ⟨⟨site, num⟩, key, write, value, ask⟩ := k
  simp only [LkV.val]
  obtain ⟨W, hW⟩ : ∃ W : World, W = w.alloc (.cells #[.int .i64 site, .int .i64 num, .int .i64 key, .bool write, .int .i64 value, .int .i64 ask] 70) := ⟨_, rfl⟩
  have hB : Below w.heap.size w W := by rw [hW]; exact (Below.refl _ _).alloc (Nat.le_refl _) _
  have zW : w.heap.size < W.heap.size := by rw [hW]; simp
  have c0 : W.cell? ⟨w.heap.size, 0, none⟩ = some (.int .i64 site) := by rw [hW]; go_simp
  have c1 : W.cell? ⟨w.heap.size, 1, none⟩ = some (.int .i64 num) := by rw [hW]; go_simp
  have c2 : W.cell? ⟨w.heap.size, 2, none⟩ = some (.int .i64 key) := by rw [hW]; go_simp
  have c3 : W.cell? ⟨w.heap.size, 3, none⟩ = some (.bool write) := by rw [hW]; go_simp
  have c4 : W.cell? ⟨w.heap.size, 4, none⟩ = some (.int .i64 value) := by rw [hW]; go_simp
  have c5 : W.cell? ⟨w.heap.size, 5, none⟩ = some (.int .i64 ask) := by rw [hW]; go_simp
  have hK : Hid (∀ V : World, Below W.heap.size W V → V.cell? ⟨w.heap.size, 2, none⟩ = some (.int .i64 key) ∧ V.cell? ⟨w.heap.size, 3, none⟩ = some (.bool write) ∧ V.cell? ⟨w.heap.size, 4, none⟩ = some (.int .i64 value) ∧ V.cell? ⟨w.heap.size, 5, none⟩ = some (.int .i64 ask)) := fun V hV =>
    ⟨(hV.cell (p := ⟨w.heap.size, 2, none⟩) zW).trans c2, (hV.cell (p := ⟨w.heap.size, 3, none⟩) zW).trans c3, (hV.cell (p := ⟨w.heap.size, 4, none⟩) zW).trans c4, (hV.cell (p := ⟨w.heap.size, 5, none⟩) zW).trans c5⟩
  have hT := fun w' => isTxn_any (site, num) w'
  simp only at hT
  have e0 : Hid (lockOK ⟨(site, num), key, write, value, ask⟩ = (txOK (site, num) && inR key 0 7 && inR value 0 1073741824 && inR ask 0 1048576 && (write || (decide (value = 0) && decide (ask = 0))))) := rfl
  obtain ⟨L, eL⟩ : ∃ L, L = lockOK ⟨(site, num), key, write, value, ask⟩ := ⟨_, rfl⟩
  rw [← eL] at e0 ⊢
  clear eL
  obtain ⟨T, eT⟩ : ∃ T, T = txOK (site, num) := ⟨_, rfl⟩
  rw [← eT] at hT e0
  clear eT
  go_enter Tryz.func106, Tryz.ntmps106
  go_upto_region 1 with (fail)
  rw [← hW]
  clear hW
  cases T with
  | false =>
    go_wp2_with (go_at_call 86; refine (hT _).mono ?_; rintro e w1 ⟨rfl, hb1⟩; obtain ⟨k2, k3, k4, k5⟩ := hK.out _ hb1)
    go_ret
    exact ⟨by rw [e0.out]; rfl, hB.trans (hb1.mono hB.size)⟩
  | true =>
    cases h2 : inR key 0 7 with
    | false =>
      go_wp2_with (first | (go_at_call 86; refine (hT _).mono ?_; rintro e w1 ⟨rfl, hb1⟩; obtain ⟨k2, k3, k4, k5⟩ := hK.out _ hb1) | (go_at_call 78; refine (key_any _ _).mono ?_; rintro e u ⟨rfl, hu⟩; rw [hu, h2]; clear hu))
      go_ret
      exact ⟨by rw [e0.out, h2]; rfl, hB.trans (hb1.mono hB.size)⟩
    | true =>
      cases h3 : inR value 0 1073741824 with
      | false =>
        go_wp2_with (first | (go_at_call 86; refine (hT _).mono ?_; rintro e w1 ⟨rfl, hb1⟩; obtain ⟨k2, k3, k4, k5⟩ := hK.out _ hb1) | (go_at_call 78; refine (key_any _ _).mono ?_; rintro e u ⟨rfl, hu⟩; rw [hu, h2]; clear hu) | (go_at_call 63; refine (value_any _ _).mono ?_; rintro e u ⟨rfl, hu⟩; rw [hu, h3]; clear hu))
        go_ret
        exact ⟨by rw [e0.out, h2, h3]; rfl, hB.trans (hb1.mono hB.size)⟩
      | true =>
        cases h4 : inR ask 0 1048576 with
        | false =>
          go_wp2_with (first | (go_at_call 86; refine (hT _).mono ?_; rintro e w1 ⟨rfl, hb1⟩; obtain ⟨k2, k3, k4, k5⟩ := hK.out _ hb1) | (go_at_call 78; refine (key_any _ _).mono ?_; rintro e u ⟨rfl, hu⟩; rw [hu, h2]; clear hu) | (go_at_call 63; refine (value_any _ _).mono ?_; rintro e u ⟨rfl, hu⟩; rw [hu, h3]; clear hu) | (go_at_call 64; refine (isAsk_any _ _).mono ?_; rintro e u ⟨rfl, hu⟩; rw [hu, h4]; clear hu))
          go_ret
          exact ⟨by rw [e0.out, h2, h3, h4]; rfl, hB.trans (hb1.mono hB.size)⟩
        | true =>
          go_wp2_with (first | (go_at_call 86; refine (hT _).mono ?_; rintro e w1 ⟨rfl, hb1⟩; obtain ⟨k2, k3, k4, k5⟩ := hK.out _ hb1) | (go_at_call 78; refine (key_any _ _).mono ?_; rintro e u ⟨rfl, hu⟩; rw [hu, h2]; clear hu) | (go_at_call 63; refine (value_any _ _).mono ?_; rintro e u ⟨rfl, hu⟩; rw [hu, h3]; clear hu) | (go_at_call 64; refine (isAsk_any _ _).mono ?_; rintro e u ⟨rfl, hu⟩; rw [hu, h4]; clear hu))
          all_goals go_ret
          all_goals (refine ⟨ret_bool ?_, hB.trans (hb1.mono hB.size)⟩; rw [e0.out, h2, h3, h4]; first | (simp_all; done) | (simp_all; rfl))

theorem locksGo_at {xs : List LkV} {k : Nat} (hk : k < xs.length) (h : locksGo [] xs = locksGo (xs.take k) (xs.drop k)) :
    locksGo [] xs = (lockOK (xs.getD k default) && !((xs.take k).any (against (xs.getD k default))) && locksGo (xs.take (k + 1)) (xs.drop (k + 1))) := by
  rw [h, drop_at hk, take_at hk]
  rfl

set_option maxHeartbeats 4000000 in
theorem locksMayBe_any (a : Option Addr) (len cap : Nat) (xs : List LkV) (w : World) (h : IsLocks w a len cap xs) :
    Calls Tryz.prog 99 #[.slice a len cap] w fun e w' => e = .returned (.bool (locksOK xs)) ∧ Below w.heap.size w w' := by
  have hh := h
  obtain ⟨hlen, hcap, hmax, _, hmem⟩ := h
  have e0 : Hid (locksOK xs = (decide (len ≤ 24) && locksGo [] xs)) := by show _ = _; rw [← hlen]; rfl
  have HL : Hid (xs.length = len) := hlen
  clear hlen
  unfold maxLen at hmax
  by_cases h24 : len ≤ 24
  · have h24' : (len : Int) ≤ 24 := by omega
    go_enter Tryz.func99, Tryz.ntmps99
    go_wp2
    go_loopw [10] (fun s10 wr => ∃ (k : Nat), k ≤ len ∧ s10 = .int .i64 k ∧ Hid (locksGo [] xs = locksGo (xs.take k) (xs.drop k)) ∧ Below w.heap.size w wr) (fun s10 _ => len - (intOf s10).toNat)
    case atStart => exact ⟨0, Nat.zero_le _, rfl, by show _ = _; simp, Below.refl _ _⟩
    case round =>
      obtain ⟨k, hk, rfl, hat, hb⟩ := hrel
      by_cases hlt : k < len
      · have hlt' : (k : Int) < (len : Int) := by omega
        obtain ⟨b, off, rfl, zb, hc⟩ := hmem (by omega)
        have hcells := hc k hlt
        have hn : Hid (locksGo [] xs = (lockOK (xs.getD k default) && !((xs.take k).any (against (xs.getD k default))) && locksGo (xs.take (k + 1)) (xs.drop (k + 1)))) := locksGo_at (by have := HL.out; omega) hat.out
        clear hat hc hmem
        obtain ⟨x, ex⟩ : ∃ x, x = xs.getD k default := ⟨_, rfl⟩
        rw [← ex] at hcells hn
        clear ex
        have hLk := fun w' => lockMayBe_any x w'
        have hAg := fun w' => against_any x w'
        have hCn := fun fn cps w' h1 h2 => containsLock_any fn cps (against x) (some ⟨b, off, none⟩) k cap (xs.take k) w' h1 h2
        obtain ⟨⟨site, num⟩, key, write, value, ask⟩ := x
        have a0 := hcells 0 (by decide)
        have a1 := hcells 1 (by decide)
        have a2 := hcells 2 (by decide)
        have a3 := hcells 3 (by decide)
        have a4 := hcells 4 (by decide)
        have a5 := hcells 5 (by decide)
        simp [LkV.cells] at a0 a1 a2 a3 a4 a5
        rw [← hb.cell (p := ⟨b, off + k * 6, none⟩) zb] at a0
        rw [← hb.cell (p := ⟨b, off + k * 6 + 1, none⟩) zb] at a1
        rw [← hb.cell (p := ⟨b, off + k * 6 + 2, none⟩) zb] at a2
        rw [← hb.cell (p := ⟨b, off + k * 6 + 3, none⟩) zb] at a3
        rw [← hb.cell (p := ⟨b, off + k * 6 + 4, none⟩) zb] at a4
        rw [← hb.cell (p := ⟨b, off + k * 6 + 5, none⟩) zb] at a5
        clear hcells
        obtain ⟨V, hV⟩ : ∃ V : World, V = wr.alloc (.cells #[.int .i64 site, .int .i64 num, .int .i64 key, .bool write, .int .i64 value, .int .i64 ask] 70) := ⟨_, rfl⟩
        have bV : Below w.heap.size w V := by rw [hV]; exact hb.alloc hb.size _
        have zV : wr.heap.size < V.heap.size := by rw [hV]; simp
        have c0 : V.cell? ⟨wr.heap.size, 0, none⟩ = some (.int .i64 site) := by rw [hV]; go_simp
        have c1 : V.cell? ⟨wr.heap.size, 1, none⟩ = some (.int .i64 num) := by rw [hV]; go_simp
        have c2 : V.cell? ⟨wr.heap.size, 2, none⟩ = some (.int .i64 key) := by rw [hV]; go_simp
        have c3 : V.cell? ⟨wr.heap.size, 3, none⟩ = some (.bool write) := by rw [hV]; go_simp
        have c4 : V.cell? ⟨wr.heap.size, 4, none⟩ = some (.int .i64 value) := by rw [hV]; go_simp
        have c5 : V.cell? ⟨wr.heap.size, 5, none⟩ = some (.int .i64 ask) := by rw [hV]; go_simp
        have KC : Hid (∀ U : World, Below V.heap.size V U → U.cell? ⟨wr.heap.size, 0, none⟩ = some (.int .i64 site) ∧ U.cell? ⟨wr.heap.size, 1, none⟩ = some (.int .i64 num) ∧ U.cell? ⟨wr.heap.size, 2, none⟩ = some (.int .i64 key) ∧ U.cell? ⟨wr.heap.size, 3, none⟩ = some (.bool write) ∧ U.cell? ⟨wr.heap.size, 4, none⟩ = some (.int .i64 value) ∧ U.cell? ⟨wr.heap.size, 5, none⟩ = some (.int .i64 ask)) := fun U hU =>
          ⟨(hU.cell (p := ⟨wr.heap.size, 0, none⟩) zV).trans c0, (hU.cell (p := ⟨wr.heap.size, 1, none⟩) zV).trans c1, (hU.cell (p := ⟨wr.heap.size, 2, none⟩) zV).trans c2, (hU.cell (p := ⟨wr.heap.size, 3, none⟩) zV).trans c3, (hU.cell (p := ⟨wr.heap.size, 4, none⟩) zV).trans c4, (hU.cell (p := ⟨wr.heap.size, 5, none⟩) zV).trans c5⟩
        have hTk : ∀ U : World, Below V.heap.size V U → IsLocks U (some ⟨b, off, none⟩) k cap (xs.take k) := fun U hU => (hh.take k (by omega)).below (bV.trans (hU.mono bV.size))
        have HT : Hid (∀ U : World, Below V.heap.size V U → IsLocks U (some ⟨b, off, none⟩) k cap (xs.take k)) := hTk
        clear hTk
        simp only [LkV.val] at hLk hAg
        obtain ⟨L, eL⟩ : ∃ L, L = lockOK ⟨(site, num), key, write, value, ask⟩ := ⟨_, rfl⟩
        obtain ⟨C, eC⟩ : ∃ C, C = (xs.take k).any (against ⟨(site, num), key, write, value, ask⟩) := ⟨_, rfl⟩
        rw [← eL] at hn hLk
        rw [← eC] at hn hCn
        clear eL eC
        have hkc : (k : Int) ≤ (cap : Int) := by omega
        go_upto_region 6 with (fail)
        rw [← hV]
        clear hV a0 a1 a2 a3 a4 a5
        have hD : Below V.heap.size V V.drew := (Below.refl _ _).drew
        cases L with
        | false =>
          have r0 := fun d os => cell_regrown c0 d os
          have r1 := fun d os => cell_regrown c1 d os
          have r2 := fun d os => cell_regrown c2 d os
          have r3 := fun d os => cell_regrown c3 d os
          have r4 := fun d os => cell_regrown c4 d os
          have r5 := fun d os => cell_regrown c5 d os
          refine wp_region_quiet_below (by kernel_rfl) (by kernel_rfl) ?_
          repeat (go_big_quiet_step ((exact Calls.regrown_of (hLk _))))
          refine wpQuiet_nil ?_
          intro _ hw'
          obtain ⟨⟨dq, osq⟩, hw''⟩ := hw'
          subst hw''
          go_wp2
          go_ret
          exact ⟨by rw [e0.out, hn.out]; simp, bV.trans ((below_regrown V dq osq).mono bV.size)⟩
        | true =>
          go_region_held3 (fun U => U.cell? ⟨wr.heap.size, 0, none⟩ = some (.int .i64 site) ∧ U.cell? ⟨wr.heap.size, 1, none⟩ = some (.int .i64 num) ∧ U.cell? ⟨wr.heap.size, 2, none⟩ = some (.int .i64 key) ∧ U.cell? ⟨wr.heap.size, 3, none⟩ = some (.bool write) ∧ U.cell? ⟨wr.heap.size, 4, none⟩ = some (.int .i64 value) ∧ U.cell? ⟨wr.heap.size, 5, none⟩ = some (.int .i64 ask))
            (first | exact KC.out _ hb3 | exact KC.out _ hb2 | exact KC.out _ hb1 | exact KC.out _ hD | exact KC.out _ (Below.refl _ _))
            (first
              | ((go_at_call 106; refine (hLk _).mono ?_; rintro e w1 ⟨rfl, hb1'⟩; have hb1 : Below V.heap.size V w1 := hD.trans (hb1'.mono hD.size)))
              | ((go_at_call 107; refine (hAg _).mono ?_; rintro e w2 ⟨bb, rfl, hAs, hb2'⟩; have hb2 : Below V.heap.size V w2 := hb1.trans (hb2'.mono hb1.size); have hTT := HT.out _ hb2))
              | ((go_at_call 81; refine (hCn _ _ _ hTT hAs).mono ?_; rintro e w3 ⟨rfl, hb3'⟩; have hb3 : Below V.heap.size V w3 := hb2.trans (hb3'.mono hb2.size))))
          all_goals
            have hbF := bV.trans (hb3.mono bV.size)
            cases C with
            | true =>
              go_wp2
              go_ret
              exact ⟨by rw [e0.out, hn.out]; simp, hbF⟩
            | false =>
              go_wp2
              go_roundw
              case rel => exact ⟨k + 1, by omega, by go_num, by show _ = _; rw [hn.out]; simp, hbF⟩
              case measure => simp [intOf]; omega
      · have hfin : locksGo [] xs = true := by
          rw [hat.out, List.drop_eq_nil_of_le (by have := HL.out; omega)]
          rfl
        go_wp2
        go_ret
        exact ⟨by rw [e0.out, hfin]; simp [h24], hb⟩
  · have h24' : (24 : Int) < (len : Int) := by omega
    go_enter Tryz.func99, Tryz.ntmps99
    go_wp2
    go_ret
    exact ⟨by rw [e0.out]; simp [h24], Below.refl _ _⟩
end Go.Proofs.YtekglahigjblkaaGreatDoor.St
/- Contracts of store.of, and of the function that it hands back. -/
namespace Go.Proofs.YtekglahigjblkaaGreatDoor.St
open Go.ChangeShapes Go.WideShapes Go.ChangeAt Go.RowKit
set_option linter.unusedVariables false

set_option maxHeartbeats 1000000 in
theorem of_asks (b0 : Nat) (t : Int × Int) (w : World) (c00 : w.cell? ⟨b0, 0, none⟩ = some (.int .i64 t.1)) (c01 : w.cell? ⟨b0, 1, none⟩ = some (.int .i64 t.2)) (z0 : b0 < w.heap.size) : Asks 90 #[.pointer (some ⟨b0, 0, none⟩)] LkV.val (ofT t) w := by
  refine ⟨enters_of Tryz.func90 (by kernel_rfl) rfl, fun x w' hb => ?_⟩
  rw [← hb.cell (p := ⟨b0, 0, none⟩) z0] at c00
  rw [← hb.cell (p := ⟨b0, 1, none⟩) z0] at c01
  have y0 := Nat.lt_of_lt_of_le z0 hb.size
  obtain ⟨ts, tn⟩ := t
  obtain ⟨⟨site, num⟩, key, write, value, ask⟩ := x
  simp only [LkV.val] at *
  have hA : ∀ o, Below w'.heap.size w' (w'.alloc o) := fun o => (Below.refl _ _).alloc (Nat.le_refl _) _
  show Calls Tryz.prog 90 #[_, .pointer (some ⟨b0, 0, none⟩)] w' _
  go_enter Tryz.func90, Tryz.ntmps90
  go_wp2
  all_goals go_ret
  all_goals exact ⟨ret_bool (by first | (simp_all [ofT]; done) | (simp_all [ofT]; rfl)), hA _⟩
theorem of_any (t : Int × Int) (w : World) :
    Calls Tryz.prog 72 #[.agg #[.int .i64 t.1, .int .i64 t.2]] w fun e w' => ∃ b0 : Nat, e = .returned (.func (.func 90) #[] #[.pointer (some ⟨b0, 0, none⟩)]) ∧ Asks 90 #[.pointer (some ⟨b0, 0, none⟩)] LkV.val (ofT t) w' ∧ Below w.heap.size w w' := by
  obtain ⟨ts, tn⟩ := t
  simp only
  obtain ⟨W, hW⟩ : ∃ W : World, W = (w.alloc (.cells #[.int .i64 ts, .int .i64 tn] 51)) := ⟨_, rfl⟩
  have hB : Below w.heap.size w W := by rw [hW]; exact ((Below.refl _ _).alloc (Nat.le_refl _) _)
  have zW : W.heap.size = w.heap.size + 1 := by rw [hW]; simp
  have c00 : W.cell? ⟨w.heap.size, 0, none⟩ = some (.int .i64 ts) := by rw [hW]; go_simp
  have c01 : W.cell? ⟨w.heap.size, 1, none⟩ = some (.int .i64 tn) := by rw [hW]; go_simp
  have hq := of_asks w.heap.size (ts, tn) W c00 c01 (by omega)
  go_enter Tryz.func72, Tryz.ntmps72
  go_wp2
  rw [← hW]
  go_ret
  exact ⟨_, rfl, hq, hB⟩
end Go.Proofs.YtekglahigjblkaaGreatDoor.St
