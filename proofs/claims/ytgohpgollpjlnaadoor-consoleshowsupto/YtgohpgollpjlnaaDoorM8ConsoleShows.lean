/- Texts of this claim, one behind the other. -/
import Derived.Test.YtgohpgollpjlnaaDoorM7ConsoleShows
import Derived.Deep.RegionWith
import Derived.Deep.RegionHeld3
import Derived.Deep.Cut
import Derived.Lib.QuietBelow
import Derived.Maps.Own
import Derived.Maps.OwnOps
import Derived.Maps.OwnSet
import Derived.Maps.Views
import Derived.DeepKeys4
/- Contracts of store.lockMayBe and locksMayBe. -/
namespace Go.Proofs.YtgohpgollpjlnaaDoor.St
open Go.ChangeShapes Go.WideShapes Go.ChangeAt Go.RowKit
set_option linter.unusedVariables false

set_option maxHeartbeats 2000000 in
theorem lockMayBe_any (k : LkV) (w : World) :
    Calls Tryd.prog 111 #[k.val] w fun e w' => e = .returned (.bool (lockOK k)) ∧ Below w.heap.size w w' := by
  obtain ⟨⟨site, num⟩, key, write, value, ask⟩ := k
  simp only [LkV.val]
  obtain ⟨W, hW⟩ : ∃ W : World, W = w.alloc (.cells #[.int .i64 site, .int .i64 num, .int .i64 key, .bool write, .int .i64 value, .int .i64 ask] 111) := ⟨_, rfl⟩
  have hB : Below w.heap.size w W := by rw [hW]; exact (Below.refl _ _).alloc (Nat.le_refl _) _
  have zW : w.heap.size < W.heap.size := by rw [hW]; simp
  have c0 : W.cell? ⟨w.heap.size, 0, none⟩ = some (.int .i64 site) := by rw [hW]; go_simp
  have c1 : W.cell? ⟨w.heap.size, 1, none⟩ = some (.int .i64 num) := by rw [hW]; go_simp
  have c2 : W.cell? ⟨w.heap.size, 2, none⟩ = some (.int .i64 key) := by rw [hW]; go_simp
  have c3 : W.cell? ⟨w.heap.size, 3, none⟩ = some (.bool write) := by rw [hW]; go_simp
  have c4 : W.cell? ⟨w.heap.size, 4, none⟩ = some (.int .i64 value) := by rw [hW]; go_simp
  have c5 : W.cell? ⟨w.heap.size, 5, none⟩ = some (.int .i64 ask) := by rw [hW]; go_simp
  have hK : Hid (∀ V : World, Below W.heap.size W V → V.cell? ⟨w.heap.size, 2, none⟩ = some (.int .i64 key) ∧ V.cell? ⟨w.heap.size, 3, none⟩ = some (.bool write) ∧ V.cell? ⟨w.heap.size, 4, none⟩ = some (.int .i64 value) ∧ V.cell? ⟨w.heap.size, 5, none⟩ = some (.int .i64 ask)) := fun V hV =>
    ⟨(hV.cell (p := ⟨w.heap.size, 2, none⟩) zW).trans c2, (hV.cell (p := ⟨w.heap.size, 3, none⟩) zW).trans c3, (hV.cell (p := ⟨w.heap.size, 4, none⟩) zW).trans c4, (hV.cell (p := ⟨w.heap.size, 5, none⟩) zW).trans c5⟩
  have hT := fun w' => isTxn_any (site, num) w'
  simp only at hT
  have e0 : Hid (lockOK ⟨(site, num), key, write, value, ask⟩ = (txOK (site, num) && inR key 0 7 && inR value 0 1073741824 && inR ask 0 1048576 && (write || (decide (value = 0) && decide (ask = 0))))) := rfl
  obtain ⟨L, eL⟩ : ∃ L, L = lockOK ⟨(site, num), key, write, value, ask⟩ := ⟨_, rfl⟩
  rw [← eL] at e0 ⊢
  clear eL
  obtain ⟨T, eT⟩ : ∃ T, T = txOK (site, num) := ⟨_, rfl⟩
  rw [← eT] at hT e0
  clear eT
  go_enter Tryd.func111, Tryd.ntmps111
  go_upto_region 1 with (fail)
  rw [← hW]
  clear hW
  cases T with
  | false =>
    go_wp2_with (go_at_call 73; refine (hT _).mono ?_; rintro e w1 ⟨rfl, hb1⟩; obtain ⟨k2, k3, k4, k5⟩ := hK.out _ hb1)
    go_ret
    exact ⟨by rw [e0.out]; rfl, hB.trans (hb1.mono hB.size)⟩
  | true =>
    cases h2 : inR key 0 7 with
    | false =>
      go_wp2_with (first | (go_at_call 73; refine (hT _).mono ?_; rintro e w1 ⟨rfl, hb1⟩; obtain ⟨k2, k3, k4, k5⟩ := hK.out _ hb1) | (go_at_call 91; refine (key_any _ _).mono ?_; rintro e u ⟨rfl, hu⟩; rw [hu, h2]; clear hu))
      go_ret
      exact ⟨by rw [e0.out, h2]; rfl, hB.trans (hb1.mono hB.size)⟩
    | true =>
      cases h3 : inR value 0 1073741824 with
      | false =>
        go_wp2_with (first | (go_at_call 73; refine (hT _).mono ?_; rintro e w1 ⟨rfl, hb1⟩; obtain ⟨k2, k3, k4, k5⟩ := hK.out _ hb1) | (go_at_call 91; refine (key_any _ _).mono ?_; rintro e u ⟨rfl, hu⟩; rw [hu, h2]; clear hu) | (go_at_call 64; refine (value_any _ _).mono ?_; rintro e u ⟨rfl, hu⟩; rw [hu, h3]; clear hu))
        go_ret
        exact ⟨by rw [e0.out, h2, h3]; rfl, hB.trans (hb1.mono hB.size)⟩
      | true =>
        cases h4 : inR ask 0 1048576 with
        | false =>
          go_wp2_with (first | (go_at_call 73; refine (hT _).mono ?_; rintro e w1 ⟨rfl, hb1⟩; obtain ⟨k2, k3, k4, k5⟩ := hK.out _ hb1) | (go_at_call 91; refine (key_any _ _).mono ?_; rintro e u ⟨rfl, hu⟩; rw [hu, h2]; clear hu) | (go_at_call 64; refine (value_any _ _).mono ?_; rintro e u ⟨rfl, hu⟩; rw [hu, h3]; clear hu) | (go_at_call 65; refine (isAsk_any _ _).mono ?_; rintro e u ⟨rfl, hu⟩; rw [hu, h4]; clear hu))
          go_ret
          exact ⟨by rw [e0.out, h2, h3, h4]; rfl, hB.trans (hb1.mono hB.size)⟩
        | true =>
          go_wp2_with (first | (go_at_call 73; refine (hT _).mono ?_; rintro e w1 ⟨rfl, hb1⟩; obtain ⟨k2, k3, k4, k5⟩ := hK.out _ hb1) | (go_at_call 91; refine (key_any _ _).mono ?_; rintro e u ⟨rfl, hu⟩; rw [hu, h2]; clear hu) | (go_at_call 64; refine (value_any _ _).mono ?_; rintro e u ⟨rfl, hu⟩; rw [hu, h3]; clear hu) | (go_at_call 65; refine (isAsk_any _ _).mono ?_; rintro e u ⟨rfl, hu⟩; rw [hu, h4]; clear hu))
          all_goals go_ret
          all_goals (refine ⟨ret_bool ?_, hB.trans (hb1.mono hB.size)⟩; rw [e0.out, h2, h3, h4]; first | (simp_all; done) | (simp_all; rfl))

theorem locksGo_at {xs : List LkV} {k : Nat} (hk : k < xs.length) (h : locksGo [] xs = locksGo (xs.take k) (xs.drop k)) :
    locksGo [] xs = (lockOK (xs.getD k default) && !((xs.take k).any (against (xs.getD k default))) && locksGo (xs.take (k + 1)) (xs.drop (k + 1))) := by
  rw [h, drop_at hk, take_at hk]
  rfl

set_option maxHeartbeats 4000000 in
theorem locksMayBe_any (a : Option Addr) (len cap : Nat) (xs : List LkV) (w : World) (h : IsLocks w a len cap xs) :
    Calls Tryd.prog 82 #[.slice a len cap] w fun e w' => e = .returned (.bool (locksOK xs)) ∧ Below w.heap.size w w' := by
  have hh := h
  obtain ⟨hlen, hcap, hmax, _, hmem⟩ := h
  have e0 : Hid (locksOK xs = (decide (len ≤ 24) && locksGo [] xs)) := by show _ = _; rw [← hlen]; rfl
  have HL : Hid (xs.length = len) := hlen
  clear hlen
  unfold maxLen at hmax
  by_cases h24 : len ≤ 24
  · have h24' : (len : Int) ≤ 24 := by omega
    go_enter Tryd.func82, Tryd.ntmps82
    go_wp2
    go_loopw [10] (fun s10 wr => ∃ (k : Nat), k ≤ len ∧ s10 = .int .i64 k ∧ Hid (locksGo [] xs = locksGo (xs.take k) (xs.drop k)) ∧ Below w.heap.size w wr) (fun s10 _ => len - (intOf s10).toNat)
    case atStart => exact ⟨0, Nat.zero_le _, rfl, by show _ = _; simp, Below.refl _ _⟩
    case round =>
      obtain ⟨k, hk, rfl, hat, hb⟩ := hrel
      by_cases hlt : k < len
      · have hlt' : (k : Int) < (len : Int) := by omega
        obtain ⟨b, off, rfl, zb, hc⟩ := hmem (by omega)
        have hcells := hc k hlt
        have hn : Hid (locksGo [] xs = (lockOK (xs.getD k default) && !((xs.take k).any (against (xs.getD k default))) && locksGo (xs.take (k + 1)) (xs.drop (k + 1)))) := locksGo_at (by have := HL.out; omega) hat.out
        clear hat hc hmem
        obtain ⟨x, ex⟩ : ∃ x, x = xs.getD k default := ⟨_, rfl⟩
        rw [← ex] at hcells hn
        clear ex
        have hLk := fun w' => lockMayBe_any x w'
        have hAg := fun w' => against_any x w'
        have hCn := fun fn cps w' h1 h2 => containsLock_any fn cps (against x) (some ⟨b, off, none⟩) k cap (xs.take k) w' h1 h2
        obtain ⟨⟨site, num⟩, key, write, value, ask⟩ := x
        have a0 := hcells 0 (by decide)
        have a1 := hcells 1 (by decide)
        have a2 := hcells 2 (by decide)
        have a3 := hcells 3 (by decide)
        have a4 := hcells 4 (by decide)
        have a5 := hcells 5 (by decide)
        simp [LkV.cells] at a0 a1 a2 a3 a4 a5
        rw [← hb.cell (p := ⟨b, off + k * 6, none⟩) zb] at a0
        rw [← hb.cell (p := ⟨b, off + k * 6 + 1, none⟩) zb] at a1
        rw [← hb.cell (p := ⟨b, off + k * 6 + 2, none⟩) zb] at a2
        rw [← hb.cell (p := ⟨b, off + k * 6 + 3, none⟩) zb] at a3
        rw [← hb.cell (p := ⟨b, off + k * 6 + 4, none⟩) zb] at a4
        rw [← hb.cell (p := ⟨b, off + k * 6 + 5, none⟩) zb] at a5
        clear hcells
        obtain ⟨V, hV⟩ : ∃ V : World, V = wr.alloc (.cells #[.int .i64 site, .int .i64 num, .int .i64 key, .bool write, .int .i64 value, .int .i64 ask] 111) := ⟨_, rfl⟩
        have bV : Below w.heap.size w V := by rw [hV]; exact hb.alloc hb.size _
        have zV : wr.heap.size < V.heap.size := by rw [hV]; simp
        have c0 : V.cell? ⟨wr.heap.size, 0, none⟩ = some (.int .i64 site) := by rw [hV]; go_simp
        have c1 : V.cell? ⟨wr.heap.size, 1, none⟩ = some (.int .i64 num) := by rw [hV]; go_simp
        have c2 : V.cell? ⟨wr.heap.size, 2, none⟩ = some (.int .i64 key) := by rw [hV]; go_simp
        have c3 : V.cell? ⟨wr.heap.size, 3, none⟩ = some (.bool write) := by rw [hV]; go_simp
        have c4 : V.cell? ⟨wr.heap.size, 4, none⟩ = some (.int .i64 value) := by rw [hV]; go_simp
        have c5 : V.cell? ⟨wr.heap.size, 5, none⟩ = some (.int .i64 ask) := by rw [hV]; go_simp
        have KC : Hid (∀ U : World, Below V.heap.size V U → U.cell? ⟨wr.heap.size, 0, none⟩ = some (.int .i64 site) ∧ U.cell? ⟨wr.heap.size, 1, none⟩ = some (.int .i64 num) ∧ U.cell? ⟨wr.heap.size, 2, none⟩ = some (.int .i64 key) ∧ U.cell? ⟨wr.heap.size, 3, none⟩ = some (.bool write) ∧ U.cell? ⟨wr.heap.size, 4, none⟩ = some (.int .i64 value) ∧ U.cell? ⟨wr.heap.size, 5, none⟩ = some (.int .i64 ask)) := fun U hU =>
          ⟨(hU.cell (p := ⟨wr.heap.size, 0, none⟩) zV).trans c0, (hU.cell (p := ⟨wr.heap.size, 1, none⟩) zV).trans c1, (hU.cell (p := ⟨wr.heap.size, 2, none⟩) zV).trans c2, (hU.cell (p := ⟨wr.heap.size, 3, none⟩) zV).trans c3, (hU.cell (p := ⟨wr.heap.size, 4, none⟩) zV).trans c4, (hU.cell (p := ⟨wr.heap.size, 5, none⟩) zV).trans c5⟩
        have hTk : ∀ U : World, Below V.heap.size V U → IsLocks U (some ⟨b, off, none⟩) k cap (xs.take k) := fun U hU => (hh.take k (by omega)).below (bV.trans (hU.mono bV.size))
        have HT : Hid (∀ U : World, Below V.heap.size V U → IsLocks U (some ⟨b, off, none⟩) k cap (xs.take k)) := hTk
        clear hTk
        simp only [LkV.val] at hLk hAg
        obtain ⟨L, eL⟩ : ∃ L, L = lockOK ⟨(site, num), key, write, value, ask⟩ := ⟨_, rfl⟩
        obtain ⟨C, eC⟩ : ∃ C, C = (xs.take k).any (against ⟨(site, num), key, write, value, ask⟩) := ⟨_, rfl⟩
        rw [← eL] at hn hLk
        rw [← eC] at hn hCn
        clear eL eC
        have hkc : (k : Int) ≤ (cap : Int) := by omega
        go_upto_region 6 with (fail)
        rw [← hV]
        clear hV a0 a1 a2 a3 a4 a5
        have hD : Below V.heap.size V V.drew := (Below.refl _ _).drew
        cases L with
        | false =>
          have r0 := fun d os => cell_regrown c0 d os
          have r1 := fun d os => cell_regrown c1 d os
          have r2 := fun d os => cell_regrown c2 d os
          have r3 := fun d os => cell_regrown c3 d os
          have r4 := fun d os => cell_regrown c4 d os
          have r5 := fun d os => cell_regrown c5 d os
          refine wp_region_quiet_below (by kernel_rfl) (by kernel_rfl) ?_
          repeat (go_big_quiet_step ((exact Calls.regrown_of (hLk _))))
          refine wpQuiet_nil ?_
          intro _ hw'
          obtain ⟨⟨dq, osq⟩, hw''⟩ := hw'
          subst hw''
          go_wp2
          go_ret
          exact ⟨by rw [e0.out, hn.out]; simp, bV.trans ((below_regrown V dq osq).mono bV.size)⟩
        | true =>
          go_region_held3 (fun U => U.cell? ⟨wr.heap.size, 0, none⟩ = some (.int .i64 site) ∧ U.cell? ⟨wr.heap.size, 1, none⟩ = some (.int .i64 num) ∧ U.cell? ⟨wr.heap.size, 2, none⟩ = some (.int .i64 key) ∧ U.cell? ⟨wr.heap.size, 3, none⟩ = some (.bool write) ∧ U.cell? ⟨wr.heap.size, 4, none⟩ = some (.int .i64 value) ∧ U.cell? ⟨wr.heap.size, 5, none⟩ = some (.int .i64 ask))
            (first | exact KC.out _ hb3 | exact KC.out _ hb2 | exact KC.out _ hb1 | exact KC.out _ hD | exact KC.out _ (Below.refl _ _))
            (first
              | ((go_at_call 111; refine (hLk _).mono ?_; rintro e w1 ⟨rfl, hb1'⟩; have hb1 : Below V.heap.size V w1 := hD.trans (hb1'.mono hD.size)))
              | ((go_at_call 112; refine (hAg _).mono ?_; rintro e w2 ⟨bb, rfl, hAs, hb2'⟩; have hb2 : Below V.heap.size V w2 := hb1.trans (hb2'.mono hb1.size); have hTT := HT.out _ hb2))
              | ((go_at_call 95; refine (hCn _ _ _ hTT hAs).mono ?_; rintro e w3 ⟨rfl, hb3'⟩; have hb3 : Below V.heap.size V w3 := hb2.trans (hb3'.mono hb2.size))))
          all_goals
            have hbF := bV.trans (hb3.mono bV.size)
            cases C with
            | true =>
              go_wp2
              go_ret
              exact ⟨by rw [e0.out, hn.out]; simp, hbF⟩
            | false =>
              go_wp2
              go_roundw
              case rel => exact ⟨k + 1, by omega, by go_num, by show _ = _; rw [hn.out]; simp, hbF⟩
              case measure => simp [intOf]; omega
      · have hfin : locksGo [] xs = true := by
          rw [hat.out, List.drop_eq_nil_of_le (by have := HL.out; omega)]
          rfl
        go_wp2
        go_ret
        exact ⟨by rw [e0.out, hfin]; simp [h24], hb⟩
  · have h24' : (24 : Int) < (len : Int) := by omega
    go_enter Tryd.func82, Tryd.ntmps82
    go_wp2
    go_ret
    exact ⟨by rw [e0.out]; simp [h24], Below.refl _ _⟩
end Go.Proofs.YtgohpgollpjlnaaDoor.St
/- The contract of store.overMayBe: transactions, each once; it asks a map of its own. -/
namespace Go.Proofs.YtgohpgollpjlnaaDoor.St
open Go.ChangeShapes Go.WideShapes Go.ChangeAt Go.RowKit Go.Maps
set_option linter.unusedVariables false

/-- Numbers that a transaction may have at all. -/
def TxWf (t : Int × Int) : Prop := (Lit.int .i64 t.1).wf = true ∧ (Lit.int .i64 t.2).wf = true
theorem txn_laid : laidOutB Tryd.prog = true := by kernel_rfl
theorem txn_row : (23 : TypeId) < Tryd.prog.types.size := of_decide_eq_true (by kernel_rfl)
theorem txn_wide : (match Tryd.prog.underlying 23 with | some (.array _ _) | some (.struct _) => true | _ => false) = true := by rw [Tryd.underlying23]
set_option maxRecDepth 100000 in
theorem txn_keyed : Keyed Tryd.prog 23 := Keyed.of_law (deep_law_laid txn_laid (m := 4) (by omega) txn_row (by kernel_rfl) txn_wide)
theorem int_zero (w : World) : (zeroValue 3).run Tryd.prog w = .ok (.int .i64 0) w := by kernel_rfl
theorem txn_cells : Tryd.prog.cellsOf 23 = 2 := by kernel_rfl
theorem int_cells : Tryd.prog.cellsOf 3 = 1 := by kernel_rfl
theorem txn_key : Tryd.prog.keyType 23 = true := by kernel_rfl
theorem key_tx {t : Int × Int} (h : TxWf t) : ∃ l, keyOf Tryd.prog 23 (.agg #[.int .i64 t.1, .int .i64 t.2]) = some l := by
  obtain ⟨h1, h2⟩ := h
  obtain ⟨n, hn⟩ : ∃ n, Tryd.prog.types.size = n + 1 := Nat.exists_eq_succ_of_ne_zero (fun e => by have h : (0 : Nat) < Tryd.prog.types.size := Nat.lt_of_le_of_lt (Nat.zero_le _) txn_row; rw [e] at h; exact absurd h (Nat.not_lt_zero _))
  have e : Tryd.prog.keyLits (n + 1 + 1) 23 [.int .i64 t.1, .int .i64 t.2] = some [.int .i64 t.1, .int .i64 t.2] := by
    unfold Program.keyLits
    rw [Tryd.underlying23]
    simp [txn_cells, Program.keyLits, Tryd.underlying3, int_cells, h1, h2]
  refine ⟨.string (keyBytes [.int .i64 t.1, .int .i64 t.2]), ?_⟩
  unfold keyOf
  simp only [Tryd.underlying23, txn_key, hn]
  have hf : (Value.agg #[.int .i64 t.1, .int .i64 t.2]).formed Tryd.prog 23 = true := by simp [Value.formed, Tryd.underlying23, txn_cells]
  rw [hf]
  simp [Value.cells, e]
theorem key_tx_inj {t u : Int × Int} {l : Lit} (h : keyOf Tryd.prog 23 (.agg #[.int .i64 t.1, .int .i64 t.2]) = some l) (k : keyOf Tryd.prog 23 (.agg #[.int .i64 u.1, .int .i64 u.2]) = some l) : t = u := by
  have := txn_keyed.inj h k
  simp at this
  exact Prod.ext this.1 this.2
theorem ownsMap_bel {H : Type} {w w' : World} {k : TypeId} {R : Value → Option (DataW H × List MemPlace)} {b n : Nat} {D : DataW H} (h : w.ownsMap Tryd.prog k R b n D) (hb : Below w.heap.size w w') : w'.ownsMap Tryd.prog k R b n D := by
  obtain ⟨es, clock, h1, h2⟩ := h
  exact ⟨es, clock, (hb.block b (by have := (Array.getElem?_eq_some_iff.1 h1).1; exact this)).trans h1, h2⟩

/-- The map has just the transactions ahead. -/
def Keeps (D : DataW Unit) (ts : List (Int × Int)) : Prop := IsMap D ∧ ∀ t l, keyOf Tryd.prog 23 (.agg #[.int .i64 t.1, .int .i64 t.2]) = some l → Maps.has D l = decide (t ∈ ts)
theorem keeps_nil : Keeps (.map []) [] := ⟨isMap_empty, fun t l h => by simp [Maps.has]⟩
theorem Keeps.push {D : DataW Unit} {ts : List (Int × Int)} (h : Keeps D ts) {t : Int × Int} {l : Lit} (hl : keyOf Tryd.prog 23 (.agg #[.int .i64 t.1, .int .i64 t.2]) = some l) (d : DataW Unit) : Keeps (D.put l d) (ts ++ [t]) := by
  refine ⟨h.1.put l d, fun u m hm => ?_⟩
  by_cases e : u = t
  · subst e
    rw [hl] at hm
    cases hm
    rw [has_put_same h.1 (txn_keyed.key hl)]
    simp
  · have hne : m ≠ l := fun e' => by subst e'; exact e (key_tx_inj hm hl)
    rw [has_put_other hne, h.2 u m hm]
    simp [e]

theorem overGo_at {xs : List (Int × Int)} {k : Nat} (hk : k < xs.length) (h : overGo [] xs = overGo (xs.take k) (xs.drop k)) :
    overGo [] xs = (!(decide (xs.getD k default ∈ xs.take k)) && txOK (xs.getD k default) && overGo (xs.take (k + 1)) (xs.drop (k + 1))) := by
  rw [h, drop_at hk, take_at hk]
  rfl

set_option maxRecDepth 100000 in
set_option maxHeartbeats 4000000 in
theorem overMayBe_any (a : Option Addr) (len cap : Nat) (xs : List (Int × Int)) (w : World) (h : IsTxns w a len cap xs) (hwf : ∀ t ∈ xs, TxWf t) :
    Calls Tryd.prog 83 #[.slice a len cap] w fun e w' => e = .returned (.bool (overGo [] xs)) ∧ Below w.heap.size w w' := by
  obtain ⟨hlen, hcap, hmax, _, hmem⟩ := h
  have HL : Hid (xs.length = len) := hlen
  clear hlen
  have hmm := @run_makeMap Tryd.prog
  have hm2 : cap ≤ 2 ^ 63 - 1 := by unfold maxLen at hmax; exact hmax
  go_enter Tryd.func83, Tryd.ntmps83
  go_wp2
  go_loopw [11] (fun s11 wr => ∃ (k : Nat) (D : DataW Unit), k ≤ len ∧ s11 = .int .i64 k ∧ wr.ownsMap Tryd.prog 23 (plainElem Tryd.prog 3) w.heap.size k D ∧ Hid (Keeps D (xs.take k)) ∧ Hid (overGo [] xs = overGo (xs.take k) (xs.drop k)) ∧ Below w.heap.size w wr) (fun s11 _ => len - (intOf s11).toNat)
  case atStart => exact ⟨0, .map [], Nat.zero_le _, rfl, World.ownsMap_made _ _ _ _, keeps_nil, by show _ = _; simp, (Below.refl _ _).alloc (Nat.le_refl _) _⟩
  case round =>
    obtain ⟨k, D, hk, rfl, hown, hkp, hat, hb⟩ := hrel
    by_cases hlt : k < len
    · have hlt' : (k : Int) < (len : Int) := by omega
      obtain ⟨b, off, rfl, zb, hc⟩ := hmem (by omega)
      have hkl : k < xs.length := by have := HL.out; omega
      have hcells := hc k hlt
      have hn : Hid (overGo [] xs = (!(decide (xs.getD k default ∈ xs.take k)) && txOK (xs.getD k default) && overGo (xs.take (k + 1)) (xs.drop (k + 1)))) := overGo_at hkl hat.out
      have htk : Hid (xs.take (k + 1) = xs.take k ++ [xs.getD k default]) := take_at hkl
      have hx := hwf (xs.getD k default) (by simp [List.getD, hkl])
      clear hat hc hmem hwf
      obtain ⟨x, ex⟩ : ∃ x, x = xs.getD k default := ⟨_, rfl⟩
      rw [← ex] at hcells hn hx htk
      clear ex
      obtain ⟨l, hkey⟩ := key_tx hx
      have hhas := hkp.out.2 x l hkey
      have hkp' : ∀ d, Hid (Keeps (D.put l d) (xs.take (k + 1))) := fun d => by show Keeps _ _; rw [htk.out]; exact hkp.out.push hkey d
      have hT := fun w' => isTxn_any x w'
      obtain ⟨site, num⟩ := x
      have a0 := hcells 0 (by decide)
      have a1 := hcells 1 (by decide)
      simp [txCells] at a0 a1
      rw [← hb.cell (p := ⟨b, off + k * 2, none⟩) zb] at a0
      rw [← hb.cell (p := ⟨b, off + k * 2 + 1, none⟩) zb] at a1
      simp only at hkey hT
      clear hcells hkp htk hx
      obtain ⟨M, eM⟩ : ∃ M, M = decide ((site, num) ∈ xs.take k) := ⟨_, rfl⟩
      obtain ⟨T, eT⟩ : ∃ T, T = txOK (site, num) := ⟨_, rfl⟩
      rw [← eM] at hn hhas
      rw [← eT] at hn hT
      clear eM eT
      have hwk : (Lit.int .i64 (k : Int)).wf = true := WalkArith.wf_i64 (by omega)
      have hkm : k < maxLen := Nat.lt_of_lt_of_le hlt (Nat.le_trans hcap hmax)
      have hnA : ∀ o, Below w.heap.size w (wr.alloc o) := fun o => hb.alloc hb.size _
      cases M with
      | true =>
        go_wp2_with (at_lookup; refine wpList_lookup_own_ok_int _ rfl _ _ 152 rfl 23 3 .i64 txn_keyed Tryd.underlying152 Tryd.underlying3 (int_zero _) w.heap.size k _ rfl (hown.alloc _) _ _ rfl hkey ?_; intro c hcat hwc; rw [hhas])
        go_ret
        exact ⟨by rw [hn.out]; simp, hnA _⟩
      | false =>
        cases T with
        | false =>
          go_wp2_with (first | (at_lookup; refine wpList_lookup_own_ok_int _ rfl _ _ 152 rfl 23 3 .i64 txn_keyed Tryd.underlying152 Tryd.underlying3 (int_zero _) w.heap.size k _ rfl (hown.alloc _) _ _ rfl hkey ?_; intro c hcat hwc; rw [hhas]) | (go_at_call 73; refine (hT _).mono ?_; rintro e w1 ⟨rfl, hb1⟩))
          go_ret
          exact ⟨by rw [hn.out]; simp, (hnA _).trans (hb1.mono (hnA _).size)⟩
        | true =>
          obtain ⟨V, hV⟩ : ∃ V : World, V = wr.alloc (.cells #[.int .i64 site, .int .i64 num] 23) := ⟨_, rfl⟩
          have bV : Below w.heap.size w V := by rw [hV]; exact hnA _
          have bV' : Below wr.heap.size wr V := by rw [hV]; exact (Below.refl _ _).alloc (Nat.le_refl _) _
          have zV : wr.heap.size < V.heap.size := by rw [hV]; simp
          have c0 : V.cell? ⟨wr.heap.size, 0, none⟩ = some (.int .i64 site) := by rw [hV]; go_simp
          have c1 : V.cell? ⟨wr.heap.size, 1, none⟩ = some (.int .i64 num) := by rw [hV]; go_simp
          have hoV := ownsMap_bel hown bV'
          go_upto_region 5 with (fail)
          rw [← hV]
          clear hV a0 a1
          go_wp2_with (first | (at_lookup; refine wpList_lookup_own_ok_int _ rfl _ _ 152 rfl 23 3 .i64 txn_keyed Tryd.underlying152 Tryd.underlying3 (int_zero _) w.heap.size k _ rfl hoV _ _ rfl hkey ?_; intro c hcat hwc; rw [hhas]) | (go_at_call 73; refine (hT _).mono ?_; rintro e w1 ⟨rfl, hb1⟩; have d0 := (hb1.cell (p := ⟨wr.heap.size, 0, none⟩) zV).trans c0; have d1 := (hb1.cell (p := ⟨wr.heap.size, 1, none⟩) zV).trans c1; have ho1 := ownsMap_bel hoV hb1) | (at_mapUpdate; refine wpList_mapUpdate_own _ rfl _ _ _ 152 rfl 23 3 txn_keyed Tryd.underlying152 _ w.heap.size k _ rfl ho1 hkm _ _ _ rfl rfl hkey _ [] (plainElem_int Tryd.underlying3 hwk) ?_; intro w2 hown2 hgrow2))
          have hb2 : Below w.heap.size w w2 := (bV.trans (hb1.mono bV.size)).grown hgrow2 (bV.trans (hb1.mono bV.size)).size (fun j hj => by cases hj; exact Nat.le_refl _)
          go_roundw
          case rel => exact ⟨k + 1, _, by omega, by go_num, hown2, hkp' _, by show _ = _; rw [hn.out]; simp, hb2⟩
          case measure => simp [intOf]; omega
    · have hfin : overGo [] xs = true := by
        rw [hat.out, List.drop_eq_nil_of_le (by have := HL.out; omega)]
        rfl
      go_wp2
      go_ret
      exact ⟨by rw [hfin]; rfl, hb⟩
end Go.Proofs.YtgohpgollpjlnaaDoor.St
/- Contracts of store.of, and of the function that it hands back. -/
namespace Go.Proofs.YtgohpgollpjlnaaDoor.St
open Go.ChangeShapes Go.WideShapes Go.ChangeAt Go.RowKit
set_option linter.unusedVariables false

set_option maxHeartbeats 1000000 in
theorem of_asks (b0 : Nat) (t : Int × Int) (w : World) (c00 : w.cell? ⟨b0, 0, none⟩ = some (.int .i64 t.1)) (c01 : w.cell? ⟨b0, 1, none⟩ = some (.int .i64 t.2)) (z0 : b0 < w.heap.size) : Asks 101 #[.pointer (some ⟨b0, 0, none⟩)] LkV.val (ofT t) w := by
  refine ⟨enters_of Tryd.func101 (by kernel_rfl) rfl, fun x w' hb => ?_⟩
  rw [← hb.cell (p := ⟨b0, 0, none⟩) z0] at c00
  rw [← hb.cell (p := ⟨b0, 1, none⟩) z0] at c01
  have y0 := Nat.lt_of_lt_of_le z0 hb.size
  obtain ⟨ts, tn⟩ := t
  obtain ⟨⟨site, num⟩, key, write, value, ask⟩ := x
  simp only [LkV.val] at *
  have hA : ∀ o, Below w'.heap.size w' (w'.alloc o) := fun o => (Below.refl _ _).alloc (Nat.le_refl _) _
  show Calls Tryd.prog 101 #[_, .pointer (some ⟨b0, 0, none⟩)] w' _
  go_enter Tryd.func101, Tryd.ntmps101
  go_wp2
  all_goals go_ret
  all_goals exact ⟨ret_bool (by first | (simp_all [ofT]; done) | (simp_all [ofT]; rfl)), hA _⟩
theorem of_any (t : Int × Int) (w : World) :
    Calls Tryd.prog 69 #[.agg #[.int .i64 t.1, .int .i64 t.2]] w fun e w' => ∃ b0 : Nat, e = .returned (.func (.func 101) #[] #[.pointer (some ⟨b0, 0, none⟩)]) ∧ Asks 101 #[.pointer (some ⟨b0, 0, none⟩)] LkV.val (ofT t) w' ∧ Below w.heap.size w w' := by
  obtain ⟨ts, tn⟩ := t
  simp only
  obtain ⟨W, hW⟩ : ∃ W : World, W = (w.alloc (.cells #[.int .i64 ts, .int .i64 tn] 23)) := ⟨_, rfl⟩
  have hB : Below w.heap.size w W := by rw [hW]; exact ((Below.refl _ _).alloc (Nat.le_refl _) _)
  have zW : W.heap.size = w.heap.size + 1 := by rw [hW]; simp
  have c00 : W.cell? ⟨w.heap.size, 0, none⟩ = some (.int .i64 ts) := by rw [hW]; go_simp
  have c01 : W.cell? ⟨w.heap.size, 1, none⟩ = some (.int .i64 tn) := by rw [hW]; go_simp
  have hq := of_asks w.heap.size (ts, tn) W c00 c01 (by omega)
  go_enter Tryd.func69, Tryd.ntmps69
  go_wp2
  rw [← hW]
  go_ret
  exact ⟨_, rfl, hq, hB⟩
end Go.Proofs.YtgohpgollpjlnaaDoor.St
