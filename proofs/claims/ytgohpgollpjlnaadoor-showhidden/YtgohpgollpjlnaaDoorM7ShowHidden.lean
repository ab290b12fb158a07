/- Texts of this claim, one behind the other. -/
import Derived.Test.YtgohpgollpjlnaaDoorM4ShowHidden
import Derived.Maps.Own
import Derived.Maps.OwnOps
import Derived.Maps.OwnSet
import Derived.Maps.Views
import Derived.DeepKeys4
import Derived.Deep.Cut
import Derived.Lib.QuietBelow
import Derived.Test.YtgohpgollpjlnaaDoorM5ShowHidden
import Derived.Test.YtgohpgollpjlnaaDoorM6ShowHidden
import Derived.Deep.DeepCutAuto
import Derived.Deep.CutBlock
/- The contract of store.overMayBe: transactions, each once; it asks a map of its own. -/
namespace Go.Proofs.YtgohpgollpjlnaaDoor.St
open Go.ChangeShapes Go.WideShapes Go.ChangeAt Go.RowKit Go.Maps
set_option linter.unusedVariables false

/-- Numbers that a transaction may have at all. -/
def TxWf (t : Int × Int) : Prop := (Lit.int .i64 t.1).wf = true ∧ (Lit.int .i64 t.2).wf = true
theorem txn_laid : laidOutB Tryd.prog = true := by kernel_rfl
theorem txn_row : (23 : TypeId) < Tryd.prog.types.size := of_decide_eq_true (by kernel_rfl)
theorem txn_wide : (match Tryd.prog.underlying 23 with | some (.array _ _) | some (.struct _) => true | _ => false) = true := by rw [Tryd.underlying23]
set_option maxRecDepth 100000 in
theorem txn_keyed : Keyed Tryd.prog 23 := Keyed.of_law (deep_law_laid txn_laid (m := 4) (by omega) txn_row (by kernel_rfl) txn_wide)
theorem int_zero (w : World) : (zeroValue 3).run Tryd.prog w = .ok (.int .i64 0) w := by kernel_rfl
theorem txn_cells : Tryd.prog.cellsOf 23 = 2 := by kernel_rfl
theorem int_cells : Tryd.prog.cellsOf 3 = 1 := by kernel_rfl
theorem txn_key : Tryd.prog.keyType 23 = true := by kernel_rfl
theorem key_tx {t : Int × Int} (h : TxWf t) : ∃ l, keyOf Tryd.prog 23 (.agg #[.int .i64 t.1, .int .i64 t.2]) = some l := by
  obtain ⟨h1, h2⟩ := h
  obtain ⟨n, hn⟩ : ∃ n, Tryd.prog.types.size = n + 1 := Nat.exists_eq_succ_of_ne_zero (fun e => by have h : (0 : Nat) < Tryd.prog.types.size := Nat.lt_of_le_of_lt (Nat.zero_le _) txn_row; rw [e] at h; exact absurd h (Nat.not_lt_zero _))
  have e : Tryd.prog.keyLits (n + 1 + 1) 23 [.int .i64 t.1, .int .i64 t.2] = some [.int .i64 t.1, .int .i64 t.2] := by
    unfold Program.keyLits
    rw [Tryd.underlying23]
    simp [txn_cells, Program.keyLits, Tryd.underlying3, int_cells, h1, h2]
  refine ⟨.string (keyBytes [.int .i64 t.1, .int .i64 t.2]), ?_⟩
  unfold keyOf
  simp only [Tryd.underlying23, txn_key, hn]
  have hf : (Value.agg #[.int .i64 t.1, .int .i64 t.2]).formed Tryd.prog 23 = true := by simp [Value.formed, Tryd.underlying23, txn_cells]
  rw [hf]
  simp [Value.cells, e]
theorem key_tx_inj {t u : Int × Int} {l : Lit} (h : keyOf Tryd.prog 23 (.agg #[.int .i64 t.1, .int .i64 t.2]) = some l) (k : keyOf Tryd.prog 23 (.agg #[.int .i64 u.1, .int .i64 u.2]) = some l) : t = u := by
  have := txn_keyed.inj h k
  simp at this
  exact Prod.ext this.1 this.2
theorem ownsMap_bel {H : Type} {w w' : World} {k : TypeId} {R : Value → Option (DataW H × List MemPlace)} {b n : Nat} {D : DataW H} (h : w.ownsMap Tryd.prog k R b n D) (hb : Below w.heap.size w w') : w'.ownsMap Tryd.prog k R b n D := by
  obtain ⟨es, clock, h1, h2⟩ := h
  exact ⟨es, clock, (hb.block b (by have := (Array.getElem?_eq_some_iff.1 h1).1; exact this)).trans h1, h2⟩

/-- The map has just the transactions ahead. -/
def Keeps (D : DataW Unit) (ts : List (Int × Int)) : Prop := IsMap D ∧ ∀ t l, keyOf Tryd.prog 23 (.agg #[.int .i64 t.1, .int .i64 t.2]) = some l → Maps.has D l = decide (t ∈ ts)
theorem keeps_nil : Keeps (.map []) [] := ⟨isMap_empty, fun t l h => by simp [Maps.has]⟩
theorem Keeps.push {D : DataW Unit} {ts : List (Int × Int)} (h : Keeps D ts) {t : Int × Int} {l : Lit} (hl : keyOf Tryd.prog 23 (.agg #[.int .i64 t.1, .int .i64 t.2]) = some l) (d : DataW Unit) : Keeps (D.put l d) (ts ++ [t]) := by
  refine ⟨h.1.put l d, fun u m hm => ?_⟩
  by_cases e : u = t
  · subst e
    rw [hl] at hm
    cases hm
    rw [has_put_same h.1 (txn_keyed.key hl)]
    simp
  · have hne : m ≠ l := fun e' => by subst e'; exact e (key_tx_inj hm hl)
    rw [has_put_other hne, h.2 u m hm]
    simp [e]

theorem overGo_at {xs : List (Int × Int)} {k : Nat} (hk : k < xs.length) (h : overGo [] xs = overGo (xs.take k) (xs.drop k)) :
    overGo [] xs = (!(decide (xs.getD k default ∈ xs.take k)) && txOK (xs.getD k default) && overGo (xs.take (k + 1)) (xs.drop (k + 1))) := by
  rw [h, drop_at hk, take_at hk]
  rfl

set_option maxRecDepth 100000 in
set_option maxHeartbeats 4000000 in
theorem overMayBe_any (a : Option Addr) (len cap : Nat) (xs : List (Int × Int)) (w : World) (h : IsTxns w a len cap xs) (hwf : ∀ t ∈ xs, TxWf t) :
    Calls Tryd.prog 83 #[.slice a len cap] w fun e w' => e = .returned (.bool (overGo [] xs)) ∧ Below w.heap.size w w' := by
  obtain ⟨hlen, hcap, hmax, _, hmem⟩ := h
  have HL : Hid (xs.length = len) := hlen
  clear hlen
  have hmm := @run_makeMap Tryd.prog
  have hm2 : cap ≤ 2 ^ 63 - 1 := by unfold maxLen at hmax; exact hmax
  go_enter Tryd.func83, Tryd.ntmps83
  go_wp2
  go_loopw [11] (fun s11 wr => ∃ (k : Nat) (D : DataW Unit), k ≤ len ∧ s11 = .int .i64 k ∧ wr.ownsMap Tryd.prog 23 (plainElem Tryd.prog 3) w.heap.size k D ∧ Hid (Keeps D (xs.take k)) ∧ Hid (overGo [] xs = overGo (xs.take k) (xs.drop k)) ∧ Below w.heap.size w wr) (fun s11 _ => len - (intOf s11).toNat)
  case atStart => exact ⟨0, .map [], Nat.zero_le _, rfl, World.ownsMap_made _ _ _ _, keeps_nil, by show _ = _; simp, (Below.refl _ _).alloc (Nat.le_refl _) _⟩
  case round =>
    obtain ⟨k, D, hk, rfl, hown, hkp, hat, hb⟩ := hrel
    by_cases hlt : k < len
    · have hlt' : (k : Int) < (len : Int) := by omega
      obtain ⟨b, off, rfl, zb, hc⟩ := hmem (by omega)
      have hkl : k < xs.length := by have := HL.out; omega
      have hcells := hc k hlt
      have hn : Hid (overGo [] xs = (!(decide (xs.getD k default ∈ xs.take k)) && txOK (xs.getD k default) && overGo (xs.take (k + 1)) (xs.drop (k + 1)))) := overGo_at hkl hat.out
      have htk : Hid (xs.take (k + 1) = xs.take k ++ [xs.getD k default]) := take_at hkl
      have hx := hwf (xs.getD k default) (by simp [List.getD, hkl])
      clear hat hc hmem hwf
      obtain ⟨x, ex⟩ : ∃ x, x = xs.getD k default := ⟨_, rfl⟩
      rw [← ex] at hcells hn hx htk
      clear ex
      obtain ⟨l, hkey⟩ := key_tx hx
      have hhas := hkp.out.2 x l hkey
      have hkp' : ∀ d, Hid (Keeps (D.put l d) (xs.take (k + 1))) := fun d => by show Keeps _ _; rw [htk.out]; exact hkp.out.push hkey d
      have hT := fun w' => isTxn_any x w'
      obtain ⟨site, num⟩ := x
      have a0 := hcells 0 (by decide)
      have a1 := hcells 1 (by decide)
      simp [txCells] at a0 a1
      rw [← hb.cell (p := ⟨b, off + k * 2, none⟩) zb] at a0
      rw [← hb.cell (p := ⟨b, off + k * 2 + 1, none⟩) zb] at a1
      simp only at hkey hT
      clear hcells hkp htk hx
      obtain ⟨M, eM⟩ : ∃ M, M = decide ((site, num) ∈ xs.take k) := ⟨_, rfl⟩
      obtain ⟨T, eT⟩ : ∃ T, T = txOK (site, num) := ⟨_, rfl⟩
      rw [← eM] at hn hhas
      rw [← eT] at hn hT
      clear eM eT
      have hwk : (Lit.int .i64 (k : Int)).wf = true := WalkArith.wf_i64 (by omega)
      have hkm : k < maxLen := Nat.lt_of_lt_of_le hlt (Nat.le_trans hcap hmax)
      have hnA : ∀ o, Below w.heap.size w (wr.alloc o) := fun o => hb.alloc hb.size _
      cases M with
      | true =>
        go_wp2_with (at_lookup; refine wpList_lookup_own_ok_int _ rfl _ _ 152 rfl 23 3 .i64 txn_keyed Tryd.underlying152 Tryd.underlying3 (int_zero _) w.heap.size k _ rfl (hown.alloc _) _ _ rfl hkey ?_; intro c hcat hwc; rw [hhas])
        go_ret
        exact ⟨by rw [hn.out]; simp, hnA _⟩
      | false =>
        cases T with
        | false =>
          go_wp2_with (first | (at_lookup; refine wpList_lookup_own_ok_int _ rfl _ _ 152 rfl 23 3 .i64 txn_keyed Tryd.underlying152 Tryd.underlying3 (int_zero _) w.heap.size k _ rfl (hown.alloc _) _ _ rfl hkey ?_; intro c hcat hwc; rw [hhas]) | (go_at_call 73; refine (hT _).mono ?_; rintro e w1 ⟨rfl, hb1⟩))
          go_ret
          exact ⟨by rw [hn.out]; simp, (hnA _).trans (hb1.mono (hnA _).size)⟩
        | true =>
          obtain ⟨V, hV⟩ : ∃ V : World, V = wr.alloc (.cells #[.int .i64 site, .int .i64 num] 23) := ⟨_, rfl⟩
          have bV : Below w.heap.size w V := by rw [hV]; exact hnA _
          have bV' : Below wr.heap.size wr V := by rw [hV]; exact (Below.refl _ _).alloc (Nat.le_refl _) _
          have zV : wr.heap.size < V.heap.size := by rw [hV]; simp
          have c0 : V.cell? ⟨wr.heap.size, 0, none⟩ = some (.int .i64 site) := by rw [hV]; go_simp
          have c1 : V.cell? ⟨wr.heap.size, 1, none⟩ = some (.int .i64 num) := by rw [hV]; go_simp
          have hoV := ownsMap_bel hown bV'
          go_upto_region 5 with (fail)
          rw [← hV]
          clear hV a0 a1
          go_wp2_with (first | (at_lookup; refine wpList_lookup_own_ok_int _ rfl _ _ 152 rfl 23 3 .i64 txn_keyed Tryd.underlying152 Tryd.underlying3 (int_zero _) w.heap.size k _ rfl hoV _ _ rfl hkey ?_; intro c hcat hwc; rw [hhas]) | (go_at_call 73; refine (hT _).mono ?_; rintro e w1 ⟨rfl, hb1⟩; have d0 := (hb1.cell (p := ⟨wr.heap.size, 0, none⟩) zV).trans c0; have d1 := (hb1.cell (p := ⟨wr.heap.size, 1, none⟩) zV).trans c1; have ho1 := ownsMap_bel hoV hb1) | (at_mapUpdate; refine wpList_mapUpdate_own _ rfl _ _ _ 152 rfl 23 3 txn_keyed Tryd.underlying152 _ w.heap.size k _ rfl ho1 hkm _ _ _ rfl rfl hkey _ [] (plainElem_int Tryd.underlying3 hwk) ?_; intro w2 hown2 hgrow2))
          have hb2 : Below w.heap.size w w2 := (bV.trans (hb1.mono bV.size)).grown hgrow2 (bV.trans (hb1.mono bV.size)).size (fun j hj => by cases hj; exact Nat.le_refl _)
          go_roundw
          case rel => exact ⟨k + 1, _, by omega, by go_num, hown2, hkp' _, by show _ = _; rw [hn.out]; simp, hb2⟩
          case measure => simp [intOf]; omega
    · have hfin : overGo [] xs = true := by
        rw [hat.out, List.drop_eq_nil_of_le (by have := HL.out; omega)]
        rfl
      go_wp2
      go_ret
      exact ⟨by rw [hfin]; rfl, hb⟩
end Go.Proofs.YtgohpgollpjlnaaDoor.St
/- Contracts of store.of, and of the function that it hands back. -/
namespace Go.Proofs.YtgohpgollpjlnaaDoor.St
open Go.ChangeShapes Go.WideShapes Go.ChangeAt Go.RowKit
set_option linter.unusedVariables false

set_option maxHeartbeats 1000000 in
theorem of_asks (b0 : Nat) (t : Int × Int) (w : World) (c00 : w.cell? ⟨b0, 0, none⟩ = some (.int .i64 t.1)) (c01 : w.cell? ⟨b0, 1, none⟩ = some (.int .i64 t.2)) (z0 : b0 < w.heap.size) : Asks 101 #[.pointer (some ⟨b0, 0, none⟩)] LkV.val (ofT t) w := by
  refine ⟨enters_of Tryd.func101 (by kernel_rfl) rfl, fun x w' hb => ?_⟩
  rw [← hb.cell (p := ⟨b0, 0, none⟩) z0] at c00
  rw [← hb.cell (p := ⟨b0, 1, none⟩) z0] at c01
  have y0 := Nat.lt_of_lt_of_le z0 hb.size
  obtain ⟨ts, tn⟩ := t
  obtain ⟨⟨site, num⟩, key, write, value, ask⟩ := x
  simp only [LkV.val] at *
  have hA : ∀ o, Below w'.heap.size w' (w'.alloc o) := fun o => (Below.refl _ _).alloc (Nat.le_refl _) _
  show Calls Tryd.prog 101 #[_, .pointer (some ⟨b0, 0, none⟩)] w' _
  go_enter Tryd.func101, Tryd.ntmps101
  go_wp2
  all_goals go_ret
  all_goals exact ⟨ret_bool (by first | (simp_all [ofT]; done) | (simp_all [ofT]; rfl)), hA _⟩
theorem of_any (t : Int × Int) (w : World) :
    Calls Tryd.prog 69 #[.agg #[.int .i64 t.1, .int .i64 t.2]] w fun e w' => ∃ b0 : Nat, e = .returned (.func (.func 101) #[] #[.pointer (some ⟨b0, 0, none⟩)]) ∧ Asks 101 #[.pointer (some ⟨b0, 0, none⟩)] LkV.val (ofT t) w' ∧ Below w.heap.size w w' := by
  obtain ⟨ts, tn⟩ := t
  simp only
  obtain ⟨W, hW⟩ : ∃ W : World, W = (w.alloc (.cells #[.int .i64 ts, .int .i64 tn] 23)) := ⟨_, rfl⟩
  have hB : Below w.heap.size w W := by rw [hW]; exact ((Below.refl _ _).alloc (Nat.le_refl _) _)
  have zW : W.heap.size = w.heap.size + 1 := by rw [hW]; simp
  have c00 : W.cell? ⟨w.heap.size, 0, none⟩ = some (.int .i64 ts) := by rw [hW]; go_simp
  have c01 : W.cell? ⟨w.heap.size, 1, none⟩ = some (.int .i64 tn) := by rw [hW]; go_simp
  have hq := of_asks w.heap.size (ts, tn) W c00 c01 (by omega)
  go_enter Tryd.func69, Tryd.ntmps69
  go_wp2
  rw [← hW]
  go_ret
  exact ⟨_, rfl, hq, hB⟩
end Go.Proofs.YtgohpgollpjlnaaDoor.St
/- Contracts of store.isOver, doubtsMayBe and Check: what a store that may be is. -/
namespace Go.Proofs.YtgohpgollpjlnaaDoor.St
open Go.ChangeShapes Go.WideShapes Go.ChangeAt Go.RowKit
set_option linter.unusedVariables false

theorem isOver_any (s : SV) (t : Int × Int) (w : World) (h : IsTxns w s.oa s.ol s.oc s.over) :
    Calls Tryd.prog 72 #[s.val, .agg #[.int .i64 t.1, .int .i64 t.2]] w fun e w' => e = .returned (.bool (decide (t ∈ s.over))) ∧ Below w.heap.size w w' := by
  have hC := fun w' h1 => containsTxn_any t s.oa s.ol s.oc s.over w' h1
  obtain ⟨ia, il, ic, la, ll, lc, da, dl, dc, oa, ol, oc, items, locks, doubts, over⟩ := s
  obtain ⟨ts, tn⟩ := t
  simp only [SV.val] at *
  have hB : Below w.heap.size w ((w.alloc (.cells #[.slice ia il ic, .slice la ll lc, .slice da dl dc, .slice oa ol oc] 55)).alloc (.cells #[.int .i64 ts, .int .i64 tn] 23)) := ((Below.refl _ _).alloc (Nat.le_refl _) _).alloc (by simp) _
  have hX := h.below hB
  go_enter Tryd.func72, Tryd.ntmps72
  go_wp2_with (go_at_call 104; refine (hC _ hX).mono ?_; rintro e w1 ⟨rfl, hb1⟩)
  go_ret
  exact ⟨rfl, hB.trans (hb1.mono hB.size)⟩

theorem doubtsGo_at {ls : List LkV} {ov : List (Int × Int)} {xs : List DbV} {k : Nat} (hk : k < xs.length) (h : doubtsGo ls ov [] xs = doubtsGo ls ov (xs.take k) (xs.drop k)) :
    doubtsGo ls ov [] xs = (inR (xs.getD k default).age 0 1048576 && ls.any (ofT (xs.getD k default).t) && !((xs.take k).any (dbT (xs.getD k default).t)) && !(decide ((xs.getD k default).t ∈ ov)) && doubtsGo ls ov (xs.take (k + 1)) (xs.drop (k + 1))) := by
  rw [h, drop_at hk, take_at hk]
  rfl
theorem all_at {p : LkV → Bool} {xs : List LkV} {k : Nat} (hk : k < xs.length) (h : xs.all p = (xs.drop k).all p) : xs.all p = (p (xs.getD k default) && (xs.drop (k + 1)).all p) := by
  rw [h, drop_at hk]
  rfl

set_option maxRecDepth 100000 in
set_option maxHeartbeats 8000000 in
theorem doubtsMayBe_any (s : SV) (w : World) (h : IsStore w s) :
    Calls Tryd.prog 84 #[s.val] w fun e w' => e = .returned (.bool (doubtsOK s.doubts s.locks s.over)) ∧ Below w.heap.size w w' := by
  have hOv := fun t w' h1 => isOver_any s t w' h1
  have hh := h
  obtain ⟨ia, il, ic, la, ll, lc, da, dl, dc, oa, ol, oc, items, locks, doubts, over⟩ := s
  obtain ⟨hI, hL, hD, hO⟩ := h
  simp only [SV.val] at *
  have e0 : Hid (doubtsOK doubts locks over = (doubtsGo locks over [] doubts && locks.all (fun k => doubts.any (dbT k.t)))) := rfl
  obtain ⟨hlen, hcap, hmax, _, hmem⟩ := hD
  obtain ⟨llen, lcap, lmax, _, lmem⟩ := hL
  have HL : Hid (doubts.length = dl) := hlen
  have HLL : Hid (locks.length = ll) := llen
  clear hlen llen
  unfold maxLen at hmax lmax
  obtain ⟨W, hW⟩ : ∃ W : World, W = w.alloc (.cells #[.slice ia il ic, .slice la ll lc, .slice da dl dc, .slice oa ol oc] 55) := ⟨_, rfl⟩
  have hB : Below w.heap.size w W := by rw [hW]; exact (Below.refl _ _).alloc (Nat.le_refl _) _
  have zW : w.heap.size < W.heap.size := by rw [hW]; simp
  have c0 : W.cell? ⟨w.heap.size, 0, none⟩ = some (.slice ia il ic) := by rw [hW]; go_simp
  have c1 : W.cell? ⟨w.heap.size, 1, none⟩ = some (.slice la ll lc) := by rw [hW]; go_simp
  have c2 : W.cell? ⟨w.heap.size, 2, none⟩ = some (.slice da dl dc) := by rw [hW]; go_simp
  have c3 : W.cell? ⟨w.heap.size, 3, none⟩ = some (.slice oa ol oc) := by rw [hW]; go_simp
  have KA : Hid (∀ U : World, Below W.heap.size W U → U.cell? ⟨w.heap.size, 0, none⟩ = some (.slice ia il ic) ∧ U.cell? ⟨w.heap.size, 1, none⟩ = some (.slice la ll lc) ∧ U.cell? ⟨w.heap.size, 2, none⟩ = some (.slice da dl dc) ∧ U.cell? ⟨w.heap.size, 3, none⟩ = some (.slice oa ol oc)) := fun U hU =>
    ⟨(hU.cell (p := ⟨w.heap.size, 0, none⟩) zW).trans c0, (hU.cell (p := ⟨w.heap.size, 1, none⟩) zW).trans c1, (hU.cell (p := ⟨w.heap.size, 2, none⟩) zW).trans c2, (hU.cell (p := ⟨w.heap.size, 3, none⟩) zW).trans c3⟩
  go_enter Tryd.func84, Tryd.ntmps84
  go_wp2
  rw [← hW]
  clear hW
  go_loopw [10] (fun s10 wr => ∃ (k : Nat), k ≤ dl ∧ s10 = .int .i64 k ∧ Hid (doubtsGo locks over [] doubts = doubtsGo locks over (doubts.take k) (doubts.drop k)) ∧ Below W.heap.size W wr) (fun s10 _ => dl - (intOf s10).toNat)
  case atStart => exact ⟨0, Nat.zero_le _, rfl, by show _ = _; simp, Below.refl _ _⟩
  case round =>
    obtain ⟨k, hk, rfl, hat, hb⟩ := hrel
    by_cases hlt : k < dl
    · have hlt' : (k : Int) < (dl : Int) := by omega
      obtain ⟨b, off, rfl, zb, hc⟩ := hmem (by omega)
      have hkl : k < doubts.length := by have := HL.out; omega
      have hcells := hc k hlt
      have hn : Hid (doubtsGo locks over [] doubts = (inR (doubts.getD k default).age 0 1048576 && locks.any (ofT (doubts.getD k default).t) && !((doubts.take k).any (dbT (doubts.getD k default).t)) && !(decide ((doubts.getD k default).t ∈ over)) && doubtsGo locks over (doubts.take (k + 1)) (doubts.drop (k + 1)))) := doubtsGo_at hkl hat.out
      clear hat hc hmem lmem
      obtain ⟨x, ex⟩ : ∃ x, x = doubts.getD k default := ⟨_, rfl⟩
      rw [← ex] at hcells hn
      clear ex
      have hOf := fun w' => of_any x.t w'
      have hDb := fun w' => doubtOf_any x.t w'
      have hOx := fun w' h1 => hOv x.t w' h1
      have hCl := fun fn cps w' h1 h2 => containsLock_any fn cps (ofT x.t) la ll lc locks w' h1 h2
      have hCd := fun fn cps w' h1 h2 => containsDoubt_any fn cps (dbT x.t) (some ⟨b, off, none⟩) k dc (doubts.take k) w' h1 h2
      obtain ⟨⟨site, num⟩, age⟩ := x
      simp only at hn hOf hDb hOx hCl hCd
      clear hOv
      have a0 := hcells 0 (by decide)
      have a1 := hcells 1 (by decide)
      have a2 := hcells 2 (by decide)
      simp [DbV.cells] at a0 a1 a2
      have hwr := hB.trans (hb.mono hB.size)
      rw [← hwr.cell (p := ⟨b, off + k * 3, none⟩) zb] at a0
      rw [← hwr.cell (p := ⟨b, off + k * 3 + 1, none⟩) zb] at a1
      rw [← hwr.cell (p := ⟨b, off + k * 3 + 2, none⟩) zb] at a2
      clear hcells
      obtain ⟨V, hV⟩ : ∃ V : World, V = wr.alloc (.cells #[.int .i64 site, .int .i64 num, .int .i64 age] 60) := ⟨_, rfl⟩
      have bV : Below W.heap.size W V := by rw [hV]; exact hb.alloc hb.size _
      have zV : wr.heap.size < V.heap.size := by rw [hV]; simp
      have b0 : V.cell? ⟨wr.heap.size, 0, none⟩ = some (.int .i64 site) := by rw [hV]; go_simp
      have b1 : V.cell? ⟨wr.heap.size, 1, none⟩ = some (.int .i64 num) := by rw [hV]; go_simp
      have b2 : V.cell? ⟨wr.heap.size, 2, none⟩ = some (.int .i64 age) := by rw [hV]; go_simp
      have KB : Hid (∀ U : World, Below V.heap.size V U → (U.cell? ⟨w.heap.size, 0, none⟩ = some (.slice ia il ic) ∧ U.cell? ⟨w.heap.size, 1, none⟩ = some (.slice la ll lc) ∧ U.cell? ⟨w.heap.size, 2, none⟩ = some (.slice (some ⟨b, off, none⟩) dl dc) ∧ U.cell? ⟨w.heap.size, 3, none⟩ = some (.slice oa ol oc)) ∧ U.cell? ⟨wr.heap.size, 0, none⟩ = some (.int .i64 site) ∧ U.cell? ⟨wr.heap.size, 1, none⟩ = some (.int .i64 num) ∧ U.cell? ⟨wr.heap.size, 2, none⟩ = some (.int .i64 age)) := fun U hU =>
        ⟨KA.out U (bV.trans (hU.mono bV.size)), (hU.cell (p := ⟨wr.heap.size, 0, none⟩) zV).trans b0, (hU.cell (p := ⟨wr.heap.size, 1, none⟩) zV).trans b1, (hU.cell (p := ⟨wr.heap.size, 2, none⟩) zV).trans b2⟩
      have HS : Hid (∀ U : World, Below V.heap.size V U → IsLocks U la ll lc locks ∧ IsDoubts U (some ⟨b, off, none⟩) k dc (doubts.take k) ∧ IsTxns U oa ol oc over) := fun U hU => by
        have hs := hh.below (hB.trans ((bV.trans (hU.mono bV.size)).mono hB.size))
        exact ⟨hs.locks, hs.doubts.take k (by omega), hs.over⟩
      obtain ⟨A, eA⟩ : ∃ A, A = inR age 0 1048576 := ⟨_, rfl⟩
      obtain ⟨C1, eC1⟩ : ∃ C, C = locks.any (ofT (site, num)) := ⟨_, rfl⟩
      obtain ⟨C2, eC2⟩ : ∃ C, C = (doubts.take k).any (dbT (site, num)) := ⟨_, rfl⟩
      obtain ⟨C3, eC3⟩ : ∃ C, C = decide ((site, num) ∈ over) := ⟨_, rfl⟩
      have hIn := fun w' => within_any age 0 1048576 w'
      rw [← eA] at hn hIn
      rw [← eC1] at hn hCl
      rw [← eC2] at hn hCd
      rw [← eC3] at hn hOx
      clear eA eC1 eC2 eC3
      have hwV := hB.trans (bV.mono hB.size)
      have hkc : (k : Int) ≤ (dc : Int) := by omega
      go_upto_region 4 with (fail)
      rw [← hV]
      clear hV a0 a1 a2
      have hDr : Below V.heap.size V V.drew := (Below.refl _ _).drew
      have q0 := KB.out V (Below.refl _ _)
      obtain ⟨⟨p0, p1, p2, p3⟩, p4, p5, p6⟩ := q0
      clear c0 c1 c2 c3 b0 b1 b2
      cases A with
      | false =>
        have r1 := fun d os => cell_regrown p1 d os
        have r4 := fun d os => cell_regrown p4 d os
        have r5 := fun d os => cell_regrown p5 d os
        have r6 := fun d os => cell_regrown p6 d os
        refine wp_region_quiet_below (by kernel_rfl) (by kernel_rfl) ?_
        repeat (go_big_quiet_step ((exact Calls.regrown_of ((hIn _).mono fun e u hu => ⟨hu.1, by rw [hu.2]; exact Below.refl _ _⟩))))
        refine wpQuiet_nil ?_
        intro _ hw'
        obtain ⟨⟨dq, osq⟩, hw''⟩ := hw'
        subst hw''
        go_wp2
        go_ret
        exact ⟨by rw [e0.out, hn.out]; simp, hwV.trans ((below_regrown V dq osq).mono hwV.size)⟩
      | true =>
        go_cut [27] (fun s27 wc => s27 = .bool (!C1) ∧ Below V.heap.size V wc)
        case first =>
          go_region_held3 (fun U => (U.cell? ⟨w.heap.size, 0, none⟩ = some (.slice ia il ic) ∧ U.cell? ⟨w.heap.size, 1, none⟩ = some (.slice la ll lc) ∧ U.cell? ⟨w.heap.size, 2, none⟩ = some (.slice (some ⟨b, off, none⟩) dl dc) ∧ U.cell? ⟨w.heap.size, 3, none⟩ = some (.slice oa ol oc)) ∧ U.cell? ⟨wr.heap.size, 0, none⟩ = some (.int .i64 site) ∧ U.cell? ⟨wr.heap.size, 1, none⟩ = some (.int .i64 num) ∧ U.cell? ⟨wr.heap.size, 2, none⟩ = some (.int .i64 age))
            (first | exact KB.out _ hb3 | exact KB.out _ hb2 | exact KB.out _ hb1 | exact KB.out _ hDr | exact KB.out _ (Below.refl _ _))
            (first
              | ((go_at_call 78; refine (hIn _).mono ?_; rintro e w1 ⟨rfl, hu1⟩; have hb1 : Below V.heap.size V w1 := (by rw [hu1]; exact hDr); clear hu1))
              | ((go_at_call 69; refine (hOf _).mono ?_; rintro e w2 ⟨bb, rfl, hAs, hb2'⟩; have hb2 : Below V.heap.size V w2 := hb1.trans (hb2'.mono hb1.size); have hTT := (HS.out _ hb2).1))
              | ((go_at_call 95; refine (hCl _ _ _ hTT hAs).mono ?_; rintro e w3 ⟨rfl, hb3'⟩; have hb3 : Below V.heap.size V w3 := hb2.trans (hb3'.mono hb2.size))))
          all_goals
            go_wp2_with fail
            go_meet
            case rel => exact ⟨rfl, hb3⟩
        case rest =>
          obtain ⟨rfl, hbc⟩ := hcut
          clear p0 p1 p2 p3 p4 p5 p6
          obtain ⟨⟨p0, p1, p2, p3⟩, p4, p5, p6⟩ := KB.out _ hbc
          have hwc := hwV.trans (hbc.mono hwV.size)
          cases C1 with
          | false =>
            go_wp2
            go_ret
            exact ⟨by rw [e0.out, hn.out]; simp, hwc⟩
          | true =>
            have hDc : Below V.heap.size V wc.drew := hbc.drew
            go_upto_region 6 with (fail)
            go_cut [41] (fun s41 wd => s41 = .bool (C2 || C3) ∧ Below V.heap.size V wd)
            case first =>
              cases C2 with
              | true =>
                have hcd := fun (V' : World) (hV' : Below V.heap.size V V') => KB.out V' hV'
                have z0 : Below V.heap.size V wc.drew := hDc
                obtain ⟨⟨x0, x1, x2, x3⟩, x4, x5, x6⟩ := KB.out _ hDc
                first | go_region_with (first
                  | ((go_at_call 71; refine (hDb _).mono ?_; rintro e w2 ⟨bb, rfl, hAs, hb2'⟩; have hb2 : Below V.heap.size V w2 := hDc.trans (hb2'.mono hDc.size); have hTT := (HS.out _ hb2).2.1; obtain ⟨⟨y0, y1, y2, y3⟩, y4, y5, y6⟩ := KB.out _ hb2))
                  | ((go_at_call 97; refine (hCd _ _ _ hTT hAs).mono ?_; rintro e w3 ⟨rfl, hb3'⟩; have hb3 : Below V.heap.size V w3 := hb2.trans (hb3'.mono hb2.size); obtain ⟨⟨v0, v1, v2, v3⟩, v4, v5, v6⟩ := KB.out _ hb3))) | fail
                all_goals
                  go_wp2_with fail
                  go_meet
                  case rel => exact ⟨by simp, hb3⟩
              | false =>
                go_region_held3 (fun U => (U.cell? ⟨w.heap.size, 0, none⟩ = some (.slice ia il ic) ∧ U.cell? ⟨w.heap.size, 1, none⟩ = some (.slice la ll lc) ∧ U.cell? ⟨w.heap.size, 2, none⟩ = some (.slice (some ⟨b, off, none⟩) dl dc) ∧ U.cell? ⟨w.heap.size, 3, none⟩ = some (.slice oa ol oc)) ∧ U.cell? ⟨wr.heap.size, 0, none⟩ = some (.int .i64 site) ∧ U.cell? ⟨wr.heap.size, 1, none⟩ = some (.int .i64 num) ∧ U.cell? ⟨wr.heap.size, 2, none⟩ = some (.int .i64 age))
                  (first | exact KB.out _ hb4 | exact KB.out _ hb3 | exact KB.out _ hb2 | exact KB.out _ hDc | exact KB.out _ hbc)
                  (first
                    | ((go_at_call 71; refine (hDb _).mono ?_; rintro e w2 ⟨bb, rfl, hAs, hb2'⟩; have hb2 : Below V.heap.size V w2 := hDc.trans (hb2'.mono hDc.size); have hTT := (HS.out _ hb2).2.1))
                    | ((go_at_call 97; refine (hCd _ _ _ hTT hAs).mono ?_; rintro e w3 ⟨rfl, hb3'⟩; have hb3 : Below V.heap.size V w3 := hb2.trans (hb3'.mono hb2.size); have hT3 := (HS.out _ hb3).2.2))
                    | ((go_at_call 72; refine (hOx _ hT3).mono ?_; rintro e w4 ⟨rfl, hb4'⟩; have hb4 : Below V.heap.size V w4 := hb3.trans (hb4'.mono hb3.size))))
                all_goals
                  go_wp2_with fail
                  go_meet
                  case rel => exact ⟨by simp, hb4⟩
            case rest =>
              obtain ⟨rfl, hbd⟩ := hcut
              have hwd := hwV.trans (hbd.mono hwV.size)
              have hWd := bV.trans (hbd.mono bV.size)
              cases hX : (C2 || C3) with
              | true =>
                have hf : (!C2 && !C3) = false := by cases C2 <;> cases C3 <;> simp_all
                go_wp2
                go_ret
                exact ⟨by rw [e0.out, hn.out]; simp [hf], hwd⟩
              | false =>
                have hf2 : C2 = false := by cases C2 <;> simp_all
                have hf3 : C3 = false := by cases C3 <;> simp_all
                go_wp2
                go_roundw
                case rel => exact ⟨k + 1, by omega, by go_num, by show _ = _; rw [hn.out, hf2, hf3]; simp, hWd⟩
                case measure => simp [intOf]; omega
    · have hfin : Hid (doubtsGo locks over [] doubts = true) := by
        show _ = _
        rw [hat.out, List.drop_eq_nil_of_le (by have := HL.out; omega)]
        rfl
      clear hat
      clear c0 c1 c2 c3
      obtain ⟨c0, c1, c2, c3⟩ := KA.out _ hb
      go_wp2
      go_loopw [46] (fun s46 wr2 => ∃ (j : Nat), j ≤ ll ∧ s46 = .int .i64 j ∧ Hid (locks.all (fun k => doubts.any (dbT k.t)) = (locks.drop j).all (fun k => doubts.any (dbT k.t))) ∧ Below W.heap.size W wr2) (fun s46 _ => ll - (intOf s46).toNat)
      case atStart => exact ⟨0, Nat.zero_le _, rfl, by show _ = _; simp, hb⟩
      case round =>
        obtain ⟨j, hj, rfl, hall, hb2⟩ := hrel
        clear c0 c1 c2 c3
        have hwr2 := hB.trans (hb2.mono hB.size)
        by_cases hjl : j < ll
        · have hjl' : (j : Int) < (ll : Int) := by omega
          obtain ⟨b, off, rfl, zb, hc⟩ := lmem (by omega)
          have hkl : j < locks.length := by have := HLL.out; omega
          have hcells := hc j hjl
          have hn : Hid (locks.all (fun k => doubts.any (dbT k.t)) = (doubts.any (dbT (locks.getD j default).t) && (locks.drop (j + 1)).all (fun k => doubts.any (dbT k.t)))) := all_at hkl hall.out
          clear hall hc lmem hmem
          obtain ⟨x, ex⟩ : ∃ x, x = locks.getD j default := ⟨_, rfl⟩
          rw [← ex] at hcells hn
          clear ex
          have hDb := fun w' => doubtOf_any x.t w'
          have hCd := fun fn cps w' h1 h2 => containsDoubt_any fn cps (dbT x.t) da dl dc doubts w' h1 h2
          obtain ⟨⟨site, num⟩, key, write, value, ask⟩ := x
          simp only at hn hDb hCd
          clear hOv
          have a0 := hcells 0 (by decide)
          have a1 := hcells 1 (by decide)
          have a2 := hcells 2 (by decide)
          have a3 := hcells 3 (by decide)
          have a4 := hcells 4 (by decide)
          have a5 := hcells 5 (by decide)
          simp [LkV.cells] at a0 a1 a2 a3 a4 a5
          rw [← hwr2.cell (p := ⟨b, off + j * 6, none⟩) zb] at a0
          rw [← hwr2.cell (p := ⟨b, off + j * 6 + 1, none⟩) zb] at a1
          rw [← hwr2.cell (p := ⟨b, off + j * 6 + 2, none⟩) zb] at a2
          rw [← hwr2.cell (p := ⟨b, off + j * 6 + 3, none⟩) zb] at a3
          rw [← hwr2.cell (p := ⟨b, off + j * 6 + 4, none⟩) zb] at a4
          rw [← hwr2.cell (p := ⟨b, off + j * 6 + 5, none⟩) zb] at a5
          clear hcells
          obtain ⟨R, eR⟩ : ∃ R, R = wr := ⟨_, rfl⟩
          rw [← eR] at a0 a1 a2 a3 a4 a5 hb2 hwr2 ⊢
          clear eR
          obtain ⟨V, hV⟩ : ∃ V : World, V = R.alloc (.cells #[.int .i64 site, .int .i64 num, .int .i64 key, .bool write, .int .i64 value, .int .i64 ask] 111) := ⟨_, rfl⟩
          have bV : Below W.heap.size W V := by rw [hV]; exact hb2.alloc hb2.size _
          have zV : R.heap.size < V.heap.size := by rw [hV]; simp
          have b0 : V.cell? ⟨R.heap.size, 0, none⟩ = some (.int .i64 site) := by rw [hV]; go_simp
          have b1 : V.cell? ⟨R.heap.size, 1, none⟩ = some (.int .i64 num) := by rw [hV]; go_simp
          have KB : Hid (∀ U : World, Below V.heap.size V U → (U.cell? ⟨w.heap.size, 0, none⟩ = some (.slice ia il ic) ∧ U.cell? ⟨w.heap.size, 1, none⟩ = some (.slice (some ⟨b, off, none⟩) ll lc) ∧ U.cell? ⟨w.heap.size, 2, none⟩ = some (.slice da dl dc) ∧ U.cell? ⟨w.heap.size, 3, none⟩ = some (.slice oa ol oc)) ∧ U.cell? ⟨R.heap.size, 0, none⟩ = some (.int .i64 site) ∧ U.cell? ⟨R.heap.size, 1, none⟩ = some (.int .i64 num)) := fun U hU =>
            ⟨KA.out U (bV.trans (hU.mono bV.size)), (hU.cell (p := ⟨R.heap.size, 0, none⟩) zV).trans b0, (hU.cell (p := ⟨R.heap.size, 1, none⟩) zV).trans b1⟩
          have HS : Hid (∀ U : World, Below V.heap.size V U → IsDoubts U da dl dc doubts) := fun U hU => (hh.below (hB.trans ((bV.trans (hU.mono bV.size)).mono hB.size))).doubts
          obtain ⟨C1, eC1⟩ : ∃ C, C = doubts.any (dbT (site, num)) := ⟨_, rfl⟩
          rw [← eC1] at hn hCd
          clear eC1
          have hwV := hB.trans (bV.mono hB.size)
          go_upto_region 12 with (fail)
          rw [← hV]
          clear hV a0 a1 a2 a3 a4 a5
          have hDr : Below V.heap.size V V.drew := (Below.refl _ _).drew
          go_cut [56] (fun s56 wc => s56 = .bool (!C1) ∧ Below V.heap.size V wc)
          case first =>
            go_region_held3 (fun U => (U.cell? ⟨w.heap.size, 0, none⟩ = some (.slice ia il ic) ∧ U.cell? ⟨w.heap.size, 1, none⟩ = some (.slice (some ⟨b, off, none⟩) ll lc) ∧ U.cell? ⟨w.heap.size, 2, none⟩ = some (.slice da dl dc) ∧ U.cell? ⟨w.heap.size, 3, none⟩ = some (.slice oa ol oc)) ∧ U.cell? ⟨R.heap.size, 0, none⟩ = some (.int .i64 site) ∧ U.cell? ⟨R.heap.size, 1, none⟩ = some (.int .i64 num))
              (first | exact KB.out _ hb6 | exact KB.out _ hb5 | exact KB.out _ hDr | exact KB.out _ (Below.refl _ _))
              (first
                | ((go_at_call 71; refine (hDb _).mono ?_; rintro e w5 ⟨bb, rfl, hAs, hb5'⟩; have hb5 : Below V.heap.size V w5 := hDr.trans (hb5'.mono hDr.size); have hTT := HS.out _ hb5))
                | ((go_at_call 97; refine (hCd _ _ _ hTT hAs).mono ?_; rintro e w6 ⟨rfl, hb6'⟩; have hb6 : Below V.heap.size V w6 := hb5.trans (hb6'.mono hb5.size))))
            all_goals
              go_wp2_with fail
              go_meet
              case rel => exact ⟨rfl, hb6⟩
          case rest =>
            obtain ⟨rfl, hbc⟩ := hcut
            have hwc := hwV.trans (hbc.mono hwV.size)
            have hWc := bV.trans (hbc.mono bV.size)
            cases C1 with
            | false =>
              go_wp2
              go_ret
              exact ⟨by rw [e0.out, hn.out]; simp, hwc⟩
            | true =>
              go_wp2
              go_roundw
              case rel => exact ⟨j + 1, by omega, by go_num, by show _ = _; rw [hn.out]; simp, hWc⟩
              case measure => simp [intOf]; omega
        · have hfin2 : locks.all (fun k => doubts.any (dbT k.t)) = true := by
            rw [hall.out, List.drop_eq_nil_of_le (by have := HLL.out; omega)]
            rfl
          go_wp2
          go_ret
          exact ⟨by rw [e0.out, hfin.out, hfin2]; rfl, hwr2⟩

end Go.Proofs.YtgohpgollpjlnaaDoor.St
