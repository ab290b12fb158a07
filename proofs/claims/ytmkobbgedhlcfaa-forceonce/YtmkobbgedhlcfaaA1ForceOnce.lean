/- The contract of store.overMayBe: transactions, each once; it asks a map of its own. -/
import Derived.Test.YtmkobbgedhlcfaaM0ForceOnce
import Derived.Maps.Own
import Derived.Maps.OwnOps
import Derived.Maps.OwnSet
import Derived.Maps.Views
import Derived.DeepKeys4
import Derived.Deep.Cut
import Derived.Lib.QuietBelow
namespace Go.Proofs.Ytmkobbgedhlcfaa.St
open Go.ChangeShapes Go.WideShapes Go.ChangeAt Go.RowKit Go.Maps
set_option linter.unusedVariables false

/-- Numbers that a transaction may have at all. -/
def TxWf (t : Int × Int) : Prop := (Lit.int .i64 t.1).wf = true ∧ (Lit.int .i64 t.2).wf = true
theorem txn_laid : laidOutB Try.prog = true := by kernel_rfl
theorem txn_row : (43 : TypeId) < Try.prog.types.size := of_decide_eq_true (by kernel_rfl)
theorem txn_wide : (match Try.prog.underlying 43 with | some (.array _ _) | some (.struct _) => true | _ => false) = true := by rw [Try.underlying43]
set_option maxRecDepth 100000 in
theorem txn_keyed : Keyed Try.prog 43 := Keyed.of_law (deep_law_laid txn_laid (m := 4) (by omega) txn_row (by kernel_rfl) txn_wide)
theorem int_zero (w : World) : (zeroValue 3).run Try.prog w = .ok (.int .i64 0) w := by kernel_rfl
theorem txn_cells : Try.prog.cellsOf 43 = 2 := by kernel_rfl
theorem int_cells : Try.prog.cellsOf 3 = 1 := by kernel_rfl
theorem txn_key : Try.prog.keyType 43 = true := by kernel_rfl
theorem key_tx {t : Int × Int} (h : TxWf t) : ∃ l, keyOf Try.prog 43 (.agg #[.int .i64 t.1, .int .i64 t.2]) = some l := by
  obtain ⟨h1, h2⟩ := h
  obtain ⟨n, hn⟩ : ∃ n, Try.prog.types.size = n + 1 := Nat.exists_eq_succ_of_ne_zero (fun e => by have h : (0 : Nat) < Try.prog.types.size := Nat.lt_of_le_of_lt (Nat.zero_le _) txn_row; rw [e] at h; exact absurd h (Nat.not_lt_zero _))
  have e : Try.prog.keyLits (n + 1 + 1) 43 [.int .i64 t.1, .int .i64 t.2] = some [.int .i64 t.1, .int .i64 t.2] := by
    unfold Program.keyLits
    rw [Try.underlying43]
    simp [txn_cells, Program.keyLits, Try.underlying3, int_cells, h1, h2]
  refine ⟨.string (keyBytes [.int .i64 t.1, .int .i64 t.2]), ?_⟩
  unfold keyOf
  simp only [Try.underlying43, txn_key, hn]
  have hf : (Value.agg #[.int .i64 t.1, .int .i64 t.2]).formed Try.prog 43 = true := by simp [Value.formed, Try.underlying43, txn_cells]
  rw [hf]
  simp [Value.cells, e]
theorem key_tx_inj {t u : Int × Int} {l : Lit} (h : keyOf Try.prog 43 (.agg #[.int .i64 t.1, .int .i64 t.2]) = some l) (k : keyOf Try.prog 43 (.agg #[.int .i64 u.1, .int .i64 u.2]) = some l) : t = u := by
  have := txn_keyed.inj h k
  simp at this
  exact Prod.ext this.1 this.2
theorem ownsMap_bel {H : Type} {w w' : World} {k : TypeId} {R : Value → Option (DataW H × List MemPlace)} {b n : Nat} {D : DataW H} (h : w.ownsMap Try.prog k R b n D) (hb : Below w.heap.size w w') : w'.ownsMap Try.prog k R b n D := by
  obtain ⟨es, clock, h1, h2⟩ := h
  exact ⟨es, clock, (hb.block b (by have := (Array.getElem?_eq_some_iff.1 h1).1; exact this)).trans h1, h2⟩

/-- The map has just the transactions ahead. -/
def Keeps (D : DataW Unit) (ts : List (Int × Int)) : Prop := IsMap D ∧ ∀ t l, keyOf Try.prog 43 (.agg #[.int .i64 t.1, .int .i64 t.2]) = some l → Maps.has D l = decide (t ∈ ts)
theorem keeps_nil : Keeps (.map []) [] := ⟨isMap_empty, fun t l h => by simp [Maps.has]⟩
theorem Keeps.push {D : DataW Unit} {ts : List (Int × Int)} (h : Keeps D ts) {t : Int × Int} {l : Lit} (hl : keyOf Try.prog 43 (.agg #[.int .i64 t.1, .int .i64 t.2]) = some l) (d : DataW Unit) : Keeps (D.put l d) (ts ++ [t]) := by
  refine ⟨h.1.put l d, fun u m hm => ?_⟩
  by_cases e : u = t
  · subst e
    rw [hl] at hm
    cases hm
    rw [has_put_same h.1 (txn_keyed.key hl)]
    simp
  · have hne : m ≠ l := fun e' => by subst e'; exact e (key_tx_inj hm hl)
    rw [has_put_other hne, h.2 u m hm]
    simp [e]

theorem overGo_at {xs : List (Int × Int)} {k : Nat} (hk : k < xs.length) (h : overGo [] xs = overGo (xs.take k) (xs.drop k)) :
    overGo [] xs = (!(decide (xs.getD k default ∈ xs.take k)) && txOK (xs.getD k default) && overGo (xs.take (k + 1)) (xs.drop (k + 1))) := by
  rw [h, drop_at hk, take_at hk]
  rfl

set_option maxRecDepth 100000 in
set_option maxHeartbeats 4000000 in
theorem overMayBe_any (a : Option Addr) (len cap : Nat) (xs : List (Int × Int)) (w : World) (h : IsTxns w a len cap xs) (hwf : ∀ t ∈ xs, TxWf t) :
    Calls Try.prog 71 #[.slice a len cap] w fun e w' => e = .returned (.bool (overGo [] xs)) ∧ Below w.heap.size w w' := by
  obtain ⟨hlen, hcap, hmax, _, hmem⟩ := h
  have HL : Hid (xs.length = len) := hlen
  clear hlen
  have hmm := @run_makeMap Try.prog
  have hm2 : cap ≤ 2 ^ 63 - 1 := by unfold maxLen at hmax; exact hmax
  go_enter Try.func71, Try.ntmps71
  go_wp2
  go_loopw [11] (fun s11 wr => ∃ (k : Nat) (D : DataW Unit), k ≤ len ∧ s11 = .int .i64 k ∧ wr.ownsMap Try.prog 43 (plainElem Try.prog 3) w.heap.size k D ∧ Hid (Keeps D (xs.take k)) ∧ Hid (overGo [] xs = overGo (xs.take k) (xs.drop k)) ∧ Below w.heap.size w wr) (fun s11 _ => len - (intOf s11).toNat)
  case atStart => exact ⟨0, .map [], Nat.zero_le _, rfl, World.ownsMap_made _ _ _ _, keeps_nil, by show _ = _; simp, (Below.refl _ _).alloc (Nat.le_refl _) _⟩
  case round =>
    obtain ⟨k, D, hk, rfl, hown, hkp, hat, hb⟩ := hrel
    by_cases hlt : k < len
    · have hlt' : (k : Int) < (len : Int) := by omega
      obtain ⟨b, off, rfl, zb, hc⟩ := hmem (by omega)
      have hkl : k < xs.length := by have := HL.out; omega
      have hcells := hc k hlt
      have hn : Hid (overGo [] xs = (!(decide (xs.getD k default ∈ xs.take k)) && txOK (xs.getD k default) && overGo (xs.take (k + 1)) (xs.drop (k + 1)))) := overGo_at hkl hat.out
      have htk : Hid (xs.take (k + 1) = xs.take k ++ [xs.getD k default]) := take_at hkl
      have hx := hwf (xs.getD k default) (by simp [List.getD, hkl])
      clear hat hc hmem hwf
      obtain ⟨x, ex⟩ : ∃ x, x = xs.getD k default := ⟨_, rfl⟩
      rw [← ex] at hcells hn hx htk
      clear ex
      obtain ⟨l, hkey⟩ := key_tx hx
      have hhas := hkp.out.2 x l hkey
      have hkp' : ∀ d, Hid (Keeps (D.put l d) (xs.take (k + 1))) := fun d => by show Keeps _ _; rw [htk.out]; exact hkp.out.push hkey d
      have hT := fun w' => isTxn_any x w'
      obtain ⟨site, num⟩ := x
      have a0 := hcells 0 (by decide)
      have a1 := hcells 1 (by decide)
      simp [txCells] at a0 a1
      rw [← hb.cell (p := ⟨b, off + k * 2, none⟩) zb] at a0
      rw [← hb.cell (p := ⟨b, off + k * 2 + 1, none⟩) zb] at a1
      simp only at hkey hT
      clear hcells hkp htk hx
      obtain ⟨M, eM⟩ : ∃ M, M = decide ((site, num) ∈ xs.take k) := ⟨_, rfl⟩
      obtain ⟨T, eT⟩ : ∃ T, T = txOK (site, num) := ⟨_, rfl⟩
      rw [← eM] at hn hhas
      rw [← eT] at hn hT
      clear eM eT
      have hwk : (Lit.int .i64 (k : Int)).wf = true := WalkArith.wf_i64 (by omega)
      have hkm : k < maxLen := Nat.lt_of_lt_of_le hlt (Nat.le_trans hcap hmax)
      have hnA : ∀ o, Below w.heap.size w (wr.alloc o) := fun o => hb.alloc hb.size _
      cases M with
      | true =>
        go_wp2_with (at_lookup; refine wpList_lookup_own_ok_int _ rfl _ _ 130 rfl 43 3 .i64 txn_keyed Try.underlying130 Try.underlying3 (int_zero _) w.heap.size k _ rfl (hown.alloc _) _ _ rfl hkey ?_; intro c hcat hwc; rw [hhas])
        go_ret
        exact ⟨by rw [hn.out]; simp, hnA _⟩
      | false =>
        cases T with
        | false =>
          go_wp2_with (first | (at_lookup; refine wpList_lookup_own_ok_int _ rfl _ _ 130 rfl 43 3 .i64 txn_keyed Try.underlying130 Try.underlying3 (int_zero _) w.heap.size k _ rfl (hown.alloc _) _ _ rfl hkey ?_; intro c hcat hwc; rw [hhas]) | (go_at_call 66; refine (hT _).mono ?_; rintro e w1 ⟨rfl, hb1⟩))
          go_ret
          exact ⟨by rw [hn.out]; simp, (hnA _).trans (hb1.mono (hnA _).size)⟩
        | true =>
          obtain ⟨V, hV⟩ : ∃ V : World, V = wr.alloc (.cells #[.int .i64 site, .int .i64 num] 43) := ⟨_, rfl⟩
          have bV : Below w.heap.size w V := by rw [hV]; exact hnA _
          have bV' : Below wr.heap.size wr V := by rw [hV]; exact (Below.refl _ _).alloc (Nat.le_refl _) _
          have zV : wr.heap.size < V.heap.size := by rw [hV]; simp
          have c0 : V.cell? ⟨wr.heap.size, 0, none⟩ = some (.int .i64 site) := by rw [hV]; go_simp
          have c1 : V.cell? ⟨wr.heap.size, 1, none⟩ = some (.int .i64 num) := by rw [hV]; go_simp
          have hoV := ownsMap_bel hown bV'
          go_upto_region 5 with (fail)
          rw [← hV]
          clear hV a0 a1
          go_wp2_with (first | (at_lookup; refine wpList_lookup_own_ok_int _ rfl _ _ 130 rfl 43 3 .i64 txn_keyed Try.underlying130 Try.underlying3 (int_zero _) w.heap.size k _ rfl hoV _ _ rfl hkey ?_; intro c hcat hwc; rw [hhas]) | (go_at_call 66; refine (hT _).mono ?_; rintro e w1 ⟨rfl, hb1⟩; have d0 := (hb1.cell (p := ⟨wr.heap.size, 0, none⟩) zV).trans c0; have d1 := (hb1.cell (p := ⟨wr.heap.size, 1, none⟩) zV).trans c1; have ho1 := ownsMap_bel hoV hb1) | (at_mapUpdate; refine wpList_mapUpdate_own _ rfl _ _ _ 130 rfl 43 3 txn_keyed Try.underlying130 _ w.heap.size k _ rfl ho1 hkm _ _ _ rfl rfl hkey _ [] (plainElem_int Try.underlying3 hwk) ?_; intro w2 hown2 hgrow2))
          have hb2 : Below w.heap.size w w2 := (bV.trans (hb1.mono bV.size)).grown hgrow2 (bV.trans (hb1.mono bV.size)).size (fun j hj => by cases hj; exact Nat.le_refl _)
          go_roundw
          case rel => exact ⟨k + 1, _, by omega, by go_num, hown2, hkp' _, by show _ = _; rw [hn.out]; simp, hb2⟩
          case measure => simp [intOf]; omega
    · have hfin : overGo [] xs = true := by
        rw [hat.out, List.drop_eq_nil_of_le (by have := HL.out; omega)]
        rfl
      go_wp2
      go_ret
      exact ⟨by rw [hfin]; rfl, hb⟩
end Go.Proofs.Ytmkobbgedhlcfaa.St
