/- The contract of store.overMayBe: transactions, each once; it asks a map of its own. -/
import Derived.Test.YtdjnaahkcnklhaaM0TaskTwice
import Derived.Maps.Own
import Derived.Maps.OwnOps
import Derived.Maps.OwnSet
import Derived.Maps.Views
import Derived.DeepKeys4
import Derived.Deep.Cut
import Derived.Lib.QuietBelow
namespace Go.Proofs.Ytdjnaahkcnklhaa.St
open Go.ChangeShapes Go.WideShapes Go.ChangeAt Go.RowKit Go.Maps
set_option linter.unusedVariables false

/-- Numbers that a transaction may have at all. -/
def TxWf (t : Int × Int) : Prop := (Lit.int .i64 t.1).wf = true ∧ (Lit.int .i64 t.2).wf = true
theorem txn_laid : laidOutB Try.prog = true := by kernel_rfl
theorem txn_row : (43 : TypeId) < Try.prog.types.size := of_decide_eq_true (by kernel_rfl)
theorem txn_wide : (match Try.prog.underlying 43 with | some (.array _ _) | some (.struct _) => true | _ => false) = true := by rw [Try.underlying43]
set_option maxRecDepth 100000 in
theorem txn_keyed : Keyed Try.prog 43 := Keyed.of_law (deep_law_laid txn_laid (m := 4) (by omega) txn_row (by kernel_rfl) txn_wide)
theorem int_zero (w : World) : (zeroValue 3).run Try.prog w = .ok (.int .i64 0) w := by kernel_rfl
theorem txn_cells : Try.prog.cellsOf 43 = 2 := by kernel_rfl
theorem int_cells : Try.prog.cellsOf 3 = 1 := by kernel_rfl
theorem txn_key : Try.prog.keyType 43 = true := by kernel_rfl
theorem key_tx {t : Int × Int} (h : TxWf t) : ∃ l, keyOf Try.prog 43 (.agg #[.int .i64 t.1, .int .i64 t.2]) = some l := by
  obtain ⟨h1, h2⟩ := h
  obtain ⟨n, hn⟩ : ∃ n, Try.prog.types.size = n + 1 := Nat.exists_eq_succ_of_ne_zero (fun e => by have h : (0 : Nat) < Try.prog.types.size := Nat.lt_of_le_of_lt (Nat.zero_le _) txn_row; rw [e] at h; exact absurd h (Nat.not_lt_zero _))
  have e : Try.prog.keyLits (n + 1 + 1) 43 [.int .i64 t.1, .int .i64 t.2] = some [.int .i64 t.1, .int .i64 t.2] := by
    unfold Program.keyLits
    rw [Try.underlying43]
    simp [txn_cells, Program.keyLits, Try.underlying3, int_cells, h1, h2]
  refine ⟨.string (keyBytes [.int .i64 t.1, .int .i64 t.2]), ?_⟩
  unfold keyOf
  simp only [Try.underlying43, txn_key, hn]
  have hf : (Value.agg #[.int .i64 t.1, .int .i64 t.2]).formed Try.prog 43 = true := by simp [Value.formed, Try.underlying43, txn_cells]
  rw [hf]
  simp [Value.cells, e]
theorem key_tx_inj {t u : Int × Int} {l : Lit} (h : keyOf Try.prog 43 (.agg #[.int .i64 t.1, .int .i64 t.2]) = some l) (k : keyOf Try.prog 43 (.agg #[.int .i64 u.1, .int .i64 u.2]) = some l) : t = u := by
  have := txn_keyed.inj h k
  simp at this
  exact Prod.ext this.1 this.2
theorem ownsMap_bel {H : Type} {w w' : World} {k : TypeId} {R : Value → Option (DataW H × List MemPlace)} {b n : Nat} {D : DataW H} (h : w.ownsMap Try.prog k R b n D) (hb : Below w.heap.size w w') : w'.ownsMap Try.prog k R b n D := by
  obtain ⟨es, clock, h1, h2⟩ := h
  exact ⟨es, clock, (hb.block b (by have := (Array.getElem?_eq_some_iff.1 h1).1; exact this)).trans h1, h2⟩

/-- The map has just the transactions ahead. -/
def Keeps (D : DataW Unit) (ts : List (Int × Int)) : Prop := IsMap D ∧ ∀ t l, keyOf Try.prog 43 (.agg #[.int .i64 t.1, .int .i64 t.2]) = some l → Maps.has D l = decide (t ∈ ts)
theorem keeps_nil : Keeps (.map []) [] := ⟨isMap_empty, fun t l h => by simp [Maps.has]⟩
theorem Keeps.push {D : DataW Unit} {ts : List (Int × Int)} (h : Keeps D ts) {t : Int × Int} {l : Lit} (hl : keyOf Try.prog 43 (.agg #[.int .i64 t.1, .int .i64 t.2]) = some l) (d : DataW Unit) : Keeps (D.put l d) (ts ++ [t]) := by
  refine ⟨h.1.put l d, fun u m hm => ?_⟩
  by_cases e : u = t
  · subst e
    rw [hl] at hm
    cases hm
    rw [has_put_same h.1 (txn_keyed.key hl)]
    simp
  · have hne : m ≠ l := fun e' => by subst e'; exact e (key_tx_inj hm hl)
    rw [has_put_other hne, h.2 u m hm]
    simp [e]

theorem overGo_at {xs : List (Int × Int)} {k : Nat} (hk : k < xs.length) (h : overGo [] xs = overGo (xs.take k) (xs.drop k)) :
    overGo [] xs = (!(decide (xs.getD k default ∈ xs.take k)) && txOK (xs.getD k default) && overGo (xs.take (k + 1)) (xs.drop (k + 1))) := by
  rw [h, drop_at hk, take_at hk]
  rfl

end Go.Proofs.Ytdjnaahkcnklhaa.St
