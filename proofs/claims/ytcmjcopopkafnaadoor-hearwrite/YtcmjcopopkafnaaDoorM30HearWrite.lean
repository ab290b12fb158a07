/- Texts of this claim, one behind the other. -/
import Derived.Test.YtcmjcopopkafnaaDoorM28HearWrite
import Derived.Test.YtcmjcopopkafnaaDoorM16HearWrite
import Derived.Test.YtcmjcopopkafnaaDoorA0HearWrite
import Derived.Test.YtcmjcopopkafnaaDoorM23HearWrite
/- How many locks for writing a transaction has behind its first write. -/
namespace Go.Proofs.YtcmjcopopkafnaaDoor.St
open Go.ChangeShapes Go.WideShapes Go.ChangeAt Go.RowKit
set_option linter.unusedVariables false

theorem wOf_plus {p : PS} {x : Int × Int} {k va ask : Int} (hF : Fresh p x) : (p.locks ++ [(⟨x, k, true, va, ask⟩ : LkV)]).filter (wOf x) = [⟨x, k, true, va, ask⟩] := by
  rw [List.filter_append]
  have : p.locks.filter (wOf x) = [] := List.filter_eq_nil_iff.2 fun o ho => by simp [wOf, hF.nl o ho]
  rw [this]
  simp [wOf]
theorem cnt_plus {p : PS} {u : SV} {x : Int × Int} {k va ask : Int} (hF : Fresh p x) (hP : Plus p u.data ⟨x, k, true, va, ask⟩) (ho : OKP u.data) : cntErr u x = 0 ∧ cntIs u x = 1 := by
  have el : u.locks = p.locks ++ [⟨x, k, true, va, ask⟩] := hP.locks
  have hE : cntErr u x = 0 := by unfold cntErr; rw [if_pos ho.ok, if_pos hF.okx]
  refine ⟨hE, ?_⟩
  unfold cntIs
  rw [if_pos hE, el, wOf_plus hF]
  rfl
end Go.Proofs.YtcmjcopopkafnaaDoor.St
/- A slice of integers as it comes in: so many numbers, each of 64 bits. -/
namespace Go.Proofs.YtcmjcopopkafnaaDoor
open Go.ChangeShapes Go.WideShapes Go.ChangeAt Go.RowKit

/-- Numbers that came in as a slice. -/
def IsInts (w : World) (a : Option Addr) (len cap : Nat) (zs : List Int) : Prop :=
  zs.length = len ∧ len ≤ cap ∧ cap ≤ maxLen ∧ (∀ i, -9223372036854775808 ≤ zs.getD i 0 ∧ zs.getD i 0 ≤ 9223372036854775807) ∧
    (0 < len → ∃ b off, a = some ⟨b, off, none⟩ ∧ b < w.heap.size ∧ ∀ i, i < len → w.cell? ⟨b, off + i, none⟩ = some (.int .i64 (zs.getD i 0)))

theorem IsInts.below {w w' : World} {a : Option Addr} {len cap : Nat} {zs : List Int} (h : IsInts w a len cap zs) (hb : Below w.heap.size w w') : IsInts w' a len cap zs := by
  obtain ⟨h1, h2, h3, hbd, h4⟩ := h
  refine ⟨h1, h2, h3, hbd, fun hp => ?_⟩
  obtain ⟨b, off, e, hlt, hl⟩ := h4 hp
  refine ⟨b, off, e, Nat.lt_of_lt_of_le hlt hb.size, fun i hi => ?_⟩
  rw [hb.cell (p := ⟨b, off + i, none⟩) hlt]
  exact hl i hi

end Go.Proofs.YtcmjcopopkafnaaDoor
/- Records on plain data, and contracts of wire's recordParts and bounds' Rising. -/
namespace Go.Proofs.YtcmjcopopkafnaaDoor
open Go.ChangeShapes Go.WideShapes Go.ChangeAt Go.RowKit
set_option linter.unusedVariables false

structure RcV where
  kind : Int
  site : Int
  num : Int
  key : Int
  value : Int
  ask : Int
  yes : Bool
  sa : Option Addr
  sl : Nat
  sc : Nat
  sites : List Int

def RcV.val (r : RcV) : Value := .agg #[.int .i64 r.kind, .int .i64 r.site, .int .i64 r.num, .int .i64 r.key, .int .i64 r.value, .int .i64 r.ask, .bool r.yes, .slice r.sa r.sl r.sc]

/-- Numbers from 'low' on below s, each above the one ahead. -/
def rising (s low : Int) : List Int → Bool
  | [] => true
  | n :: r => inR n low (s - 1) && rising s (n + 1) r

def recRange (s : Int) (n : Nat) (r : RcV) : Bool := txnOK s r.site r.num && partsOK n [0, r.key, r.value, 0, r.ask, bit r.yes, 0, (r.sl : Int)] && rising s 0 r.sites
def recForm (r : RcV) : Bool := hasAll (rHasOf r.kind) [0, r.key, r.value, 0, r.ask, bit r.yes, 0, (r.sl : Int)]
def recFault (s : Int) (ls : List (Int × Int)) (p : Int) (r : RcV) : Int :=
  if cfgFault s ls p ≠ 0 then cfgFault s ls p else if inR r.kind 1 6 = false then 3 else if recRange s ls.length r = false then 2 else if recForm r = false then 4 else 0

theorem rf_cfg {s : Int} {ls : List (Int × Int)} {p : Int} {m : RcV} (h : cfgFault s ls p ≠ 0) : recFault s ls p m = cfgFault s ls p := by simp [recFault, h]
theorem rf_kind {s : Int} {ls : List (Int × Int)} {p : Int} {m : RcV} (h : cfgFault s ls p = 0) (hk : inR m.kind 1 6 = false) : recFault s ls p m = 3 := by simp [recFault, h, hk]
theorem rf_range {s : Int} {ls : List (Int × Int)} {p : Int} {m : RcV} (h : cfgFault s ls p = 0) (hk : inR m.kind 1 6 = true) (hr : recRange s ls.length m = false) : recFault s ls p m = 2 := by simp [recFault, h, hk, hr]
theorem rf_form {s : Int} {ls : List (Int × Int)} {p : Int} {m : RcV} (h : cfgFault s ls p = 0) (hk : inR m.kind 1 6 = true) (hr : recRange s ls.length m = true) (hf : recForm m = false) : recFault s ls p m = 4 := by simp [recFault, h, hk, hr, hf]
theorem rf_ok {s : Int} {ls : List (Int × Int)} {p : Int} {m : RcV} (h : cfgFault s ls p = 0) (hk : inR m.kind 1 6 = true) (hr : recRange s ls.length m = true) (hf : recForm m = true) : recFault s ls p m = 0 := by simp [recFault, h, hk, hr, hf]

theorem drop_int {zs : List Int} {k : Nat} (hk : k < zs.length) : zs.drop k = zs.getD k 0 :: zs.drop (k + 1) := by
  rw [List.drop_eq_getElem_cons hk]; simp [List.getD, hk]

end Go.Proofs.YtcmjcopopkafnaaDoor
