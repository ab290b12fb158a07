/- Texts of this claim, one behind the other. -/
import Derived.Test.YtekglahigjblkaaGreatDoorProg
import Derived.Test.YtekglahigjblkaaGreatDoorA0RecoverRebuilds
import Derived.WalkKit
import Derived.ProofKit
import Derived.Below
import Derived.OwnWalk
import Derived.OpenShut
import Derived.Deep.QuietTactic
import Derived.BigQuiet
import Derived.BigRegion
import Derived.LoopTactic
import Derived.RegionTactic
import Derived.WalkSmall
import Derived.Maps.Own
import Derived.Maps.OwnOps
import Derived.Maps.OwnSet
import Derived.Maps.Views
import Derived.DeepKeys4
import Derived.Deep.Cut
import Derived.Lib.QuietBelow
/- What a store holds, on plain data, and rows of it in memory: items, locks, doubts, transactions; what a store that may be is. -/
namespace Go.Proofs.YtekglahigjblkaaGreatDoor.St
open Go.ChangeShapes Go.WideShapes Go.ChangeAt Go.RowKit
set_option linter.unusedVariables false

structure ItV where
  key : Int
  value : Int
  version : Int
structure LkV where
  t : Int × Int
  key : Int
  write : Bool
  value : Int
  ask : Int
structure DbV where
  t : Int × Int
  age : Int
instance : Inhabited ItV := ⟨⟨0, 0, 0⟩⟩
instance : Inhabited LkV := ⟨⟨(0, 0), 0, false, 0, 0⟩⟩
instance : Inhabited DbV := ⟨⟨(0, 0), 0⟩⟩
def ItV.cells (x : ItV) : List Value := [.int .i64 x.key, .int .i64 x.value, .int .i64 x.version]
def LkV.cells (x : LkV) : List Value := [.int .i64 x.t.1, .int .i64 x.t.2, .int .i64 x.key, .bool x.write, .int .i64 x.value, .int .i64 x.ask]
def DbV.cells (x : DbV) : List Value := [.int .i64 x.t.1, .int .i64 x.t.2, .int .i64 x.age]
def txCells (t : Int × Int) : List Value := [.int .i64 t.1, .int .i64 t.2]
def ItV.val (x : ItV) : Value := .agg #[.int .i64 x.key, .int .i64 x.value, .int .i64 x.version]
def LkV.val (x : LkV) : Value := .agg #[.int .i64 x.t.1, .int .i64 x.t.2, .int .i64 x.key, .bool x.write, .int .i64 x.value, .int .i64 x.ask]
def DbV.val (x : DbV) : Value := .agg #[.int .i64 x.t.1, .int .i64 x.t.2, .int .i64 x.age]
def txVal (t : Int × Int) : Value := .agg #[.int .i64 t.1, .int .i64 t.2]

/-- Elements of k cells each that lie one behind the other. -/
def IsRow {α : Type} [Inhabited α] (k : Nat) (cells : α → List Value) (w : World) (a : Option Addr) (len cap : Nat) (xs : List α) : Prop :=
  xs.length = len ∧ len ≤ cap ∧ cap ≤ maxLen ∧ (a = none → cap = 0) ∧
    (0 < len → ∃ b off, a = some ⟨b, off, none⟩ ∧ b < w.heap.size ∧ ∀ i, i < len → ∀ j, j < k → w.cell? ⟨b, off + i * k + j, none⟩ = (cells (xs.getD i default))[j]?)
theorem IsRow.below {α : Type} [Inhabited α] {k : Nat} {cells : α → List Value} {w w' : World} {a : Option Addr} {len cap : Nat} {xs : List α} (h : IsRow k cells w a len cap xs) (hb : Below w.heap.size w w') : IsRow k cells w' a len cap xs := by
  obtain ⟨h1, h2, h3, h4, h5⟩ := h
  refine ⟨h1, h2, h3, h4, fun hp => ?_⟩
  obtain ⟨b, off, e, hl, hc⟩ := h5 hp
  refine ⟨b, off, e, Nat.lt_of_lt_of_le hl hb.size, fun i hi j hj => ?_⟩
  rw [hb.cell (p := ⟨b, off + i * k + j, none⟩) hl]
  exact hc i hi j hj
theorem IsRow.take {α : Type} [Inhabited α] {k : Nat} {cells : α → List Value} {w : World} {a : Option Addr} {len cap : Nat} {xs : List α} (h : IsRow k cells w a len cap xs) (n : Nat) (hn : n ≤ len) : IsRow k cells w a n cap (xs.take n) := by
  obtain ⟨h1, h2, h3, h4, h5⟩ := h
  refine ⟨by simp; omega, by omega, h3, h4, fun hp => ?_⟩
  obtain ⟨b, off, e, hl, hc⟩ := h5 (by omega)
  refine ⟨b, off, e, hl, fun i hi j hj => ?_⟩
  rw [hc i (by omega) j hj]
  simp [List.getD, hi]
theorem isRow_nil {α : Type} [Inhabited α] (k : Nat) (cells : α → List Value) (w : World) : IsRow k cells w none 0 0 ([] : List α) := ⟨rfl, Nat.le_refl _, Nat.zero_le _, fun _ => rfl, fun h => absurd h (by omega)⟩
abbrev IsItems := @IsRow ItV _ 3 ItV.cells
abbrev IsLocks := @IsRow LkV _ 6 LkV.cells
abbrev IsDoubts := @IsRow DbV _ 3 DbV.cells
abbrev IsTxns := @IsRow (Int × Int) _ 2 txCells

/-- A store as it comes: four slices. -/
structure SV where
  ia : Option Addr
  il : Nat
  ic : Nat
  la : Option Addr
  ll : Nat
  lc : Nat
  da : Option Addr
  dl : Nat
  dc : Nat
  oa : Option Addr
  ol : Nat
  oc : Nat
  items : List ItV
  locks : List LkV
  doubts : List DbV
  over : List (Int × Int)
def SV.val (s : SV) : Value := .agg #[.slice s.ia s.il s.ic, .slice s.la s.ll s.lc, .slice s.da s.dl s.dc, .slice s.oa s.ol s.oc]
structure IsStore (w : World) (s : SV) : Prop where
  items : IsItems w s.ia s.il s.ic s.items
  locks : IsLocks w s.la s.ll s.lc s.locks
  doubts : IsDoubts w s.da s.dl s.dc s.doubts
  over : IsTxns w s.oa s.ol s.oc s.over
theorem IsStore.below {w w' : World} {s : SV} (h : IsStore w s) (hb : Below w.heap.size w w') : IsStore w' s := ⟨h.items.below hb, h.locks.below hb, h.doubts.below hb, h.over.below hb⟩

def inR (n lo hi : Int) : Bool := decide (lo ≤ n ∧ n ≤ hi)
theorem inR_true {n lo hi : Int} (h1 : lo ≤ n) (h2 : n ≤ hi) : inR n lo hi = true := by simp [inR, h1, h2]
theorem inR_of {n lo hi : Int} (h : inR n lo hi = true) : lo ≤ n ∧ n ≤ hi := by simpa [inR] using h
theorem inR_not {n lo hi : Int} (h : inR n lo hi = false) : n < lo ∨ hi < n := by simp [inR] at h; omega
def txOK (t : Int × Int) : Bool := inR t.1 0 3 && inR t.2 1 1048576
def itemsOK : Int → List ItV → Bool
  | _, [] => true
  | lo, x :: r => inR x.key lo 7 && inR x.value 0 1073741824 && inR x.version 1 1048576 && itemsOK (x.key + 1) r
def lockOK (k : LkV) : Bool := txOK k.t && inR k.key 0 7 && inR k.value 0 1073741824 && inR k.ask 0 1048576 && (k.write || (decide (k.value = 0) && decide (k.ask = 0)))
def against (k o : LkV) : Bool := decide (o.key = k.key) && (decide (o.t = k.t) || o.write || k.write)
def locksGo : List LkV → List LkV → Bool
  | _, [] => true
  | seen, k :: r => lockOK k && !(seen.any (against k)) && locksGo (seen ++ [k]) r
def locksOK (l : List LkV) : Bool := decide (l.length ≤ 24) && locksGo [] l
def overGo : List (Int × Int) → List (Int × Int) → Bool
  | _, [] => true
  | seen, t :: r => !(decide (t ∈ seen)) && txOK t && overGo (seen ++ [t]) r
def ofT (t : Int × Int) (k : LkV) : Bool := decide (k.t = t)
def dbT (t : Int × Int) (d : DbV) : Bool := decide (d.t = t)
def doubtsGo (ls : List LkV) (ov : List (Int × Int)) : List DbV → List DbV → Bool
  | _, [] => true
  | seen, d :: r => inR d.age 0 1048576 && ls.any (ofT d.t) && !(seen.any (dbT d.t)) && !(decide (d.t ∈ ov)) && doubtsGo ls ov (seen ++ [d]) r
def doubtsOK (ds : List DbV) (ls : List LkV) (ov : List (Int × Int)) : Bool := doubtsGo ls ov [] ds && ls.all (fun k => ds.any (dbT k.t))
def storeOK (s : SV) : Bool := itemsOK 0 s.items && locksOK s.locks && overGo [] s.over && doubtsOK s.doubts s.locks s.over

theorem drop_at {α : Type} [Inhabited α] {l : List α} {k : Nat} (hk : k < l.length) : l.drop k = l.getD k default :: l.drop (k + 1) := by
  rw [List.drop_eq_getElem_cons hk]; simp [List.getD, hk]
theorem take_at {α : Type} [Inhabited α] {l : List α} {k : Nat} (hk : k < l.length) : l.take (k + 1) = l.take k ++ [l.getD k default] := by
  rw [List.take_succ_eq_append_getElem hk]; simp [List.getD, hk]

/-- The place of the first that is meant; -1: there is none. -/
def idxI {α : Type} (p : α → Bool) (l : List α) : Int := match l.findIdx? p with | some k => (k : Int) | none => -1
theorem idxI_hit {α : Type} [Inhabited α] {p : α → Bool} {l : List α} {k : Nat} (hk : k < l.length) (hn : ∀ i, i < k → p (l.getD i default) = false) (hp : p (l.getD k default) = true) : idxI p l = k := by
  have : l.findIdx? p = some k := by
    rw [List.findIdx?_eq_some_iff_getElem]
    refine ⟨hk, by simpa [List.getD, hk] using hp, fun j hj => ?_⟩
    have := hn j hj
    have hj' : j < l.length := by omega
    simpa [List.getD, hj'] using this
  simp [idxI, this]
theorem idxI_none {α : Type} [Inhabited α] {p : α → Bool} {l : List α} (hn : ∀ i, i < l.length → p (l.getD i default) = false) : idxI p l = -1 := by
  have : l.findIdx? p = none := by
    rw [List.findIdx?_eq_none_iff]
    intro x hx
    obtain ⟨i, hi, rfl⟩ := List.getElem_of_mem hx
    simpa [List.getD, hi] using hn i hi
  simp [idxI, this]
theorem idxI_any {α : Type} (p : α → Bool) (l : List α) : decide (0 ≤ idxI p l) = l.any p := by
  unfold idxI
  cases h : l.findIdx? p with
  | none =>
    rw [List.findIdx?_eq_none_iff] at h
    have : l.any p = false := by
      rw [List.any_eq_false]
      intro x hx
      simp [h x hx]
    simp [this]
  | some k =>
    rw [List.findIdx?_eq_some_iff_getElem] at h
    obtain ⟨hk, hp, _⟩ := h
    have : l.any p = true := List.any_eq_true.2 ⟨_, List.getElem_mem hk, hp⟩
    simp [this]
theorem idxI_lt {α : Type} {p : α → Bool} {l : List α} : idxI p l < l.length ∧ -1 ≤ idxI p l := by
  unfold idxI
  cases h : l.findIdx? p with
  | none => simp; omega
  | some k =>
    rw [List.findIdx?_eq_some_iff_getElem] at h
    obtain ⟨hk, _, _⟩ := h
    simp
    omega
end Go.Proofs.YtekglahigjblkaaGreatDoor.St
/- Contracts of the small functions: Within, Key, Value, Txn, isTxn, isAsk, lockMayBe; itemsMayBe. -/
namespace Go.Proofs.YtekglahigjblkaaGreatDoor.St
open Go.ChangeShapes Go.WideShapes Go.ChangeAt Go.RowKit
set_option linter.unusedVariables false

theorem within_any (n lo hi : Int) (w : World) :
    Calls Tryz.prog 41 #[.int .i64 n, .int .i64 lo, .int .i64 hi] w fun e w' => e = .returned (.bool (inR n lo hi)) ∧ w' = w := by
  go_enter Tryz.func41, Tryz.ntmps41
  go_wp2
  all_goals go_ret
  all_goals exact ⟨ret_bool (by unfold inR; rw [Bool.eq_iff_iff]; simp; omega), rfl⟩
theorem key_any (n : Int) (w : World) :
    Calls Tryz.prog 78 #[.int .i64 n] w fun e w' => e = .returned (.bool (inR n 0 7)) ∧ w' = w := by
  go_enter Tryz.func78, Tryz.ntmps78
  go_wp2_with (go_at_call 41; refine (within_any _ _ _ _).mono ?_; rintro e w1 ⟨rfl, hu1⟩; rw [hu1]; clear hu1)
  go_ret
  exact ⟨rfl, rfl⟩
theorem value_any (n : Int) (w : World) :
    Calls Tryz.prog 63 #[.int .i64 n] w fun e w' => e = .returned (.bool (inR n 0 1073741824)) ∧ w' = w := by
  go_enter Tryz.func63, Tryz.ntmps63
  go_wp2_with (go_at_call 41; refine (within_any _ _ _ _).mono ?_; rintro e w1 ⟨rfl, hu1⟩; rw [hu1]; clear hu1)
  go_ret
  exact ⟨rfl, rfl⟩
theorem isAsk_any (n : Int) (w : World) :
    Calls Tryz.prog 64 #[.int .i64 n] w fun e w' => e = .returned (.bool (inR n 0 1048576)) ∧ w' = w := by
  go_enter Tryz.func64, Tryz.ntmps64
  go_wp2_with (go_at_call 41; refine (within_any _ _ _ _).mono ?_; rintro e w1 ⟨rfl, hu1⟩; rw [hu1]; clear hu1)
  go_ret
  exact ⟨rfl, rfl⟩
theorem txn_any (site num : Int) (w : World) :
    Calls Tryz.prog 45 #[.agg #[.int .i64 site, .int .i64 num], .int .i64 4] w fun e w' => e = .returned (.bool (txOK (site, num))) ∧ Below w.heap.size w w' := by
  have hA : Below w.heap.size w (w.alloc (.cells #[.int .i64 site, .int .i64 num] 51)) := (Below.refl _ _).alloc (Nat.le_refl _) _
  unfold txOK
  cases hr : inR site 0 3 with
  | false =>
    go_enter Tryz.func45, Tryz.ntmps45
    go_wp2_with (go_at_call 41; refine (within_any _ _ _ _).mono ?_; rintro e w1 ⟨rfl, hu1⟩; rw [hu1]; clear hu1)
    go_ret
    exact ⟨by simp, hA⟩
  | true =>
    go_enter Tryz.func45, Tryz.ntmps45
    go_wp2_with (go_at_call 41; refine (within_any _ _ _ _).mono ?_; rintro e w1 ⟨rfl, hu1⟩; rw [hu1]; clear hu1)
    go_ret
    exact ⟨by simp, hA⟩
theorem isTxn_any (t : Int × Int) (w : World) :
    Calls Tryz.prog 86 #[.agg #[.int .i64 t.1, .int .i64 t.2]] w fun e w' => e = .returned (.bool (txOK t)) ∧ Below w.heap.size w w' := by
  obtain ⟨site, num⟩ := t
  have hA : Below w.heap.size w (w.alloc (.cells #[.int .i64 site, .int .i64 num] 51)) := (Below.refl _ _).alloc (Nat.le_refl _) _
  simp only
  go_enter Tryz.func86, Tryz.ntmps86
  go_wp2_with (go_at_call 45; refine (txn_any _ _ _).mono ?_; rintro e w1 ⟨rfl, hu1⟩)
  go_ret
  exact ⟨rfl, hA.trans (hu1.mono hA.size)⟩

set_option maxHeartbeats 1000000 in
theorem itemsMayBe_any (a : Option Addr) (len cap : Nat) (xs : List ItV) (w : World) (h : IsItems w a len cap xs) :
    Calls Tryz.prog 98 #[.slice a len cap] w fun e w' => e = .returned (.bool (itemsOK 0 xs)) ∧ Below w.heap.size w w' := by
  obtain ⟨hlen, hcap, hmax, _, hmem⟩ := h
  have HL : Hid (xs.length = len) := hlen
  clear hlen
  unfold maxLen at hmax
  go_enter Tryz.func98, Tryz.ntmps98
  go_wp2
  go_loopw [3, 8] (fun s3 s8 wr => ∃ (k : Nat) (lo : Int), k ≤ len ∧ 0 ≤ lo ∧ lo ≤ 8 ∧ s3 = .int .i64 lo ∧ s8 = .int .i64 k ∧ Hid (itemsOK 0 xs = itemsOK lo (xs.drop k)) ∧ Below w.heap.size w wr) (fun _ s8 _ => len - (intOf s8).toNat)
  case atStart => exact ⟨0, 0, Nat.zero_le _, Int.le_refl _, by omega, rfl, rfl, by show _ = _; simp, Below.refl _ _⟩
  case round =>
    obtain ⟨k, lo, hk, lo0, lo8, rfl, rfl, hat, hb⟩ := hrel
    by_cases hlt : k < len
    · have hlt' : (k : Int) < (len : Int) := by omega
      obtain ⟨b, off, rfl, zb, hc⟩ := hmem (by omega)
      have hcells := hc k hlt
      have hd := drop_at (l := xs) (k := k) (by have := HL.out; omega)
      obtain ⟨x, ex⟩ : ∃ x, x = xs.getD k default := ⟨_, rfl⟩
      rw [← ex] at hcells hd
      clear ex
      obtain ⟨key, value, version⟩ := x
      have a0 := hcells 0 (by decide)
      have a1 := hcells 1 (by decide)
      have a2 := hcells 2 (by decide)
      simp [ItV.cells] at a0 a1 a2
      rw [← hb.cell (p := ⟨b, off + k * 3, none⟩) zb] at a0
      rw [← hb.cell (p := ⟨b, off + k * 3 + 1, none⟩) zb] at a1
      rw [← hb.cell (p := ⟨b, off + k * 3 + 2, none⟩) zb] at a2
      have hn : Hid (itemsOK 0 xs = (inR key lo 7 && inR value 0 1073741824 && inR version 1 1048576 && itemsOK (key + 1) (xs.drop (k + 1)))) := by show _ = _; rw [hat.out, hd]; rfl
      clear hat hcells hd hc
      have hA : Below w.heap.size w (wr.alloc (.cells #[.int .i64 key, .int .i64 value, .int .i64 version] 68)) := hb.alloc hb.size _
      cases h1 : inR key lo 7 with
      | false =>
        go_wp2_with (first | (go_at_call 41; refine (within_any _ _ _ _).mono ?_; rintro e w1 ⟨rfl, hu1⟩; rw [hu1]; clear hu1) | (go_at_call 63; refine (value_any _ _).mono ?_; rintro e w1 ⟨rfl, hu1⟩; rw [hu1]; clear hu1))
        go_ret
        exact ⟨by rw [hn.out, h1]; rfl, hA⟩
      | true =>
        have kb := inR_of h1
        cases h2 : inR value 0 1073741824 with
        | false =>
          go_wp2_with (first | (go_at_call 41; refine (within_any _ _ _ _).mono ?_; rintro e w1 ⟨rfl, hu1⟩; rw [hu1]; clear hu1) | (go_at_call 63; refine (value_any _ _).mono ?_; rintro e w1 ⟨rfl, hu1⟩; rw [hu1]; clear hu1))
          go_ret
          exact ⟨by rw [hn.out, h1, h2]; rfl, hA⟩
        | true =>
          cases h3 : inR version 1 1048576 with
          | false =>
            go_wp2_with (first | (go_at_call 41; refine (within_any _ _ _ _).mono ?_; rintro e w1 ⟨rfl, hu1⟩; rw [hu1]; clear hu1) | (go_at_call 63; refine (value_any _ _).mono ?_; rintro e w1 ⟨rfl, hu1⟩; rw [hu1]; clear hu1))
            go_ret
            exact ⟨by rw [hn.out, h1, h2, h3]; rfl, hA⟩
          | true =>
            go_wp2_with (first | (go_at_call 41; refine (within_any _ _ _ _).mono ?_; rintro e w1 ⟨rfl, hu1⟩; rw [hu1]; clear hu1) | (go_at_call 63; refine (value_any _ _).mono ?_; rintro e w1 ⟨rfl, hu1⟩; rw [hu1]; clear hu1))
            go_roundw
            case rel => exact ⟨k + 1, key + 1, by omega, by omega, by omega, by go_num, by go_num, by show _ = _; rw [hn.out, h1, h2, h3]; simp, hA⟩
            case measure => simp [intOf]; omega
    · have hke : k = len := by omega
      have hfin : itemsOK 0 xs = true := by
        rw [hat.out, List.drop_eq_nil_of_le (by have := HL.out; omega)]
        rfl
      go_wp2
      go_ret
      exact ⟨by rw [hfin]; rfl, hb⟩
end Go.Proofs.YtekglahigjblkaaGreatDoor.St
/- The contract of store.overMayBe: transactions, each once; it asks a map of its own. -/
namespace Go.Proofs.YtekglahigjblkaaGreatDoor.St
open Go.ChangeShapes Go.WideShapes Go.ChangeAt Go.RowKit Go.Maps
set_option linter.unusedVariables false

/-- Numbers that a transaction may have at all. -/
def TxWf (t : Int × Int) : Prop := (Lit.int .i64 t.1).wf = true ∧ (Lit.int .i64 t.2).wf = true
theorem txn_laid : laidOutB Tryz.prog = true := by kernel_rfl
theorem txn_row : (51 : TypeId) < Tryz.prog.types.size := of_decide_eq_true (by kernel_rfl)
theorem txn_wide : (match Tryz.prog.underlying 51 with | some (.array _ _) | some (.struct _) => true | _ => false) = true := by rw [Tryz.underlying51]
set_option maxRecDepth 100000 in
theorem txn_keyed : Keyed Tryz.prog 51 := Keyed.of_law (deep_law_laid txn_laid (m := 4) (by omega) txn_row (by kernel_rfl) txn_wide)
theorem int_zero (w : World) : (zeroValue 3).run Tryz.prog w = .ok (.int .i64 0) w := by kernel_rfl
theorem txn_cells : Tryz.prog.cellsOf 51 = 2 := by kernel_rfl
theorem int_cells : Tryz.prog.cellsOf 3 = 1 := by kernel_rfl
theorem txn_key : Tryz.prog.keyType 51 = true := by kernel_rfl
theorem key_tx {t : Int × Int} (h : TxWf t) : ∃ l, keyOf Tryz.prog 51 (.agg #[.int .i64 t.1, .int .i64 t.2]) = some l := by
  obtain ⟨h1, h2⟩ := h
  obtain ⟨n, hn⟩ : ∃ n, Tryz.prog.types.size = n + 1 := Nat.exists_eq_succ_of_ne_zero (fun e => by have h : (0 : Nat) < Tryz.prog.types.size := Nat.lt_of_le_of_lt (Nat.zero_le _) txn_row; rw [e] at h; exact absurd h (Nat.not_lt_zero _))
  have e : Tryz.prog.keyLits (n + 1 + 1) 51 [.int .i64 t.1, .int .i64 t.2] = some [.int .i64 t.1, .int .i64 t.2] := by
    unfold Program.keyLits
    rw [Tryz.underlying51]
    simp [txn_cells, Program.keyLits, Tryz.underlying3, int_cells, h1, h2]
  refine ⟨.string (keyBytes [.int .i64 t.1, .int .i64 t.2]), ?_⟩
  unfold keyOf
  simp only [Tryz.underlying51, txn_key, hn]
  have hf : (Value.agg #[.int .i64 t.1, .int .i64 t.2]).formed Tryz.prog 51 = true := by simp [Value.formed, Tryz.underlying51, txn_cells]
  rw [hf]
  simp [Value.cells, e]
theorem key_tx_inj {t u : Int × Int} {l : Lit} (h : keyOf Tryz.prog 51 (.agg #[.int .i64 t.1, .int .i64 t.2]) = some l) (k : keyOf Tryz.prog 51 (.agg #[.int .i64 u.1, .int .i64 u.2]) = some l) : t = u := by
  have := txn_keyed.inj h k
  simp at this
  exact Prod.ext this.1 this.2
theorem ownsMap_bel {H : Type} {w w' : World} {k : TypeId} {R : Value → Option (DataW H × List MemPlace)} {b n : Nat} {D : DataW H} (h : w.ownsMap Tryz.prog k R b n D) (hb : Below w.heap.size w w') : w'.ownsMap Tryz.prog k R b n D := by
  obtain ⟨es, clock, h1, h2⟩ := h
  exact ⟨es, clock, (hb.block b (by have := (Array.getElem?_eq_some_iff.1 h1).1; exact this)).trans h1, h2⟩

/-- The map has just the transactions ahead. -/
def Keeps (D : DataW Unit) (ts : List (Int × Int)) : Prop := IsMap D ∧ ∀ t l, keyOf Tryz.prog 51 (.agg #[.int .i64 t.1, .int .i64 t.2]) = some l → Maps.has D l = decide (t ∈ ts)
theorem keeps_nil : Keeps (.map []) [] := ⟨isMap_empty, fun t l h => by simp [Maps.has]⟩
theorem Keeps.push {D : DataW Unit} {ts : List (Int × Int)} (h : Keeps D ts) {t : Int × Int} {l : Lit} (hl : keyOf Tryz.prog 51 (.agg #[.int .i64 t.1, .int .i64 t.2]) = some l) (d : DataW Unit) : Keeps (D.put l d) (ts ++ [t]) := by
  refine ⟨h.1.put l d, fun u m hm => ?_⟩
  by_cases e : u = t
  · subst e
    rw [hl] at hm
    cases hm
    rw [has_put_same h.1 (txn_keyed.key hl)]
    simp
  · have hne : m ≠ l := fun e' => by subst e'; exact e (key_tx_inj hm hl)
    rw [has_put_other hne, h.2 u m hm]
    simp [e]

theorem overGo_at {xs : List (Int × Int)} {k : Nat} (hk : k < xs.length) (h : overGo [] xs = overGo (xs.take k) (xs.drop k)) :
    overGo [] xs = (!(decide (xs.getD k default ∈ xs.take k)) && txOK (xs.getD k default) && overGo (xs.take (k + 1)) (xs.drop (k + 1))) := by
  rw [h, drop_at hk, take_at hk]
  rfl

set_option maxRecDepth 100000 in
set_option maxHeartbeats 4000000 in
theorem overMayBe_any (a : Option Addr) (len cap : Nat) (xs : List (Int × Int)) (w : World) (h : IsTxns w a len cap xs) (hwf : ∀ t ∈ xs, TxWf t) :
    Calls Tryz.prog 100 #[.slice a len cap] w fun e w' => e = .returned (.bool (overGo [] xs)) ∧ Below w.heap.size w w' := by
  obtain ⟨hlen, hcap, hmax, _, hmem⟩ := h
  have HL : Hid (xs.length = len) := hlen
  clear hlen
  have hmm := @run_makeMap Tryz.prog
  have hm2 : cap ≤ 2 ^ 63 - 1 := by unfold maxLen at hmax; exact hmax
  go_enter Tryz.func100, Tryz.ntmps100
  go_wp2
  go_loopw [11] (fun s11 wr => ∃ (k : Nat) (D : DataW Unit), k ≤ len ∧ s11 = .int .i64 k ∧ wr.ownsMap Tryz.prog 51 (plainElem Tryz.prog 3) w.heap.size k D ∧ Hid (Keeps D (xs.take k)) ∧ Hid (overGo [] xs = overGo (xs.take k) (xs.drop k)) ∧ Below w.heap.size w wr) (fun s11 _ => len - (intOf s11).toNat)
  case atStart => exact ⟨0, .map [], Nat.zero_le _, rfl, World.ownsMap_made _ _ _ _, keeps_nil, by show _ = _; simp, (Below.refl _ _).alloc (Nat.le_refl _) _⟩
  case round =>
    obtain ⟨k, D, hk, rfl, hown, hkp, hat, hb⟩ := hrel
    by_cases hlt : k < len
    · have hlt' : (k : Int) < (len : Int) := by omega
      obtain ⟨b, off, rfl, zb, hc⟩ := hmem (by omega)
      have hkl : k < xs.length := by have := HL.out; omega
      have hcells := hc k hlt
      have hn : Hid (overGo [] xs = (!(decide (xs.getD k default ∈ xs.take k)) && txOK (xs.getD k default) && overGo (xs.take (k + 1)) (xs.drop (k + 1)))) := overGo_at hkl hat.out
      have htk : Hid (xs.take (k + 1) = xs.take k ++ [xs.getD k default]) := take_at hkl
      have hx := hwf (xs.getD k default) (by simp [List.getD, hkl])
      clear hat hc hmem hwf
      obtain ⟨x, ex⟩ : ∃ x, x = xs.getD k default := ⟨_, rfl⟩
      rw [← ex] at hcells hn hx htk
      clear ex
      obtain ⟨l, hkey⟩ := key_tx hx
      have hhas := hkp.out.2 x l hkey
      have hkp' : ∀ d, Hid (Keeps (D.put l d) (xs.take (k + 1))) := fun d => by show Keeps _ _; rw [htk.out]; exact hkp.out.push hkey d
      have hT := fun w' => isTxn_any x w'
      obtain ⟨site, num⟩ := x
      have a0 := hcells 0 (by decide)
      have a1 := hcells 1 (by decide)
      simp [txCells] at a0 a1
      rw [← hb.cell (p := ⟨b, off + k * 2, none⟩) zb] at a0
      rw [← hb.cell (p := ⟨b, off + k * 2 + 1, none⟩) zb] at a1
      simp only at hkey hT
      clear hcells hkp htk hx
      obtain ⟨M, eM⟩ : ∃ M, M = decide ((site, num) ∈ xs.take k) := ⟨_, rfl⟩
      obtain ⟨T, eT⟩ : ∃ T, T = txOK (site, num) := ⟨_, rfl⟩
      rw [← eM] at hn hhas
      rw [← eT] at hn hT
      clear eM eT
      have hwk : (Lit.int .i64 (k : Int)).wf = true := WalkArith.wf_i64 (by omega)
      have hkm : k < maxLen := Nat.lt_of_lt_of_le hlt (Nat.le_trans hcap hmax)
      have hnA : ∀ o, Below w.heap.size w (wr.alloc o) := fun o => hb.alloc hb.size _
      cases M with
      | true =>
        go_wp2_with (at_lookup; refine wpList_lookup_own_ok_int _ rfl _ _ 76 rfl 51 3 .i64 txn_keyed Tryz.underlying76 Tryz.underlying3 (int_zero _) w.heap.size k _ rfl (hown.alloc _) _ _ rfl hkey ?_; intro c hcat hwc; rw [hhas])
        go_ret
        exact ⟨by rw [hn.out]; simp, hnA _⟩
      | false =>
        cases T with
        | false =>
          go_wp2_with (first | (at_lookup; refine wpList_lookup_own_ok_int _ rfl _ _ 76 rfl 51 3 .i64 txn_keyed Tryz.underlying76 Tryz.underlying3 (int_zero _) w.heap.size k _ rfl (hown.alloc _) _ _ rfl hkey ?_; intro c hcat hwc; rw [hhas]) | (go_at_call 86; refine (hT _).mono ?_; rintro e w1 ⟨rfl, hb1⟩))
          go_ret
          exact ⟨by rw [hn.out]; simp, (hnA _).trans (hb1.mono (hnA _).size)⟩
        | true =>
          obtain ⟨V, hV⟩ : ∃ V : World, V = wr.alloc (.cells #[.int .i64 site, .int .i64 num] 51) := ⟨_, rfl⟩
          have bV : Below w.heap.size w V := by rw [hV]; exact hnA _
          have bV' : Below wr.heap.size wr V := by rw [hV]; exact (Below.refl _ _).alloc (Nat.le_refl _) _
          have zV : wr.heap.size < V.heap.size := by rw [hV]; simp
          have c0 : V.cell? ⟨wr.heap.size, 0, none⟩ = some (.int .i64 site) := by rw [hV]; go_simp
          have c1 : V.cell? ⟨wr.heap.size, 1, none⟩ = some (.int .i64 num) := by rw [hV]; go_simp
          have hoV := ownsMap_bel hown bV'
          go_upto_region 5 with (fail)
          rw [← hV]
          clear hV a0 a1
          go_wp2_with (first | (at_lookup; refine wpList_lookup_own_ok_int _ rfl _ _ 76 rfl 51 3 .i64 txn_keyed Tryz.underlying76 Tryz.underlying3 (int_zero _) w.heap.size k _ rfl hoV _ _ rfl hkey ?_; intro c hcat hwc; rw [hhas]) | (go_at_call 86; refine (hT _).mono ?_; rintro e w1 ⟨rfl, hb1⟩; have d0 := (hb1.cell (p := ⟨wr.heap.size, 0, none⟩) zV).trans c0; have d1 := (hb1.cell (p := ⟨wr.heap.size, 1, none⟩) zV).trans c1; have ho1 := ownsMap_bel hoV hb1) | (at_mapUpdate; refine wpList_mapUpdate_own _ rfl _ _ _ 76 rfl 51 3 txn_keyed Tryz.underlying76 _ w.heap.size k _ rfl ho1 hkm _ _ _ rfl rfl hkey _ [] (plainElem_int Tryz.underlying3 hwk) ?_; intro w2 hown2 hgrow2))
          have hb2 : Below w.heap.size w w2 := (bV.trans (hb1.mono bV.size)).grown hgrow2 (bV.trans (hb1.mono bV.size)).size (fun j hj => by cases hj; exact Nat.le_refl _)
          go_roundw
          case rel => exact ⟨k + 1, _, by omega, by go_num, hown2, hkp' _, by show _ = _; rw [hn.out]; simp, hb2⟩
          case measure => simp [intOf]; omega
    · have hfin : overGo [] xs = true := by
        rw [hat.out, List.drop_eq_nil_of_le (by have := HL.out; omega)]
        rfl
      go_wp2
      go_ret
      exact ⟨by rw [hfin]; rfl, hb⟩
end Go.Proofs.YtekglahigjblkaaGreatDoor.St
