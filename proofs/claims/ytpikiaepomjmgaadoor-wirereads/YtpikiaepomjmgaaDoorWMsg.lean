/- Messages on plain data: their parts, which kind has which, whether one may be, and its bytes. -/
import Derived.Test.YtpikiaepomjmgaaDoorWNum
import Derived.Test.YtpikiaepomjmgaaDoorCfg0
namespace Go.Proofs.YtpikiaepomjmgaaDoor
open Go.ChangeShapes Go.WideShapes Go.ChangeAt Go.RowKit

def plc (l : Int) (n : Nat) : Bool := decide (0 ≤ l ∧ l < (n : Int))
theorem plc_true {l : Int} {n : Nat} (h : plc l n = true) : 0 ≤ l ∧ l < (n : Int) := by simpa [plc] using h
theorem plc_false {l : Int} {n : Nat} (h : plc l n = false) : l < 0 ∨ (n : Int) ≤ l := by simp [plc] at h; omega

def bit (b : Bool) : Int := if b then 1 else 0

structure MV where
  kind : Int
  frm : Int
  dst : Int
  site : Int
  num : Int
  label : Int
  key : Int
  value : Int
  version : Int
  ask : Int
  yes : Bool
  code : Int

def MV.val (m : MV) : Value := .agg #[.int .i64 m.kind, .int .i64 m.frm, .int .i64 m.dst, .int .i64 m.site, .int .i64 m.num, .int .i64 m.label, .int .i64 m.key, .int .i64 m.value, .int .i64 m.version, .int .i64 m.ask, .bool m.yes, .int .i64 m.code]

def MV.parts (m : MV) : List Int := [m.label, m.key, m.value, m.version, m.ask, bit m.yes, m.code, 0]

def mHas : List (List Bool) :=
  [[false, false, false, false, false, false, false, false],
   [true, true, false, false, true, false, false, false],
   [false, true, true, false, true, false, false, false],
   [true, true, false, true, false, false, false, false],
   [false, false, false, false, false, true, false, false],
   [true, true, true, true, true, false, true, false],
   [false, true, false, false, true, false, true, false],
   [true, true, false, true, false, true, false, false],
   [false, false, false, false, false, false, false, false],
   [false, false, false, false, false, false, false, false]]
def rHas : List (List Bool) :=
  [[false, false, false, false, false, false, false, false],
   [false, true, true, false, true, false, false, false],
   [false, false, false, false, false, true, false, false],
   [false, false, false, false, false, false, false, true],
   [false, false, false, false, false, false, false, false],
   [false, false, false, false, false, false, false, false],
   [false, false, false, false, false, true, false, false]]
def topL : List Int := [5, 7, 1073741824, 1048576, 1048576, 1, 11, 4]
def widL : List Nat := [1, 1, 4, 3, 3, 1, 1, 1]

def mHasOf (k : Int) : List Bool := mHas.getD k.toNat []
def rHasOf (k : Int) : List Bool := rHas.getD k.toNat []

/-- All that is not 0 is among what there is. -/
def hasAll : List Bool → List Int → Bool
  | h :: hs, p :: ps => (p == 0 || h) && hasAll hs ps
  | _, _ => true
/-- Each part is from 0 to its top. -/
def inTops : List Int → List Int → Bool
  | t :: ts, p :: ps => inR p 0 t && inTops ts ps
  | _, _ => true
def isCd (n : Int) : Bool := n == 0 || n == 11 || n == 8
def partsOK (n : Nat) (p : List Int) : Bool := inTops topL p && plc (p.getD 0 0) n && isCd (p.getD 6 0)
def txnOK (s site num : Int) : Bool := inR site 0 (s - 1) && inR num 1 1048576

def msgRange (s : Int) (n : Nat) (m : MV) : Bool := inR m.frm 0 (s - 1) && inR m.dst 0 (s - 1) && txnOK s m.site m.num && partsOK n m.parts
def msgForm (m : MV) : Bool := hasAll (mHasOf m.kind) m.parts && (m.code == 0 || (m.value == 0 && m.version == 0))
def msgFault (s : Int) (ls : List (Int × Int)) (p : Int) (m : MV) : Int :=
  if cfgFault s ls p ≠ 0 then cfgFault s ls p else if inR m.kind 1 9 = false then 3 else if msgRange s ls.length m = false then 2 else if msgForm m = false then 4 else 0

theorem mf_cfg {s : Int} {ls : List (Int × Int)} {p : Int} {m : MV} (h : cfgFault s ls p ≠ 0) : msgFault s ls p m = cfgFault s ls p := by simp [msgFault, h]
theorem mf_kind {s : Int} {ls : List (Int × Int)} {p : Int} {m : MV} (h : cfgFault s ls p = 0) (hk : inR m.kind 1 9 = false) : msgFault s ls p m = 3 := by simp [msgFault, h, hk]
theorem mf_range {s : Int} {ls : List (Int × Int)} {p : Int} {m : MV} (h : cfgFault s ls p = 0) (hk : inR m.kind 1 9 = true) (hr : msgRange s ls.length m = false) : msgFault s ls p m = 2 := by simp [msgFault, h, hk, hr]
theorem mf_form {s : Int} {ls : List (Int × Int)} {p : Int} {m : MV} (h : cfgFault s ls p = 0) (hk : inR m.kind 1 9 = true) (hr : msgRange s ls.length m = true) (hf : msgForm m = false) : msgFault s ls p m = 4 := by simp [msgFault, h, hk, hr, hf]
theorem mf_ok {s : Int} {ls : List (Int × Int)} {p : Int} {m : MV} (h : cfgFault s ls p = 0) (hk : inR m.kind 1 9 = true) (hr : msgRange s ls.length m = true) (hf : msgForm m = true) : msgFault s ls p m = 0 := by simp [msgFault, h, hk, hr, hf]

/-- The parts that there are, as bytes. -/
def encParts : List Bool → List Nat → List Int → List Int
  | h :: hs, w :: ws, p :: ps => (if h then be p w else []) ++ encParts hs ws ps
  | _, _, _ => []
def msgBytes (m : MV) : List Int := [m.kind, m.frm, m.dst, m.site] ++ be m.num 3 ++ encParts (mHasOf m.kind) widL m.parts

theorem kind_cases {k : Int} (h : inR k 1 9 = true) : k = 1 ∨ k = 2 ∨ k = 3 ∨ k = 4 ∨ k = 5 ∨ k = 6 ∨ k = 7 ∨ k = 8 ∨ k = 9 := by
  have := inR_of h
  omega
end Go.Proofs.YtpikiaepomjmgaaDoor
