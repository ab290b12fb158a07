/- Texts of this claim, one behind the other. -/
import Derived.Test.YtflfcjbgkpfgkaaDoorM4TapeRecovers
import Derived.Test.YtflfcjbgkpfgkaaDoorM2TapeRecovers
import Derived.Test.YtflfcjbgkpfgkaaDoorM8TapeRecovers
import Derived.Test.YtflfcjbgkpfgkaaDoorA9TapeRecovers
/- Messages on plain data: their parts, which kind has which, whether one may be, and its bytes. -/
namespace Go.Proofs.YtflfcjbgkpfgkaaDoor
open Go.ChangeShapes Go.WideShapes Go.ChangeAt Go.RowKit

def plc (l : Int) (n : Nat) : Bool := decide (0 ≤ l ∧ l < (n : Int))
theorem plc_true {l : Int} {n : Nat} (h : plc l n = true) : 0 ≤ l ∧ l < (n : Int) := by simpa [plc] using h
theorem plc_false {l : Int} {n : Nat} (h : plc l n = false) : l < 0 ∨ (n : Int) ≤ l := by simp [plc] at h; omega

def bit (b : Bool) : Int := if b then 1 else 0

structure MV where
  kind : Int
  frm : Int
  dst : Int
  site : Int
  num : Int
  label : Int
  key : Int
  value : Int
  version : Int
  ask : Int
  yes : Bool
  code : Int

def MV.val (m : MV) : Value := .agg #[.int .i64 m.kind, .int .i64 m.frm, .int .i64 m.dst, .int .i64 m.site, .int .i64 m.num, .int .i64 m.label, .int .i64 m.key, .int .i64 m.value, .int .i64 m.version, .int .i64 m.ask, .bool m.yes, .int .i64 m.code]

def MV.parts (m : MV) : List Int := [m.label, m.key, m.value, m.version, m.ask, bit m.yes, m.code, 0]

def mHas : List (List Bool) :=
  [[false, false, false, false, false, false, false, false],
   [true, true, false, false, true, false, false, false],
   [false, true, true, false, true, false, false, false],
   [true, true, false, true, false, false, false, false],
   [false, false, false, false, false, true, false, false],
   [true, true, true, true, true, false, true, false],
   [false, true, false, false, true, false, true, false],
   [true, true, false, true, false, true, false, false],
   [false, false, false, false, false, false, false, false],
   [false, false, false, false, false, false, false, false]]
def rHas : List (List Bool) :=
  [[false, false, false, false, false, false, false, false],
   [false, true, true, false, true, false, false, false],
   [false, false, false, false, false, true, false, false],
   [false, false, false, false, false, false, false, true],
   [false, false, false, false, false, false, false, false],
   [false, false, false, false, false, false, false, false],
   [false, false, false, false, false, true, false, false]]
def topL : List Int := [5, 7, 1073741824, 1048576, 1048576, 1, 11, 4]
def widL : List Nat := [1, 1, 4, 3, 3, 1, 1, 1]

def mHasOf (k : Int) : List Bool := mHas.getD k.toNat []
def rHasOf (k : Int) : List Bool := rHas.getD k.toNat []

/-- All that is not 0 is among what there is. -/
def hasAll : List Bool → List Int → Bool
  | h :: hs, p :: ps => (p == 0 || h) && hasAll hs ps
  | _, _ => true
/-- Each part is from 0 to its top. -/
def inTops : List Int → List Int → Bool
  | t :: ts, p :: ps => inR p 0 t && inTops ts ps
  | _, _ => true
def isCd (n : Int) : Bool := n == 0 || n == 11 || n == 8
def partsOK (n : Nat) (p : List Int) : Bool := inTops topL p && plc (p.getD 0 0) n && isCd (p.getD 6 0)
def txnOK (s site num : Int) : Bool := inR site 0 (s - 1) && inR num 1 1048576

def msgRange (s : Int) (n : Nat) (m : MV) : Bool := inR m.frm 0 (s - 1) && inR m.dst 0 (s - 1) && txnOK s m.site m.num && partsOK n m.parts
def msgForm (m : MV) : Bool := hasAll (mHasOf m.kind) m.parts && (m.code == 0 || (m.value == 0 && m.version == 0))
def msgFault (s : Int) (ls : List (Int × Int)) (p : Int) (m : MV) : Int :=
  if cfgFault s ls p ≠ 0 then cfgFault s ls p else if inR m.kind 1 9 = false then 3 else if msgRange s ls.length m = false then 2 else if msgForm m = false then 4 else 0

theorem mf_cfg {s : Int} {ls : List (Int × Int)} {p : Int} {m : MV} (h : cfgFault s ls p ≠ 0) : msgFault s ls p m = cfgFault s ls p := by simp [msgFault, h]
theorem mf_kind {s : Int} {ls : List (Int × Int)} {p : Int} {m : MV} (h : cfgFault s ls p = 0) (hk : inR m.kind 1 9 = false) : msgFault s ls p m = 3 := by simp [msgFault, h, hk]
theorem mf_range {s : Int} {ls : List (Int × Int)} {p : Int} {m : MV} (h : cfgFault s ls p = 0) (hk : inR m.kind 1 9 = true) (hr : msgRange s ls.length m = false) : msgFault s ls p m = 2 := by simp [msgFault, h, hk, hr]
theorem mf_form {s : Int} {ls : List (Int × Int)} {p : Int} {m : MV} (h : cfgFault s ls p = 0) (hk : inR m.kind 1 9 = true) (hr : msgRange s ls.length m = true) (hf : msgForm m = false) : msgFault s ls p m = 4 := by simp [msgFault, h, hk, hr, hf]
theorem mf_ok {s : Int} {ls : List (Int × Int)} {p : Int} {m : MV} (h : cfgFault s ls p = 0) (hk : inR m.kind 1 9 = true) (hr : msgRange s ls.length m = true) (hf : msgForm m = true) : msgFault s ls p m = 0 := by simp [msgFault, h, hk, hr, hf]

/-- The parts that there are, as bytes. -/
def encParts : List Bool → List Nat → List Int → List Int
  | h :: hs, w :: ws, p :: ps => (if h then be p w else []) ++ encParts hs ws ps
  | _, _, _ => []
def msgBytes (m : MV) : List Int := [m.kind, m.frm, m.dst, m.site] ++ be m.num 3 ++ encParts (mHasOf m.kind) widL m.parts

theorem kind_cases {k : Int} (h : inR k 1 9 = true) : k = 1 ∨ k = 2 ∨ k = 3 ∨ k = 4 ∨ k = 5 ∨ k = 6 ∨ k = 7 ∨ k = 8 ∨ k = 9 := by
  have := inR_of h
  omega
end Go.Proofs.YtflfcjbgkpfgkaaDoor
/- What of a message that may be is known. -/
namespace Go.Proofs.YtflfcjbgkpfgkaaDoor
open Go.ChangeShapes Go.WideShapes Go.ChangeAt Go.RowKit

/-- What of a message that may be is known. -/
theorem may_msg {s : Int} {ls : List (Int × Int)} {p : Int} {m : MV} (h : msgFault s ls p m = 0) : cfgFault s ls p = 0 ∧ inR m.kind 1 9 = true ∧ msgRange s ls.length m = true ∧ msgForm m = true := by
  unfold msgFault at h
  split at h
  · omega
  split at h
  · omega
  split at h
  · omega
  split at h
  · omega
  simp_all

end Go.Proofs.YtflfcjbgkpfgkaaDoor
/- A config made of raw numbers: what the laws of the keeping kind begin with. -/
namespace Go.Proofs.YtflfcjbgkpfgkaaDoor
open Go.ChangeShapes Go.WideShapes Go.ChangeAt Go.RowKit
set_option linter.unusedVariables false

/-- A config that may be, and where its labels lie. -/
structure GoodC (w : World) (S P : Int) (g n cp : Nat) (L : List (Int × Int)) : Prop where
  labs : IsLabs w (some ⟨g, 0, none⟩) n cp L
  ok : cfgFault S L P = 0
  s1 : 1 ≤ S
  s3 : S ≤ 3
  n1 : 1 ≤ n
  n4 : n ≤ 4
  nl : Hid (n = L.length)

theorem GoodC.below {w w' : World} {S P : Int} {g n cp : Nat} {L : List (Int × Int)} (h : GoodC w S P g n cp L) (hb : Below w.heap.size w w') : GoodC w' S P g n cp L :=
  ⟨h.labs.below hb, h.ok, h.s1, h.s3, h.n1, h.n4, h.nl⟩

theorem cfg_good (s : Int) (a : Option Addr) (len cap : Nat) (zs : List Int) (w : World) (hs : -9223372036854775808 ≤ s ∧ s ≤ 9223372036854775807) (h : IsInts w a len cap zs) :
    Calls Tryd.prog 14 #[.int .i64 s, .slice a len cap, .int .i64 1] w fun e w' => ∃ (S P : Int) (g n cp : Nat) (L : List (Int × Int)), e = .returned (.agg #[.int .i64 S, .slice (some ⟨g, 0, none⟩) n cp, .int .i64 P]) ∧ GoodC w' S P g n cp L ∧ Below w.heap.size w w' := by
  refine (config_any s 1 a len cap zs w hs (by omega) h).mono ?_
  rintro e w' ⟨g, cp, rfl, h1, h2, h3, h4, hb⟩
  have bs := cfgS_bd s
  have bp := cfgP_bd 1
  obtain ⟨hgood, hn1⟩ := good_labs zs
  refine ⟨cfgS s, cfgP 1, g, (cfgLabs zs).length, cp, cfgLabs zs, rfl, ⟨⟨rfl, h2, h3, fun _ => ⟨g, 0, rfl, h4⟩⟩, cfgFault_good hgood hn1 (by omega) (by omega), bs.1, bs.2, hn1, hgood.len, rfl⟩, hb⟩

/-- What lies above a world stays below it. -/
theorem bA {W V : World} (h : Below W.heap.size W V) (ob : Obj) : Below W.heap.size W (V.alloc ob) := h.alloc h.size ob
theorem bD {W V : World} (h : Below W.heap.size W V) : Below W.heap.size W V.drew := h.drew
theorem bS {W V : World} (h : Below W.heap.size W V) {b i : Nat} (hb : W.heap.size ≤ b) (v : Value) : Below W.heap.size W (V.setCell ⟨b, i, none⟩ v) := h.setCell (p := ⟨b, i, none⟩) hb v
theorem bG {W V V' : World} {row : Option Nat} (h : Below W.heap.size W V) (hg : V.grownBy V' row) (hr : ∀ k, row = some k → W.heap.size ≤ k) : Below W.heap.size W V' := h.grown hg h.size hr
theorem bT {W V V' : World} (h : Below W.heap.size W V) (hb : Below V.heap.size V V') : Below W.heap.size W V' := h.trans (hb.mono h.size)
end Go.Proofs.YtflfcjbgkpfgkaaDoor
