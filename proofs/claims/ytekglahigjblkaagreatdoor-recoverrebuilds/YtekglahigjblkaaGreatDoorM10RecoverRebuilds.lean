/- Texts of this claim, one behind the other. -/
import Derived.Test.YtekglahigjblkaaGreatDoorA0RecoverRebuilds
import Derived.Laws.BitsLemmas
import Derived.Test.YtekglahigjblkaaGreatDoorM2RecoverRebuilds
import Derived.Test.YtekglahigjblkaaGreatDoorM9RecoverRebuilds
import Derived.Test.YtekglahigjblkaaGreatDoorM7RecoverRebuilds
/- Numbers as bytes, the highest first, and back; bytes read off a front, one number behind the other: plain data, nothing of the program. -/
namespace Go.Proofs.YtekglahigjblkaaGreatDoor
open Go.ChangeShapes Go.WideShapes Go.ChangeAt Go.RowKit

def be (n : Int) : Nat → List Int
  | 0 => []
  | k + 1 => n / 256 ^ k % 256 :: be n k
def bval (bs : List Int) : Int := bs.foldl (fun a b => a * 256 + b) 0
def Byt (bs : List Int) : Prop := ∀ b ∈ bs, 0 ≤ b ∧ b < 256

theorem be_len (n : Int) (k : Nat) : (be n k).length = k := by
  induction k with
  | zero => rfl
  | succ k ih => simp [be, ih]
theorem be_byt (n : Int) (k : Nat) : Byt (be n k) := by
  induction k with
  | zero => intro b hb; simp [be] at hb
  | succ k ih =>
    intro b hb
    rcases List.mem_cons.1 hb with rfl | hb
    · exact ⟨Int.emod_nonneg _ (by decide), Int.emod_lt_of_pos _ (by decide)⟩
    · exact ih b hb
theorem be_snoc (n : Int) (k : Nat) : be n (k + 1) = be (n / 256) k ++ [n % 256] := by
  induction k with
  | zero => simp [be]
  | succ k ih =>
    rw [be, ih]
    conv => rhs; rw [be]
    rw [Int.ediv_ediv_of_nonneg (by decide), List.cons_append, Int.pow_succ, Int.mul_comm]
theorem bval_nil : bval [] = 0 := rfl
theorem bval_snoc (bs : List Int) (b : Int) : bval (bs ++ [b]) = bval bs * 256 + b := by simp [bval]
theorem bval_be : ∀ (k : Nat) (n : Int), 0 ≤ n → n < 256 ^ k → bval (be n k) = n := by
  intro k
  induction k with
  | zero => intro n h0 h1; simp at h1; simp [be, bval]; omega
  | succ k ih =>
    intro n h0 h1
    rw [be_snoc, bval_snoc, ih (n / 256) (by omega) (by rw [Int.pow_succ] at h1; omega)]
    omega
theorem bval_bd : ∀ (k : Nat) (bs : List Int), bs.length = k → Byt bs → 0 ≤ bval bs ∧ bval bs < 256 ^ k := by
  intro k
  induction k with
  | zero => intro bs h _; obtain rfl := List.length_eq_zero_iff.1 h; simp [bval]
  | succ k ih =>
    intro bs h hb
    have hne : bs ≠ [] := by intro e; rw [e] at h; simp at h
    obtain ⟨l, b, rfl⟩ : ∃ l b, bs = l ++ [b] := ⟨bs.dropLast, bs.getLast hne, (List.dropLast_concat_getLast hne).symm⟩
    have h1 := ih l (by simpa using h) (fun x hx => hb x (by simp [hx]))
    have h2 := hb b (by simp)
    rw [bval_snoc, Int.pow_succ]
    omega
theorem be_bval : ∀ (k : Nat) (bs : List Int), bs.length = k → Byt bs → be (bval bs) k = bs := by
  intro k
  induction k with
  | zero => intro bs h _; obtain rfl := List.length_eq_zero_iff.1 h; rfl
  | succ k ih =>
    intro bs h hb
    have hne : bs ≠ [] := by intro e; rw [e] at h; simp at h
    obtain ⟨l, b, rfl⟩ : ∃ l b, bs = l ++ [b] := ⟨bs.dropLast, bs.getLast hne, (List.dropLast_concat_getLast hne).symm⟩
    have h1 := ih l (by simpa using h) (fun x hx => hb x (by simp [hx]))
    have h2 := hb b (by simp)
    rw [bval_snoc, be_snoc, show (bval l * 256 + b) / 256 = bval l by omega, show (bval l * 256 + b) % 256 = b by omega, h1]
theorem bval_one (b : Int) : bval [b] = b := by simp [bval]
theorem be_one {n : Int} (h0 : 0 ≤ n) (h1 : n < 256) : be n 1 = [n] := by simp [be]; omega

theorem or_join {x y : Int} (hx0 : 0 ≤ x) (hx1 : x < 4294967296) (hy0 : 0 ≤ y) (hy1 : y < 256) : bits .or .i64 (x * 256) y = x * 256 + y :=
  bits_join .i64 63 (by decide) (fun n h0 h1 => by simp [IntKind.wrap, IntKind.bits, IntKind.signed]; omega) 8 (x * 256) y (by omega) (by omega) (by omega) hy0 (by omega) (by omega)

/-! ### Off a front -/
structure RS where
  rest : List Int
  wrong : Int

def RS.refuse (r : RS) (e : Int) : RS := if r.wrong = 0 then ⟨r.rest, e⟩ else r
def RS.short (r : RS) (k : Nat) : RS := if r.rest.length < k then r.refuse 5 else r
def RS.num (r : RS) (k : Nat) : Int × RS := if (r.short k).wrong = 0 then (bval (r.rest.take k), ⟨r.rest.drop k, 0⟩) else (0, r.short k)

theorem num_ok {r : RS} {k : Nat} (h : r.wrong = 0) (hk : k ≤ r.rest.length) : r.num k = (bval (r.rest.take k), ⟨r.rest.drop k, 0⟩) := by
  have : ¬ r.rest.length < k := by omega
  simp [RS.num, RS.short, this, h]
theorem num_short {r : RS} {k : Nat} (h : r.wrong = 0) (hk : r.rest.length < k) : r.num k = (0, ⟨r.rest, 5⟩) := by
  simp [RS.num, RS.short, RS.refuse, hk, h]
theorem num_wrong {r : RS} {k : Nat} (h : r.wrong ≠ 0) : r.num k = (0, r) := by
  unfold RS.num RS.short RS.refuse
  by_cases hk : r.rest.length < k <;> simp [hk, h]
theorem num_app {n : Int} {k : Nat} {t : List Int} (h0 : 0 ≤ n) (h1 : n < 256 ^ k) : (RS.mk (be n k ++ t) 0).num k = (n, ⟨t, 0⟩) := by
  rw [num_ok rfl (by simp [be_len])]
  simp [be_len, bval_be k n h0 h1]
end Go.Proofs.YtekglahigjblkaaGreatDoor
/- Messages on plain data: their parts, which kind has which, whether one may be, and its bytes. -/
namespace Go.Proofs.YtekglahigjblkaaGreatDoor
open Go.ChangeShapes Go.WideShapes Go.ChangeAt Go.RowKit

def plc (l : Int) (n : Nat) : Bool := decide (0 ≤ l ∧ l < (n : Int))
theorem plc_true {l : Int} {n : Nat} (h : plc l n = true) : 0 ≤ l ∧ l < (n : Int) := by simpa [plc] using h
theorem plc_false {l : Int} {n : Nat} (h : plc l n = false) : l < 0 ∨ (n : Int) ≤ l := by simp [plc] at h; omega

def bit (b : Bool) : Int := if b then 1 else 0

structure MV where
  kind : Int
  frm : Int
  dst : Int
  site : Int
  num : Int
  label : Int
  key : Int
  value : Int
  version : Int
  ask : Int
  yes : Bool
  code : Int

def MV.val (m : MV) : Value := .agg #[.int .i64 m.kind, .int .i64 m.frm, .int .i64 m.dst, .int .i64 m.site, .int .i64 m.num, .int .i64 m.label, .int .i64 m.key, .int .i64 m.value, .int .i64 m.version, .int .i64 m.ask, .bool m.yes, .int .i64 m.code]

def MV.parts (m : MV) : List Int := [m.label, m.key, m.value, m.version, m.ask, bit m.yes, m.code, 0]

def mHas : List (List Bool) :=
  [[false, false, false, false, false, false, false, false],
   [true, true, false, false, true, false, false, false],
   [false, true, true, false, true, false, false, false],
   [true, true, false, true, false, false, false, false],
   [false, false, false, false, false, true, false, false],
   [true, true, true, true, true, false, true, false],
   [false, true, false, false, true, false, true, false],
   [true, true, false, true, false, true, false, false],
   [false, false, false, false, false, false, false, false],
   [false, false, false, false, false, false, false, false]]
def rHas : List (List Bool) :=
  [[false, false, false, false, false, false, false, false],
   [false, true, true, false, true, false, false, false],
   [false, false, false, false, false, true, false, false],
   [false, false, false, false, false, false, false, true],
   [false, false, false, false, false, false, false, false],
   [false, false, false, false, false, false, false, false],
   [false, false, false, false, false, true, false, false]]
def topL : List Int := [5, 7, 1073741824, 1048576, 1048576, 1, 11, 4]
def widL : List Nat := [1, 1, 4, 3, 3, 1, 1, 1]

def mHasOf (k : Int) : List Bool := mHas.getD k.toNat []
def rHasOf (k : Int) : List Bool := rHas.getD k.toNat []

/-- All that is not 0 is among what there is. -/
def hasAll : List Bool → List Int → Bool
  | h :: hs, p :: ps => (p == 0 || h) && hasAll hs ps
  | _, _ => true
/-- Each part is from 0 to its top. -/
def inTops : List Int → List Int → Bool
  | t :: ts, p :: ps => inR p 0 t && inTops ts ps
  | _, _ => true
def isCd (n : Int) : Bool := n == 0 || n == 11 || n == 8
def partsOK (n : Nat) (p : List Int) : Bool := inTops topL p && plc (p.getD 0 0) n && isCd (p.getD 6 0)
def txnOK (s site num : Int) : Bool := inR site 0 (s - 1) && inR num 1 1048576

def msgRange (s : Int) (n : Nat) (m : MV) : Bool := inR m.frm 0 (s - 1) && inR m.dst 0 (s - 1) && txnOK s m.site m.num && partsOK n m.parts
def msgForm (m : MV) : Bool := hasAll (mHasOf m.kind) m.parts && (m.code == 0 || (m.value == 0 && m.version == 0))
def msgFault (s : Int) (ls : List (Int × Int)) (p : Int) (m : MV) : Int :=
  if cfgFault s ls p ≠ 0 then cfgFault s ls p else if inR m.kind 1 9 = false then 3 else if msgRange s ls.length m = false then 2 else if msgForm m = false then 4 else 0

theorem mf_cfg {s : Int} {ls : List (Int × Int)} {p : Int} {m : MV} (h : cfgFault s ls p ≠ 0) : msgFault s ls p m = cfgFault s ls p := by simp [msgFault, h]
theorem mf_kind {s : Int} {ls : List (Int × Int)} {p : Int} {m : MV} (h : cfgFault s ls p = 0) (hk : inR m.kind 1 9 = false) : msgFault s ls p m = 3 := by simp [msgFault, h, hk]
theorem mf_range {s : Int} {ls : List (Int × Int)} {p : Int} {m : MV} (h : cfgFault s ls p = 0) (hk : inR m.kind 1 9 = true) (hr : msgRange s ls.length m = false) : msgFault s ls p m = 2 := by simp [msgFault, h, hk, hr]
theorem mf_form {s : Int} {ls : List (Int × Int)} {p : Int} {m : MV} (h : cfgFault s ls p = 0) (hk : inR m.kind 1 9 = true) (hr : msgRange s ls.length m = true) (hf : msgForm m = false) : msgFault s ls p m = 4 := by simp [msgFault, h, hk, hr, hf]
theorem mf_ok {s : Int} {ls : List (Int × Int)} {p : Int} {m : MV} (h : cfgFault s ls p = 0) (hk : inR m.kind 1 9 = true) (hr : msgRange s ls.length m = true) (hf : msgForm m = true) : msgFault s ls p m = 0 := by simp [msgFault, h, hk, hr, hf]

/-- The parts that there are, as bytes. -/
def encParts : List Bool → List Nat → List Int → List Int
  | h :: hs, w :: ws, p :: ps => (if h then be p w else []) ++ encParts hs ws ps
  | _, _, _ => []
def msgBytes (m : MV) : List Int := [m.kind, m.frm, m.dst, m.site] ++ be m.num 3 ++ encParts (mHasOf m.kind) widL m.parts

theorem kind_cases {k : Int} (h : inR k 1 9 = true) : k = 1 ∨ k = 2 ∨ k = 3 ∨ k = 4 ∨ k = 5 ∨ k = 6 ∨ k = 7 ∨ k = 8 ∨ k = 9 := by
  have := inR_of h
  omega
end Go.Proofs.YtekglahigjblkaaGreatDoor
/- The clerk: a box that holds the config, the label, the site and the turn that is being made; its lists are rows of the call's own. -/
namespace Go.Proofs.YtekglahigjblkaaGreatDoor.Co
open Go.ChangeShapes Go.WideShapes Go.ChangeAt Go.RowKit
open Go.Proofs.YtekglahigjblkaaGreatDoor.St (BoxN boxn_new own_below grown_setCell IsRow Elem flat flat_append own_isRow)
set_option linter.unusedVariables false

theorem rowOne {α : Type} [Inhabited α] {k : Nat} {cells : α → List Value} (u : World) (cs : Array Value) (t : TypeId) (x : α) (hc : cs.toList = cells x) (hk : cs.size = k) : IsRow k cells (u.alloc (.cells cs t)) (some ⟨u.heap.size, 0, none⟩) 1 1 [x] := by
  refine ⟨rfl, Nat.le_refl _, by unfold maxLen; omega, fun e => by simp at e, fun _ => ⟨u.heap.size, 0, rfl, by simp, fun i hi j hj => ?_⟩⟩
  obtain rfl : i = 0 := by omega
  have hb : (u.alloc (.cells cs t)).heap[u.heap.size]? = some (.cells cs t (0, 0)) := heap_alloc_new u _
  rw [Nat.zero_mul, Nat.zero_add, cell_of_row _ u.heap.size j cs t (0, 0) hb]
  simp only [List.getD_cons_zero]
  rw [← hc, Array.getElem?_toList]
/-- A message's cells. -/
instance : Inhabited MV := ⟨⟨0, 0, 0, 0, 0, 0, 0, 0, 0, 0, false, 0⟩⟩
def mcells (m : MV) : List Value := [.int .i64 m.kind, .int .i64 m.frm, .int .i64 m.dst, .int .i64 m.site, .int .i64 m.num, .int .i64 m.label, .int .i64 m.key, .int .i64 m.value, .int .i64 m.version, .int .i64 m.ask, .bool m.yes, .int .i64 m.code]
theorem mcells_len (m : MV) : (mcells m).length = 12 := rfl
theorem mcells_one (y : MV) : ∀ u ∈ mcells y, u.oneCell' = true := by
  intro u hu
  simp only [mcells, List.mem_cons, List.not_mem_nil, or_false] at hu
  rcases hu with rfl | rfl | rfl | rfl | rfl | rfl | rfl | rfl | rfl | rfl | rfl | rfl <;> rfl
/-- A reply. -/
structure RpV where
  site : Int
  kind : Int
  n : Int
  key : Int
  value : Int
  code : Int
instance : Inhabited RpV := ⟨⟨0, 0, 0, 0, 0, 0⟩⟩
def RpV.cells (r : RpV) : List Value := [.int .i64 r.site, .int .i64 r.kind, .int .i64 r.n, .int .i64 r.key, .int .i64 r.value, .int .i64 r.code]
def RpV.val (r : RpV) : Value := .agg #[.int .i64 r.site, .int .i64 r.kind, .int .i64 r.n, .int .i64 r.key, .int .i64 r.value, .int .i64 r.code]
theorem rp_len (m : RpV) : (RpV.cells m).length = 6 := rfl
theorem rp_one (y : RpV) : ∀ u ∈ y.cells, u.oneCell' = true := by
  intro u hu
  simp only [RpV.cells, List.mem_cons, List.not_mem_nil, or_false] at hu
  rcases hu with rfl | rfl | rfl | rfl | rfl | rfl <;> rfl
/-- A record with its sites. -/
structure RcV where
  kind : Int
  site : Int
  num : Int
  key : Int
  value : Int
  ask : Int
  yes : Bool
  sa : Option Addr
  sl : Nat
  sc : Nat
  zs : List Int
instance : Inhabited RcV := ⟨⟨0, 0, 0, 0, 0, 0, false, none, 0, 0, []⟩⟩
def RcV.cells (r : RcV) : List Value := [.int .i64 r.kind, .int .i64 r.site, .int .i64 r.num, .int .i64 r.key, .int .i64 r.value, .int .i64 r.ask, .bool r.yes, .slice r.sa r.sl r.sc]
/-- The clerk's own numbers and slices. -/
structure CkV where
  s : Int
  a : Option Addr
  len : Nat
  cap : Nat
  p : Int
  l : Int
  me : Int
  next : Int
  ja : Option Addr
  jl : Nat
  jc : Nat
  ma : Option Addr
  ml : Nat
  mc : Nat
  ra : Option Addr
  rl : Nat
  rc : Nat
  pa : Option Addr
  pl : Nat
  pc : Nat
  sure : Int
  com : Int
  js : List JbV
  ms : List MV
  rs : List RcV
  ps : List RpV
def CkV.cells (v : CkV) : List Value := [.int .i64 v.s, .slice v.a v.len v.cap, .int .i64 v.p, .int .i64 v.l, .int .i64 v.me, .int .i64 v.next, .slice v.ja v.jl v.jc, .slice v.ma v.ml v.mc, .slice v.ra v.rl v.rc, .slice v.pa v.pl v.pc, .int .i64 v.sure, .int .i64 v.com]
/-- Where the jobs' own lists stand among the rows behind the first four. -/
def JobsIn (js : List JbV) (ix : List (Nat × Nat)) (more : List Rw) : Prop :=
  ix.length = js.length ∧ (∀ (i : Nat) (j : JbV) (x : Nat × Nat), js[i]? = some j → ix[i]? = some x → more[x.1]? = some ⟨99, 8, .slice j.ta j.tl j.tc, j.tl, flat TkV.cells j.tasks⟩ ∧ more[x.2]? = some ⟨3, 1, .slice j.aa j.al j.ac, j.al, flat inCell j.asked⟩) ∧ (∀ (i k : Nat) (x y : Nat × Nat), ix[i]? = some x → ix[k]? = some y → i ≠ k → x.1 ≠ y.1 ∧ x.1 ≠ y.2 ∧ x.2 ≠ y.1 ∧ x.2 ≠ y.2) ∧ ∀ (i : Nat) (x : Nat × Nat), ix[i]? = some x → x.1 ≠ x.2
end Go.Proofs.YtekglahigjblkaaGreatDoor.Co
