/- Texts of this claim, one behind the other. -/
import Derived.Test.YtfhciplckjkflaaM9CoordTicks
import Derived.Test.YtfhciplckjkflaaM2CoordTicks
import Derived.Test.YtfhciplckjkflaaM4CoordTicks
import Derived.Test.YtfhciplckjkflaaM8CoordTicks
import Derived.LoopTactic
import Derived.Deep.RegionLaw
import Derived.Deep.DeepCutAuto
import Derived.Deep.RegionHeld3
/- Messages on plain data: their parts, which kind has which, whether one may be, and its bytes. -/
namespace Go.Proofs.Ytfhciplckjkflaa
open Go.ChangeShapes Go.WideShapes Go.ChangeAt Go.RowKit

def plc (l : Int) (n : Nat) : Bool := decide (0 ≤ l ∧ l < (n : Int))
theorem plc_true {l : Int} {n : Nat} (h : plc l n = true) : 0 ≤ l ∧ l < (n : Int) := by simpa [plc] using h
theorem plc_false {l : Int} {n : Nat} (h : plc l n = false) : l < 0 ∨ (n : Int) ≤ l := by simp [plc] at h; omega

def bit (b : Bool) : Int := if b then 1 else 0

structure MV where
  kind : Int
  frm : Int
  dst : Int
  site : Int
  num : Int
  label : Int
  key : Int
  value : Int
  version : Int
  ask : Int
  yes : Bool
  code : Int

def MV.val (m : MV) : Value := .agg #[.int .i64 m.kind, .int .i64 m.frm, .int .i64 m.dst, .int .i64 m.site, .int .i64 m.num, .int .i64 m.label, .int .i64 m.key, .int .i64 m.value, .int .i64 m.version, .int .i64 m.ask, .bool m.yes, .int .i64 m.code]

def MV.parts (m : MV) : List Int := [m.label, m.key, m.value, m.version, m.ask, bit m.yes, m.code, 0]

def mHas : List (List Bool) :=
  [[false, false, false, false, false, false, false, false],
   [true, true, false, false, true, false, false, false],
   [false, true, true, false, true, false, false, false],
   [true, true, false, true, false, false, false, false],
   [false, false, false, false, false, true, false, false],
   [true, true, true, true, true, false, true, false],
   [false, true, false, false, true, false, true, false],
   [true, true, false, true, false, true, false, false],
   [false, false, false, false, false, false, false, false],
   [false, false, false, false, false, false, false, false]]
def rHas : List (List Bool) :=
  [[false, false, false, false, false, false, false, false],
   [false, true, true, false, true, false, false, false],
   [false, false, false, false, false, true, false, false],
   [false, false, false, false, false, false, false, true],
   [false, false, false, false, false, false, false, false],
   [false, false, false, false, false, false, false, false],
   [false, false, false, false, false, true, false, false]]
def topL : List Int := [5, 7, 1073741824, 1048576, 1048576, 1, 11, 4]
def widL : List Nat := [1, 1, 4, 3, 3, 1, 1, 1]

def mHasOf (k : Int) : List Bool := mHas.getD k.toNat []
def rHasOf (k : Int) : List Bool := rHas.getD k.toNat []

/-- All that is not 0 is among what there is. -/
def hasAll : List Bool → List Int → Bool
  | h :: hs, p :: ps => (p == 0 || h) && hasAll hs ps
  | _, _ => true
/-- Each part is from 0 to its top. -/
def inTops : List Int → List Int → Bool
  | t :: ts, p :: ps => inR p 0 t && inTops ts ps
  | _, _ => true
def isCd (n : Int) : Bool := n == 0 || n == 11 || n == 8
def partsOK (n : Nat) (p : List Int) : Bool := inTops topL p && plc (p.getD 0 0) n && isCd (p.getD 6 0)
def txnOK (s site num : Int) : Bool := inR site 0 (s - 1) && inR num 1 1048576

def msgRange (s : Int) (n : Nat) (m : MV) : Bool := inR m.frm 0 (s - 1) && inR m.dst 0 (s - 1) && txnOK s m.site m.num && partsOK n m.parts
def msgForm (m : MV) : Bool := hasAll (mHasOf m.kind) m.parts && (m.code == 0 || (m.value == 0 && m.version == 0))
def msgFault (s : Int) (ls : List (Int × Int)) (p : Int) (m : MV) : Int :=
  if cfgFault s ls p ≠ 0 then cfgFault s ls p else if inR m.kind 1 9 = false then 3 else if msgRange s ls.length m = false then 2 else if msgForm m = false then 4 else 0

theorem mf_cfg {s : Int} {ls : List (Int × Int)} {p : Int} {m : MV} (h : cfgFault s ls p ≠ 0) : msgFault s ls p m = cfgFault s ls p := by simp [msgFault, h]
theorem mf_kind {s : Int} {ls : List (Int × Int)} {p : Int} {m : MV} (h : cfgFault s ls p = 0) (hk : inR m.kind 1 9 = false) : msgFault s ls p m = 3 := by simp [msgFault, h, hk]
theorem mf_range {s : Int} {ls : List (Int × Int)} {p : Int} {m : MV} (h : cfgFault s ls p = 0) (hk : inR m.kind 1 9 = true) (hr : msgRange s ls.length m = false) : msgFault s ls p m = 2 := by simp [msgFault, h, hk, hr]
theorem mf_form {s : Int} {ls : List (Int × Int)} {p : Int} {m : MV} (h : cfgFault s ls p = 0) (hk : inR m.kind 1 9 = true) (hr : msgRange s ls.length m = true) (hf : msgForm m = false) : msgFault s ls p m = 4 := by simp [msgFault, h, hk, hr, hf]
theorem mf_ok {s : Int} {ls : List (Int × Int)} {p : Int} {m : MV} (h : cfgFault s ls p = 0) (hk : inR m.kind 1 9 = true) (hr : msgRange s ls.length m = true) (hf : msgForm m = true) : msgFault s ls p m = 0 := by simp [msgFault, h, hk, hr, hf]

/-- The parts that there are, as bytes. -/
def encParts : List Bool → List Nat → List Int → List Int
  | h :: hs, w :: ws, p :: ps => (if h then be p w else []) ++ encParts hs ws ps
  | _, _, _ => []
def msgBytes (m : MV) : List Int := [m.kind, m.frm, m.dst, m.site] ++ be m.num 3 ++ encParts (mHasOf m.kind) widL m.parts

theorem kind_cases {k : Int} (h : inR k 1 9 = true) : k = 1 ∨ k = 2 ∨ k = 3 ∨ k = 4 ∨ k = 5 ∨ k = 6 ∨ k = 7 ∨ k = 8 ∨ k = 9 := by
  have := inR_of h
  omega
end Go.Proofs.Ytfhciplckjkflaa
/- The clerk: a box that holds the config, the label, the site and the turn that is being made; its lists are rows of the call's own. -/
namespace Go.Proofs.Ytfhciplckjkflaa.Co
open Go.ChangeShapes Go.WideShapes Go.ChangeAt Go.RowKit
open Go.Proofs.Ytfhciplckjkflaa.St (BoxN boxn_new own_below grown_setCell IsRow Elem flat flat_append own_isRow)
set_option linter.unusedVariables false

theorem rowOne {α : Type} [Inhabited α] {k : Nat} {cells : α → List Value} (u : World) (cs : Array Value) (t : TypeId) (x : α) (hc : cs.toList = cells x) (hk : cs.size = k) : IsRow k cells (u.alloc (.cells cs t)) (some ⟨u.heap.size, 0, none⟩) 1 1 [x] := by
  refine ⟨rfl, Nat.le_refl _, by unfold maxLen; omega, fun e => by simp at e, fun _ => ⟨u.heap.size, 0, rfl, by simp, fun i hi j hj => ?_⟩⟩
  obtain rfl : i = 0 := by omega
  have hb : (u.alloc (.cells cs t)).heap[u.heap.size]? = some (.cells cs t (0, 0)) := heap_alloc_new u _
  rw [Nat.zero_mul, Nat.zero_add, cell_of_row _ u.heap.size j cs t (0, 0) hb]
  simp only [List.getD_cons_zero]
  rw [← hc, Array.getElem?_toList]
/-- A message's cells. -/
instance : Inhabited MV := ⟨⟨0, 0, 0, 0, 0, 0, 0, 0, 0, 0, false, 0⟩⟩
def mcells (m : MV) : List Value := [.int .i64 m.kind, .int .i64 m.frm, .int .i64 m.dst, .int .i64 m.site, .int .i64 m.num, .int .i64 m.label, .int .i64 m.key, .int .i64 m.value, .int .i64 m.version, .int .i64 m.ask, .bool m.yes, .int .i64 m.code]
theorem mcells_len (m : MV) : (mcells m).length = 12 := rfl
theorem mcells_one (y : MV) : ∀ u ∈ mcells y, u.oneCell' = true := by
  intro u hu
  simp only [mcells, List.mem_cons, List.not_mem_nil, or_false] at hu
  rcases hu with rfl | rfl | rfl | rfl | rfl | rfl | rfl | rfl | rfl | rfl | rfl | rfl <;> rfl
theorem msInfo : (Try.prog.info? 75).map (fun i => (i.zero, i.size, i.bytes)) = some (some (.agg #[.int .i64 0, .int .i64 0, .int .i64 0, .int .i64 0, .int .i64 0, .int .i64 0, .int .i64 0, .int .i64 0, .int .i64 0, .int .i64 0, .bool false, .int .i64 0]), 12, 96) := by kernel_rfl
theorem msElem : ∃ i, Elem 12 mcells 75 31 i (.agg #[.int .i64 0, .int .i64 0, .int .i64 0, .int .i64 0, .int .i64 0, .int .i64 0, .int .i64 0, .int .i64 0, .int .i64 0, .int .i64 0, .bool false, .int .i64 0]) 96 := by
  obtain ⟨j0, hj, lj0, lj1, lj2⟩ := info_parts msInfo
  exact ⟨j0, mcells_len, by decide, mcells_one, Try.underlying31, hj, lj0, lj1, lj2, rfl⟩
/-- A reply. -/
structure RpV where
  site : Int
  kind : Int
  n : Int
  key : Int
  value : Int
  code : Int
instance : Inhabited RpV := ⟨⟨0, 0, 0, 0, 0, 0⟩⟩
def RpV.cells (r : RpV) : List Value := [.int .i64 r.site, .int .i64 r.kind, .int .i64 r.n, .int .i64 r.key, .int .i64 r.value, .int .i64 r.code]
def RpV.val (r : RpV) : Value := .agg #[.int .i64 r.site, .int .i64 r.kind, .int .i64 r.n, .int .i64 r.key, .int .i64 r.value, .int .i64 r.code]
theorem rp_len (m : RpV) : (RpV.cells m).length = 6 := rfl
theorem rp_one (y : RpV) : ∀ u ∈ y.cells, u.oneCell' = true := by
  intro u hu
  simp only [RpV.cells, List.mem_cons, List.not_mem_nil, or_false] at hu
  rcases hu with rfl | rfl | rfl | rfl | rfl | rfl <;> rfl
theorem rpInfo : (Try.prog.info? 62).map (fun i => (i.zero, i.size, i.bytes)) = some (some (.agg #[.int .i64 0, .int .i64 0, .int .i64 0, .int .i64 0, .int .i64 0, .int .i64 0]), 6, 48) := by kernel_rfl
theorem rpElem : ∃ i, Elem 6 RpV.cells 62 33 i (.agg #[.int .i64 0, .int .i64 0, .int .i64 0, .int .i64 0, .int .i64 0, .int .i64 0]) 48 := by
  obtain ⟨j0, hj, lj0, lj1, lj2⟩ := info_parts rpInfo
  exact ⟨j0, rp_len, by decide, rp_one, Try.underlying33, hj, lj0, lj1, lj2, rfl⟩
/-- A record with its sites. -/
structure RcV where
  kind : Int
  site : Int
  num : Int
  key : Int
  value : Int
  ask : Int
  yes : Bool
  sa : Option Addr
  sl : Nat
  sc : Nat
  zs : List Int
instance : Inhabited RcV := ⟨⟨0, 0, 0, 0, 0, 0, false, none, 0, 0, []⟩⟩
def RcV.cells (r : RcV) : List Value := [.int .i64 r.kind, .int .i64 r.site, .int .i64 r.num, .int .i64 r.key, .int .i64 r.value, .int .i64 r.ask, .bool r.yes, .slice r.sa r.sl r.sc]
/-- The clerk's own numbers and slices. -/
structure CkV where
  s : Int
  a : Option Addr
  len : Nat
  cap : Nat
  p : Int
  l : Int
  me : Int
  next : Int
  ja : Option Addr
  jl : Nat
  jc : Nat
  ma : Option Addr
  ml : Nat
  mc : Nat
  ra : Option Addr
  rl : Nat
  rc : Nat
  pa : Option Addr
  pl : Nat
  pc : Nat
  sure : Int
  com : Int
  js : List JbV
  ms : List MV
  rs : List RcV
  ps : List RpV
def CkV.cells (v : CkV) : List Value := [.int .i64 v.s, .slice v.a v.len v.cap, .int .i64 v.p, .int .i64 v.l, .int .i64 v.me, .int .i64 v.next, .slice v.ja v.jl v.jc, .slice v.ma v.ml v.mc, .slice v.ra v.rl v.rc, .slice v.pa v.pl v.pc, .int .i64 v.sure, .int .i64 v.com]
def CkV.rows (v : CkV) : List Rw := [⟨47, 6, .slice v.ja v.jl v.jc, v.jl, flat JbV.cells v.js⟩, ⟨75, 12, .slice v.ma v.ml v.mc, v.ml, flat mcells v.ms⟩, ⟨69, 8, .slice v.ra v.rl v.rc, v.rl, flat RcV.cells v.rs⟩, ⟨62, 6, .slice v.pa v.pl v.pc, v.pl, flat RpV.cells v.ps⟩]
/-- Where the jobs' own lists stand among the rows behind the first four. -/
def JobsIn (js : List JbV) (ix : List (Nat × Nat)) (more : List Rw) : Prop :=
  ix.length = js.length ∧ (∀ (i : Nat) (j : JbV) (x : Nat × Nat), js[i]? = some j → ix[i]? = some x → more[x.1]? = some ⟨73, 8, .slice j.ta j.tl j.tc, j.tl, flat TkV.cells j.tasks⟩ ∧ more[x.2]? = some ⟨3, 1, .slice j.aa j.al j.ac, j.al, flat inCell j.asked⟩) ∧ (∀ (i k : Nat) (x y : Nat × Nat), ix[i]? = some x → ix[k]? = some y → i ≠ k → x.1 ≠ y.1 ∧ x.1 ≠ y.2 ∧ x.2 ≠ y.1 ∧ x.2 ≠ y.2) ∧ ∀ (i : Nat) (x : Nat × Nat), ix[i]? = some x → x.1 ≠ x.2
/-- The clerk's box at q, all that it holds at B or above; ahead of B nothing changed since w. -/
structure Clerk (w X : World) (B q : Nat) (v : CkV) (ix : List (Nat × Nat)) (more : List Rw) : Prop where
  held : Held w X B q 12 v.cells (CkV.rows v ++ more)
  jobs : JobsIn v.js ix more
  lens : v.js.length = v.jl ∧ v.ms.length = v.ml ∧ v.rs.length = v.rl ∧ v.ps.length = v.pl
theorem Clerk.below {w X X' : World} {B q : Nat} {v : CkV} {ix : List (Nat × Nat)} {more : List Rw} (h : Clerk w X B q v ix more) (hb : Below X.heap.size X X') : Clerk w X' B q v ix more := ⟨h.held.below hb, h.jobs, h.lens⟩
/-- A reply is put behind the others, and the box is told. -/
theorem Clerk.rep {w X X' : World} {B q : Nat} {v : CkV} {ix : List (Nat × Nat)} {more : List Rw} (h : Clerk w X B q v ix more) {a5 : Option Addr} {c5 : Nat} {r : RpV} (hg : X.grownBy X' (Value.slice v.pa v.pl v.pc).ownBlock) (ho : X'.ownsRow B 62 6 (.slice a5 (v.pl + 1) c5) (v.pl + 1) (flat RpV.cells (v.ps ++ [r]))) (hat : (Value.slice a5 (v.pl + 1) c5).ownBlock = (Value.slice v.pa v.pl v.pc).ownBlock ∨ (Value.slice a5 (v.pl + 1) c5).ownBlock = some X.heap.size) :
    Clerk w (X'.setCell ⟨q, 9, none⟩ (.slice a5 (v.pl + 1) c5)) B q { v with pa := a5, pl := v.pl + 1, pc := c5, ps := v.ps ++ [r] } ix more := by
  have h1 := h.held.grow (i := 3) (r := ⟨62, 6, .slice v.pa v.pl v.pc, v.pl, flat RpV.cells v.ps⟩) (r' := ⟨62, 6, .slice a5 (v.pl + 1) c5, v.pl + 1, flat RpV.cells (v.ps ++ [r])⟩) rfl hg ho hat
  have h2 := h1.tell 9 (by decide) (.slice a5 (v.pl + 1) c5)
  exact ⟨h2, h.jobs, h.lens.1, h.lens.2.1, h.lens.2.2.1, by simp [h.lens.2.2.2]⟩
theorem Clerk.msg {w X X' : World} {B q : Nat} {v : CkV} {ix : List (Nat × Nat)} {more : List Rw} (h : Clerk w X B q v ix more) {a5 : Option Addr} {c5 : Nat} {r : MV} (hg : X.grownBy X' (Value.slice v.ma v.ml v.mc).ownBlock) (ho : X'.ownsRow B 75 12 (.slice a5 (v.ml + 1) c5) (v.ml + 1) (flat mcells (v.ms ++ [r]))) (hat : (Value.slice a5 (v.ml + 1) c5).ownBlock = (Value.slice v.ma v.ml v.mc).ownBlock ∨ (Value.slice a5 (v.ml + 1) c5).ownBlock = some X.heap.size) :
    Clerk w (X'.setCell ⟨q, 7, none⟩ (.slice a5 (v.ml + 1) c5)) B q { v with ma := a5, ml := v.ml + 1, mc := c5, ms := v.ms ++ [r] } ix more := by
  have h1 := h.held.grow (i := 1) (r := ⟨75, 12, .slice v.ma v.ml v.mc, v.ml, flat mcells v.ms⟩) (r' := ⟨75, 12, .slice a5 (v.ml + 1) c5, v.ml + 1, flat mcells (v.ms ++ [r])⟩) rfl hg ho hat
  have h2 := h1.tell 7 (by decide) (.slice a5 (v.ml + 1) c5)
  exact ⟨h2, h.jobs, h.lens.1, by simp [h.lens.2.1], h.lens.2.2.1, h.lens.2.2.2⟩
end Go.Proofs.Ytfhciplckjkflaa.Co
/- fresh.Desk: a desk in memory of the call's own: the jobs' row, and the rows of each job's tasks and sites. -/
namespace Go.Proofs.Ytfhciplckjkflaa.Co
open Go.ChangeShapes Go.WideShapes Go.ChangeAt Go.RowKit
open Go.Proofs.Ytfhciplckjkflaa.St (BoxN boxn_new own_below grown_setCell IsRow Elem flat flat_append own_isRow)
set_option linter.unusedVariables false

theorem tk_len (x : TkV) : x.cells.length = 8 := rfl
theorem tk_one (y : TkV) : ∀ u ∈ y.cells, u.oneCell' = true := by
  intro u hu
  simp only [TkV.cells, List.mem_cons, List.not_mem_nil, or_false] at hu
  rcases hu with rfl | rfl | rfl | rfl | rfl | rfl | rfl | rfl <;> rfl
theorem tkInfo : (Try.prog.info? 73).map (fun i => (i.zero, i.size, i.bytes)) = some (some (.agg #[.bool false, .int .i64 0, .int .i64 0, .int .i64 0, .int .i64 0, .int .i64 0, .bool false, .bool false]), 8, 56) := by kernel_rfl
theorem tkElem : ∃ i, Elem 8 TkV.cells 73 44 i (.agg #[.bool false, .int .i64 0, .int .i64 0, .int .i64 0, .int .i64 0, .int .i64 0, .bool false, .bool false]) 56 := by
  obtain ⟨j0, hj, lj0, lj1, lj2⟩ := info_parts tkInfo
  exact ⟨j0, tk_len, by decide, tk_one, Try.underlying44, hj, lj0, lj1, lj2, rfl⟩
theorem in_len (x : Int) : (inCell x).length = 1 := rfl
theorem in_one (y : Int) : ∀ u ∈ inCell y, u.oneCell' = true := by
  intro u hu
  simp only [inCell, List.mem_cons, List.not_mem_nil, or_false] at hu
  rcases hu with rfl
  rfl
theorem inInfo : (Try.prog.info? 3).map (fun i => (i.zero, i.size, i.bytes)) = some (some (.int .i64 0), 1, 8) := by kernel_rfl
theorem inElem : ∃ i, Elem 1 inCell 3 45 i (.int .i64 0) 8 := by
  obtain ⟨j0, hj, lj0, lj1, lj2⟩ := info_parts inInfo
  exact ⟨j0, in_len, by decide, in_one, Try.underlying45, hj, lj0, lj1, lj2, rfl⟩
theorem jb_len (x : JbV) : x.cells.length = 6 := rfl
theorem jb_one (y : JbV) : ∀ u ∈ y.cells, u.oneCell' = true := by
  intro u hu
  simp only [JbV.cells, List.mem_cons, List.not_mem_nil, or_false] at hu
  rcases hu with rfl | rfl | rfl | rfl | rfl | rfl <;> rfl
theorem jbInfo : (Try.prog.info? 47).map (fun i => (i.zero, i.size, i.bytes)) = some (some (.agg #[.int .i64 0, .int .i64 0, .slice none 0 0, .slice none 0 0, .int .i64 0, .int .i64 0]), 6, 80) := by kernel_rfl
theorem jbElem : ∃ i, Elem 6 JbV.cells 47 25 i (.agg #[.int .i64 0, .int .i64 0, .slice none 0 0, .slice none 0 0, .int .i64 0, .int .i64 0]) 80 := by
  obtain ⟨j0, hj, lj0, lj1, lj2⟩ := info_parts jbInfo
  exact ⟨j0, jb_len, by decide, jb_one, Try.underlying25, hj, lj0, lj1, lj2, rfl⟩

/-- A job, but for where its lists lie. -/
def JbV.bare (j : JbV) : JbV := { j with ta := none, tl := 0, tc := 0, aa := none, al := 0, ac := 0 }
/-- How long its lists are. -/
def JbV.fit (j : JbV) : Prop := j.tasks.length = j.tl ∧ j.asked.length = j.al
def jobRow (a : Option Addr) (n c : Nat) (js : List JbV) : Rw := ⟨47, 6, .slice a n c, n, flat JbV.cells js⟩
def taskRow (a : Option Addr) (n c : Nat) (ts : List TkV) : Rw := ⟨73, 8, .slice a n c, n, flat TkV.cells ts⟩
def siteRow (a : Option Addr) (n c : Nat) (zs : List Int) : Rw := ⟨3, 1, .slice a n c, n, flat inCell zs⟩
theorem jobsIn_nil : JobsIn [] [] [] := ⟨rfl, fun i j x e => by simp at e, fun i k x y e => by simp at e, fun i x e => by simp at e⟩
/-- A job more, its two rows put behind the others. -/
theorem JobsIn.push {js : List JbV} {ix : List (Nat × Nat)} {more : List Rw} (h : JobsIn js ix more) (hb : ∀ (i : Nat) (x : Nat × Nat), ix[i]? = some x → x.1 < more.length ∧ x.2 < more.length) (j : JbV) :
    JobsIn (js ++ [j]) (ix ++ [(more.length, more.length + 1)]) (more ++ [taskRow j.ta j.tl j.tc j.tasks, siteRow j.aa j.al j.ac j.asked]) := by
  obtain ⟨h1, h2, h3, h4⟩ := h
  have get : ∀ {α : Type} (l : List α) (y : α) (i : Nat) (x : α), (l ++ [y])[i]? = some x → l[i]? = some x ∨ (i = l.length ∧ x = y) := by
    intro α l y i x e
    by_cases hi : i < l.length
    · rw [List.getElem?_append_left hi] at e; exact Or.inl e
    · rw [List.getElem?_append_right (by omega)] at e
      have hl := (List.getElem?_eq_some_iff.1 e).1
      simp at hl
      have : i - l.length = 0 := by omega
      rw [this] at e
      simp at e
      exact Or.inr ⟨by omega, e.symm⟩
  refine ⟨by simp [h1], fun i j' x ej ex => ?_, fun i k x y ex ey hik => ?_, fun i x ex => ?_⟩
  · rcases get js j i j' ej with ej | ⟨rfl, rfl⟩
    · rcases get ix _ i x ex with ex | ⟨hi, _⟩
      · have hx := hb i x ex
        rw [List.getElem?_append_left hx.1, List.getElem?_append_left hx.2]
        exact h2 i j' x ej ex
      · have := (List.getElem?_eq_some_iff.1 ej).1
        omega
    · rcases get ix _ js.length x ex with ex | ⟨hi, rfl⟩
      · have := (List.getElem?_eq_some_iff.1 ex).1
        omega
      · refine ⟨?_, ?_⟩
        · rw [List.getElem?_append_right (Nat.le_refl _)]; simp [taskRow]
        · rw [List.getElem?_append_right (by omega)]; simp [siteRow]
  · rcases get ix _ i x ex with ex | ⟨rfl, rfl⟩
    · rcases get ix _ k y ey with ey | ⟨rfl, rfl⟩
      · exact h3 i k x y ex ey hik
      · have hx := hb i x ex
        simp only []
        omega
    · rcases get ix _ k y ey with ey | ⟨rfl, rfl⟩
      · have hy := hb k y ey
        simp only []
        omega
      · exact absurd rfl hik
  · rcases get ix _ i x ex with ex | ⟨_, rfl⟩
    · exact h4 i x ex
    · simp only []
      omega
theorem ix_push {ix : List (Nat × Nat)} {more : List Rw} {r s : Rw} (hb : ∀ (i : Nat) (x : Nat × Nat), ix[i]? = some x → x.1 < more.length ∧ x.2 < more.length) : ∀ (i : Nat) (x : Nat × Nat), (ix ++ [(more.length, more.length + 1)])[i]? = some x → x.1 < (more ++ [r, s]).length ∧ x.2 < (more ++ [r, s]).length := by
  intro i x e
  by_cases hi : i < ix.length
  · rw [List.getElem?_append_left hi] at e
    have := hb i x e
    simp
    omega
  · rw [List.getElem?_append_right (by omega)] at e
    have hl := (List.getElem?_eq_some_iff.1 e).1
    simp at hl
    have : i - ix.length = 0 := by omega
    rw [this] at e
    simp at e
    subst e
    simp
/-- A desk of the call's own. -/
structure DeskAt (X : World) (B : Nat) (a : Option Addr) (n c : Nat) (js : List JbV) (ix : List (Nat × Nat)) (more : List Rw) : Prop where
  own : Own X B (jobRow a n c js :: more)
  jobs : JobsIn js ix more
  len : js.length = n
  fit : ∀ j ∈ js, j.fit
  inn : ∀ (i : Nat) (x : Nat × Nat), ix[i]? = some x → x.1 < more.length ∧ x.2 < more.length
theorem deskAt_nil (X : World) (B : Nat) : DeskAt X B none 0 0 [] [] [] := by
  refine ⟨⟨fun i r e => ?_, fun i j r s ei ej hij => ?_⟩, jobsIn_nil, rfl, (fun j hj => by cases hj), fun i x e => by simp at e⟩
  · cases i with
    | zero => simp at e; subst e; exact World.ownsRow_nil _ _ _ _
    | succ i => simp at e
  · cases i with
    | zero => simp at ei; subst ei; exact Or.inl rfl
    | succ i => simp at ei
theorem Own.asideNew {X : World} {B : Nat} {rows : List Rw} {r : Rw} {q : Nat} (h : Own X B (rows ++ [r])) (hq : ∀ (i : Nat) (s : Rw), rows[i]? = some s → s.v.ownBlock ≠ some q) (hr : r.v.ownBlock ≠ some q) : ∀ (i : Nat) (s : Rw), (rows ++ [r])[i]? = some s → s.v.ownBlock ≠ some q := fun i s e => by
  by_cases hi : i < rows.length
  · rw [List.getElem?_append_left hi] at e; exact hq i s e
  · rw [List.getElem?_append_right (by omega)] at e
    have hl := (List.getElem?_eq_some_iff.1 e).1
    simp at hl
    have : i - rows.length = 0 := by omega
    rw [this] at e
    simp at e
    subst e
    exact hr
theorem row_fit {α : Type} [Inhabited α] {k : Nat} {cells : α → List Value} {w : World} {a : Option Addr} {n c : Nat} {xs : List α} (h : IsRow k cells w a n c xs) : xs.length = n := h.1
theorem grownNone {w w' : World} (h : w.grownBy w' none) : Below w.heap.size w w' := (Below.refl w.heap.size w).grown h (Nat.le_refl _) (fun k hk => by cases hk)
theorem bare_at {js : List JbV} {k : Nat} (hk : k < js.length) {js2 : List JbV} {j : JbV} (h : js2.map JbV.bare = (js.take k).map JbV.bare) (hj : j.bare = (js.getD k default).bare) : (js2 ++ [j]).map JbV.bare = (js.take (k + 1)).map JbV.bare := by
  rw [List.take_succ_eq_append_getElem hk, List.map_append, List.map_append, h]
  simp [List.getD, hk] at hj
  simp [hj]

/-- The same desk in memory of its own. -/
def DeskNew (w w' : World) (e : Ending) (next : Int) (jl : Nat) (js : List JbV) : Prop :=
  ∃ (a' : Option Addr) (c' : Nat) (js' : List JbV) (ix : List (Nat × Nat)) (more : List Rw), e = .returned (.agg #[.int .i64 next, .slice a' jl c']) ∧ DeskAt w' w.heap.size a' jl c' js' ix more ∧ js'.map JbV.bare = js.map JbV.bare ∧ Below w.heap.size w w'
set_option maxRecDepth 100000 in
set_option maxHeartbeats 8000000 in
theorem desk_any (next : Int) (ja : Option Addr) (jl jc : Nat) (js : List JbV) (w : World) (h : IsJobs w ja jl jc js) (h6 : jl ≤ 6) (h10 : ∀ j ∈ js, j.tl ≤ 10 ∧ j.al ≤ 10) :
    Calls Try.prog 42 #[.agg #[.int .i64 next, .slice ja jl jc]] w fun e w' => DeskNew w w' e next jl js := by
  obtain ⟨iT, ET⟩ := tkElem
  obtain ⟨iI, EI⟩ := inElem
  obtain ⟨iJ, EJ⟩ := jbElem
  have HL : Hid (js.length = jl) := h.row.1
  obtain ⟨W, hW⟩ : ∃ W : World, W = (w.alloc (.cells #[.int .i64 next, .slice ja jl jc] 27)).alloc (.cells #[.int .i64 0, .slice none 0 0] 27) := ⟨_, rfl⟩
  have hB : Below w.heap.size w W := by rw [hW]; exact ((Below.refl _ _).alloc (Nat.le_refl _) _).alloc (by simp) _
  have zW : w.heap.size + 1 < W.heap.size := by rw [hW]; simp
  have b0 : BoxN W w.heap.size 2 [.int .i64 next, .slice ja jl jc] := by rw [hW]; exact (boxn_new w #[.int .i64 next, .slice ja jl jc] 27 2 rfl).below (B := (w.alloc (.cells #[.int .i64 next, .slice ja jl jc] 27)).heap.size) ((Below.refl _ _).alloc (Nat.le_refl _) _) (by simp)
  have b1 : BoxN W (w.heap.size + 1) 2 [.int .i64 0, .slice none 0 0] := by rw [hW]; simpa using boxn_new (w.alloc (.cells #[.int .i64 next, .slice ja jl jc] 27)) #[.int .i64 0, .slice none 0 0] 27 2 rfl
  have d0 : W.cell? ⟨w.heap.size, 0, none⟩ = some (.int .i64 next) := (b0.c 0 (by decide)).1
  have d1 : W.cell? ⟨w.heap.size, 1, none⟩ = some (.slice ja jl jc) := (b0.c 1 (by decide)).1
  have HJ : Hid (∀ U, Below W.heap.size W U → IsJobs U ja jl jc js) := fun U hU => h.below (hB.trans (hU.mono hB.size))
  have h6' : (jl : Int) ≤ 6 := by omega
  go_enter Try.func42, Try.ntmps42
  go_upto_region 3 with (fail)
  rw [← hW]
  clear hW
  go_loopw [3, 5, 9] (fun s3 _ s9 wr => ∃ (k : Nat) (a' : Option Addr) (c' : Nat) (js' : List JbV) (ix : List (Nat × Nat)) (more : List Rw), k ≤ jl ∧ s9 = .int .i64 (k : Int) ∧ s3 = .slice a' k c' ∧ DeskAt wr W.heap.size a' k c' js' ix more ∧ Hid (js'.map JbV.bare = (js.take k).map JbV.bare) ∧ Below W.heap.size W wr) (fun _ _ s9 _ => jl - (intOf s9).toNat)
  case atStart => exact ⟨0, none, 0, [], [], [], Nat.zero_le _, rfl, rfl, deskAt_nil _ _, by show _ = _; simp, Below.refl _ _⟩
  case round =>
    obtain ⟨k, a', c', js', ix, more, hk, rfl, rfl, hD, hbare, hb⟩ := hrel
    by_cases hlt : k < jl
    · have hlt' : (k : Int) < (jl : Int) := by omega
      have hJr := HJ.out wr hb
      obtain ⟨b, off, rfl, zb, hc⟩ := hJr.row.2.2.2.2 (by omega)
      have hjc : k < jc := Nat.lt_of_lt_of_le hlt hJr.row.2.1
      have hcells := hc k hlt
      have hkl : k < js.length := by rw [HL.out]; exact hlt
      have hin := mem_at hkl
      have hJk := hJr.each _ hin
      have h10k := h10 _ hin
      have hpush := fun {js2 : List JbV} {j : JbV} => bare_at hkl (js2 := js2) (j := j)
      obtain ⟨x, ex⟩ : ∃ x, x = js.getD k default := ⟨_, rfl⟩
      rw [← ex] at hcells hJk h10k hpush
      clear ex hin hc hJr
      obtain ⟨jn, st, ta, tl, tc, aa, al, ac, asks, age, tasks, asked⟩ := x
      obtain ⟨h10t, h10a⟩ := h10k
      simp only [] at h10t h10a
      have a0 := hcells 0 (by decide)
      have a1 := hcells 1 (by decide)
      have a2 := hcells 2 (by decide)
      have a3 := hcells 3 (by decide)
      have a4 := hcells 4 (by decide)
      have a5 := hcells 5 (by decide)
      simp [JbV.cells] at a0 a1 a2 a3 a4 a5
      clear hcells
      obtain ⟨V, hV⟩ : ∃ V : World, V = wr.alloc (.cells #[.int .i64 jn, .int .i64 st, .slice ta tl tc, .slice aa al ac, .int .i64 asks, .int .i64 age] 47) := ⟨_, rfl⟩
      have bV : Below wr.heap.size wr V := by rw [hV]; exact (Below.refl _ _).alloc (Nat.le_refl _) _
      have bxV : BoxN V wr.heap.size 6 [.int .i64 jn, .int .i64 st, .slice ta tl tc, .slice aa al ac, .int .i64 asks, .int .i64 age] := by rw [hV]; exact boxn_new wr #[.int .i64 jn, .int .i64 st, .slice ta tl tc, .slice aa al ac, .int .i64 asks, .int .i64 age] 47 6 rfl
      have hJV := hJk.below bV
      have hOV := hD.own.below bV
      have hWr := hb.size
      have v2 : V.cell? ⟨wr.heap.size, 2, none⟩ = some (.slice ta tl tc) := (bxV.c 2 (by decide)).1
      have g2 := (bxV.c 2 (by decide)).2
      have zV := bxV.lt
      go_upto_region 5 with (fail)
      rw [← hV]
      clear hV a0 a1 a2 a3 a4 a5
      have hapV : ∀ (i : Nat) (r : Rw), (jobRow a' k c' js' :: more)[i]? = some r → r.v.ownBlock ≠ some wr.heap.size := fun i r e e2 => by have := ((hD.own.own i r e).lt _ e2).2; omega
      go_upto_region 6 with (at_builtin; go_loud (refine St.wpList_append_row ET (by rfl) _ _ (by rfl) V.heap.size (.slice none 0 0) 0 [] (by rfl) (World.ownsRow_nil _ _ _ _) ta tl tc tasks (by rfl) hJV.tasks (by unfold maxLen; omega) (by omega) (Nat.le_refl _) ?_; intro a5 c5 w5 own5 gr5 at5; simp only [Nat.zero_add, List.nil_append] at own5 ⊢; have hb5 := grownNone gr5; have bx5 := bxV.below hb5 bxV.lt; have p2 : w5.cell? ⟨wr.heap.size, 2, none⟩ = some (.slice ta tl tc) := (bx5.c 2 (by decide)).1; have pf2 := (bx5.c 2 (by decide)).2; have z5 := bx5.lt))
      obtain ⟨Y, eY⟩ : ∃ Y : World, Y = w5.setCell ⟨wr.heap.size, 2, none⟩ (.slice a5 tl c5) := ⟨_, rfl⟩
      have hBV : W.heap.size ≤ V.heap.size := Nat.le_trans hWr bV.size
      have bxY : BoxN Y wr.heap.size 6 [.int .i64 jn, .int .i64 st, .slice a5 tl c5, .slice aa al ac, .int .i64 asks, .int .i64 age] := by rw [eY]; exact bx5.set 2 (by decide) (.slice a5 tl c5)
      have ne5 : (Value.slice a5 tl c5).ownBlock ≠ some wr.heap.size := fun e => by have := (own5.lt _ e).1; omega
      have own5' := hOV.add hb5 hBV (r := taskRow a5 tl c5 tasks) own5
      have apY := own5'.asideNew hapV ne5
      have ownY : Own Y W.heap.size ((jobRow a' k c' js' :: more) ++ [taskRow a5 tl c5 tasks]) := by rw [eY]; exact own5'.aside apY 2 _
      have bwY : Below wr.heap.size wr Y := by rw [eY]; exact (bV.trans (hb5.mono bV.size)).setCell (p := ⟨wr.heap.size, 2, none⟩) (Nat.le_refl _) _
      rw [← eY]
      clear eY p2 pf2 z5 v2 g2 zV
      have hsY := hJk.asked.below bwY
      have y3 : Y.cell? ⟨wr.heap.size, 3, none⟩ = some (.slice aa al ac) := (bxY.c 3 (by decide)).1
      have zY := bxY.lt
      go_upto_region 7 with (at_builtin; go_loud (refine St.wpList_append_row EI (by rfl) _ _ (by rfl) Y.heap.size (.slice none 0 0) 0 [] (by rfl) (World.ownsRow_nil _ _ _ _) aa al ac asked (by rfl) hsY (by unfold maxLen; omega) (by omega) (Nat.le_refl _) ?_; intro a6 c6 w6 own6 gr6 at6; simp only [Nat.zero_add, List.nil_append] at own6 ⊢; have hb6 := grownNone gr6; have bx6 := bxY.below hb6 bxY.lt; have p3 : w6.cell? ⟨wr.heap.size, 3, none⟩ = some (.slice aa al ac) := (bx6.c 3 (by decide)).1; have pf3 := (bx6.c 3 (by decide)).2; have z6 := bx6.lt))
      obtain ⟨Z, eZ⟩ : ∃ Z : World, Z = w6.setCell ⟨wr.heap.size, 3, none⟩ (.slice a6 al c6) := ⟨_, rfl⟩
      have hBY : W.heap.size ≤ Y.heap.size := Nat.le_trans hWr bwY.size
      have bxZ : BoxN Z wr.heap.size 6 [.int .i64 jn, .int .i64 st, .slice a5 tl c5, .slice a6 al c6, .int .i64 asks, .int .i64 age] := by rw [eZ]; exact bx6.set 3 (by decide) (.slice a6 al c6)
      have ne6 : (Value.slice a6 al c6).ownBlock ≠ some wr.heap.size := fun e => by have := (own6.lt _ e).1; omega
      have own6' := ownY.add hb6 hBY (r := siteRow a6 al c6 asked) own6
      have apZ := own6'.asideNew apY ne6
      have ownZ : Own Z W.heap.size (((jobRow a' k c' js' :: more) ++ [taskRow a5 tl c5 tasks]) ++ [siteRow a6 al c6 asked]) := by rw [eZ]; exact own6'.aside apZ 3 _
      have bwZ : Below wr.heap.size wr Z := by rw [eZ]; exact (bwY.trans (hb6.mono bwY.size)).setCell (p := ⟨wr.heap.size, 3, none⟩) (Nat.le_refl _) _
      rw [← eZ]
      clear eZ p3 pf3 z6 y3 zY
      have x0 : Z.cell? ⟨wr.heap.size, 0, none⟩ = some (.int .i64 jn) := (bxZ.c 0 (by decide)).1
      have x1 : Z.cell? ⟨wr.heap.size, 1, none⟩ = some (.int .i64 st) := (bxZ.c 1 (by decide)).1
      have x2 : Z.cell? ⟨wr.heap.size, 2, none⟩ = some (.slice a5 tl c5) := (bxZ.c 2 (by decide)).1
      have x3 : Z.cell? ⟨wr.heap.size, 3, none⟩ = some (.slice a6 al c6) := (bxZ.c 3 (by decide)).1
      have x4 : Z.cell? ⟨wr.heap.size, 4, none⟩ = some (.int .i64 asks) := (bxZ.c 4 (by decide)).1
      have x5 : Z.cell? ⟨wr.heap.size, 5, none⟩ = some (.int .i64 age) := (bxZ.c 5 (by decide)).1
      have zZ := bxZ.lt
      obtain ⟨U, eU⟩ : ∃ U : World, U = Z.alloc (.cells #[.int .i64 jn, .int .i64 st, .slice a5 tl c5, .slice a6 al c6, .int .i64 asks, .int .i64 age] 47) := ⟨_, rfl⟩
      have bU : Below Z.heap.size Z U := by rw [eU]; exact (Below.refl _ _).alloc (Nat.le_refl _) _
      have hone : IsRow 6 JbV.cells U (some ⟨Z.heap.size, 0, none⟩) 1 1 [(⟨jn, st, a5, tl, c5, a6, al, c6, asks, age, tasks, asked⟩ : JbV)] := by
        rw [eU]
        exact rowOne (cells := JbV.cells) (k := 6) Z #[.int .i64 jn, .int .i64 st, .slice a5 tl c5, .slice a6 al c6, .int .i64 asks, .int .i64 age] 47 (⟨jn, st, a5, tl, c5, a6, al, c6, asks, age, tasks, asked⟩ : JbV) rfl rfl
      have ownU := ownZ.below bU
      have own0 := ownU.own 0 (jobRow a' k c' js') rfl
      simp only [jobRow] at own0
      have hBU : W.heap.size ≤ U.heap.size := Nat.le_trans (Nat.le_trans hWr bwZ.size) bU.size
      have hbU : Below W.heap.size W U := hb.trans ((bwZ.trans (bU.mono bwZ.size)).mono hWr)
      go_wp2_with (at_builtin; go_loud (rw [← eU]; refine St.wpList_append_row EJ (by rfl) _ _ (by rfl) W.heap.size (.slice a' k c') k js' (by rfl) own0 _ 1 1 [(⟨jn, st, a5, tl, c5, a6, al, c6, asks, age, tasks, asked⟩ : JbV)] (by rfl) hone (by unfold maxLen; omega) (by omega) hBU ?_; intro a7 c7 w7 own7 gr7 at7))
      go_roundw
      case rel =>
        have ow7 := ownU.grow (i := 0) (r := jobRow a' k c' js') (r' := jobRow a7 (k + 1) c7 (js' ++ [(⟨jn, st, a5, tl, c5, a6, al, c6, asks, age, tasks, asked⟩ : JbV)])) rfl gr7 own7 at7
        have hj' := hD.jobs.push hD.inn ⟨jn, st, a5, tl, c5, a6, al, c6, asks, age, tasks, asked⟩
        refine ⟨k + 1, a7, c7, js' ++ [⟨jn, st, a5, tl, c5, a6, al, c6, asks, age, tasks, asked⟩], ix ++ [(more.length, more.length + 1)], more ++ [taskRow a5 tl c5 tasks, siteRow a6 al c6 asked], by omega, by go_num, rfl, ⟨by simpa using ow7, hj', by simp [hD.len], fun j hj => ?_, ix_push hD.inn⟩, hpush hbare.out rfl, ?_⟩
        · rcases List.mem_append.1 hj with hj | hj
          · exact hD.fit j hj
          · simp at hj; subst hj; exact ⟨hJk.tasks.1, hJk.asked.1⟩
        · exact hbU.grown gr7 hBU (fun g eg => (own0.lt g eg).1)
      case measure => simp [intOf]; omega
    · obtain rfl : k = jl := by omega
      have hlt' : ¬ (k : Int) < (k : Int) := by omega
      have c0 := (b0.below hb b0.lt)
      have c1 := (b1.below hb b1.lt)
      have e0 : wr.cell? ⟨w.heap.size, 0, none⟩ = some (.int .i64 next) := (c0.c 0 (by decide)).1
      have q0 : wr.cell? ⟨w.heap.size + 1, 0, none⟩ = some (.int .i64 0) := (c1.c 0 (by decide)).1
      have q1 : wr.cell? ⟨w.heap.size + 1, 1, none⟩ = some (.slice none 0 0) := (c1.c 1 (by decide)).1
      have f0 := (c1.c 0 (by decide)).2
      have f1 := (c1.c 1 (by decide)).2
      have z0 := c0.lt
      have z1 := c1.lt
      have ap : ∀ (i : Nat) (r : Rw), (jobRow a' k c' js' :: more)[i]? = some r → r.v.ownBlock ≠ some (w.heap.size + 1) := fun i r e e2 => by have := ((hD.own.own i r e).lt _ e2).1; omega
      have hO2 := (hD.own.aside ap 0 (.int .i64 next)).aside ap 1 (.slice a' k c')
      have hb2 : Below w.heap.size w ((wr.setCell ⟨w.heap.size + 1, 0, none⟩ (.int .i64 next)).setCell ⟨w.heap.size + 1, 1, none⟩ (.slice a' k c')) := ((hB.trans (hb.mono hB.size)).setCell (p := ⟨w.heap.size + 1, 0, none⟩) (Nat.le_succ _) _).setCell (p := ⟨w.heap.size + 1, 1, none⟩) (Nat.le_succ _) _
      have hfin : Hid (js'.map JbV.bare = js.map JbV.bare) := by show _ = _; rw [hbare.out, List.take_of_length_le (by rw [HL.out]; omega)]
      clear c0 c1
      go_wp2
      refine bodyPost_ret (v := .agg #[.int .i64 next, .slice a' k c']) (by simp [results, Try.results42, go_sem, q0, q1]) rfl ⟨a', c', js', ix, more, rfl, ⟨hO2.base (by omega), hD.jobs, hD.len, hD.fit, hD.inn⟩, hfin.out, hb2⟩
end Go.Proofs.Ytfhciplckjkflaa.Co
