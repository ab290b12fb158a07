/- Texts of this claim, one behind the other. -/
import Derived.Test.YtgohpgollpjlnaaDoorM21ShowList
import Derived.Test.YtgohpgollpjlnaaDoorM19ShowList
import Derived.Test.YtgohpgollpjlnaaDoorM9ShowList
import Derived.Test.YtgohpgollpjlnaaDoorM4ShowList
import Derived.Lib.QuietBelow
import Derived.LoopTactic
import Derived.Deep.QuietTactic
import Derived.BigQuiet
import Derived.Test.YtgohpgollpjlnaaDoorA13ShowList
/- Messages on plain data: their parts, which kind has which, whether one may be, and its bytes. -/
namespace Go.Proofs.YtgohpgollpjlnaaDoor
open Go.ChangeShapes Go.WideShapes Go.ChangeAt Go.RowKit

def plc (l : Int) (n : Nat) : Bool := decide (0 ≤ l ∧ l < (n : Int))
theorem plc_true {l : Int} {n : Nat} (h : plc l n = true) : 0 ≤ l ∧ l < (n : Int) := by simpa [plc] using h
theorem plc_false {l : Int} {n : Nat} (h : plc l n = false) : l < 0 ∨ (n : Int) ≤ l := by simp [plc] at h; omega

def bit (b : Bool) : Int := if b then 1 else 0

structure MV where
  kind : Int
  frm : Int
  dst : Int
  site : Int
  num : Int
  label : Int
  key : Int
  value : Int
  version : Int
  ask : Int
  yes : Bool
  code : Int

def MV.val (m : MV) : Value := .agg #[.int .i64 m.kind, .int .i64 m.frm, .int .i64 m.dst, .int .i64 m.site, .int .i64 m.num, .int .i64 m.label, .int .i64 m.key, .int .i64 m.value, .int .i64 m.version, .int .i64 m.ask, .bool m.yes, .int .i64 m.code]

def MV.parts (m : MV) : List Int := [m.label, m.key, m.value, m.version, m.ask, bit m.yes, m.code, 0]

def mHas : List (List Bool) :=
  [[false, false, false, false, false, false, false, false],
   [true, true, false, false, true, false, false, false],
   [false, true, true, false, true, false, false, false],
   [true, true, false, true, false, false, false, false],
   [false, false, false, false, false, true, false, false],
   [true, true, true, true, true, false, true, false],
   [false, true, false, false, true, false, true, false],
   [true, true, false, true, false, true, false, false],
   [false, false, false, false, false, false, false, false],
   [false, false, false, false, false, false, false, false]]
def rHas : List (List Bool) :=
  [[false, false, false, false, false, false, false, false],
   [false, true, true, false, true, false, false, false],
   [false, false, false, false, false, true, false, false],
   [false, false, false, false, false, false, false, true],
   [false, false, false, false, false, false, false, false],
   [false, false, false, false, false, false, false, false],
   [false, false, false, false, false, true, false, false]]
def topL : List Int := [5, 7, 1073741824, 1048576, 1048576, 1, 11, 4]
def widL : List Nat := [1, 1, 4, 3, 3, 1, 1, 1]

def mHasOf (k : Int) : List Bool := mHas.getD k.toNat []
def rHasOf (k : Int) : List Bool := rHas.getD k.toNat []

/-- All that is not 0 is among what there is. -/
def hasAll : List Bool → List Int → Bool
  | h :: hs, p :: ps => (p == 0 || h) && hasAll hs ps
  | _, _ => true
/-- Each part is from 0 to its top. -/
def inTops : List Int → List Int → Bool
  | t :: ts, p :: ps => inR p 0 t && inTops ts ps
  | _, _ => true
def isCd (n : Int) : Bool := n == 0 || n == 11 || n == 8
def partsOK (n : Nat) (p : List Int) : Bool := inTops topL p && plc (p.getD 0 0) n && isCd (p.getD 6 0)
def txnOK (s site num : Int) : Bool := inR site 0 (s - 1) && inR num 1 1048576

def msgRange (s : Int) (n : Nat) (m : MV) : Bool := inR m.frm 0 (s - 1) && inR m.dst 0 (s - 1) && txnOK s m.site m.num && partsOK n m.parts
def msgForm (m : MV) : Bool := hasAll (mHasOf m.kind) m.parts && (m.code == 0 || (m.value == 0 && m.version == 0))
def msgFault (s : Int) (ls : List (Int × Int)) (p : Int) (m : MV) : Int :=
  if cfgFault s ls p ≠ 0 then cfgFault s ls p else if inR m.kind 1 9 = false then 3 else if msgRange s ls.length m = false then 2 else if msgForm m = false then 4 else 0

theorem mf_cfg {s : Int} {ls : List (Int × Int)} {p : Int} {m : MV} (h : cfgFault s ls p ≠ 0) : msgFault s ls p m = cfgFault s ls p := by simp [msgFault, h]
theorem mf_kind {s : Int} {ls : List (Int × Int)} {p : Int} {m : MV} (h : cfgFault s ls p = 0) (hk : inR m.kind 1 9 = false) : msgFault s ls p m = 3 := by simp [msgFault, h, hk]
theorem mf_range {s : Int} {ls : List (Int × Int)} {p : Int} {m : MV} (h : cfgFault s ls p = 0) (hk : inR m.kind 1 9 = true) (hr : msgRange s ls.length m = false) : msgFault s ls p m = 2 := by simp [msgFault, h, hk, hr]
theorem mf_form {s : Int} {ls : List (Int × Int)} {p : Int} {m : MV} (h : cfgFault s ls p = 0) (hk : inR m.kind 1 9 = true) (hr : msgRange s ls.length m = true) (hf : msgForm m = false) : msgFault s ls p m = 4 := by simp [msgFault, h, hk, hr, hf]
theorem mf_ok {s : Int} {ls : List (Int × Int)} {p : Int} {m : MV} (h : cfgFault s ls p = 0) (hk : inR m.kind 1 9 = true) (hr : msgRange s ls.length m = true) (hf : msgForm m = true) : msgFault s ls p m = 0 := by simp [msgFault, h, hk, hr, hf]

/-- The parts that there are, as bytes. -/
def encParts : List Bool → List Nat → List Int → List Int
  | h :: hs, w :: ws, p :: ps => (if h then be p w else []) ++ encParts hs ws ps
  | _, _, _ => []
def msgBytes (m : MV) : List Int := [m.kind, m.frm, m.dst, m.site] ++ be m.num 3 ++ encParts (mHasOf m.kind) widL m.parts

theorem kind_cases {k : Int} (h : inR k 1 9 = true) : k = 1 ∨ k = 2 ∨ k = 3 ∨ k = 4 ∨ k = 5 ∨ k = 6 ∨ k = 7 ∨ k = 8 ∨ k = 9 := by
  have := inR_of h
  omega
end Go.Proofs.YtgohpgollpjlnaaDoor
/- Answers of part: a store, messages, records without sites, notes; and the contract of sameAnswer: at the same answers it returns true. -/
namespace Go.Proofs.YtgohpgollpjlnaaDoor.Pt
open Go.ChangeShapes Go.WideShapes Go.ChangeAt Go.RowKit
open Go.Proofs.YtgohpgollpjlnaaDoor.St (SV PS IsStore IsRow BoxN boxn_new)
set_option linter.unusedVariables false

instance : Inhabited MV := ⟨⟨0, 0, 0, 0, 0, 0, 0, 0, 0, 0, false, 0⟩⟩
def mcells (m : MV) : List Value := [.int .i64 m.kind, .int .i64 m.frm, .int .i64 m.dst, .int .i64 m.site, .int .i64 m.num, .int .i64 m.label, .int .i64 m.key, .int .i64 m.value, .int .i64 m.version, .int .i64 m.ask, .bool m.yes, .int .i64 m.code]
theorem mcells_len (m : MV) : (mcells m).length = 12 := rfl
theorem mcells_one (y : MV) : ∀ u ∈ mcells y, u.oneCell' = true := by
  intro u hu
  simp only [mcells, List.mem_cons, List.not_mem_nil, or_false] at hu
  rcases hu with rfl | rfl | rfl | rfl | rfl | rfl | rfl | rfl | rfl | rfl | rfl | rfl <;> rfl
/-- A record without sites. -/
structure RV where
  kind : Int
  site : Int
  num : Int
  key : Int
  value : Int
  ask : Int
  yes : Bool
instance : Inhabited RV := ⟨⟨0, 0, 0, 0, 0, 0, false⟩⟩
def RV.cells (r : RV) : List Value := [.int .i64 r.kind, .int .i64 r.site, .int .i64 r.num, .int .i64 r.key, .int .i64 r.value, .int .i64 r.ask, .bool r.yes, .slice none 0 0]
theorem rcells_len (m : RV) : (RV.cells m).length = 8 := rfl
theorem rcells_one (y : RV) : ∀ u ∈ y.cells, u.oneCell' = true := by
  intro u hu
  simp only [RV.cells, List.mem_cons, List.not_mem_nil, or_false] at hu
  rcases hu with rfl | rfl | rfl | rfl | rfl | rfl | rfl | rfl <;> rfl
/-- A note. -/
structure NV where
  site : Int
  num : Int
  yes : Bool
  dmg : Bool
instance : Inhabited NV := ⟨⟨0, 0, false, false⟩⟩
def NV.cells (r : NV) : List Value := [.int .i64 r.site, .int .i64 r.num, .bool r.yes, .bool r.dmg]
theorem ncells_len (m : NV) : (NV.cells m).length = 4 := rfl
theorem ncells_one (y : NV) : ∀ u ∈ y.cells, u.oneCell' = true := by
  intro u hu
  simp only [NV.cells, List.mem_cons, List.not_mem_nil, or_false] at hu
  rcases hu with rfl | rfl | rfl | rfl <;> rfl
def IsMsgs (w : World) (a : Option Addr) (n cap : Nat) (ms : List MV) : Prop := IsRow 12 mcells w a n cap ms
def IsRcs (w : World) (a : Option Addr) (n cap : Nat) (rs : List RV) : Prop := IsRow 8 RV.cells w a n cap rs
def IsNotes (w : World) (a : Option Addr) (n cap : Nat) (ns : List NV) : Prop := IsRow 4 NV.cells w a n cap ns
/-- An answer. -/
structure AnsV where
  st : SV
  ma : Option Addr
  ml : Nat
  mc : Nat
  ra : Option Addr
  rl : Nat
  rc : Nat
  na : Option Addr
  nl : Nat
  nc : Nat
  ms : List MV
  rs : List RV
  ns : List NV
def AnsV.cells (v : AnsV) : List Value := [.slice v.st.ia v.st.il v.st.ic, .slice v.st.la v.st.ll v.st.lc, .slice v.st.da v.st.dl v.st.dc, .slice v.st.oa v.st.ol v.st.oc, .slice v.ma v.ml v.mc, .slice v.ra v.rl v.rc, .slice v.na v.nl v.nc]
def AnsV.val (v : AnsV) : Value := .agg #[.slice v.st.ia v.st.il v.st.ic, .slice v.st.la v.st.ll v.st.lc, .slice v.st.da v.st.dl v.st.dc, .slice v.st.oa v.st.ol v.st.oc, .slice v.ma v.ml v.mc, .slice v.ra v.rl v.rc, .slice v.na v.nl v.nc]
/-- What an answer says. -/
structure AD where
  st : PS
  ms : List MV
  rs : List RV
  ns : List NV
def AnsV.data (v : AnsV) : AD := ⟨v.st.data, v.ms, v.rs, v.ns⟩
def AD.nil : AD := ⟨PS.nil, [], [], []⟩
def AnsV.nil : AnsV := ⟨SV.nil, none, 0, 0, none, 0, 0, none, 0, 0, [], [], []⟩
structure IsAns (w : World) (v : AnsV) : Prop where
  st : IsStore w v.st
  ms : IsMsgs w v.ma v.ml v.mc v.ms
  rs : IsRcs w v.ra v.rl v.rc v.rs
  ns : IsNotes w v.na v.nl v.nc v.ns
theorem IsAns.below {w w' : World} {v : AnsV} (h : IsAns w v) (hb : Below w.heap.size w w') : IsAns w' v := ⟨h.st.below hb, St.IsRow.below h.ms hb, St.IsRow.below h.rs hb, St.IsRow.below h.ns hb⟩
theorem row_grown {α : Type} [Inhabited α] {k : Nat} {cells : α → List Value} {w w' : World} {r : Option Nat} {a : Option Addr} {len cap : Nat} {xs : List α} (h : IsRow k cells w a len cap xs) (hg : w.grownBy w' r) (hn : ∀ b off, a = some ⟨b, off, none⟩ → some b ≠ r) : IsRow k cells w' a len cap xs := by
  obtain ⟨h1, h2, h3, h4, h5⟩ := h
  refine ⟨h1, h2, h3, h4, fun hp => ?_⟩
  obtain ⟨b, off, e, hl, hc⟩ := h5 hp
  refine ⟨b, off, e, Nat.lt_of_lt_of_le hl hg.size, fun i hi j hj => ?_⟩
  rw [World.cell?_of_block (a := ⟨b, off + i * k + j, none⟩) (hg.block b hl (hn b off e))]
  exact hc i hi j hj
/-- All lists of an answer lie at B or above. -/
structure AnsV.far (v : AnsV) (B : Nat) : Prop where
  ia : ∀ b off, v.st.ia = some ⟨b, off, none⟩ → B ≤ b
  la : ∀ b off, v.st.la = some ⟨b, off, none⟩ → B ≤ b
  da : ∀ b off, v.st.da = some ⟨b, off, none⟩ → B ≤ b
  oa : ∀ b off, v.st.oa = some ⟨b, off, none⟩ → B ≤ b
  ma : ∀ b off, v.ma = some ⟨b, off, none⟩ → B ≤ b
  ra : ∀ b off, v.ra = some ⟨b, off, none⟩ → B ≤ b
  na : ∀ b off, v.na = some ⟨b, off, none⟩ → B ≤ b
theorem AnsV.far.mono {v : AnsV} {B C : Nat} (h : v.far B) (hc : C ≤ B) : v.far C :=
  ⟨fun b o e => Nat.le_trans hc (h.ia b o e), fun b o e => Nat.le_trans hc (h.la b o e), fun b o e => Nat.le_trans hc (h.da b o e), fun b o e => Nat.le_trans hc (h.oa b o e), fun b o e => Nat.le_trans hc (h.ma b o e), fun b o e => Nat.le_trans hc (h.ra b o e), fun b o e => Nat.le_trans hc (h.na b o e)⟩
theorem AnsV.far_nil (B : Nat) : AnsV.nil.far B := ⟨(fun b o e => by cases e), (fun b o e => by cases e), (fun b o e => by cases e), (fun b o e => by cases e), (fun b o e => by cases e), (fun b o e => by cases e), (fun b o e => by cases e)⟩
theorem IsAns.grown {w w' : World} {v : AnsV} {g B : Nat} (h : IsAns w v) (hg : w.grownBy w' (some g)) (hf : v.far B) (hB : g < B) : IsAns w' v := by
  have ne : ∀ b, B ≤ b → some b ≠ some g := fun b hb e => by simp at e; omega
  exact ⟨⟨row_grown h.st.items hg (fun b o e => ne b (hf.ia b o e)), row_grown h.st.locks hg (fun b o e => ne b (hf.la b o e)), row_grown h.st.doubts hg (fun b o e => ne b (hf.da b o e)), row_grown h.st.over hg (fun b o e => ne b (hf.oa b o e))⟩, row_grown h.ms hg (fun b o e => ne b (hf.ma b o e)), row_grown h.rs hg (fun b o e => ne b (hf.ra b o e)), row_grown h.ns hg (fun b o e => ne b (hf.na b o e))⟩
theorem isAns_nil (w : World) : IsAns w AnsV.nil := ⟨St.isStore_nil w, St.isRow_nil _ _ _, St.isRow_nil _ _ _, St.isRow_nil _ _ _⟩

end Go.Proofs.YtgohpgollpjlnaaDoor.Pt
/- The contract of store.Writes. -/
namespace Go.Proofs.YtgohpgollpjlnaaDoor.St
open Go.ChangeShapes Go.WideShapes Go.ChangeAt Go.RowKit
set_option linter.unusedVariables false

set_option maxHeartbeats 2000000 in
theorem writes_count (s : SV) (t : Int × Int) (w : World) (h : IsStore w s) (hwf : ∀ t ∈ s.over, TxWf t) :
    Calls Tryd.prog 18 #[s.val, .agg #[.int .i64 t.1, .int .i64 t.2]] w fun e w' => e = .returned (.tuple #[.int .i64 (cntIs s t), .int .i64 (cntErr s t)]) ∧ Below w.heap.size w w' := by
  have hC := fun w' h1 => refuseTxn_any s t w' h1 hwf
  have hWo := fun w' h1 h2 => writesOf_any s t w' h1 h2
  have hl24 : cntErr s t = 0 → s.ll ≤ 24 := fun e => by
    rw [← h.locks.1]
    apply ok_24
    cases hs : storeOK s with
    | true => rfl
    | false => simp [cntErr, hs] at e
  obtain ⟨E, e6⟩ : ∃ R : Int, R = cntErr s t := ⟨_, rfl⟩
  have e6' : E = if storeOK s then (if txOK t then 0 else 2) else 9 := e6
  obtain ⟨R, e7⟩ : ∃ R, R = cntIs s t := ⟨_, rfl⟩
  have eR : Hid (R = if E = 0 then ((s.locks.filter (wOf t)).length : Int) else 0) := by rw [e6]; exact e7
  rw [← e6, ← e7]
  rw [← e6] at hl24
  rw [← e6'] at hC
  clear e6 e7 e6'
  obtain ⟨F, eF⟩ : ∃ F, F = s.locks.filter (wOf t) := ⟨_, rfl⟩
  rw [← eF] at hWo eR
  clear eF
  have hh := h
  obtain ⟨ia, il, ic, la, ll, lc, da, dl, dc, oa, ol, oc, items, locks, doubts, over⟩ := s
  obtain ⟨ts, tn⟩ := t
  simp only [SV.val] at *
  obtain ⟨W, hW⟩ : ∃ W : World, W = (w.alloc (.cells #[.slice ia il ic, .slice la ll lc, .slice da dl dc, .slice oa ol oc] 55)).alloc (.cells #[.int .i64 ts, .int .i64 tn] 23) := ⟨_, rfl⟩
  have hB : Below w.heap.size w W := by rw [hW]; exact ((Below.refl _ _).alloc (Nat.le_refl _) _).alloc (by simp) _
  have zW : W.heap.size = w.heap.size + 2 := by rw [hW]; simp
  have z0 : w.heap.size < W.heap.size := by omega
  have z1 : w.heap.size + 1 < W.heap.size := by omega
  clear zW
  have c0 : W.cell? ⟨w.heap.size, 0, none⟩ = some (.slice ia il ic) := by rw [hW]; go_simp
  have c1 : W.cell? ⟨w.heap.size, 1, none⟩ = some (.slice la ll lc) := by rw [hW]; go_simp
  have c2 : W.cell? ⟨w.heap.size, 2, none⟩ = some (.slice da dl dc) := by rw [hW]; go_simp
  have c3 : W.cell? ⟨w.heap.size, 3, none⟩ = some (.slice oa ol oc) := by rw [hW]; go_simp
  have c4 : W.cell? ⟨w.heap.size + 1, 0, none⟩ = some (.int .i64 ts) := by rw [hW]; go_simp
  have c5 : W.cell? ⟨w.heap.size + 1, 1, none⟩ = some (.int .i64 tn) := by rw [hW]; go_simp
  have KA : Hid (∀ U : World, Below W.heap.size W U → U.cell? ⟨w.heap.size, 0, none⟩ = some (.slice ia il ic) ∧ U.cell? ⟨w.heap.size, 1, none⟩ = some (.slice la ll lc) ∧ U.cell? ⟨w.heap.size, 2, none⟩ = some (.slice da dl dc) ∧ U.cell? ⟨w.heap.size, 3, none⟩ = some (.slice oa ol oc) ∧ U.cell? ⟨w.heap.size + 1, 0, none⟩ = some (.int .i64 ts) ∧ U.cell? ⟨w.heap.size + 1, 1, none⟩ = some (.int .i64 tn)) := fun U hU =>
    ⟨(hU.cell (p := ⟨w.heap.size, 0, none⟩) z0).trans c0, (hU.cell (p := ⟨w.heap.size, 1, none⟩) z0).trans c1, (hU.cell (p := ⟨w.heap.size, 2, none⟩) z0).trans c2, (hU.cell (p := ⟨w.heap.size, 3, none⟩) z0).trans c3, (hU.cell (p := ⟨w.heap.size + 1, 0, none⟩) z1).trans c4, (hU.cell (p := ⟨w.heap.size + 1, 1, none⟩) z1).trans c5⟩
  have hSW := hh.below hB
  go_enter Tryd.func18, Tryd.ntmps18
  go_upto_region 1 with (fail)
  rw [← hW]
  clear hW
  by_cases hE : E = 0
  · subst hE
    have hl := hl24 rfl
    go_wp2_with (first
      | (go_at_call 37; refine (hC _ hSW).mono ?_; rintro e w1 ⟨rfl, hb1⟩; clear c0 c1 c2 c3 c4 c5; obtain ⟨c0, c1, c2, c3, c4, c5⟩ := KA.out _ hb1; have hL1 := (hSW.below hb1).locks)
      | (go_at_call 38; refine (hWo _ hL1 hl).mono ?_; rintro e w2 ⟨ao, cp, rfl, _, _, hb2⟩))
    go_ret2
    exact ⟨by rw [eR.out]; rfl, hB.trans ((hb1.trans (hb2.mono hb1.size)).mono hB.size)⟩
  · go_wp2_with (go_at_call 37; refine (hC _ hSW).mono ?_; rintro e w1 ⟨rfl, hb1⟩)
    go_ret2
    exact ⟨by rw [eR.out, if_neg hE]; rfl, hB.trans (hb1.mono hB.size)⟩
end Go.Proofs.YtgohpgollpjlnaaDoor.St
