/- Texts of this claim, one behind the other. -/
import Derived.Test.YtifdjlhgcbkamaaM11PartForces
import Derived.Test.YtifdjlhgcbkamaaM12PartForces
import Derived.Test.YtifdjlhgcbkamaaM6PartForces
import Derived.Lib.QuietBelow
import Derived.LoopTactic
import Derived.Deep.QuietTactic
import Derived.BigQuiet
import Derived.Test.YtifdjlhgcbkamaaM9PartForces
/- Answers of part: a store, messages, records without sites, notes; and the contract of sameAnswer: at the same answers it returns true. -/
namespace Go.Proofs.Ytifdjlhgcbkamaa.Pt
open Go.ChangeShapes Go.WideShapes Go.ChangeAt Go.RowKit
open Go.Proofs.Ytifdjlhgcbkamaa.St (SV PS IsStore IsRow BoxN boxn_new)
set_option linter.unusedVariables false

instance : Inhabited MV := ⟨⟨0, 0, 0, 0, 0, 0, 0, 0, 0, 0, false, 0⟩⟩
def mcells (m : MV) : List Value := [.int .i64 m.kind, .int .i64 m.frm, .int .i64 m.dst, .int .i64 m.site, .int .i64 m.num, .int .i64 m.label, .int .i64 m.key, .int .i64 m.value, .int .i64 m.version, .int .i64 m.ask, .bool m.yes, .int .i64 m.code]
theorem mcells_len (m : MV) : (mcells m).length = 12 := rfl
theorem mcells_one (y : MV) : ∀ u ∈ mcells y, u.oneCell' = true := by
  intro u hu
  simp only [mcells, List.mem_cons, List.not_mem_nil, or_false] at hu
  rcases hu with rfl | rfl | rfl | rfl | rfl | rfl | rfl | rfl | rfl | rfl | rfl | rfl <;> rfl
/-- A record without sites. -/
structure RV where
  kind : Int
  site : Int
  num : Int
  key : Int
  value : Int
  ask : Int
  yes : Bool
instance : Inhabited RV := ⟨⟨0, 0, 0, 0, 0, 0, false⟩⟩
def RV.cells (r : RV) : List Value := [.int .i64 r.kind, .int .i64 r.site, .int .i64 r.num, .int .i64 r.key, .int .i64 r.value, .int .i64 r.ask, .bool r.yes, .slice none 0 0]
theorem rcells_len (m : RV) : (RV.cells m).length = 8 := rfl
theorem rcells_one (y : RV) : ∀ u ∈ y.cells, u.oneCell' = true := by
  intro u hu
  simp only [RV.cells, List.mem_cons, List.not_mem_nil, or_false] at hu
  rcases hu with rfl | rfl | rfl | rfl | rfl | rfl | rfl | rfl <;> rfl
/-- A note. -/
structure NV where
  site : Int
  num : Int
  yes : Bool
  dmg : Bool
instance : Inhabited NV := ⟨⟨0, 0, false, false⟩⟩
def NV.cells (r : NV) : List Value := [.int .i64 r.site, .int .i64 r.num, .bool r.yes, .bool r.dmg]
theorem ncells_len (m : NV) : (NV.cells m).length = 4 := rfl
theorem ncells_one (y : NV) : ∀ u ∈ y.cells, u.oneCell' = true := by
  intro u hu
  simp only [NV.cells, List.mem_cons, List.not_mem_nil, or_false] at hu
  rcases hu with rfl | rfl | rfl | rfl <;> rfl
def IsMsgs (w : World) (a : Option Addr) (n cap : Nat) (ms : List MV) : Prop := IsRow 12 mcells w a n cap ms
def IsRcs (w : World) (a : Option Addr) (n cap : Nat) (rs : List RV) : Prop := IsRow 8 RV.cells w a n cap rs
def IsNotes (w : World) (a : Option Addr) (n cap : Nat) (ns : List NV) : Prop := IsRow 4 NV.cells w a n cap ns
/-- An answer. -/
structure AnsV where
  st : SV
  ma : Option Addr
  ml : Nat
  mc : Nat
  ra : Option Addr
  rl : Nat
  rc : Nat
  na : Option Addr
  nl : Nat
  nc : Nat
  ms : List MV
  rs : List RV
  ns : List NV
def AnsV.cells (v : AnsV) : List Value := [.slice v.st.ia v.st.il v.st.ic, .slice v.st.la v.st.ll v.st.lc, .slice v.st.da v.st.dl v.st.dc, .slice v.st.oa v.st.ol v.st.oc, .slice v.ma v.ml v.mc, .slice v.ra v.rl v.rc, .slice v.na v.nl v.nc]
def AnsV.val (v : AnsV) : Value := .agg #[.slice v.st.ia v.st.il v.st.ic, .slice v.st.la v.st.ll v.st.lc, .slice v.st.da v.st.dl v.st.dc, .slice v.st.oa v.st.ol v.st.oc, .slice v.ma v.ml v.mc, .slice v.ra v.rl v.rc, .slice v.na v.nl v.nc]
/-- What an answer says. -/
structure AD where
  st : PS
  ms : List MV
  rs : List RV
  ns : List NV
def AnsV.data (v : AnsV) : AD := ⟨v.st.data, v.ms, v.rs, v.ns⟩
def AD.nil : AD := ⟨PS.nil, [], [], []⟩
def AnsV.nil : AnsV := ⟨SV.nil, none, 0, 0, none, 0, 0, none, 0, 0, [], [], []⟩
structure IsAns (w : World) (v : AnsV) : Prop where
  st : IsStore w v.st
  ms : IsMsgs w v.ma v.ml v.mc v.ms
  rs : IsRcs w v.ra v.rl v.rc v.rs
  ns : IsNotes w v.na v.nl v.nc v.ns
theorem IsAns.below {w w' : World} {v : AnsV} (h : IsAns w v) (hb : Below w.heap.size w w') : IsAns w' v := ⟨h.st.below hb, St.IsRow.below h.ms hb, St.IsRow.below h.rs hb, St.IsRow.below h.ns hb⟩
theorem row_grown {α : Type} [Inhabited α] {k : Nat} {cells : α → List Value} {w w' : World} {r : Option Nat} {a : Option Addr} {len cap : Nat} {xs : List α} (h : IsRow k cells w a len cap xs) (hg : w.grownBy w' r) (hn : ∀ b off, a = some ⟨b, off, none⟩ → some b ≠ r) : IsRow k cells w' a len cap xs := by
  obtain ⟨h1, h2, h3, h4, h5⟩ := h
  refine ⟨h1, h2, h3, h4, fun hp => ?_⟩
  obtain ⟨b, off, e, hl, hc⟩ := h5 hp
  refine ⟨b, off, e, Nat.lt_of_lt_of_le hl hg.size, fun i hi j hj => ?_⟩
  rw [World.cell?_of_block (a := ⟨b, off + i * k + j, none⟩) (hg.block b hl (hn b off e))]
  exact hc i hi j hj
/-- All lists of an answer lie at B or above. -/
structure AnsV.far (v : AnsV) (B : Nat) : Prop where
  ia : ∀ b off, v.st.ia = some ⟨b, off, none⟩ → B ≤ b
  la : ∀ b off, v.st.la = some ⟨b, off, none⟩ → B ≤ b
  da : ∀ b off, v.st.da = some ⟨b, off, none⟩ → B ≤ b
  oa : ∀ b off, v.st.oa = some ⟨b, off, none⟩ → B ≤ b
  ma : ∀ b off, v.ma = some ⟨b, off, none⟩ → B ≤ b
  ra : ∀ b off, v.ra = some ⟨b, off, none⟩ → B ≤ b
  na : ∀ b off, v.na = some ⟨b, off, none⟩ → B ≤ b
theorem AnsV.far.mono {v : AnsV} {B C : Nat} (h : v.far B) (hc : C ≤ B) : v.far C :=
  ⟨fun b o e => Nat.le_trans hc (h.ia b o e), fun b o e => Nat.le_trans hc (h.la b o e), fun b o e => Nat.le_trans hc (h.da b o e), fun b o e => Nat.le_trans hc (h.oa b o e), fun b o e => Nat.le_trans hc (h.ma b o e), fun b o e => Nat.le_trans hc (h.ra b o e), fun b o e => Nat.le_trans hc (h.na b o e)⟩
theorem AnsV.far_nil (B : Nat) : AnsV.nil.far B := ⟨(fun b o e => by cases e), (fun b o e => by cases e), (fun b o e => by cases e), (fun b o e => by cases e), (fun b o e => by cases e), (fun b o e => by cases e), (fun b o e => by cases e)⟩
theorem IsAns.grown {w w' : World} {v : AnsV} {g B : Nat} (h : IsAns w v) (hg : w.grownBy w' (some g)) (hf : v.far B) (hB : g < B) : IsAns w' v := by
  have ne : ∀ b, B ≤ b → some b ≠ some g := fun b hb e => by simp at e; omega
  exact ⟨⟨row_grown h.st.items hg (fun b o e => ne b (hf.ia b o e)), row_grown h.st.locks hg (fun b o e => ne b (hf.la b o e)), row_grown h.st.doubts hg (fun b o e => ne b (hf.da b o e)), row_grown h.st.over hg (fun b o e => ne b (hf.oa b o e))⟩, row_grown h.ms hg (fun b o e => ne b (hf.ma b o e)), row_grown h.rs hg (fun b o e => ne b (hf.ra b o e)), row_grown h.ns hg (fun b o e => ne b (hf.na b o e))⟩
theorem isAns_nil (w : World) : IsAns w AnsV.nil := ⟨St.isStore_nil w, St.isRow_nil _ _ _, St.isRow_nil _ _ _, St.isRow_nil _ _ _⟩

set_option maxRecDepth 100000 in
set_option maxHeartbeats 2000000 in
theorem sameMessages_any (a b : Option Addr) (n cap cap' : Nat) (ms : List MV) (w : World) (h : IsMsgs w a n cap ms) (h' : IsMsgs w b n cap' ms) :
    Calls Try.prog 25 #[.slice a n cap, .slice b n cap'] w fun e w' => e = .returned (.bool true) ∧ Below w.heap.size w w' := by
  have hmx : n ≤ maxLen := Nat.le_trans h.2.1 h.2.2.1
  unfold maxLen at hmx
  go_enter Try.func25, Try.ntmps25
  go_wp2
  go_loopw [5] (fun i wr => ∃ k : Nat, k ≤ n ∧ i = .int .i64 k ∧ Below w.heap.size w wr) (fun i _ => n - (intOf i).toNat)
  case atStart => exact ⟨0, Nat.zero_le _, rfl, Below.refl _ _⟩
  case round =>
    obtain ⟨k, hk, rfl, hb⟩ := hrel
    by_cases hlt : k < n
    · have hlt' : (k : Int) < (n : Int) := by omega
      obtain ⟨b1, o1, rfl, _, c1⟩ := (St.IsRow.below h hb).2.2.2.2 (by omega)
      obtain ⟨b2, o2, rfl, _, c2⟩ := (St.IsRow.below h' hb).2.2.2.2 (by omega)
      have e1 := c1 k hlt
      have e2 := c2 k hlt
      obtain ⟨z, hz⟩ : ∃ z, z = ms.getD k default := ⟨_, rfl⟩
      rw [← hz] at e1 e2
      clear hz c1 c2
      obtain ⟨kind, frm, dst, site, num, label, key, value, version, ask, yes, code⟩ := z
      have x0 := e1 0 (by decide)
      have y0 := e2 0 (by decide)
      have x1 := e1 1 (by decide)
      have y1 := e2 1 (by decide)
      have x2 := e1 2 (by decide)
      have y2 := e2 2 (by decide)
      have x3 := e1 3 (by decide)
      have y3 := e2 3 (by decide)
      have x4 := e1 4 (by decide)
      have y4 := e2 4 (by decide)
      have x5 := e1 5 (by decide)
      have y5 := e2 5 (by decide)
      have x6 := e1 6 (by decide)
      have y6 := e2 6 (by decide)
      have x7 := e1 7 (by decide)
      have y7 := e2 7 (by decide)
      have x8 := e1 8 (by decide)
      have y8 := e2 8 (by decide)
      have x9 := e1 9 (by decide)
      have y9 := e2 9 (by decide)
      have x10 := e1 10 (by decide)
      have y10 := e2 10 (by decide)
      have x11 := e1 11 (by decide)
      have y11 := e2 11 (by decide)
      simp only [mcells, List.getElem?_cons_zero, List.getElem?_cons_succ, Nat.add_zero] at x0 x1 x2 x3 x4 x5 x6 x7 x8 x9 x10 x11 y0 y1 y2 y3 y4 y5 y6 y7 y8 y9 y10 y11
      clear e1 e2
      go_wp2
      go_quiet (fail)
      go_wp2
      go_roundw
      case rel => exact ⟨k + 1, by omega, by go_num, below_drewN hb nq⟩
      case measure => simp [intOf]; omega
    · go_wp2
      go_ret
      exact ⟨rfl, hb⟩

set_option maxRecDepth 100000 in
set_option maxHeartbeats 2000000 in
theorem sameNotes_any (a b : Option Addr) (n cap cap' : Nat) (ms : List NV) (w : World) (h : IsNotes w a n cap ms) (h' : IsNotes w b n cap' ms) :
    Calls Try.prog 27 #[.slice a n cap, .slice b n cap'] w fun e w' => e = .returned (.bool true) ∧ Below w.heap.size w w' := by
  have hmx : n ≤ maxLen := Nat.le_trans h.2.1 h.2.2.1
  unfold maxLen at hmx
  go_enter Try.func27, Try.ntmps27
  go_wp2
  go_loopw [5] (fun i wr => ∃ k : Nat, k ≤ n ∧ i = .int .i64 k ∧ Below w.heap.size w wr) (fun i _ => n - (intOf i).toNat)
  case atStart => exact ⟨0, Nat.zero_le _, rfl, Below.refl _ _⟩
  case round =>
    obtain ⟨k, hk, rfl, hb⟩ := hrel
    by_cases hlt : k < n
    · have hlt' : (k : Int) < (n : Int) := by omega
      obtain ⟨b1, o1, rfl, _, c1⟩ := (St.IsRow.below h hb).2.2.2.2 (by omega)
      obtain ⟨b2, o2, rfl, _, c2⟩ := (St.IsRow.below h' hb).2.2.2.2 (by omega)
      have e1 := c1 k hlt
      have e2 := c2 k hlt
      obtain ⟨z, hz⟩ : ∃ z, z = ms.getD k default := ⟨_, rfl⟩
      rw [← hz] at e1 e2
      clear hz c1 c2
      obtain ⟨site, num, yes, dmg⟩ := z
      have x0 := e1 0 (by decide)
      have y0 := e2 0 (by decide)
      have x1 := e1 1 (by decide)
      have y1 := e2 1 (by decide)
      have x2 := e1 2 (by decide)
      have y2 := e2 2 (by decide)
      have x3 := e1 3 (by decide)
      have y3 := e2 3 (by decide)
      simp only [NV.cells, List.getElem?_cons_zero, List.getElem?_cons_succ, Nat.add_zero] at x0 x1 x2 x3 y0 y1 y2 y3
      clear e1 e2
      go_wp2
      go_quiet (fail)
      go_wp2
      go_roundw
      case rel => exact ⟨k + 1, by omega, by go_num, below_drewN hb nq⟩
      case measure => simp [intOf]; omega
    · go_wp2
      go_ret
      exact ⟨rfl, hb⟩

set_option maxHeartbeats 1000000 in
theorem sameInts_nil (w : World) : Calls Try.prog 76 #[.slice none 0 0, .slice none 0 0] w fun e w' => e = .returned (.bool true) ∧ Below w.heap.size w w' := by
  go_enter Try.func76, Try.ntmps76
  go_wp2
  go_loopw [5] (fun i wr => i = .int .i64 0 ∧ Below w.heap.size w wr) (fun i _ => 0)
  case atStart => exact ⟨rfl, Below.refl _ _⟩
  case round =>
    obtain ⟨rfl, hb⟩ := hrel
    go_wp2
    go_ret
    exact ⟨rfl, hb⟩
set_option maxRecDepth 100000 in
set_option maxHeartbeats 4000000 in
theorem sameRecord_nil (kind site num key value ask : Int) (yes : Bool) (w : World) :
    Calls Try.prog 52 #[.agg #[.int .i64 kind, .int .i64 site, .int .i64 num, .int .i64 key, .int .i64 value, .int .i64 ask, .bool yes, .slice none 0 0], .agg #[.int .i64 kind, .int .i64 site, .int .i64 num, .int .i64 key, .int .i64 value, .int .i64 ask, .bool yes, .slice none 0 0]] w fun e w' => e = .returned (.bool true) ∧ Below w.heap.size w w' := by
  obtain ⟨W, hW⟩ : ∃ W : World, W = (w.alloc (.cells #[.int .i64 kind, .int .i64 site, .int .i64 num, .int .i64 key, .int .i64 value, .int .i64 ask, .bool yes, .slice none 0 0] 59)).alloc (.cells #[.int .i64 kind, .int .i64 site, .int .i64 num, .int .i64 key, .int .i64 value, .int .i64 ask, .bool yes, .slice none 0 0] 59) := ⟨_, rfl⟩
  have hB : Below w.heap.size w W := by rw [hW]; exact ((Below.refl _ _).alloc (Nat.le_refl _) _).alloc (by simp) _
  have bx1 : BoxN W w.heap.size 8 [.int .i64 kind, .int .i64 site, .int .i64 num, .int .i64 key, .int .i64 value, .int .i64 ask, .bool yes, .slice none 0 0] := by
    rw [hW]
    exact (boxn_new w #[.int .i64 kind, .int .i64 site, .int .i64 num, .int .i64 key, .int .i64 value, .int .i64 ask, .bool yes, .slice none 0 0] 59 8 rfl).below ((Below.refl _ _).alloc (Nat.le_refl _) _) (by simp)
  have bx2 : BoxN W (w.heap.size + 1) 8 [.int .i64 kind, .int .i64 site, .int .i64 num, .int .i64 key, .int .i64 value, .int .i64 ask, .bool yes, .slice none 0 0] := by
    rw [hW]
    simpa using boxn_new (w.alloc (.cells #[.int .i64 kind, .int .i64 site, .int .i64 num, .int .i64 key, .int .i64 value, .int .i64 ask, .bool yes, .slice none 0 0] 59)) #[.int .i64 kind, .int .i64 site, .int .i64 num, .int .i64 key, .int .i64 value, .int .i64 ask, .bool yes, .slice none 0 0] 59 8 rfl
  have hS := sameInts_nil W
  have a0 : W.cell? ⟨w.heap.size, 0, none⟩ = some (.int .i64 kind) := (bx1.c 0 (by omega)).1
  have b0 : W.cell? ⟨w.heap.size + 1, 0, none⟩ = some (.int .i64 kind) := (bx2.c 0 (by omega)).1
  have a1 : W.cell? ⟨w.heap.size, 1, none⟩ = some (.int .i64 site) := (bx1.c 1 (by omega)).1
  have b1 : W.cell? ⟨w.heap.size + 1, 1, none⟩ = some (.int .i64 site) := (bx2.c 1 (by omega)).1
  have a2 : W.cell? ⟨w.heap.size, 2, none⟩ = some (.int .i64 num) := (bx1.c 2 (by omega)).1
  have b2 : W.cell? ⟨w.heap.size + 1, 2, none⟩ = some (.int .i64 num) := (bx2.c 2 (by omega)).1
  have a3 : W.cell? ⟨w.heap.size, 3, none⟩ = some (.int .i64 key) := (bx1.c 3 (by omega)).1
  have b3 : W.cell? ⟨w.heap.size + 1, 3, none⟩ = some (.int .i64 key) := (bx2.c 3 (by omega)).1
  have a4 : W.cell? ⟨w.heap.size, 4, none⟩ = some (.int .i64 value) := (bx1.c 4 (by omega)).1
  have b4 : W.cell? ⟨w.heap.size + 1, 4, none⟩ = some (.int .i64 value) := (bx2.c 4 (by omega)).1
  have a5 : W.cell? ⟨w.heap.size, 5, none⟩ = some (.int .i64 ask) := (bx1.c 5 (by omega)).1
  have b5 : W.cell? ⟨w.heap.size + 1, 5, none⟩ = some (.int .i64 ask) := (bx2.c 5 (by omega)).1
  have a6 : W.cell? ⟨w.heap.size, 6, none⟩ = some (.bool yes) := (bx1.c 6 (by omega)).1
  have b6 : W.cell? ⟨w.heap.size + 1, 6, none⟩ = some (.bool yes) := (bx2.c 6 (by omega)).1
  have a7 : W.cell? ⟨w.heap.size, 7, none⟩ = some (.slice none 0 0) := (bx1.c 7 (by omega)).1
  have b7 : W.cell? ⟨w.heap.size + 1, 7, none⟩ = some (.slice none 0 0) := (bx2.c 7 (by omega)).1
  clear bx1 bx2
  go_enter Try.func52, Try.ntmps52
  go_upto_region 1 with (fail)
  rw [← hW]
  clear hW
  go_wp2_with (go_at_call 76; refine hS.mono ?_; rintro e u ⟨rfl, hbu⟩)
  go_ret
  exact ⟨rfl, hB.trans (hbu.mono hB.size)⟩

set_option maxRecDepth 100000 in
set_option maxHeartbeats 2000000 in
theorem sameRecords_any (a b : Option Addr) (n cap cap' : Nat) (ms : List RV) (w : World) (h : IsRcs w a n cap ms) (h' : IsRcs w b n cap' ms) :
    Calls Try.prog 26 #[.slice a n cap, .slice b n cap'] w fun e w' => e = .returned (.bool true) ∧ Below w.heap.size w w' := by
  have hmx : n ≤ maxLen := Nat.le_trans h.2.1 h.2.2.1
  unfold maxLen at hmx
  go_enter Try.func26, Try.ntmps26
  go_wp2
  go_loopw [5] (fun i wr => ∃ k : Nat, k ≤ n ∧ i = .int .i64 k ∧ Below w.heap.size w wr) (fun i _ => n - (intOf i).toNat)
  case atStart => exact ⟨0, Nat.zero_le _, rfl, Below.refl _ _⟩
  case round =>
    obtain ⟨k, hk, rfl, hb⟩ := hrel
    by_cases hlt : k < n
    · have hlt' : (k : Int) < (n : Int) := by omega
      obtain ⟨b1, o1, rfl, _, c1⟩ := (St.IsRow.below h hb).2.2.2.2 (by omega)
      obtain ⟨b2, o2, rfl, _, c2⟩ := (St.IsRow.below h' hb).2.2.2.2 (by omega)
      have e1 := c1 k hlt
      have e2 := c2 k hlt
      obtain ⟨z, hz⟩ : ∃ z, z = ms.getD k default := ⟨_, rfl⟩
      rw [← hz] at e1 e2
      clear hz c1 c2
      obtain ⟨kind, site, num, key, value, ask, yes⟩ := z
      have x0 := e1 0 (by decide)
      have y0 := e2 0 (by decide)
      have x1 := e1 1 (by decide)
      have y1 := e2 1 (by decide)
      have x2 := e1 2 (by decide)
      have y2 := e2 2 (by decide)
      have x3 := e1 3 (by decide)
      have y3 := e2 3 (by decide)
      have x4 := e1 4 (by decide)
      have y4 := e2 4 (by decide)
      have x5 := e1 5 (by decide)
      have y5 := e2 5 (by decide)
      have x6 := e1 6 (by decide)
      have y6 := e2 6 (by decide)
      have x7 := e1 7 (by decide)
      have y7 := e2 7 (by decide)
      simp only [RV.cells, List.getElem?_cons_zero, List.getElem?_cons_succ, Nat.add_zero] at x0 x1 x2 x3 x4 x5 x6 x7 y0 y1 y2 y3 y4 y5 y6 y7
      clear e1 e2
      have hS := fun u => sameRecord_nil kind site num key value ask yes u
      have q0 := fun d os => cell_regrown x0 d os
      have r0 := fun d os => cell_regrown y0 d os
      have q1 := fun d os => cell_regrown x1 d os
      have r1 := fun d os => cell_regrown y1 d os
      have q2 := fun d os => cell_regrown x2 d os
      have r2 := fun d os => cell_regrown y2 d os
      have q3 := fun d os => cell_regrown x3 d os
      have r3 := fun d os => cell_regrown y3 d os
      have q4 := fun d os => cell_regrown x4 d os
      have r4 := fun d os => cell_regrown y4 d os
      have q5 := fun d os => cell_regrown x5 d os
      have r5 := fun d os => cell_regrown y5 d os
      have q6 := fun d os => cell_regrown x6 d os
      have r6 := fun d os => cell_regrown y6 d os
      have q7 := fun d os => cell_regrown x7 d os
      have r7 := fun d os => cell_regrown y7 d os
      go_upto_region 6 with (fail)
      refine wp_region_quiet_below (by kernel_rfl) (by kernel_rfl) ?_
      repeat (go_big_quiet_step ((exact Calls.regrown_of (hS _))))
      refine wpQuiet_nil ?_
      intro _ hw'
      obtain ⟨⟨dq, osq⟩, hw''⟩ := hw'
      subst hw''
      go_wp2
      go_roundw
      case rel => exact ⟨k + 1, by omega, by go_num, hb.trans ((below_regrown wr dq osq).mono hb.size)⟩
      case measure => simp [intOf]; omega
    · go_wp2
      go_ret
      exact ⟨rfl, hb⟩

set_option maxRecDepth 100000 in
set_option maxHeartbeats 4000000 in
theorem sameAnswer_any (x y : AnsV) (w : World) (h : IsAns w x) (h' : IsAns w y) (hd : x.data = y.data) :
    Calls Try.prog 10 #[x.val, y.val] w fun e w' => e = .returned (.bool true) ∧ Below w.heap.size w w' := by
  have d1 : x.st.data = y.st.data := congrArg AD.st hd
  have d2 : x.ms = y.ms := congrArg AD.ms hd
  have d3 : x.rs = y.rs := congrArg AD.rs hd
  have d4 : x.ns = y.ns := congrArg AD.ns hd
  have l2 : x.ml = y.ml := by rw [← h.ms.1, ← h'.ms.1, d2]
  have l3 : x.rl = y.rl := by rw [← h.rs.1, ← h'.rs.1, d3]
  have l4 : x.nl = y.nl := by rw [← h.ns.1, ← h'.ns.1, d4]
  have hs1 := fun u (hb : Below w.heap.size w u) => St.sameStore_any x.st y.st u (h.st.below hb) (h'.st.below hb) d1
  have hs2 := fun u (hb : Below w.heap.size w u) => sameMessages_any x.ma y.ma x.ml x.mc y.mc x.ms u (St.IsRow.below h.ms hb) (by rw [d2, l2]; exact St.IsRow.below h'.ms hb)
  have hs3 := fun u (hb : Below w.heap.size w u) => sameRecords_any x.ra y.ra x.rl x.rc y.rc x.rs u (St.IsRow.below h.rs hb) (by rw [d3, l3]; exact St.IsRow.below h'.rs hb)
  have hs4 := fun u (hb : Below w.heap.size w u) => sameNotes_any x.na y.na x.nl x.nc y.nc x.ns u (St.IsRow.below h.ns hb) (by rw [d4, l4]; exact St.IsRow.below h'.ns hb)
  clear h h' hd d1 d2 d3 d4
  obtain ⟨⟨xa0, xn0, xc0, xa1, xn1, xc1, xa2, xn2, xc2, xa3, xn3, xc3, xi, xl, xd, xo⟩, xma, xml, xmc, xra, xrl, xrc, xta, xtl, xtc, xms, xrs, xns⟩ := x
  obtain ⟨⟨ya0, yn0, yc0, ya1, yn1, yc1, ya2, yn2, yc2, ya3, yn3, yc3, yi, yl, yd, yo⟩, yma, yml, ymc, yra, yrl, yrc, yta, ytl, ytc, yms, yrs, yns⟩ := y
  simp only [SV.val, AnsV.val] at hs1 hs2 hs3 hs4 l2 l3 l4 ⊢
  subst l2
  subst l3
  subst l4
  obtain ⟨W, hW⟩ : ∃ W : World, W = (w.alloc (.cells #[.slice xa0 xn0 xc0, .slice xa1 xn1 xc1, .slice xa2 xn2 xc2, .slice xa3 xn3 xc3, .slice xma xml xmc, .slice xra xrl xrc, .slice xta xtl xtc] 38)).alloc (.cells #[.slice ya0 yn0 yc0, .slice ya1 yn1 yc1, .slice ya2 yn2 yc2, .slice ya3 yn3 yc3, .slice yma xml ymc, .slice yra xrl yrc, .slice yta xtl ytc] 38) := ⟨_, rfl⟩
  have hB : Below w.heap.size w W := by rw [hW]; exact ((Below.refl _ _).alloc (Nat.le_refl _) _).alloc (by simp) _
  have z1 : w.heap.size + 1 < W.heap.size := by rw [hW]; simp
  have bx1 : BoxN W w.heap.size 7 [.slice xa0 xn0 xc0, .slice xa1 xn1 xc1, .slice xa2 xn2 xc2, .slice xa3 xn3 xc3, .slice xma xml xmc, .slice xra xrl xrc, .slice xta xtl xtc] := by
    rw [hW]
    exact (boxn_new w #[.slice xa0 xn0 xc0, .slice xa1 xn1 xc1, .slice xa2 xn2 xc2, .slice xa3 xn3 xc3, .slice xma xml xmc, .slice xra xrl xrc, .slice xta xtl xtc] 38 7 rfl).below ((Below.refl _ _).alloc (Nat.le_refl _) _) (by simp)
  have bx2 : BoxN W (w.heap.size + 1) 7 [.slice ya0 yn0 yc0, .slice ya1 yn1 yc1, .slice ya2 yn2 yc2, .slice ya3 yn3 yc3, .slice yma xml ymc, .slice yra xrl yrc, .slice yta xtl ytc] := by
    rw [hW]
    simpa using boxn_new (w.alloc (.cells #[.slice xa0 xn0 xc0, .slice xa1 xn1 xc1, .slice xa2 xn2 xc2, .slice xa3 xn3 xc3, .slice xma xml xmc, .slice xra xrl xrc, .slice xta xtl xtc] 38)) #[.slice ya0 yn0 yc0, .slice ya1 yn1 yc1, .slice ya2 yn2 yc2, .slice ya3 yn3 yc3, .slice yma xml ymc, .slice yra xrl yrc, .slice yta xtl ytc] 38 7 rfl
  have KC : Hid (∀ V : World, Below W.heap.size W V → V.cell? ⟨w.heap.size, 0, none⟩ = some (.slice xa0 xn0 xc0) ∧ V.cell? ⟨w.heap.size, 1, none⟩ = some (.slice xa1 xn1 xc1) ∧ V.cell? ⟨w.heap.size, 2, none⟩ = some (.slice xa2 xn2 xc2) ∧ V.cell? ⟨w.heap.size, 3, none⟩ = some (.slice xa3 xn3 xc3) ∧ V.cell? ⟨w.heap.size, 4, none⟩ = some (.slice xma xml xmc) ∧ V.cell? ⟨w.heap.size, 5, none⟩ = some (.slice xra xrl xrc) ∧ V.cell? ⟨w.heap.size, 6, none⟩ = some (.slice xta xtl xtc) ∧ V.cell? ⟨w.heap.size + 1, 0, none⟩ = some (.slice ya0 yn0 yc0) ∧ V.cell? ⟨w.heap.size + 1, 1, none⟩ = some (.slice ya1 yn1 yc1) ∧ V.cell? ⟨w.heap.size + 1, 2, none⟩ = some (.slice ya2 yn2 yc2) ∧ V.cell? ⟨w.heap.size + 1, 3, none⟩ = some (.slice ya3 yn3 yc3) ∧ V.cell? ⟨w.heap.size + 1, 4, none⟩ = some (.slice yma xml ymc) ∧ V.cell? ⟨w.heap.size + 1, 5, none⟩ = some (.slice yra xrl yrc) ∧ V.cell? ⟨w.heap.size + 1, 6, none⟩ = some (.slice yta xtl ytc)) := fun V hV => ⟨(hV.cell (p := ⟨w.heap.size, 0, none⟩) (by show w.heap.size < _; omega)).trans (bx1.c 0 (by decide)).1, (hV.cell (p := ⟨w.heap.size, 1, none⟩) (by show w.heap.size < _; omega)).trans (bx1.c 1 (by decide)).1, (hV.cell (p := ⟨w.heap.size, 2, none⟩) (by show w.heap.size < _; omega)).trans (bx1.c 2 (by decide)).1, (hV.cell (p := ⟨w.heap.size, 3, none⟩) (by show w.heap.size < _; omega)).trans (bx1.c 3 (by decide)).1, (hV.cell (p := ⟨w.heap.size, 4, none⟩) (by show w.heap.size < _; omega)).trans (bx1.c 4 (by decide)).1, (hV.cell (p := ⟨w.heap.size, 5, none⟩) (by show w.heap.size < _; omega)).trans (bx1.c 5 (by decide)).1, (hV.cell (p := ⟨w.heap.size, 6, none⟩) (by show w.heap.size < _; omega)).trans (bx1.c 6 (by decide)).1, (hV.cell (p := ⟨w.heap.size + 1, 0, none⟩) z1).trans (bx2.c 0 (by decide)).1, (hV.cell (p := ⟨w.heap.size + 1, 1, none⟩) z1).trans (bx2.c 1 (by decide)).1, (hV.cell (p := ⟨w.heap.size + 1, 2, none⟩) z1).trans (bx2.c 2 (by decide)).1, (hV.cell (p := ⟨w.heap.size + 1, 3, none⟩) z1).trans (bx2.c 3 (by decide)).1, (hV.cell (p := ⟨w.heap.size + 1, 4, none⟩) z1).trans (bx2.c 4 (by decide)).1, (hV.cell (p := ⟨w.heap.size + 1, 5, none⟩) z1).trans (bx2.c 5 (by decide)).1, (hV.cell (p := ⟨w.heap.size + 1, 6, none⟩) z1).trans (bx2.c 6 (by decide)).1⟩
  clear bx1 bx2
  obtain ⟨c0, c1, c2, c3, c4, c5, c6, d0, d1, d2, d3, d4, d5, d6⟩ := KC.out _ (Below.refl _ _)
  go_enter Try.func10, Try.ntmps10
  go_upto_region 1 with (fail)
  rw [← hW]
  clear hW
  go_wp2_with (first
    | (go_at_call 24; refine (hs1 _ hB).mono ?_; rintro e u1 ⟨rfl, hb1⟩; clear c0 c1 c2 c3 c4 c5 c6 d0 d1 d2 d3 d4 d5 d6; obtain ⟨c0, c1, c2, c3, c4, c5, c6, d0, d1, d2, d3, d4, d5, d6⟩ := KC.out _ hb1)
    | (go_at_call 25; refine (hs2 _ (hB.trans (hb1.mono hB.size))).mono ?_; rintro e u2 ⟨rfl, hb2'⟩; have hb2 : Below W.heap.size W u2 := hb1.trans (hb2'.mono hb1.size); clear c0 c1 c2 c3 c4 c5 c6 d0 d1 d2 d3 d4 d5 d6; obtain ⟨c0, c1, c2, c3, c4, c5, c6, d0, d1, d2, d3, d4, d5, d6⟩ := KC.out _ hb2)
    | (go_at_call 26; refine (hs3 _ (hB.trans (hb2.mono hB.size))).mono ?_; rintro e u3 ⟨rfl, hb3'⟩; have hb3 : Below W.heap.size W u3 := hb2.trans (hb3'.mono hb2.size); clear c0 c1 c2 c3 c4 c5 c6 d0 d1 d2 d3 d4 d5 d6; obtain ⟨c0, c1, c2, c3, c4, c5, c6, d0, d1, d2, d3, d4, d5, d6⟩ := KC.out _ hb3)
    | (go_at_call 27; refine (hs4 _ (hB.trans (hb3.mono hB.size))).mono ?_; rintro e u4 ⟨rfl, hb4'⟩; have hb4 : Below W.heap.size W u4 := hb3.trans (hb4'.mono hb3.size)))
  go_ret
  exact ⟨rfl, hB.trans (hb4.mono hB.size)⟩
end Go.Proofs.Ytifdjlhgcbkamaa.Pt
/- The contract of store.Age. -/
namespace Go.Proofs.Ytifdjlhgcbkamaa.St
open Go.ChangeShapes Go.WideShapes Go.ChangeAt Go.RowKit
set_option linter.unusedVariables false

set_option maxRecDepth 100000 in
set_option maxHeartbeats 8000000 in
theorem age_any_at (s : SV) (p : Int) (w : World) (h : IsStore w s) (hwf : ∀ t ∈ s.over, TxWf t) (h4 : s.ol * 16 ≤ 140737488351232) :
    Calls Try.prog 29 #[s.val, .int .i64 p] w fun e w' => ∃ (r : SV) (ta : Option Addr) (tc : Nat), e = .returned (.tuple #[r.val, .slice ta (ageTold s p).length tc, .int .i64 (ageErr s p)]) ∧ OwnStore w' w.heap.size r ∧ r.data = ageData s p ∧ IsTxns w' ta (ageTold s p).length tc (ageTold s p) ∧ Below w.heap.size w w' ∧ (∀ b off, ta = some ⟨b, off, none⟩ → w.heap.size ≤ b ∧ b < w'.heap.size) := by
  obtain ⟨i4, E4⟩ := txElem
  have hC := fun w' h1 => check_any s w' h1 hwf
  have hOwn := fun w' h1 k1 k2 k3 => own_any s w' h1 k1 k2 k3 h4
  have hPre := pre_of w s h
  have hok : storeOK s = true → (s.il ≤ 8 ∧ s.ll ≤ 24 ∧ s.dl ≤ 24) ∧ ∀ i, i < s.dl → 0 ≤ (s.doubts.getD i default).age ∧ (s.doubts.getD i default).age ≤ 1048576 := fun e => ⟨ok_sizes e h, fun i hi => ok_ages e _ (getD_mem (by rw [h.doubts.1]; exact hi))⟩
  obtain ⟨E, e6⟩ : ∃ R : Int, R = ageErr s p := ⟨_, rfl⟩
  obtain ⟨D, e7⟩ : ∃ R, R = ageData s p := ⟨_, rfl⟩
  obtain ⟨T, e8⟩ : ∃ R, R = ageTold s p := ⟨_, rfl⟩
  obtain ⟨S, e9⟩ : ∃ R, R = storeOK s := ⟨_, rfl⟩
  obtain ⟨Q, e10⟩ : ∃ R, R = inR p 1 1048576 := ⟨_, rfl⟩
  have eE : Hid (E = if S then (if Q then 0 else 2) else 9) := by rw [e9, e10]; exact e6
  have eD : Hid (D = if E = 0 then ⟨s.items, s.locks, s.doubts.map (agedD p), s.over⟩ else PS.nil) := by rw [e6]; exact e7
  have eT : Hid (T = if E = 0 then toldT p s.doubts else []) := by rw [e6]; exact e8
  rw [← e6, ← e7, ← e8]
  rw [← e9] at hC hok
  replace e10 := e10.symm
  clear e6 e7 e8 e9
  have HD : Hid (s.doubts.length = s.dl) := h.doubts.1
  obtain ⟨ia, il, ic, la, ll, lc, da, dl, dc, oa, ol, oc, items, locks, doubts, over⟩ := s
  simp only [SV.val] at *
  obtain ⟨W, hW⟩ : ∃ W : World, W = (w.alloc (.cells #[.slice ia il ic, .slice la ll lc, .slice da dl dc, .slice oa ol oc] 34)).alloc (.cells #[.slice none 0 0, .slice none 0 0, .slice none 0 0, .slice none 0 0] 34) := ⟨_, rfl⟩
  rw [← hW] at hPre
  have HP : Hid (Pre w W ⟨ia, il, ic, la, ll, lc, da, dl, dc, oa, ol, oc, items, locks, doubts, over⟩) := hPre
  obtain ⟨d0, d1, d2, d3⟩ := hPre.cells _ (Below.refl _ _)
  simp only [] at d0 d1 d2 d3
  have hSW := hPre.st
  clear hPre h
  go_enter Try.func29, Try.ntmps29
  go_upto_region 1 with (fail)
  rw [← hW]
  clear hW
  cases S with
  | false =>
    try simp only [Bool.false_eq_true, ↓reduceIte] at hC
    go_wp2_with (first | (go_at_call 55; refine (hC _ hSW).mono ?_; rintro e w1 ⟨rfl, hb1⟩; have hS1 := hSW.below hb1; clear d0 d1 d2 d3; obtain ⟨d0, d1, d2, d3⟩ := HP.out.cells _ hb1; simp only [] at d0 d1 d2 d3; obtain ⟨⟨rz, r0, r1, r2, r3⟩, g0, g1, g2, g3⟩ := HP.out.out _ hb1) | (go_at_call 56; refine (within_any _ _ _ _).mono ?_; rintro e u ⟨rfl, hu⟩; rw [hu, e10]; clear hu))
    refine bodyPost_ret (v := .tuple #[.agg #[.slice none 0 0, .slice none 0 0, .slice none 0 0, .slice none 0 0], .slice none 0 0, .int .i64 9]) (by simp [results, Try.results29, go_sem, r0, r1, r2, r3]) rfl ?_
    obtain ⟨t1, t2⟩ := HP.out.done (r := SV.nil) hb1 (isStore_nil _) (fun b off e => by simp [SV.nil] at e) (.slice none 0 0) (.slice none 0 0) (.slice none 0 0) (.slice none 0 0)
    have hE : E = 9 := by rw [eE.out]; rfl
    have hT : T = [] := by rw [eT.out, hE]; rfl
    have hD : D = PS.nil := by rw [eD.out, hE]; rfl
    rw [hE, hT, hD]
    exact ⟨SV.nil, none, 0, rfl, ownStore_nil _ _, rfl, isRow_nil _ _ _, t2, fun b off e => by cases e⟩
  | true =>
  try simp only [↓reduceIte] at hC
  obtain ⟨⟨q1, q2, q3⟩, hag⟩ := hok rfl
  try simp only [] at q1 q2 q3
  cases Q with
  | false =>
    go_wp2_with (first | (go_at_call 55; refine (hC _ hSW).mono ?_; rintro e w1 ⟨rfl, hb1⟩; have hS1 := hSW.below hb1; clear d0 d1 d2 d3; obtain ⟨d0, d1, d2, d3⟩ := HP.out.cells _ hb1; simp only [] at d0 d1 d2 d3; obtain ⟨⟨rz, r0, r1, r2, r3⟩, g0, g1, g2, g3⟩ := HP.out.out _ hb1) | (go_at_call 56; refine (within_any _ _ _ _).mono ?_; rintro e u ⟨rfl, hu⟩; rw [hu, e10]; clear hu))
    refine bodyPost_ret (v := .tuple #[.agg #[.slice none 0 0, .slice none 0 0, .slice none 0 0, .slice none 0 0], .slice none 0 0, .int .i64 2]) (by simp [results, Try.results29, go_sem, r0, r1, r2, r3]) rfl ?_
    obtain ⟨t1, t2⟩ := HP.out.done (r := SV.nil) hb1 (isStore_nil _) (fun b off e => by simp [SV.nil] at e) (.slice none 0 0) (.slice none 0 0) (.slice none 0 0) (.slice none 0 0)
    have hE : E = 2 := by rw [eE.out]; rfl
    have hT : T = [] := by rw [eT.out, hE]; rfl
    have hD : D = PS.nil := by rw [eD.out, hE]; rfl
    rw [hE, hT, hD]
    exact ⟨SV.nil, none, 0, rfl, ownStore_nil _ _, rfl, isRow_nil _ _ _, t2, fun b off e => by cases e⟩
  | true =>
    have hE : E = 0 := by rw [eE.out]; rfl
    have hT : T = toldT p doubts := by rw [eT.out, hE]; rfl
    have hD : D = ⟨items, locks, doubts.map (agedD p), over⟩ := by rw [eD.out, hE]; rfl
    have HF : Hid (E = 0 ∧ T = toldT p doubts ∧ D = ⟨items, locks, doubts.map (agedD p), over⟩) := ⟨hE, hT, hD⟩
    clear hT hD hE eE eT eD hok
    have HAG : Hid (∀ i, i < dl → 0 ≤ (doubts.getD i default).age ∧ (doubts.getD i default).age ≤ 1048576) := hag
    clear hag
    go_upto_region 7 with (first | (go_at_call 55; refine (hC _ hSW).mono ?_; rintro e w1 ⟨rfl, hb1⟩; have hS1 := hSW.below hb1; clear d0 d1 d2 d3; obtain ⟨d0, d1, d2, d3⟩ := HP.out.cells _ hb1; simp only [] at d0 d1 d2 d3; obtain ⟨⟨rz, r0, r1, r2, r3⟩, g0, g1, g2, g3⟩ := HP.out.out _ hb1) | (go_at_call 56; refine (within_any _ _ _ _).mono ?_; rintro e u ⟨rfl, hu⟩; rw [hu, e10]; clear hu) | (go_at_call 36; refine (hOwn _ hS1 (by omega) (by omega) (by omega)).mono ?_; rintro e w2 ⟨⟨a0, n0, c0, a1, n1, c1, a2, n2, c2, a3, n3, c3, items', locks', doubts', over'⟩, rfl, hsame, hown, hb2⟩; obtain ⟨v1, v2, v3, v4, v5, v6, v7, v8⟩ := hsame; simp only [] at v1 v2 v3 v4 v5 v6 v7 v8; obtain rfl := v1.symm; obtain rfl := v2.symm; obtain rfl := v3.symm; obtain rfl := v4.symm; obtain rfl := v5.symm; obtain rfl := v6.symm; obtain rfl := v7.symm; obtain rfl := v8.symm; simp only []))
    have hbW : Below W.heap.size W w2 := hb1.trans (hb2.mono hb1.size)
    obtain ⟨X, hX⟩ : ∃ X : World, X = w2.alloc (.cells #[.slice a0 il c0, .slice a1 ll c1, .slice a2 dl c2, .slice a3 ol c3] 34) := ⟨_, rfl⟩
    have hM0 : Made W X W.heap.size w2.heap.size ⟨a0, il, c0, a1, ll, c1, a2, dl, c2, a3, ol, c3, items, locks, doubts, over⟩ := by
      have hb3 : Below w2.heap.size w2 X := by rw [hX]; exact (Below.refl _ _).alloc (Nat.le_refl _) _
      refine Made.new (hown.base hb1.size) hbW hb3 (Nat.le_refl _) ?_ hbW.size
      rw [hX]
      exact boxn_new w2 #[.slice a0 il c0, .slice a1 ll c1, .slice a2 dl c2, .slice a3 ol c3] 34 4 rfl
    rw [← hX]
    clear hX hown hb2 hbW hOwn hC
    obtain ⟨m, em⟩ : ∃ m, m = w2.heap.size := ⟨_, rfl⟩
    rw [← em] at hM0 ⊢
    clear em hb1 d0 d1 d2 d3 r0 r1 r2 r3 g0 g1 g2 g3 rz hS1 hSW
    have U0 := hM0.under
    have HU : Hid (Under ⟨a0, il, c0, a1, ll, c1, a2, dl, c2, a3, ol, c3, items, locks, doubts, over⟩ m X.heap.size) := U0
    have zX := Nat.le_trans hM0.sz (Nat.le_refl _)
    clear U0
    obtain ⟨mz, x0, x1, x2, x3, f0, f1, f2, f3⟩ := hM0.cells
    simp only [] at x0 x1 x2 x3
    go_wp2
    clear x0 x1 x2 x3 f0 f1 f2 f3 mz
    go_loopw [27, 9] (fun i t wr => ∃ (k : Nat) (ta : Option Addr) (tc : Nat) (ts : List (Int × Int)), i = .int .i64 (k : Int) ∧ t = .slice ta ts.length tc ∧ k ≤ dl ∧ wr.ownsRow X.heap.size 28 2 (.slice ta ts.length tc) ts.length (flat txCells ts) ∧ Hid (ts = toldT p (doubts.take k)) ∧ ts.length ≤ k ∧ X.heap.size ≤ wr.heap.size ∧ Made W wr W.heap.size m ⟨a0, il, c0, a1, ll, c1, a2, dl, c2, a3, ol, c3, items, locks, ((doubts.take k).map (agedD p) ++ doubts.drop k), over⟩) (fun i _ _ => dl - (intOf i).toNat)
    case atStart => exact ⟨0, none, 0, [], rfl, rfl, Nat.zero_le _, World.ownsRow_nil _ _ _ _, rfl, Nat.le_refl _, Nat.le_refl _, hM0⟩
    case round =>
      obtain ⟨k, ta, tc, ts, rfl, rfl, hk, hto, hts, htk, zwr, hM⟩ := hrel
      obtain ⟨mz, x0, x1, x2, x3, f0, f1, f2, f3⟩ := hM.cells
      simp only [] at x0 x1 x2 x3
      by_cases hlt : k < dl
      · have hlt' : (k : Int) < (dl : Int) := by omega
        obtain ⟨g, off, rfl, _, _⟩ := hM.own.isStore.doubts.2.2.2.2 (by show 0 < dl; omega)
        have hkl : k < doubts.length := by rw [HD.out]; exact hlt
        have HMS : Hid (((doubts.take k).map (agedD p) ++ doubts.drop k).set k (agedD p (doubts.getD k default)) = (doubts.take (k + 1)).map (agedD p) ++ doubts.drop (k + 1)) := mid_set _ _ hkl
        have HTO : Hid (toldT p (doubts.take (k + 1)) = ts ++ (if p ≤ (doubts.getD k default).age + 1 then [(doubts.getD k default).t] else [])) := by rw [hts.out]; exact told_at p doubts hkl
        have HMG : Hid (((doubts.take k).map (agedD p) ++ doubts.drop k).getD k default = doubts.getD k default) := mid_get _ _ hkl
        have hag := HAG.out k hlt
        obtain ⟨d, ed⟩ : ∃ d, d = doubts.getD k default := ⟨_, rfl⟩
        rw [← ed] at HMS HTO HMG hag
        clear ed
        obtain ⟨⟨tsi, tnu⟩, ag⟩ := d
        simp only [] at hag HTO
        have HM1 : Hid (∀ v, Made W (wr.setCell ⟨g, k * 3 + 2, none⟩ (.int .i64 v)) W.heap.size m ⟨a0, il, c0, a1, ll, c1, some ⟨g, off, none⟩, dl, c2, a3, ol, c3, items, locks, ((doubts.take k).map (agedD p) ++ doubts.drop k).set k ⟨(tsi, tnu), v⟩, over⟩) := fun v => hM.cell_doubts (g := g) (off := off) rfl (i := k) (j := 2) hlt (by decide) (.int .i64 v) ⟨(tsi, tnu), v⟩ (by simp only []; rw [HMG.out]; rfl)
        obtain ⟨rfl, hCg, hgz, hgm, hcl, _⟩ := hM.one_doubts (g := g) (off := off) rfl hlt default
        simp only [] at hcl
        rw [HMG.out] at hcl
        have hgX : g < X.heap.size := HU.out.doubts g rfl
        have e0 := (hcl 0 (by decide)).2.2
        have e1 := (hcl 1 (by decide)).2.2
        have e2 := (hcl 2 (by decide)).2.2
        have h2' := (hcl 2 (by decide)).1
        simp only [DbV.cells, List.getElem?_cons_zero, List.getElem?_cons_succ, Nat.add_zero] at e0 e1 e2
        clear hcl
        have hwr : IntKind.i64.wrap (ag + 1) = ag + 1 := by apply wrap_in <;> omega
        by_cases hp : p ≤ ag + 1
        · have HTT : Hid (toldT p (doubts.take (k + 1)) = ts ++ [(tsi, tnu)]) := by show _ = _; rw [HTO.out, if_pos hp]
          have HMM : Hid (((doubts.take k).map (agedD p) ++ doubts.drop k).set k ⟨(tsi, tnu), 0⟩ = (doubts.take (k + 1)).map (agedD p) ++ doubts.drop (k + 1)) := by show _ = _; rw [← HMS.out]; simp [agedD, hp]
          clear HTO HMS
          obtain ⟨V, hV⟩ : ∃ V, V = wr.setCell ⟨g, k * 3 + 2, none⟩ (.int .i64 (ag + 1)) := ⟨_, rfl⟩
          have hM1 := HM1.out (ag + 1)
          rw [← hV] at hM1
          have to1 : V.ownsRow X.heap.size 28 2 (.slice ta ts.length tc) ts.length (flat txCells ts) := by rw [hV]; exact hto.kept (grown_setCell wr ⟨g, k * 3 + 2, none⟩ _) (ne_own (fun q e => (hto.lt q e).1) hgX)
          have zV : X.heap.size ≤ V.heap.size := by rw [hV]; simpa using zwr
          have HG1 : Hid ((((doubts.take k).map (agedD p) ++ doubts.drop k).set k ⟨(tsi, tnu), ag + 1⟩).getD k default = ⟨(tsi, tnu), ag + 1⟩) := set_getD _ _ _ (by simp; omega)
          have HSS : Hid ((((doubts.take k).map (agedD p) ++ doubts.drop k).set k ⟨(tsi, tnu), ag + 1⟩).set k ⟨(tsi, tnu), 0⟩ = ((doubts.take k).map (agedD p) ++ doubts.drop k).set k ⟨(tsi, tnu), 0⟩) := List.set_set ..
          go_upto_region 14 with (fail)
          rw [← hV]
          clear hV e0 e1 e2 h2' x0 x1 x2 x3 f0 f1 f2 f3 mz
          obtain ⟨_, _, _, _, hcl, _⟩ := hM1.one_doubts (g := g) (off := 0) rfl hlt default
          simp only [] at hcl
          rw [HG1.out] at hcl
          have e0 := (hcl 0 (by decide)).2.2
          have e1 := (hcl 1 (by decide)).2.2
          have e2 := (hcl 2 (by decide)).2.2
          simp only [DbV.cells, List.getElem?_cons_zero, List.getElem?_cons_succ, Nat.add_zero] at e0 e1 e2
          clear hcl
          go_upto_region 15 with (at_builtin; go_loud (refine wpList_append_row E4 (by rfl) _ _ (by rfl) X.heap.size (.slice ta ts.length tc) ts.length ts (by rfl) (own_below to1 ((Below.refl _ _).alloc (Nat.le_refl _) _)) _ 1 1 [(tsi, tnu)] (by rfl) (isOne _ _ _ _ rfl rfl) (by unfold maxLen; omega) (by omega) (by simp; omega) ?_; intro a5 c5 w5 own5 gr5 at5))
          have hM5 := (hM1.below ((Below.refl _ _).alloc (Nat.le_refl _) _)).aside (B := X.heap.size) ⟨HU.out.m, HU.out.items, HU.out.locks, HU.out.doubts, HU.out.over⟩ gr5 (fun q hq => (to1.lt q hq).1) zX
          clear e0 e1 e2
          have hM6 := hM5.cell_doubts (g := g) (off := 0) rfl (i := k) (j := 2) hlt (by decide) (.int .i64 0) ⟨(tsi, tnu), 0⟩ (by simp only []; rw [HG1.out]; rfl)
          simp only [] at hM6
          rw [HSS.out, HMM.out] at hM6
          obtain ⟨_, _, _, _, hcl, _⟩ := hM5.one_doubts (g := g) (off := 0) rfl hlt default
          simp only [] at hcl
          rw [HG1.out] at hcl
          have e2 := (hcl 2 (by decide)).2.2
          have h2' := (hcl 2 (by decide)).1
          simp only [DbV.cells, List.getElem?_cons_zero, List.getElem?_cons_succ] at e2
          clear hcl
          have z5 : X.heap.size ≤ w5.heap.size := Nat.le_trans (by simp; omega) gr5.size
          go_wp2
          go_roundw
          case rel =>
            have el : (ts ++ [(tsi, tnu)]).length = ts.length + 1 := by simp
            refine ⟨k + 1, a5, c5, ts ++ [(tsi, tnu)], by go_num, by rw [el], by omega, ?_, HTT.out.symm, by rw [el]; omega, by simpa using z5, hM6⟩
            rw [el]
            exact own5.kept (grown_setCell w5 ⟨g, k * 3 + 2, none⟩ (.int .i64 0)) (ne_own (fun q e => (own5.lt q e).1) hgX)
          case measure => simp [intOf]; omega
        · have HTT : Hid (toldT p (doubts.take (k + 1)) = ts) := by show _ = _; rw [HTO.out, if_neg hp]; simp
          have HMM : Hid (((doubts.take k).map (agedD p) ++ doubts.drop k).set k ⟨(tsi, tnu), ag + 1⟩ = (doubts.take (k + 1)).map (agedD p) ++ doubts.drop (k + 1)) := by show _ = _; rw [← HMS.out]; simp [agedD, hp]
          clear HTO HMS
          have hp' : ¬ p ≤ ag + 1 := hp
          go_wp2
          go_roundw
          case rel =>
            refine ⟨k + 1, ta, tc, ts, by go_num, rfl, by omega, ?_, HTT.out.symm, by omega, by simpa using zwr, ?_⟩
            · exact hto.kept (grown_setCell wr ⟨g, k * 3 + 2, none⟩ (.int .i64 (ag + 1))) (ne_own (fun q e => (hto.lt q e).1) hgX)
            · rw [← HMM.out]; exact HM1.out _
          case measure => simp [intOf]; omega
      · obtain rfl : dl = k := by omega
        obtain ⟨⟨rz, r0, r1, r2, r3⟩, g0, g1, g2, g3⟩ := HP.out.out _ hM.bel
        have HTW : Hid (doubts.take dl = doubts) := List.take_of_length_le (by rw [HD.out]; exact Nat.le_refl _)
        have HDW : Hid (doubts.drop dl = []) := List.drop_eq_nil_of_le (by rw [HD.out]; exact Nat.le_refl _)
        rw [HTW.out, HDW.out, List.append_nil] at hM
        rw [HTW.out] at hts
        go_wp2
        refine bodyPost_ret (v := .tuple #[.agg #[.slice a0 il c0, .slice a1 ll c1, .slice a2 dl c2, .slice a3 ol c3], .slice ta ts.length tc, .int .i64 0]) (by simp [results, Try.results29, go_sem, r0, r1, r2, r3]) rfl ?_
        obtain ⟨_, t1, t2⟩ := HP.out.made hM (.slice a0 il c0) (.slice a1 ll c1) (.slice a2 dl c2) (.slice a3 ol c3)
        obtain ⟨y1, y2, y3⟩ := HF.out
        rw [y1, y2, y3, ← hts.out]
        have z1 := HP.out.z1
        have hb : ∀ (U : World) (j : Nat) (v : Value), U.ownsRow X.heap.size 28 2 (.slice ta ts.length tc) ts.length (flat txCells ts) → (U.setCell ⟨w.heap.size + 1, j, none⟩ v).ownsRow X.heap.size 28 2 (.slice ta ts.length tc) ts.length (flat txCells ts) := fun U j v hh => ownsRow_setCell_below hh (by show w.heap.size + 1 < X.heap.size; omega) v
        have hT4 := own_isRow tx_len (hb _ 3 (.slice a3 ol c3) (hb _ 2 (.slice a2 dl c2) (hb _ 1 (.slice a1 ll c1) (hb _ 0 (.slice a0 il c0) hto)))) rfl
        have zX9 : w.heap.size ≤ X.heap.size := by omega
        exact ⟨⟨a0, il, c0, a1, ll, c1, a2, dl, c2, a3, ol, c3, items, locks, doubts.map (agedD p), over⟩, ta, tc, rfl, t1, rfl, hT4.1, t2, fun b off e => ⟨Nat.le_trans zX9 (hT4.2 b off e).1, (hT4.2 b off e).2⟩⟩
theorem age_any_own (s : SV) (p : Int) (w : World) (h : IsStore w s) (hwf : ∀ t ∈ s.over, TxWf t) (h4 : s.ol * 16 ≤ 140737488351232) :
    Calls Try.prog 29 #[s.val, .int .i64 p] w fun e w' => ∃ (r : SV) (ta : Option Addr) (tc : Nat), e = .returned (.tuple #[r.val, .slice ta (ageTold s p).length tc, .int .i64 (ageErr s p)]) ∧ OwnStore w' w.heap.size r ∧ r.data = ageData s p ∧ IsTxns w' ta (ageTold s p).length tc (ageTold s p) ∧ Below w.heap.size w w' :=
  (age_any_at s p w h hwf h4).mono fun e w' ⟨r, ta, tc, q1, q2, q3, q4, q5, q6⟩ => ⟨r, ta, tc, q1, q2, q3, q4, q5⟩
theorem age_any (s : SV) (p : Int) (w : World) (h : IsStore w s) (hwf : ∀ t ∈ s.over, TxWf t) (h4 : s.ol * 16 ≤ 140737488351232) :
    Calls Try.prog 29 #[s.val, .int .i64 p] w fun e w' => ∃ (r : SV) (ta : Option Addr) (tc : Nat), e = .returned (.tuple #[r.val, .slice ta (ageTold s p).length tc, .int .i64 (ageErr s p)]) ∧ IsStore w' r ∧ r.data = ageData s p ∧ IsTxns w' ta (ageTold s p).length tc (ageTold s p) ∧ Below w.heap.size w w' :=
  (age_any_own s p w h hwf h4).mono fun e w' ⟨r, ta, tc, q1, q2, q3⟩ => ⟨r, ta, tc, q1, q2.isStore, q3⟩
end Go.Proofs.Ytifdjlhgcbkamaa.St
/- What a tick makes of a site's label, on plain data; and a box with an answer in which messages are put one behind the other. -/
namespace Go.Proofs.Ytifdjlhgcbkamaa.Pt
open Go.ChangeShapes Go.WideShapes Go.ChangeAt Go.RowKit
open Go.Proofs.Ytifdjlhgcbkamaa.St (SV PS IsStore IsRow storeOK TxWf BoxN boxn_new ageErr ageData ageTold toldT IsTxns OwnStore flat Elem isOne grown_setCell own_below own_isRow ne_own isRow_nil)
set_option linter.unusedVariables false

def doubtsMsg (me : Int) (t : Int × Int) : MV := ⟨9, me, t.1, t.1, t.2, 0, 0, 0, 0, 0, false, 0⟩
def tickMsgs (s me : Int) (ts : List (Int × Int)) : List MV := (ts.filter fun t => inR t.1 0 (s - 1)).map (doubtsMsg me)
def tickD (s : Int) (ls : List (Int × Int)) (p l me : Int) (n : Nat) (ss : List SV) : AD :=
  if siteErr s ls p l me n ss = 0 then ⟨ageData (ss.getD l.toNat default) p, tickMsgs s me (ageTold (ss.getD l.toNat default) p), [], []⟩ else AD.nil
theorem tick_at (s me : Int) (ts : List (Int × Int)) {k : Nat} (hk : k < ts.length) : tickMsgs s me (ts.take (k + 1)) = tickMsgs s me (ts.take k) ++ (if inR (ts.getD k default).1 0 (s - 1) then [doubtsMsg me (ts.getD k default)] else []) := by
  unfold tickMsgs
  rw [St.take_at hk, List.filter_append, List.map_append]
  congr 1
  generalize ts.getD k default = t
  by_cases h : inR t.1 0 (s - 1) = true <;> simp [h]
theorem tick_len (s me : Int) (ts : List (Int × Int)) : (tickMsgs s me ts).length ≤ ts.length := by
  unfold tickMsgs
  rw [List.length_map]
  exact List.length_filter_le _ _
/-- What siteErr grants. -/
theorem site_ok {s : Int} {ls : List (Int × Int)} {p l me : Int} {n : Nat} {ss : List SV} (h : siteErr s ls p l me n ss = 0) (hn : ss.length = n) :
    cfgFault s ls p = 0 ∧ (0 ≤ l ∧ l < (n : Int)) ∧ (0 ≤ me ∧ me ≤ s - 1) ∧ n = ls.length ∧ ∀ i, i < n → storeOK (ss.getD i default) = true := by
  unfold siteErr at h
  split at h
  · rename_i h1
    split at h
    · rename_i h2
      split at h
      · rename_i h3
        split at h
        · rename_i h4
          split at h
          · rename_i h5
            have h2' := plc_true h2
            refine ⟨h1, by omega, inR_of h3, h4, fun i hi => List.all_eq_true.1 h5 _ ?_⟩
            simp [List.getD, show i < ss.length by omega]
          · simp at h
        · simp at h
      · simp at h
    · simp at h
  · rename_i h1; exact absurd h h1

theorem msInfo : (Try.prog.info? 64).map (fun i => (i.zero, i.size, i.bytes)) = some (some (.agg #[.int .i64 0, .int .i64 0, .int .i64 0, .int .i64 0, .int .i64 0, .int .i64 0, .int .i64 0, .int .i64 0, .int .i64 0, .int .i64 0, .bool false, .int .i64 0]), 12, 96) := by kernel_rfl
theorem msElem : ∃ i, Elem 12 mcells 64 35 i (.agg #[.int .i64 0, .int .i64 0, .int .i64 0, .int .i64 0, .int .i64 0, .int .i64 0, .int .i64 0, .int .i64 0, .int .i64 0, .int .i64 0, .bool false, .int .i64 0]) 96 := by
  obtain ⟨j0, hj, lj0, lj1, lj2⟩ := info_parts msInfo
  exact ⟨j0, mcells_len, by decide, mcells_one, Try.underlying35, hj, lj0, lj1, lj2, rfl⟩
/-- An answer's box at A, made since Y: four slices of a store, messages in a row of the call's own from B on, no records, no notes. -/
structure TB (Y V : World) (A B : Nat) (r : SV) (a1 : Option Addr) (c1 : Nat) (ms : List MV) : Prop where
  box : BoxN V A 7 [.slice r.ia r.il r.ic, .slice r.la r.ll r.lc, .slice r.da r.dl r.dc, .slice r.oa r.ol r.oc, .slice a1 ms.length c1, .slice none 0 0, .slice none 0 0]
  row : V.ownsRow B 64 12 (.slice a1 ms.length c1) ms.length (flat mcells ms)
  bel : Below Y.heap.size Y V
  le : Y.heap.size ≤ A ∧ A < B ∧ B ≤ V.heap.size
theorem TB.below {Y V V' : World} {A B : Nat} {r : SV} {a1 : Option Addr} {c1 : Nat} {ms : List MV} (h : TB Y V A B r a1 c1 ms) (hb : Below V.heap.size V V') : TB Y V' A B r a1 c1 ms :=
  ⟨h.box.below hb h.box.lt, own_below h.row hb, h.bel.trans (hb.mono h.bel.size), h.le.1, h.le.2.1, Nat.le_trans h.le.2.2 hb.size⟩
theorem TB.put {Y V w5 : World} {A B : Nat} {r : SV} {a1 : Option Addr} {c1 : Nat} {ms : List MV} (h : TB Y V A B r a1 c1 ms) {a5 : Option Addr} {c5 : Nat} {m : MV} (gr : V.grownBy w5 (Value.slice a1 ms.length c1).ownBlock) (own : w5.ownsRow B 64 12 (.slice a5 (ms.length + 1) c5) (ms.length + 1) (flat mcells (ms ++ [m]))) :
    (w5.cell? ⟨A, 4, none⟩ = some (.slice a1 ms.length c1) ∧ w5.frozen? ⟨A, 4, none⟩ = false ∧ A < w5.heap.size) ∧ TB Y (w5.setCell ⟨A, 4, none⟩ (.slice a5 (ms.length + 1) c5)) A B r a5 c5 (ms ++ [m]) := by
  have hA : (Value.slice a1 ms.length c1).ownBlock ≠ some A := fun e => by have := (h.row.lt A e).1; have := h.le; omega
  have b5 : BoxN w5 A 7 _ := h.box.grown gr (fun e => hA e.symm)
  have el : (ms ++ [m]).length = ms.length + 1 := by simp
  have hA5 : (Value.slice a5 (ms.length + 1) c5).ownBlock ≠ some A := fun e => by have := (own.lt A e).1; have := h.le; omega
  refine ⟨⟨(b5.c 4 (by decide)).1, (b5.c 4 (by decide)).2, b5.lt⟩, ?_, ?_, ?_, ?_⟩
  · rw [el]; exact b5.set 4 (by decide) _
  · rw [el]; exact own.kept (grown_setCell w5 ⟨A, 4, none⟩ _) (.inr hA5)
  · exact (h.bel.grown gr h.bel.size (fun q hq => by have := (h.row.lt q hq).1; have := h.le; omega)).setCell (p := ⟨A, 4, none⟩) h.le.1 _
  · have := gr.size; have := h.le; exact ⟨h.le.1, h.le.2.1, by simp; omega⟩
theorem TB.new {Y : World} {r : SV} : TB Y (Y.alloc (.cells #[.slice r.ia r.il r.ic, .slice r.la r.ll r.lc, .slice r.da r.dl r.dc, .slice r.oa r.ol r.oc, .slice none 0 0, .slice none 0 0, .slice none 0 0] 38)) Y.heap.size (Y.heap.size + 1) r none 0 [] :=
  ⟨boxn_new Y #[.slice r.ia r.il r.ic, .slice r.la r.ll r.lc, .slice r.da r.dl r.dc, .slice r.oa r.ol r.oc, .slice none 0 0, .slice none 0 0, .slice none 0 0] 38 7 rfl, World.ownsRow_nil _ _ _ _, (Below.refl _ _).alloc (Nat.le_refl _) _, Nat.le_refl _, by omega, by simp⟩
/-- What the box says when all is put. -/
theorem TB.ans {Y V : World} {A B C : Nat} {r : SV} {a1 : Option Addr} {c1 : Nat} {ms : List MV} (h : TB Y V A B r a1 c1 ms) (hs : OwnStore Y C r) (hC : C ≤ Y.heap.size) {Q : Nat} (hQ : Q < C) {V' : World} (hg : V.grownBy V' (some Q)) :
    IsAns V' ⟨r, a1, ms.length, c1, none, 0, 0, none, 0, 0, ms, [], []⟩ ∧ AnsV.far ⟨r, a1, ms.length, c1, none, 0, 0, none, 0, 0, ms, [], []⟩ C := by
  have hs' := hs.isStore.below h.bel
  have hm := (own_isRow mcells_len h.row rfl)
  have hf : AnsV.far ⟨r, a1, ms.length, c1, none, 0, 0, none, 0, 0, ms, [], []⟩ C :=
    ⟨fun b o e => (hs.items.lt b (by rw [show r.ia = _ from e]; rfl)).1, fun b o e => (hs.locks.lt b (by rw [show r.la = _ from e]; rfl)).1, fun b o e => (hs.doubts.lt b (by rw [show r.da = _ from e]; rfl)).1, fun b o e => (hs.over.lt b (by rw [show r.oa = _ from e]; rfl)).1, fun b o e => by have := hm.2 b o e; have := h.le; omega, (fun b o e => by cases e), (fun b o e => by cases e)⟩
  have hi : IsAns V ⟨r, a1, ms.length, c1, none, 0, 0, none, 0, 0, ms, [], []⟩ := ⟨hs', hm.1, isRow_nil _ _ _, isRow_nil _ _ _⟩
  exact ⟨hi.grown hg hf hQ, hf⟩

end Go.Proofs.Ytifdjlhgcbkamaa.Pt
