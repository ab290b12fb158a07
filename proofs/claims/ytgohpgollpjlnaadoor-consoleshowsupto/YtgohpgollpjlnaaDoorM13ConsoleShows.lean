/- Texts of this claim, one behind the other. -/
import Derived.Test.YtgohpgollpjlnaaDoorM11ConsoleShows
import Derived.Test.YtgohpgollpjlnaaDoorM12ConsoleShows
import Derived.Test.YtgohpgollpjlnaaDoorM6ConsoleShows
import Derived.Lib.QuietBelow
import Derived.LoopTactic
import Derived.Deep.QuietTactic
import Derived.BigQuiet
import Derived.Test.YtgohpgollpjlnaaDoorM9ConsoleShows
/- Answers of part: a store, messages, records without sites, notes; and the contract of sameAnswer: at the same answers it returns true. -/
namespace Go.Proofs.YtgohpgollpjlnaaDoor.Pt
open Go.ChangeShapes Go.WideShapes Go.ChangeAt Go.RowKit
open Go.Proofs.YtgohpgollpjlnaaDoor.St (SV PS IsStore IsRow BoxN boxn_new)
set_option linter.unusedVariables false

instance : Inhabited MV := ⟨⟨0, 0, 0, 0, 0, 0, 0, 0, 0, 0, false, 0⟩⟩
def mcells (m : MV) : List Value := [.int .i64 m.kind, .int .i64 m.frm, .int .i64 m.dst, .int .i64 m.site, .int .i64 m.num, .int .i64 m.label, .int .i64 m.key, .int .i64 m.value, .int .i64 m.version, .int .i64 m.ask, .bool m.yes, .int .i64 m.code]
theorem mcells_len (m : MV) : (mcells m).length = 12 := rfl
theorem mcells_one (y : MV) : ∀ u ∈ mcells y, u.oneCell' = true := by
  intro u hu
  simp only [mcells, List.mem_cons, List.not_mem_nil, or_false] at hu
  rcases hu with rfl | rfl | rfl | rfl | rfl | rfl | rfl | rfl | rfl | rfl | rfl | rfl <;> rfl
/-- A record without sites. -/
structure RV where
  kind : Int
  site : Int
  num : Int
  key : Int
  value : Int
  ask : Int
  yes : Bool
instance : Inhabited RV := ⟨⟨0, 0, 0, 0, 0, 0, false⟩⟩
def RV.cells (r : RV) : List Value := [.int .i64 r.kind, .int .i64 r.site, .int .i64 r.num, .int .i64 r.key, .int .i64 r.value, .int .i64 r.ask, .bool r.yes, .slice none 0 0]
theorem rcells_len (m : RV) : (RV.cells m).length = 8 := rfl
theorem rcells_one (y : RV) : ∀ u ∈ y.cells, u.oneCell' = true := by
  intro u hu
  simp only [RV.cells, List.mem_cons, List.not_mem_nil, or_false] at hu
  rcases hu with rfl | rfl | rfl | rfl | rfl | rfl | rfl | rfl <;> rfl
/-- A note. -/
structure NV where
  site : Int
  num : Int
  yes : Bool
  dmg : Bool
instance : Inhabited NV := ⟨⟨0, 0, false, false⟩⟩
def NV.cells (r : NV) : List Value := [.int .i64 r.site, .int .i64 r.num, .bool r.yes, .bool r.dmg]
theorem ncells_len (m : NV) : (NV.cells m).length = 4 := rfl
theorem ncells_one (y : NV) : ∀ u ∈ y.cells, u.oneCell' = true := by
  intro u hu
  simp only [NV.cells, List.mem_cons, List.not_mem_nil, or_false] at hu
  rcases hu with rfl | rfl | rfl | rfl <;> rfl
def IsMsgs (w : World) (a : Option Addr) (n cap : Nat) (ms : List MV) : Prop := IsRow 12 mcells w a n cap ms
def IsRcs (w : World) (a : Option Addr) (n cap : Nat) (rs : List RV) : Prop := IsRow 8 RV.cells w a n cap rs
def IsNotes (w : World) (a : Option Addr) (n cap : Nat) (ns : List NV) : Prop := IsRow 4 NV.cells w a n cap ns
/-- An answer. -/
structure AnsV where
  st : SV
  ma : Option Addr
  ml : Nat
  mc : Nat
  ra : Option Addr
  rl : Nat
  rc : Nat
  na : Option Addr
  nl : Nat
  nc : Nat
  ms : List MV
  rs : List RV
  ns : List NV
def AnsV.cells (v : AnsV) : List Value := [.slice v.st.ia v.st.il v.st.ic, .slice v.st.la v.st.ll v.st.lc, .slice v.st.da v.st.dl v.st.dc, .slice v.st.oa v.st.ol v.st.oc, .slice v.ma v.ml v.mc, .slice v.ra v.rl v.rc, .slice v.na v.nl v.nc]
def AnsV.val (v : AnsV) : Value := .agg #[.slice v.st.ia v.st.il v.st.ic, .slice v.st.la v.st.ll v.st.lc, .slice v.st.da v.st.dl v.st.dc, .slice v.st.oa v.st.ol v.st.oc, .slice v.ma v.ml v.mc, .slice v.ra v.rl v.rc, .slice v.na v.nl v.nc]
/-- What an answer says. -/
structure AD where
  st : PS
  ms : List MV
  rs : List RV
  ns : List NV
def AnsV.data (v : AnsV) : AD := ⟨v.st.data, v.ms, v.rs, v.ns⟩
def AD.nil : AD := ⟨PS.nil, [], [], []⟩
def AnsV.nil : AnsV := ⟨SV.nil, none, 0, 0, none, 0, 0, none, 0, 0, [], [], []⟩
structure IsAns (w : World) (v : AnsV) : Prop where
  st : IsStore w v.st
  ms : IsMsgs w v.ma v.ml v.mc v.ms
  rs : IsRcs w v.ra v.rl v.rc v.rs
  ns : IsNotes w v.na v.nl v.nc v.ns
theorem IsAns.below {w w' : World} {v : AnsV} (h : IsAns w v) (hb : Below w.heap.size w w') : IsAns w' v := ⟨h.st.below hb, St.IsRow.below h.ms hb, St.IsRow.below h.rs hb, St.IsRow.below h.ns hb⟩
theorem row_grown {α : Type} [Inhabited α] {k : Nat} {cells : α → List Value} {w w' : World} {r : Option Nat} {a : Option Addr} {len cap : Nat} {xs : List α} (h : IsRow k cells w a len cap xs) (hg : w.grownBy w' r) (hn : ∀ b off, a = some ⟨b, off, none⟩ → some b ≠ r) : IsRow k cells w' a len cap xs := by
  obtain ⟨h1, h2, h3, h4, h5⟩ := h
  refine ⟨h1, h2, h3, h4, fun hp => ?_⟩
  obtain ⟨b, off, e, hl, hc⟩ := h5 hp
  refine ⟨b, off, e, Nat.lt_of_lt_of_le hl hg.size, fun i hi j hj => ?_⟩
  rw [World.cell?_of_block (a := ⟨b, off + i * k + j, none⟩) (hg.block b hl (hn b off e))]
  exact hc i hi j hj
/-- All lists of an answer lie at B or above. -/
structure AnsV.far (v : AnsV) (B : Nat) : Prop where
  ia : ∀ b off, v.st.ia = some ⟨b, off, none⟩ → B ≤ b
  la : ∀ b off, v.st.la = some ⟨b, off, none⟩ → B ≤ b
  da : ∀ b off, v.st.da = some ⟨b, off, none⟩ → B ≤ b
  oa : ∀ b off, v.st.oa = some ⟨b, off, none⟩ → B ≤ b
  ma : ∀ b off, v.ma = some ⟨b, off, none⟩ → B ≤ b
  ra : ∀ b off, v.ra = some ⟨b, off, none⟩ → B ≤ b
  na : ∀ b off, v.na = some ⟨b, off, none⟩ → B ≤ b
theorem AnsV.far.mono {v : AnsV} {B C : Nat} (h : v.far B) (hc : C ≤ B) : v.far C :=
  ⟨fun b o e => Nat.le_trans hc (h.ia b o e), fun b o e => Nat.le_trans hc (h.la b o e), fun b o e => Nat.le_trans hc (h.da b o e), fun b o e => Nat.le_trans hc (h.oa b o e), fun b o e => Nat.le_trans hc (h.ma b o e), fun b o e => Nat.le_trans hc (h.ra b o e), fun b o e => Nat.le_trans hc (h.na b o e)⟩
theorem AnsV.far_nil (B : Nat) : AnsV.nil.far B := ⟨(fun b o e => by cases e), (fun b o e => by cases e), (fun b o e => by cases e), (fun b o e => by cases e), (fun b o e => by cases e), (fun b o e => by cases e), (fun b o e => by cases e)⟩
theorem IsAns.grown {w w' : World} {v : AnsV} {g B : Nat} (h : IsAns w v) (hg : w.grownBy w' (some g)) (hf : v.far B) (hB : g < B) : IsAns w' v := by
  have ne : ∀ b, B ≤ b → some b ≠ some g := fun b hb e => by simp at e; omega
  exact ⟨⟨row_grown h.st.items hg (fun b o e => ne b (hf.ia b o e)), row_grown h.st.locks hg (fun b o e => ne b (hf.la b o e)), row_grown h.st.doubts hg (fun b o e => ne b (hf.da b o e)), row_grown h.st.over hg (fun b o e => ne b (hf.oa b o e))⟩, row_grown h.ms hg (fun b o e => ne b (hf.ma b o e)), row_grown h.rs hg (fun b o e => ne b (hf.ra b o e)), row_grown h.ns hg (fun b o e => ne b (hf.na b o e))⟩
theorem isAns_nil (w : World) : IsAns w AnsV.nil := ⟨St.isStore_nil w, St.isRow_nil _ _ _, St.isRow_nil _ _ _, St.isRow_nil _ _ _⟩

end Go.Proofs.YtgohpgollpjlnaaDoor.Pt
/- Contracts of store.refuseTxn and refuse. -/
namespace Go.Proofs.YtgohpgollpjlnaaDoor.St
open Go.ChangeShapes Go.WideShapes Go.ChangeAt Go.RowKit
set_option linter.unusedVariables false

def refErr (s : SV) (t : Int × Int) (key : Int) : Int := if storeOK s then (if txOK t && inR key 0 7 then 0 else 2) else 9

set_option maxHeartbeats 1000000 in
theorem refuseTxn_any (s : SV) (t : Int × Int) (w : World) (h : IsStore w s) (hwf : ∀ t ∈ s.over, TxWf t) :
    Calls Tryd.prog 37 #[s.val, .agg #[.int .i64 t.1, .int .i64 t.2]] w fun e w' => e = .returned (.int .i64 (if storeOK s then (if txOK t then 0 else 2) else 9)) ∧ Below w.heap.size w w' := by
  have hC := fun w' h1 => check_any s w' h1 hwf
  have hT := fun w' => isTxn_any t w'
  obtain ⟨R, e0⟩ : ∃ R : Int, R = (if storeOK s then (if txOK t then 0 else 2) else 9) := ⟨_, rfl⟩
  obtain ⟨S, e1⟩ : ∃ R, R = storeOK s := ⟨_, rfl⟩
  obtain ⟨T, e2⟩ : ∃ R, R = txOK t := ⟨_, rfl⟩
  have eR : Hid (R = if S then (if T then 0 else 2) else 9) := by rw [e1, e2]; exact e0
  rw [← e1] at hC
  rw [← e2] at hT
  rw [← e0]
  clear e0 e1 e2
  have hh := h
  obtain ⟨ia, il, ic, la, ll, lc, da, dl, dc, oa, ol, oc, items, locks, doubts, over⟩ := s
  obtain ⟨ts, tn⟩ := t
  simp only [SV.val] at *
  obtain ⟨W, hW⟩ : ∃ W : World, W = (w.alloc (.cells #[.slice ia il ic, .slice la ll lc, .slice da dl dc, .slice oa ol oc] 55)).alloc (.cells #[.int .i64 ts, .int .i64 tn] 23) := ⟨_, rfl⟩
  have hB : Below w.heap.size w W := by rw [hW]; exact ((Below.refl _ _).alloc (Nat.le_refl _) _).alloc (by simp) _
  have zW : W.heap.size = w.heap.size + 2 := by rw [hW]; simp
  have z0 : w.heap.size < W.heap.size := by omega
  have z1 : w.heap.size + 1 < W.heap.size := by omega
  clear zW
  have c0 : W.cell? ⟨w.heap.size, 0, none⟩ = some (.slice ia il ic) := by rw [hW]; go_simp
  have c1 : W.cell? ⟨w.heap.size, 1, none⟩ = some (.slice la ll lc) := by rw [hW]; go_simp
  have c2 : W.cell? ⟨w.heap.size, 2, none⟩ = some (.slice da dl dc) := by rw [hW]; go_simp
  have c3 : W.cell? ⟨w.heap.size, 3, none⟩ = some (.slice oa ol oc) := by rw [hW]; go_simp
  have c4 : W.cell? ⟨w.heap.size + 1, 0, none⟩ = some (.int .i64 ts) := by rw [hW]; go_simp
  have c5 : W.cell? ⟨w.heap.size + 1, 1, none⟩ = some (.int .i64 tn) := by rw [hW]; go_simp
  have KA : Hid (∀ U : World, Below W.heap.size W U → U.cell? ⟨w.heap.size, 0, none⟩ = some (.slice ia il ic) ∧ U.cell? ⟨w.heap.size, 1, none⟩ = some (.slice la ll lc) ∧ U.cell? ⟨w.heap.size, 2, none⟩ = some (.slice da dl dc) ∧ U.cell? ⟨w.heap.size, 3, none⟩ = some (.slice oa ol oc) ∧ U.cell? ⟨w.heap.size + 1, 0, none⟩ = some (.int .i64 ts) ∧ U.cell? ⟨w.heap.size + 1, 1, none⟩ = some (.int .i64 tn)) := fun U hU =>
    ⟨(hU.cell (p := ⟨w.heap.size, 0, none⟩) z0).trans c0, (hU.cell (p := ⟨w.heap.size, 1, none⟩) z0).trans c1, (hU.cell (p := ⟨w.heap.size, 2, none⟩) z0).trans c2, (hU.cell (p := ⟨w.heap.size, 3, none⟩) z0).trans c3, (hU.cell (p := ⟨w.heap.size + 1, 0, none⟩) z1).trans c4, (hU.cell (p := ⟨w.heap.size + 1, 1, none⟩) z1).trans c5⟩
  have hSW := hh.below hB
  go_enter Tryd.func37, Tryd.ntmps37
  go_upto_region 1 with (fail)
  rw [← hW]
  clear hW
  cases S <;> cases T
  all_goals
    simp only [if_true, Bool.false_eq_true, if_false] at hC
    go_wp2_with (first
      | (go_at_call 44; refine (hC _ hSW).mono ?_; rintro e w1 ⟨rfl, hb1⟩; have hw1 := hB.trans (hb1.mono hB.size); obtain ⟨x0, x1, x2, x3, x4, x5⟩ := KA.out _ hb1)
      | (go_at_call 73; refine (hT _).mono ?_; rintro e w2 ⟨rfl, hb2⟩; have hw2 := hw1.trans (hb2.mono hw1.size)))
    go_ret
    exact ⟨by rw [eR.out]; rfl, by first | exact hw2 | exact hw1⟩

set_option maxHeartbeats 1000000 in
theorem refuse_any (s : SV) (t : Int × Int) (key : Int) (w : World) (h : IsStore w s) (hwf : ∀ t ∈ s.over, TxWf t) :
    Calls Tryd.prog 57 #[s.val, .agg #[.int .i64 t.1, .int .i64 t.2], .int .i64 key] w fun e w' => e = .returned (.int .i64 (refErr s t key)) ∧ Below w.heap.size w w' := by
  have hC := fun w' h1 => refuseTxn_any s t w' h1 hwf
  obtain ⟨R, e0⟩ : ∃ R : Int, R = refErr s t key := ⟨_, rfl⟩
  obtain ⟨S, e1⟩ : ∃ R, R = storeOK s := ⟨_, rfl⟩
  obtain ⟨T, e2⟩ : ∃ R, R = txOK t := ⟨_, rfl⟩
  obtain ⟨K, e3⟩ : ∃ R, R = inR key 0 7 := ⟨_, rfl⟩
  have eR : Hid (R = if S then (if T && K then 0 else 2) else 9) := by rw [e1, e2, e3]; exact e0
  rw [← e1, ← e2] at hC
  rw [← e0]
  replace e3 := e3.symm
  clear e0 e1 e2
  have hh := h
  obtain ⟨ia, il, ic, la, ll, lc, da, dl, dc, oa, ol, oc, items, locks, doubts, over⟩ := s
  obtain ⟨ts, tn⟩ := t
  simp only [SV.val] at *
  obtain ⟨W, hW⟩ : ∃ W : World, W = (w.alloc (.cells #[.slice ia il ic, .slice la ll lc, .slice da dl dc, .slice oa ol oc] 55)).alloc (.cells #[.int .i64 ts, .int .i64 tn] 23) := ⟨_, rfl⟩
  have hB : Below w.heap.size w W := by rw [hW]; exact ((Below.refl _ _).alloc (Nat.le_refl _) _).alloc (by simp) _
  have zW : W.heap.size = w.heap.size + 2 := by rw [hW]; simp
  have z0 : w.heap.size < W.heap.size := by omega
  have z1 : w.heap.size + 1 < W.heap.size := by omega
  clear zW
  have c0 : W.cell? ⟨w.heap.size, 0, none⟩ = some (.slice ia il ic) := by rw [hW]; go_simp
  have c1 : W.cell? ⟨w.heap.size, 1, none⟩ = some (.slice la ll lc) := by rw [hW]; go_simp
  have c2 : W.cell? ⟨w.heap.size, 2, none⟩ = some (.slice da dl dc) := by rw [hW]; go_simp
  have c3 : W.cell? ⟨w.heap.size, 3, none⟩ = some (.slice oa ol oc) := by rw [hW]; go_simp
  have c4 : W.cell? ⟨w.heap.size + 1, 0, none⟩ = some (.int .i64 ts) := by rw [hW]; go_simp
  have c5 : W.cell? ⟨w.heap.size + 1, 1, none⟩ = some (.int .i64 tn) := by rw [hW]; go_simp
  have KA : Hid (∀ U : World, Below W.heap.size W U → U.cell? ⟨w.heap.size, 0, none⟩ = some (.slice ia il ic) ∧ U.cell? ⟨w.heap.size, 1, none⟩ = some (.slice la ll lc) ∧ U.cell? ⟨w.heap.size, 2, none⟩ = some (.slice da dl dc) ∧ U.cell? ⟨w.heap.size, 3, none⟩ = some (.slice oa ol oc) ∧ U.cell? ⟨w.heap.size + 1, 0, none⟩ = some (.int .i64 ts) ∧ U.cell? ⟨w.heap.size + 1, 1, none⟩ = some (.int .i64 tn)) := fun U hU =>
    ⟨(hU.cell (p := ⟨w.heap.size, 0, none⟩) z0).trans c0, (hU.cell (p := ⟨w.heap.size, 1, none⟩) z0).trans c1, (hU.cell (p := ⟨w.heap.size, 2, none⟩) z0).trans c2, (hU.cell (p := ⟨w.heap.size, 3, none⟩) z0).trans c3, (hU.cell (p := ⟨w.heap.size + 1, 0, none⟩) z1).trans c4, (hU.cell (p := ⟨w.heap.size + 1, 1, none⟩) z1).trans c5⟩
  have hSW := hh.below hB
  go_enter Tryd.func57, Tryd.ntmps57
  go_upto_region 1 with (fail)
  rw [← hW]
  clear hW
  cases S <;> cases T <;> cases K
  all_goals
    simp only [if_true, Bool.false_eq_true, if_false] at hC
    go_wp2_with (first
      | (go_at_call 37; refine (hC _ hSW).mono ?_; rintro e w1 ⟨rfl, hb1⟩; have hw1 := hB.trans (hb1.mono hB.size))
      | (go_at_call 91; refine (key_any _ _).mono ?_; rintro e u ⟨rfl, hu⟩; rw [hu, e3]; clear hu))
    go_ret
    exact ⟨by rw [eR.out]; rfl, hw1⟩
end Go.Proofs.YtgohpgollpjlnaaDoor.St
