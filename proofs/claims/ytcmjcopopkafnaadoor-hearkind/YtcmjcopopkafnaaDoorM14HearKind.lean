/- Texts of this claim, one behind the other. -/
import Derived.Test.YtcmjcopopkafnaaDoorM12HearKind
import Derived.Test.YtcmjcopopkafnaaDoorM13HearKind
import Derived.Test.YtcmjcopopkafnaaDoorM8HearKind
import Derived.Lib.QuietBelow
import Derived.LoopTactic
import Derived.Deep.QuietTactic
import Derived.BigQuiet
import Derived.Test.YtcmjcopopkafnaaDoorM10HearKind
import Derived.Test.YtcmjcopopkafnaaDoorM7HearKind
/- Answers of part: a store, messages, records without sites, notes; and the contract of sameAnswer: at the same answers it returns true. -/
namespace Go.Proofs.YtcmjcopopkafnaaDoor.Pt
open Go.ChangeShapes Go.WideShapes Go.ChangeAt Go.RowKit
open Go.Proofs.YtcmjcopopkafnaaDoor.St (SV PS IsStore IsRow BoxN boxn_new)
set_option linter.unusedVariables false

instance : Inhabited MV := ⟨⟨0, 0, 0, 0, 0, 0, 0, 0, 0, 0, false, 0⟩⟩
def mcells (m : MV) : List Value := [.int .i64 m.kind, .int .i64 m.frm, .int .i64 m.dst, .int .i64 m.site, .int .i64 m.num, .int .i64 m.label, .int .i64 m.key, .int .i64 m.value, .int .i64 m.version, .int .i64 m.ask, .bool m.yes, .int .i64 m.code]
theorem mcells_len (m : MV) : (mcells m).length = 12 := rfl
theorem mcells_one (y : MV) : ∀ u ∈ mcells y, u.oneCell' = true := by
  intro u hu
  simp only [mcells, List.mem_cons, List.not_mem_nil, or_false] at hu
  rcases hu with rfl | rfl | rfl | rfl | rfl | rfl | rfl | rfl | rfl | rfl | rfl | rfl <;> rfl
/-- A record without sites. -/
structure RV where
  kind : Int
  site : Int
  num : Int
  key : Int
  value : Int
  ask : Int
  yes : Bool
instance : Inhabited RV := ⟨⟨0, 0, 0, 0, 0, 0, false⟩⟩
def RV.cells (r : RV) : List Value := [.int .i64 r.kind, .int .i64 r.site, .int .i64 r.num, .int .i64 r.key, .int .i64 r.value, .int .i64 r.ask, .bool r.yes, .slice none 0 0]
theorem rcells_len (m : RV) : (RV.cells m).length = 8 := rfl
theorem rcells_one (y : RV) : ∀ u ∈ y.cells, u.oneCell' = true := by
  intro u hu
  simp only [RV.cells, List.mem_cons, List.not_mem_nil, or_false] at hu
  rcases hu with rfl | rfl | rfl | rfl | rfl | rfl | rfl | rfl <;> rfl
/-- A note. -/
structure NV where
  site : Int
  num : Int
  yes : Bool
  dmg : Bool
instance : Inhabited NV := ⟨⟨0, 0, false, false⟩⟩
def NV.cells (r : NV) : List Value := [.int .i64 r.site, .int .i64 r.num, .bool r.yes, .bool r.dmg]
theorem ncells_len (m : NV) : (NV.cells m).length = 4 := rfl
theorem ncells_one (y : NV) : ∀ u ∈ y.cells, u.oneCell' = true := by
  intro u hu
  simp only [NV.cells, List.mem_cons, List.not_mem_nil, or_false] at hu
  rcases hu with rfl | rfl | rfl | rfl <;> rfl
def IsMsgs (w : World) (a : Option Addr) (n cap : Nat) (ms : List MV) : Prop := IsRow 12 mcells w a n cap ms
def IsRcs (w : World) (a : Option Addr) (n cap : Nat) (rs : List RV) : Prop := IsRow 8 RV.cells w a n cap rs
def IsNotes (w : World) (a : Option Addr) (n cap : Nat) (ns : List NV) : Prop := IsRow 4 NV.cells w a n cap ns
/-- An answer. -/
structure AnsV where
  st : SV
  ma : Option Addr
  ml : Nat
  mc : Nat
  ra : Option Addr
  rl : Nat
  rc : Nat
  na : Option Addr
  nl : Nat
  nc : Nat
  ms : List MV
  rs : List RV
  ns : List NV
def AnsV.cells (v : AnsV) : List Value := [.slice v.st.ia v.st.il v.st.ic, .slice v.st.la v.st.ll v.st.lc, .slice v.st.da v.st.dl v.st.dc, .slice v.st.oa v.st.ol v.st.oc, .slice v.ma v.ml v.mc, .slice v.ra v.rl v.rc, .slice v.na v.nl v.nc]
def AnsV.val (v : AnsV) : Value := .agg #[.slice v.st.ia v.st.il v.st.ic, .slice v.st.la v.st.ll v.st.lc, .slice v.st.da v.st.dl v.st.dc, .slice v.st.oa v.st.ol v.st.oc, .slice v.ma v.ml v.mc, .slice v.ra v.rl v.rc, .slice v.na v.nl v.nc]
/-- What an answer says. -/
structure AD where
  st : PS
  ms : List MV
  rs : List RV
  ns : List NV
def AnsV.data (v : AnsV) : AD := ⟨v.st.data, v.ms, v.rs, v.ns⟩
def AD.nil : AD := ⟨PS.nil, [], [], []⟩
def AnsV.nil : AnsV := ⟨SV.nil, none, 0, 0, none, 0, 0, none, 0, 0, [], [], []⟩
structure IsAns (w : World) (v : AnsV) : Prop where
  st : IsStore w v.st
  ms : IsMsgs w v.ma v.ml v.mc v.ms
  rs : IsRcs w v.ra v.rl v.rc v.rs
  ns : IsNotes w v.na v.nl v.nc v.ns
theorem IsAns.below {w w' : World} {v : AnsV} (h : IsAns w v) (hb : Below w.heap.size w w') : IsAns w' v := ⟨h.st.below hb, St.IsRow.below h.ms hb, St.IsRow.below h.rs hb, St.IsRow.below h.ns hb⟩
theorem row_grown {α : Type} [Inhabited α] {k : Nat} {cells : α → List Value} {w w' : World} {r : Option Nat} {a : Option Addr} {len cap : Nat} {xs : List α} (h : IsRow k cells w a len cap xs) (hg : w.grownBy w' r) (hn : ∀ b off, a = some ⟨b, off, none⟩ → some b ≠ r) : IsRow k cells w' a len cap xs := by
  obtain ⟨h1, h2, h3, h4, h5⟩ := h
  refine ⟨h1, h2, h3, h4, fun hp => ?_⟩
  obtain ⟨b, off, e, hl, hc⟩ := h5 hp
  refine ⟨b, off, e, Nat.lt_of_lt_of_le hl hg.size, fun i hi j hj => ?_⟩
  rw [World.cell?_of_block (a := ⟨b, off + i * k + j, none⟩) (hg.block b hl (hn b off e))]
  exact hc i hi j hj
/-- All lists of an answer lie at B or above. -/
structure AnsV.far (v : AnsV) (B : Nat) : Prop where
  ia : ∀ b off, v.st.ia = some ⟨b, off, none⟩ → B ≤ b
  la : ∀ b off, v.st.la = some ⟨b, off, none⟩ → B ≤ b
  da : ∀ b off, v.st.da = some ⟨b, off, none⟩ → B ≤ b
  oa : ∀ b off, v.st.oa = some ⟨b, off, none⟩ → B ≤ b
  ma : ∀ b off, v.ma = some ⟨b, off, none⟩ → B ≤ b
  ra : ∀ b off, v.ra = some ⟨b, off, none⟩ → B ≤ b
  na : ∀ b off, v.na = some ⟨b, off, none⟩ → B ≤ b
theorem AnsV.far.mono {v : AnsV} {B C : Nat} (h : v.far B) (hc : C ≤ B) : v.far C :=
  ⟨fun b o e => Nat.le_trans hc (h.ia b o e), fun b o e => Nat.le_trans hc (h.la b o e), fun b o e => Nat.le_trans hc (h.da b o e), fun b o e => Nat.le_trans hc (h.oa b o e), fun b o e => Nat.le_trans hc (h.ma b o e), fun b o e => Nat.le_trans hc (h.ra b o e), fun b o e => Nat.le_trans hc (h.na b o e)⟩
theorem AnsV.far_nil (B : Nat) : AnsV.nil.far B := ⟨(fun b o e => by cases e), (fun b o e => by cases e), (fun b o e => by cases e), (fun b o e => by cases e), (fun b o e => by cases e), (fun b o e => by cases e), (fun b o e => by cases e)⟩
theorem IsAns.grown {w w' : World} {v : AnsV} {g B : Nat} (h : IsAns w v) (hg : w.grownBy w' (some g)) (hf : v.far B) (hB : g < B) : IsAns w' v := by
  have ne : ∀ b, B ≤ b → some b ≠ some g := fun b hb e => by simp at e; omega
  exact ⟨⟨row_grown h.st.items hg (fun b o e => ne b (hf.ia b o e)), row_grown h.st.locks hg (fun b o e => ne b (hf.la b o e)), row_grown h.st.doubts hg (fun b o e => ne b (hf.da b o e)), row_grown h.st.over hg (fun b o e => ne b (hf.oa b o e))⟩, row_grown h.ms hg (fun b o e => ne b (hf.ma b o e)), row_grown h.rs hg (fun b o e => ne b (hf.ra b o e)), row_grown h.ns hg (fun b o e => ne b (hf.na b o e))⟩
theorem isAns_nil (w : World) : IsAns w AnsV.nil := ⟨St.isStore_nil w, St.isRow_nil _ _ _, St.isRow_nil _ _ _, St.isRow_nil _ _ _⟩

end Go.Proofs.YtcmjcopopkafnaaDoor.Pt
/- The contract of store.Age. -/
namespace Go.Proofs.YtcmjcopopkafnaaDoor.St
open Go.ChangeShapes Go.WideShapes Go.ChangeAt Go.RowKit
set_option linter.unusedVariables false

end Go.Proofs.YtcmjcopopkafnaaDoor.St
/- What a tick makes of a site's label, on plain data; and a box with an answer in which messages are put one behind the other. -/
namespace Go.Proofs.YtcmjcopopkafnaaDoor.Pt
open Go.ChangeShapes Go.WideShapes Go.ChangeAt Go.RowKit
open Go.Proofs.YtcmjcopopkafnaaDoor.St (SV PS IsStore IsRow storeOK TxWf BoxN boxn_new ageErr ageData ageTold toldT IsTxns OwnStore flat Elem isOne grown_setCell own_below own_isRow ne_own isRow_nil)
set_option linter.unusedVariables false

def doubtsMsg (me : Int) (t : Int × Int) : MV := ⟨9, me, t.1, t.1, t.2, 0, 0, 0, 0, 0, false, 0⟩
def tickMsgs (s me : Int) (ts : List (Int × Int)) : List MV := (ts.filter fun t => inR t.1 0 (s - 1)).map (doubtsMsg me)
def tickD (s : Int) (ls : List (Int × Int)) (p l me : Int) (n : Nat) (ss : List SV) : AD :=
  if siteErr s ls p l me n ss = 0 then ⟨ageData (ss.getD l.toNat default) p, tickMsgs s me (ageTold (ss.getD l.toNat default) p), [], []⟩ else AD.nil
theorem tick_at (s me : Int) (ts : List (Int × Int)) {k : Nat} (hk : k < ts.length) : tickMsgs s me (ts.take (k + 1)) = tickMsgs s me (ts.take k) ++ (if inR (ts.getD k default).1 0 (s - 1) then [doubtsMsg me (ts.getD k default)] else []) := by
  unfold tickMsgs
  rw [St.take_at hk, List.filter_append, List.map_append]
  congr 1
  generalize ts.getD k default = t
  by_cases h : inR t.1 0 (s - 1) = true <;> simp [h]
theorem tick_len (s me : Int) (ts : List (Int × Int)) : (tickMsgs s me ts).length ≤ ts.length := by
  unfold tickMsgs
  rw [List.length_map]
  exact List.length_filter_le _ _
/-- What siteErr grants. -/
theorem site_ok {s : Int} {ls : List (Int × Int)} {p l me : Int} {n : Nat} {ss : List SV} (h : siteErr s ls p l me n ss = 0) (hn : ss.length = n) :
    cfgFault s ls p = 0 ∧ (0 ≤ l ∧ l < (n : Int)) ∧ (0 ≤ me ∧ me ≤ s - 1) ∧ n = ls.length ∧ ∀ i, i < n → storeOK (ss.getD i default) = true := by
  unfold siteErr at h
  split at h
  · rename_i h1
    split at h
    · rename_i h2
      split at h
      · rename_i h3
        split at h
        · rename_i h4
          split at h
          · rename_i h5
            have h2' := plc_true h2
            refine ⟨h1, by omega, inR_of h3, h4, fun i hi => List.all_eq_true.1 h5 _ ?_⟩
            simp [List.getD, show i < ss.length by omega]
          · simp at h
        · simp at h
      · simp at h
    · simp at h
  · rename_i h1; exact absurd h h1

theorem msInfo : (Tryd.prog.info? 33).map (fun i => (i.zero, i.size, i.bytes)) = some (some (.agg #[.int .i64 0, .int .i64 0, .int .i64 0, .int .i64 0, .int .i64 0, .int .i64 0, .int .i64 0, .int .i64 0, .int .i64 0, .int .i64 0, .bool false, .int .i64 0]), 12, 96) := by kernel_rfl
theorem msElem : ∃ i, Elem 12 mcells 33 44 i (.agg #[.int .i64 0, .int .i64 0, .int .i64 0, .int .i64 0, .int .i64 0, .int .i64 0, .int .i64 0, .int .i64 0, .int .i64 0, .int .i64 0, .bool false, .int .i64 0]) 96 := by
  obtain ⟨j0, hj, lj0, lj1, lj2⟩ := info_parts msInfo
  exact ⟨j0, mcells_len, by decide, mcells_one, Tryd.underlying44, hj, lj0, lj1, lj2, rfl⟩
/-- An answer's box at A, made since Y: four slices of a store, messages in a row of the call's own from B on, no records, no notes. -/
structure TB (Y V : World) (A B : Nat) (r : SV) (a1 : Option Addr) (c1 : Nat) (ms : List MV) : Prop where
  box : BoxN V A 7 [.slice r.ia r.il r.ic, .slice r.la r.ll r.lc, .slice r.da r.dl r.dc, .slice r.oa r.ol r.oc, .slice a1 ms.length c1, .slice none 0 0, .slice none 0 0]
  row : V.ownsRow B 33 12 (.slice a1 ms.length c1) ms.length (flat mcells ms)
  bel : Below Y.heap.size Y V
  le : Y.heap.size ≤ A ∧ A < B ∧ B ≤ V.heap.size
theorem TB.below {Y V V' : World} {A B : Nat} {r : SV} {a1 : Option Addr} {c1 : Nat} {ms : List MV} (h : TB Y V A B r a1 c1 ms) (hb : Below V.heap.size V V') : TB Y V' A B r a1 c1 ms :=
  ⟨h.box.below hb h.box.lt, own_below h.row hb, h.bel.trans (hb.mono h.bel.size), h.le.1, h.le.2.1, Nat.le_trans h.le.2.2 hb.size⟩
theorem TB.put {Y V w5 : World} {A B : Nat} {r : SV} {a1 : Option Addr} {c1 : Nat} {ms : List MV} (h : TB Y V A B r a1 c1 ms) {a5 : Option Addr} {c5 : Nat} {m : MV} (gr : V.grownBy w5 (Value.slice a1 ms.length c1).ownBlock) (own : w5.ownsRow B 33 12 (.slice a5 (ms.length + 1) c5) (ms.length + 1) (flat mcells (ms ++ [m]))) :
    (w5.cell? ⟨A, 4, none⟩ = some (.slice a1 ms.length c1) ∧ w5.frozen? ⟨A, 4, none⟩ = false ∧ A < w5.heap.size) ∧ TB Y (w5.setCell ⟨A, 4, none⟩ (.slice a5 (ms.length + 1) c5)) A B r a5 c5 (ms ++ [m]) := by
  have hA : (Value.slice a1 ms.length c1).ownBlock ≠ some A := fun e => by have := (h.row.lt A e).1; have := h.le; omega
  have b5 : BoxN w5 A 7 _ := h.box.grown gr (fun e => hA e.symm)
  have el : (ms ++ [m]).length = ms.length + 1 := by simp
  have hA5 : (Value.slice a5 (ms.length + 1) c5).ownBlock ≠ some A := fun e => by have := (own.lt A e).1; have := h.le; omega
  refine ⟨⟨(b5.c 4 (by decide)).1, (b5.c 4 (by decide)).2, b5.lt⟩, ?_, ?_, ?_, ?_⟩
  · rw [el]; exact b5.set 4 (by decide) _
  · rw [el]; exact own.kept (grown_setCell w5 ⟨A, 4, none⟩ _) (.inr hA5)
  · exact (h.bel.grown gr h.bel.size (fun q hq => by have := (h.row.lt q hq).1; have := h.le; omega)).setCell (p := ⟨A, 4, none⟩) h.le.1 _
  · have := gr.size; have := h.le; exact ⟨h.le.1, h.le.2.1, by simp; omega⟩
theorem TB.new {Y : World} {r : SV} : TB Y (Y.alloc (.cells #[.slice r.ia r.il r.ic, .slice r.la r.ll r.lc, .slice r.da r.dl r.dc, .slice r.oa r.ol r.oc, .slice none 0 0, .slice none 0 0, .slice none 0 0] 48)) Y.heap.size (Y.heap.size + 1) r none 0 [] :=
  ⟨boxn_new Y #[.slice r.ia r.il r.ic, .slice r.la r.ll r.lc, .slice r.da r.dl r.dc, .slice r.oa r.ol r.oc, .slice none 0 0, .slice none 0 0, .slice none 0 0] 48 7 rfl, World.ownsRow_nil _ _ _ _, (Below.refl _ _).alloc (Nat.le_refl _) _, Nat.le_refl _, by omega, by simp⟩
/-- What the box says when all is put. -/
theorem TB.ans {Y V : World} {A B C : Nat} {r : SV} {a1 : Option Addr} {c1 : Nat} {ms : List MV} (h : TB Y V A B r a1 c1 ms) (hs : OwnStore Y C r) (hC : C ≤ Y.heap.size) {Q : Nat} (hQ : Q < C) {V' : World} (hg : V.grownBy V' (some Q)) :
    IsAns V' ⟨r, a1, ms.length, c1, none, 0, 0, none, 0, 0, ms, [], []⟩ ∧ AnsV.far ⟨r, a1, ms.length, c1, none, 0, 0, none, 0, 0, ms, [], []⟩ C := by
  have hs' := hs.isStore.below h.bel
  have hm := (own_isRow mcells_len h.row rfl)
  have hf : AnsV.far ⟨r, a1, ms.length, c1, none, 0, 0, none, 0, 0, ms, [], []⟩ C :=
    ⟨fun b o e => (hs.items.lt b (by rw [show r.ia = _ from e]; rfl)).1, fun b o e => (hs.locks.lt b (by rw [show r.la = _ from e]; rfl)).1, fun b o e => (hs.doubts.lt b (by rw [show r.da = _ from e]; rfl)).1, fun b o e => (hs.over.lt b (by rw [show r.oa = _ from e]; rfl)).1, fun b o e => by have := hm.2 b o e; have := h.le; omega, (fun b o e => by cases e), (fun b o e => by cases e)⟩
  have hi : IsAns V ⟨r, a1, ms.length, c1, none, 0, 0, none, 0, 0, ms, [], []⟩ := ⟨hs', hm.1, isRow_nil _ _ _, isRow_nil _ _ _⟩
  exact ⟨hi.grown hg hf hQ, hf⟩

end Go.Proofs.YtcmjcopopkafnaaDoor.Pt
