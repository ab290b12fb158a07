/- Texts of this claim, one behind the other. -/
import Derived.Test.YtekglahigjblkaaGreatDoorM23RecoverRebuilds
/- recover.storeOf on plain data, and what is held while the records are gone through. -/
namespace Go.Proofs.YtekglahigjblkaaGreatDoor.St
open Go.ChangeShapes Go.WideShapes Go.ChangeAt Go.RowKit Go.Maps
set_option linter.unusedVariables false

/-- What a record does with a store; its Over is kept beside. -/
def stStep (p : PS) (r : RcP) : PS :=
  if r.tx ∈ p.over then p
  else if r.kind = 1 then { ({ p with over := [] } : PS).wr r with over := p.over }
  else if r.kind = 2 ∨ r.kind = 6 then { ({ p with over := [] } : PS).en r with over := p.over ++ [r.tx] }
  else p
def recStore (rs : List RcP) : PS := rs.foldl stStep PS.nil
theorem recStore_snoc (rs : List RcP) (r : RcP) : recStore (rs ++ [r]) = stStep (recStore rs) r := by
  unfold recStore
  rw [List.foldl_append]
  rfl
/-- A record in memory. -/
structure RcM where
  p : RcP
  sa : Option Addr
  sl : Nat
  sc : Nat
instance : Inhabited RcP := ⟨⟨0, 0, 0, 0, 0, 0, false, []⟩⟩
instance : Inhabited RcM := ⟨⟨default, none, 0, 0⟩⟩
def RcM.cells (r : RcM) : List Value := [.int .i64 r.p.kind, .int .i64 r.p.site, .int .i64 r.p.num, .int .i64 r.p.key, .int .i64 r.p.value, .int .i64 r.p.ask, .bool r.p.yes, .slice r.sa r.sl r.sc]
theorem ownsMap_aside {H : Type} {w : World} {k : TypeId} {R : Value → Option (DataW H × List MemPlace)} {b n d j : Nat} {D : DataW H} {v : Value} (h : w.ownsMap Tryz.prog k R b n D) (hne : b ≠ d) : (w.setCell ⟨d, j, none⟩ v).ownsMap Tryz.prog k R b n D := by
  obtain ⟨es, clock, h1, h2⟩ := h
  exact ⟨es, clock, (Below.heap_setCell w ⟨d, j, none⟩ v b hne).trans h1, h2⟩
theorem ownsMap_grown {H : Type} {w w' : World} {k : TypeId} {R : Value → Option (DataW H × List MemPlace)} {b n : Nat} {D : DataW H} {row : Option Nat} (h : w.ownsMap Tryz.prog k R b n D) (hg : w.grownBy w' row) (hne : row ≠ some b) : w'.ownsMap Tryz.prog k R b n D := by
  obtain ⟨es, clock, h1, h2⟩ := h
  have hb : b < w.heap.size := (Array.getElem?_eq_some_iff.1 h1).1
  exact ⟨es, clock, (hg.block b hb (fun e => hne e.symm)).trans h1, h2⟩
/-- The store so far in the box at d, who is over beside it, the map at m; all of the call's own. -/
structure StIn (B d m : Nat) (W wr : World) (p : PS) (s : SV) (oa : Option Addr) (oc : Nat) (D : DataW Unit) : Prop where
  box : BoxN wr d 4 [.slice s.ia s.il s.ic, .slice s.la s.ll s.lc, .slice s.da s.dl s.dc, .slice s.oa s.ol s.oc]
  own : OwnStore wr B s
  data : s.data = { p with over := [] }
  over : wr.ownsRow B 51 2 (.slice oa p.over.length oc) p.over.length (flat txCells p.over)
  api : Apart (.slice oa p.over.length oc) (.slice s.ia s.il s.ic)
  apl : Apart (.slice oa p.over.length oc) (.slice s.la s.ll s.lc)
  apd : Apart (.slice oa p.over.length oc) (.slice s.da s.dl s.dc)
  apo : Apart (.slice oa p.over.length oc) (.slice s.oa s.ol s.oc)
  map : wr.ownsMap Tryz.prog 51 (plainElem Tryz.prog 3) m p.over.length D
  keeps : Keeps D p.over
  wf : ∀ t ∈ p.over, TxWf t
  bel : Below d W wr
  lt : d < m ∧ m < B ∧ B ≤ wr.heap.size
variable {B d m : Nat} {W wr : World} {p : PS} {s : SV} {oa : Option Addr} {oc : Nat} {D : DataW Unit}
theorem StIn.below {u : World} (h : StIn B d m W wr p s oa oc D) (hb : Below wr.heap.size wr u) : StIn B d m W u p s oa oc D :=
  ⟨h.box.below hb h.box.lt, h.own.below hb, h.data, own_below h.over hb, h.api, h.apl, h.apd, h.apo, ownsMap_bel h.map hb, h.keeps, h.wf, h.bel.trans (hb.mono (Nat.le_of_lt h.box.lt)), h.lt.1, h.lt.2.1, Nat.le_trans h.lt.2.2 hb.size⟩
theorem OwnStore.grown {w w' : World} {B : Nat} {s : SV} {row : Option Nat} (h : OwnStore w B s) (hg : w.grownBy w' row) (h1 : (Value.slice s.ia s.il s.ic).ownBlock = none ∨ (Value.slice s.ia s.il s.ic).ownBlock ≠ row) (h2 : (Value.slice s.la s.ll s.lc).ownBlock = none ∨ (Value.slice s.la s.ll s.lc).ownBlock ≠ row) (h3 : (Value.slice s.da s.dl s.dc).ownBlock = none ∨ (Value.slice s.da s.dl s.dc).ownBlock ≠ row) (h4 : (Value.slice s.oa s.ol s.oc).ownBlock = none ∨ (Value.slice s.oa s.ol s.oc).ownBlock ≠ row) : OwnStore w' B s :=
  ⟨h.items.kept hg h1, h.locks.kept hg h2, h.doubts.kept hg h3, h.over.kept hg h4, h.ap_il, h.ap_id, h.ap_io, h.ap_ld, h.ap_lo, h.ap_do⟩
theorem ne_of_lt {w : World} {B m k : Nat} {te : TypeId} {v : Value} {n : Nat} {xs : List Value} (h : w.ownsRow B te k v n xs) (hm : m < B) : v.ownBlock = none ∨ v.ownBlock ≠ some m := by
  cases e : v.ownBlock with
  | none => exact Or.inl rfl
  | some q => exact Or.inr (fun e2 => by cases e2; have := (h.lt _ e).1; omega)
theorem ne_of_apart {x y : Value} (h : Apart x y) : y.ownBlock = none ∨ y.ownBlock ≠ x.ownBlock := by
  cases e : y.ownBlock with
  | none => exact Or.inl rfl
  | some q => exact Or.inr (fun e2 => h q e2.symm e)
/-- A new store is told. -/
theorem StIn.put (h : StIn B d m W wr p s oa oc D) {p' : PS} {s' : SV} {C : Nat} (hn : s' = s ∨ OwnStore wr C s') (hC : ∀ q, (Value.slice oa p.over.length oc).ownBlock = some q → q < C) (hBC : B ≤ C) (hd : s'.data = { p' with over := [] }) (ho : p'.over = p.over) :
    StIn B d m W ((((wr.setCell ⟨d, 0, none⟩ (.slice s'.ia s'.il s'.ic)).setCell ⟨d, 1, none⟩ (.slice s'.la s'.ll s'.lc)).setCell ⟨d, 2, none⟩ (.slice s'.da s'.dl s'.dc)).setCell ⟨d, 3, none⟩ (.slice s'.oa s'.ol s'.oc)) p' s' oa oc D := by
  have hdB : d < B := by have := h.lt; omega
  have hmd : m ≠ d := by have := h.lt; omega
  have hO : OwnStore wr B s' := by
    rcases hn with rfl | hn
    · exact h.own
    · exact hn.base hBC
  have key : ∀ {te : TypeId} {k : Nat} {y : Value} {n : Nat} {xs : List Value}, OwnStore wr C s' → wr.ownsRow C te k y n xs → Apart (.slice oa p.over.length oc) y := fun _ hy q e1 e2 => by
    have h8 := hC q e1
    have h9 := (hy.lt q e2).1
    omega
  have aps : Apart (.slice oa p.over.length oc) (.slice s'.ia s'.il s'.ic) ∧ Apart (.slice oa p.over.length oc) (.slice s'.la s'.ll s'.lc) ∧ Apart (.slice oa p.over.length oc) (.slice s'.da s'.dl s'.dc) ∧ Apart (.slice oa p.over.length oc) (.slice s'.oa s'.ol s'.oc) := by
    rcases hn with rfl | hn
    · exact ⟨h.api, h.apl, h.apd, h.apo⟩
    · exact ⟨key hn hn.items, key hn hn.locks, key hn hn.doubts, key hn hn.over⟩
  have hov : ∀ {u : World} {j : Nat} {v : Value}, u.ownsRow B 51 2 (.slice oa p.over.length oc) p.over.length (flat txCells p.over) → (u.setCell ⟨d, j, none⟩ v).ownsRow B 51 2 (.slice oa p.over.length oc) p.over.length (flat txCells p.over) := fun hx => ownsRow_setCell_other hx (fun e => by have h9 : B ≤ d := (hx.lt _ e).1; omega) _
  refine ⟨(((h.box.set 0 (by decide) _).set 1 (by decide) _).set 2 (by decide) _).set 3 (by decide) _, (((hO.asideS hdB 0 _).asideS hdB 1 _).asideS hdB 2 _).asideS hdB 3 _, hd, ?_, ?_, ?_, ?_, ?_, ?_, ?_, ?_, ?_, ?_⟩
  · rw [ho]; exact hov (hov (hov (hov h.over)))
  · rw [ho]; exact aps.1
  · rw [ho]; exact aps.2.1
  · rw [ho]; exact aps.2.2.1
  · rw [ho]; exact aps.2.2.2
  · rw [ho]; exact ownsMap_aside (ownsMap_aside (ownsMap_aside (ownsMap_aside h.map hmd) hmd) hmd) hmd
  · rw [ho]; exact h.keeps
  · rw [ho]; exact h.wf
  · exact (((h.bel.setCell (p := ⟨d, 0, none⟩) (Nat.le_refl _) _).setCell (p := ⟨d, 1, none⟩) (Nat.le_refl _) _).setCell (p := ⟨d, 2, none⟩) (Nat.le_refl _) _).setCell (p := ⟨d, 3, none⟩) (Nat.le_refl _) _
  · have := h.lt
    simpa using this
/-- One more is over: the map is told, and the list. -/
theorem StIn.add (h : StIn B d m W wr p s oa oc D) {t : Int × Int} {l : Lit} (ht : TxWf t) (hl : keyOf Tryz.prog 51 (.agg #[.int .i64 t.1, .int .i64 t.2]) = some l) {e : DataW Unit} {u v x : World} (hm : u.ownsMap Tryz.prog 51 (plainElem Tryz.prog 3) m (p.over.length + 1) (D.put l e)) (hg : wr.grownBy u (some m)) (hb : Below u.heap.size u v) {oa' : Option Addr} {oc' : Nat} (hx : x.ownsRow B 51 2 (.slice oa' (p.over.length + 1) oc') (p.over.length + 1) (flat txCells (p.over ++ [t]))) (hgx : v.grownBy x (Value.slice oa p.over.length oc).ownBlock) (hat : (Value.slice oa' (p.over.length + 1) oc').ownBlock = (Value.slice oa p.over.length oc).ownBlock ∨ (Value.slice oa' (p.over.length + 1) oc').ownBlock = some v.heap.size) :
    StIn B d m W x { p with over := p.over ++ [t] } s oa' oc' (D.put l e) := by
  have hlt := h.lt
  have hlen : (p.over ++ [t]).length = p.over.length + 1 := by simp
  have bwu : Below m wr u := ⟨hg.os, hg.tape, hg.output, hg.size, fun k hk => hg.block k (by omega) (fun e => by cases e; omega)⟩
  have hov : ∀ q, (Value.slice oa p.over.length oc).ownBlock = some q → B ≤ q ∧ q < wr.heap.size := fun q e => h.over.lt q e
  have hovm : (Value.slice oa p.over.length oc).ownBlock ≠ some m := fun e => by have := hov m e; omega
  have hovd : (Value.slice oa p.over.length oc).ownBlock ≠ some d := fun e => by have := hov d e; omega
  have bdu : Below d wr u := bwu.mono (by omega)
  have bdv : Below d wr v := bdu.trans (hb.mono (by have := bdu.size; have := h.box.lt; omega))
  have hs1 : OwnStore u B s := h.own.grown hg (ne_of_lt h.own.items hlt.2.1) (ne_of_lt h.own.locks hlt.2.1) (ne_of_lt h.own.doubts hlt.2.1) (ne_of_lt h.own.over hlt.2.1)
  have hs2 := hs1.below hb
  have hs3 : OwnStore x B s := hs2.grown hgx (ne_of_apart h.api) (ne_of_apart h.apl) (ne_of_apart h.apd) (ne_of_apart h.apo)
  have ap : ∀ {te : TypeId} {k : Nat} {y : Value} {n : Nat} {xs : List Value}, Apart (.slice oa p.over.length oc) y → v.ownsRow B te k y n xs → Apart (.slice oa' (p.over.length + 1) oc') y := fun hy hr q e1 e2 => by
    rcases hat with h8 | h8
    · exact hy q (h8 ▸ e1) e2
    · rw [h8] at e1
      cases e1
      have := (hr.lt _ e2).2
      omega
  have bxv : BoxN v d 4 [.slice s.ia s.il s.ic, .slice s.la s.ll s.lc, .slice s.da s.dl s.dc, .slice s.oa s.ol s.oc] := (h.box.below bwu (by omega)).below hb (by have := bwu.size; have := h.box.lt; omega)
  have bdx : Below d v x := ⟨hgx.os, hgx.tape, hgx.output, hgx.size, fun k hk => hgx.block k (by have := bxv.lt; omega) (fun e => by have := (hov k e.symm).1; omega)⟩
  have bmx : Below B v x := ⟨hgx.os, hgx.tape, hgx.output, hgx.size, fun k hk => hgx.block k (by have := hb.size; have := hg.size; omega) (fun e => by have := (hov k e.symm).1; omega)⟩
  refine ⟨bxv.below bmx (by omega), hs3, by rw [h.data], ?_, ?_, ?_, ?_, ?_, ?_, ?_, ?_, ?_, ?_⟩
  · simp only [hlen]; exact hx
  · simp only [hlen]; exact ap h.api hs2.items
  · simp only [hlen]; exact ap h.apl hs2.locks
  · simp only [hlen]; exact ap h.apd hs2.doubts
  · simp only [hlen]; exact ap h.apo hs2.over
  · simp only [hlen]; exact ownsMap_grown (ownsMap_bel hm hb) hgx hovm
  · exact h.keeps.push hl e
  · intro y hy
    rcases List.mem_append.1 hy with hy | hy
    · exact h.wf y hy
    · simp at hy; subst hy; exact ht
  · exact h.bel.trans (bdv.trans bdx)
  · exact ⟨hlt.1, hlt.2.1, by have := hg.size; have := hb.size; have := hgx.size; omega⟩
end Go.Proofs.YtekglahigjblkaaGreatDoor.St
/- recover.deskOf: those of a site's transactions of which not all knew, and which numbers are used. -/
namespace Go.Proofs.YtekglahigjblkaaGreatDoor.Co
open Go.ChangeShapes Go.WideShapes Go.ChangeAt Go.RowKit
open Go.Proofs.YtekglahigjblkaaGreatDoor.St
set_option linter.unusedVariables false

/-- What a record does with a desk. -/
def dkStep (me : Int) (p : Int × List JbV) (r : RcP) : Int × List JbV :=
  if r.site = me then (if r.kind = 3 then (p.1, tellP p.1 p.2 r) else if r.kind = 4 then (p.1, keep (isNr r.num) p.2) else if r.kind = 5 then (max p.1 (r.num + 1), p.2) else p) else p
def recDesk (me : Int) (rs : List RcP) : Int × List JbV := rs.foldl (dkStep me) (1, [])
theorem recDesk_snoc (me : Int) (rs : List RcP) (r : RcP) : recDesk me (rs ++ [r]) = dkStep me (recDesk me rs) r := by
  unfold recDesk
  rw [List.foldl_append]
  rfl
theorem tellP_len (next : Int) (js : List JbV) (r : RcP) (h : js.length ≤ 6) : (tellP next js r).length ≤ 6 := by
  unfold tellP
  split
  · exact h
  · rename_i h2
    have h3 : ¬ 6 ≤ js.length := fun h3 => h2 (by unfold tellNo; simp [h3])
    unfold insJ
    simp
    omega
theorem dkStep_len (me : Int) (p : Int × List JbV) (r : RcP) (h : p.2.length ≤ 6) : (dkStep me p r).2.length ≤ 6 := by
  unfold dkStep
  split
  · split
    · exact tellP_len _ _ _ h
    · split
      · exact Nat.le_trans (List.length_filter_le _ _) h
      · split
        · exact h
        · exact h
  · exact h
theorem recDesk_len (me : Int) (rs : List RcP) : (recDesk me rs).2.length ≤ 6 := by
  unfold recDesk
  have key : ∀ (l : List RcP) (p : Int × List JbV), p.2.length ≤ 6 → (l.foldl (dkStep me) p).2.length ≤ 6 := by
    intro l
    induction l with
    | nil => intro p h; exact h
    | cons x r ih => intro p h; exact ih _ (dkStep_len me p x h)
  exact key rs _ (by simp)
theorem keep_bare {p : JbV → Bool} (hp : ∀ j, p j.bare = p j) (js : List JbV) : (keep p js).map JbV.bare = keep p (js.map JbV.bare) := by
  unfold keep
  rw [List.filter_map]
  have : ((fun x => !p x) ∘ JbV.bare) = (fun x => !p x) := funext fun j => by simp [hp]
  rw [this]
/-- The desk so far in the box at w.heap.size + 1; its jobs of the call's own. -/
structure DeskIn (w V wr : World) (next : Int) (bv : Value) (a : Option Addr) (c : Nat) (js : List JbV) : Prop where
  box : BoxN wr (w.heap.size + 1) 2 [.int .i64 next, bv]
  mem : JobsMem wr (w.heap.size + 2) a js.length c js
  bel : Below (w.heap.size + 1) V wr
  lt : w.heap.size + 2 ≤ wr.heap.size
theorem DeskIn.below {w V wr u : World} {next : Int} {bv : Value} {a : Option Addr} {c : Nat} {js : List JbV} (h : DeskIn w V wr next bv a c js) (hb : Below wr.heap.size wr u) : DeskIn w V u next bv a c js :=
  ⟨h.box.below hb h.box.lt, h.mem.below hb, h.bel.trans (hb.mono (by have := h.lt; omega)), Nat.le_trans h.lt hb.size⟩
/-- The jobs changed, in their own block. -/
theorem DeskIn.grown {w V wr u : World} {next : Int} {bv : Value} {a a' : Option Addr} {c c' : Nat} {js js' : List JbV} (h : DeskIn w V wr next bv a c js) {n : Nat} (hg : wr.grownBy u (Value.slice a n c).ownBlock) (hm : JobsMem u (w.heap.size + 2) a' js'.length c' js') : DeskIn w V u next bv a' c' js' := by
  have ho : ∀ q, (Value.slice a n c).ownBlock = some q → w.heap.size + 2 ≤ q := fun q e => by
    have : (Value.slice a js.length c).ownBlock = some q := by rw [← e]; cases a <;> rfl
    exact (h.mem.own.lt q this).1
  have hlt := h.lt
  have hb : Below (w.heap.size + 2) wr u := ⟨hg.os, hg.tape, hg.output, hg.size, fun k hk => hg.block k (by omega) (fun e => by have := ho k e.symm; omega)⟩
  exact ⟨h.box.below hb (by omega), hm, h.bel.trans (hb.mono (by omega)), Nat.le_trans hlt hg.size⟩
theorem DeskIn.put {w V wr : World} {next : Int} {bv : Value} {a : Option Addr} {c : Nat} {js : List JbV} (h : DeskIn w V wr next bv a c js) (v : Value) : DeskIn w V (wr.setCell ⟨w.heap.size + 1, 1, none⟩ v) next v a c js :=
  ⟨h.box.set 1 (by decide) v, h.mem.aside (by omega) 1 v, h.bel.setCell (p := ⟨w.heap.size + 1, 1, none⟩) (Nat.le_refl _) v, by have := h.lt; simpa using this⟩
theorem DeskIn.step {w V wr : World} {next : Int} {bv : Value} {a : Option Addr} {c : Nat} {js : List JbV} (h : DeskIn w V wr next bv a c js) (m : Int) : DeskIn w V (wr.setCell ⟨w.heap.size + 1, 0, none⟩ (.int .i64 m)) m bv a c js :=
  ⟨h.box.set 0 (by decide) _, h.mem.aside (by omega) 0 _, h.bel.setCell (p := ⟨w.heap.size + 1, 0, none⟩) (Nat.le_refl _) _, by have := h.lt; simpa using this⟩
/-- What deskOf tells. -/
def DeskOf (w w' : World) (e : Ending) (next : Int) (P : List JbV) : Prop :=
  ∃ (a : Option Addr) (c : Nat) (js : List JbV), e = .returned (.agg #[.int .i64 next, .slice a js.length c]) ∧ JobsMem w' w.heap.size a js.length c js ∧ js.map JbV.bare = P ∧ Below w.heap.size w w'
theorem JobsMem.base {w : World} {B C : Nat} {a : Option Addr} {n c : Nat} {js : List JbV} (h : JobsMem w B a n c js) (hC : C ≤ B) : JobsMem w C a n c js :=
  ⟨own_base h.own hC, h.len, h.bare, fun j hj => ⟨own_base (h.ask j hj).1 hC, (h.ask j hj).2⟩⟩
set_option maxRecDepth 100000 in
set_option maxHeartbeats 8000000 in
theorem deskOf_any (me : Int) (ao : Option Addr) (n cp : Nat) (rs : List RcM) (w : World) (h : IsRow 8 RcM.cells w ao n cp rs) (hz : ∀ r ∈ rs, IsSt w r.sa r.sl r.sc r.p.zs ∧ r.sl ≤ 100) (hnum : ∀ r ∈ rs, 0 ≤ r.p.num ∧ r.p.num ≤ 1048577) (hn : n ≤ 1759218604441) :
    Calls Tryz.prog 11 #[.int .i64 me, .slice ao n cp] w fun e w' => DeskOf w w' e (recDesk me (rs.map RcM.p)).1 (recDesk me (rs.map RcM.p)).2 := by
  have hlen := h.1
  have HL : Hid (rs.length = n) := hlen
  have hcap : n ≤ cp := h.2.1
  have hcpm : cp ≤ maxLen := h.2.2.1
  unfold maxLen at hcpm
  have HR : Hid (∀ U, Below w.heap.size w U → IsRow 8 RcM.cells U ao n cp rs ∧ ∀ r ∈ rs, IsSt U r.sa r.sl r.sc r.p.zs ∧ r.sl ≤ 100) := fun U hU => ⟨h.below hU, fun r hr => ⟨(hz r hr).1.below hU, (hz r hr).2⟩⟩
  have HNum : Hid (∀ r ∈ rs, 0 ≤ r.p.num ∧ r.p.num ≤ 1048577) := hnum
  clear hlen h hz hnum
  obtain ⟨V, hV⟩ : ∃ V : World, V = (w.alloc (.cells #[.int .i64 0, .slice none 0 0] 34)).alloc (.cells #[.int .i64 1, .slice none 0 0] 34) := ⟨_, rfl⟩
  have bV : Below w.heap.size w V := by rw [hV]; exact ((Below.refl _ _).alloc (Nat.le_refl _) _).alloc (by simp) _
  have zV : V.heap.size = w.heap.size + 2 := by rw [hV]; simp
  have rb : BoxN V w.heap.size 2 [.int .i64 0, .slice none 0 0] := by
    rw [hV]
    have h8 := boxn_new w #[.int .i64 0, .slice none 0 0] 34 2 rfl
    exact h8.below ((Below.refl _ _).alloc (Nat.le_refl _) _) h8.lt
  have sb : BoxN V (w.heap.size + 1) 2 [.int .i64 1, .slice none 0 0] := by
    rw [hV]
    have h8 := boxn_new (w.alloc (.cells #[.int .i64 0, .slice none 0 0] 34)) #[.int .i64 1, .slice none 0 0] 34 2 rfl
    simpa using h8
  have HRb : Hid (∀ U, Below (w.heap.size + 1) V U → BoxN U w.heap.size 2 [.int .i64 0, .slice none 0 0] ∧ Below w.heap.size w U) := fun U hU => ⟨rb.below hU (by omega), bV.trans (hU.mono (by omega))⟩
  have HI0 : Hid (DeskIn w V V 1 (.slice none 0 0) none 0 []) := ⟨sb, jobsMem_nil _ _, Below.refl _ _, by omega⟩
  clear rb sb bV zV
  go_enter Tryz.func11, Tryz.ntmps11
  go_upto_region 2 with (fail)
  rw [← hV]
  clear hV
  go_upto_region 3 with (fail)
  go_loopw [7, 11, 22, 28, 38] (fun _ s11 _ _ _ wr => ∃ (k : Nat) (a : Option Addr) (c : Nat) (js : List JbV), s11 = .int .i64 (k : Int) ∧ k ≤ n ∧ Hid (DeskIn w V wr (recDesk me ((rs.map RcM.p).take k)).1 (.slice a js.length c) a c js ∧ js.map JbV.bare = (recDesk me ((rs.map RcM.p).take k)).2)) (fun _ s11 _ _ _ _ => n - (intOf s11).toNat)
  case atStart => exact ⟨0, none, 0, [], rfl, Nat.zero_le _, HI0.out, rfl⟩
  case round =>
    clear HI0
    obtain ⟨k, a, c, js, rfl, hk, hI⟩ := hrel
    obtain ⟨hrb, hww⟩ := HRb.out wr hI.out.1.bel
    obtain ⟨PN, ePN⟩ : ∃ PN, PN = (recDesk me ((rs.map RcM.p).take k)).1 := ⟨_, rfl⟩
    obtain ⟨PJ, ePJ⟩ : ∃ PJ, PJ = (recDesk me ((rs.map RcM.p).take k)).2 := ⟨_, rfl⟩
    rw [← ePN, ← ePJ] at hI
    have hPl : js.length ≤ 6 := by
      have h8 := recDesk_len me ((rs.map RcM.p).take k)
      rw [← ePJ, ← hI.out.2] at h8
      simpa using h8
    have HP : Hid (recDesk me ((rs.map RcM.p).take k) = (PN, PJ)) := by show _ = _; rw [ePN, ePJ]
    clear ePN ePJ
    obtain ⟨LN, eLN⟩ : ∃ LN, LN = js.length := ⟨_, rfl⟩
    rw [← eLN] at hI hPl
    have HLN : Hid (LN = js.length) := eLN
    clear eLN
    by_cases hlt : k < n
    · have hlt' : (k : Int) < (n : Int) := by omega
      obtain ⟨hrow, hsit⟩ := HR.out wr hww
      obtain ⟨b, off, rfl, zb, hcr⟩ := hrow.2.2.2.2 (by omega)
      have hcl := hcr k hlt
      have hkc : k < cp := by omega
      have HPn : Hid (recDesk me ((rs.map RcM.p).take (k + 1)) = dkStep me (PN, PJ) (rs.getD k default).p) := by
        show _ = _
        have h8 : (rs.map RcM.p).take (k + 1) = (rs.map RcM.p).take k ++ [(rs.getD k default).p] := by
          rw [List.take_add_one]
          simp [List.getD, show k < rs.length by rw [HL.out]; exact hlt]
        rw [h8, recDesk_snoc, HP.out]
      have hmemr : rs.getD k default ∈ rs := by simp [List.getD, show k < rs.length by rw [HL.out]; exact hlt]
      have hNm := HNum.out (rs.getD k default) hmemr
      obtain ⟨hSt, hSl⟩ := hsit (rs.getD k default) hmemr
      obtain ⟨v, ev⟩ : ∃ v, v = rs.getD k default := ⟨_, rfl⟩
      rw [← ev] at hcl HPn hNm hSt hSl
      clear ev hcr hrow hsit hmemr
      obtain ⟨⟨kind, site, num, key, value, ask, yes, zs⟩, sa, sl, sc⟩ := v
      simp only [] at hNm hSt hSl
      have a0 := hcl 0 (by decide)
      have a1 := hcl 1 (by decide)
      have a2 := hcl 2 (by decide)
      have a3 := hcl 3 (by decide)
      have a4 := hcl 4 (by decide)
      have a5 := hcl 5 (by decide)
      have a6 := hcl 6 (by decide)
      have a7 := hcl 7 (by decide)
      simp only [RcM.cells, List.getElem?_cons_zero, List.getElem?_cons_succ, Nat.add_zero] at a0 a1 a2 a3 a4 a5 a6 a7
      clear hcl
      obtain ⟨U, hU⟩ : ∃ U : World, U = wr.alloc (.cells #[.int .i64 kind, .int .i64 site, .int .i64 num, .int .i64 key, .int .i64 value, .int .i64 ask, .bool yes, .slice sa sl sc] 54) := ⟨_, rfl⟩
      have bU : Below wr.heap.size wr U := by rw [hU]; exact (Below.refl _ _).alloc (Nat.le_refl _) _
      have ub : BoxN U wr.heap.size 8 [.int .i64 kind, .int .i64 site, .int .i64 num, .int .i64 key, .int .i64 value, .int .i64 ask, .bool yes, .slice sa sl sc] := by rw [hU]; exact boxn_new wr #[.int .i64 kind, .int .i64 site, .int .i64 num, .int .i64 key, .int .i64 value, .int .i64 ask, .bool yes, .slice sa sl sc] 54 8 rfl
      have HIU : Hid (DeskIn w V U PN (.slice a LN c) a c js) := hI.out.1.below bU
      have HJ : Hid (js.map JbV.bare = PJ) := hI.out.2
      have HSt : Hid (IsSt U sa sl sc zs) := hSt.below bU
      have HK : Hid (wr.heap.size < U.heap.size ∧ w.heap.size + 2 ≤ wr.heap.size) := ⟨ub.lt, hI.out.1.lt⟩
      go_upto_region 5 with (fail)
      rw [← hU]
      clear hU a0 a1 a2 a3 a4 a5 a6 a7 hI hSt bU hrb HP zb
      have u0 : U.cell? ⟨wr.heap.size, 0, none⟩ = some (.int .i64 kind) := (ub.c 0 (by decide)).1
      have u1 : U.cell? ⟨wr.heap.size, 1, none⟩ = some (.int .i64 site) := (ub.c 1 (by decide)).1
      have u2 : U.cell? ⟨wr.heap.size, 2, none⟩ = some (.int .i64 num) := (ub.c 2 (by decide)).1
      have u3 : U.cell? ⟨wr.heap.size, 3, none⟩ = some (.int .i64 key) := (ub.c 3 (by decide)).1
      have u4 : U.cell? ⟨wr.heap.size, 4, none⟩ = some (.int .i64 value) := (ub.c 4 (by decide)).1
      have u5 : U.cell? ⟨wr.heap.size, 5, none⟩ = some (.int .i64 ask) := (ub.c 5 (by decide)).1
      have u6 : U.cell? ⟨wr.heap.size, 6, none⟩ = some (.bool yes) := (ub.c 6 (by decide)).1
      have u7 : U.cell? ⟨wr.heap.size, 7, none⟩ = some (.slice sa sl sc) := (ub.c 7 (by decide)).1
      have uz := ub.lt
      have HUb : Hid (BoxN U wr.heap.size 8 [.int .i64 kind, .int .i64 site, .int .i64 num, .int .i64 key, .int .i64 value, .int .i64 ask, .bool yes, .slice sa sl sc]) := ub
      clear ub
      have d0 : U.cell? ⟨w.heap.size + 1, 0, none⟩ = some (.int .i64 PN) := (HIU.out.box.c 0 (by decide)).1
      have d1 : U.cell? ⟨w.heap.size + 1, 1, none⟩ = some (.slice a LN c) := (HIU.out.box.c 1 (by decide)).1
      have df0 : U.frozen? ⟨w.heap.size + 1, 0, none⟩ = false := (HIU.out.box.c 0 (by decide)).2
      have df1 : U.frozen? ⟨w.heap.size + 1, 1, none⟩ = false := (HIU.out.box.c 1 (by decide)).2
      have dz := HIU.out.box.lt
      by_cases hme : site = me
      · subst hme
        by_cases hk3 : kind = 3
        · subst hk3
          have hcall := tell_rec PN (w.heap.size + 2) a LN c js ⟨3, site, num, key, value, ask, yes, zs⟩ sa sl sc U (by rw [HLN.out]; exact HIU.out.mem) HIU.out.lt hPl HSt.out hSl
          go_upto_region 9 with (go_at_call 29; refine hcall.mono ?_; rintro e Z ⟨a', c', js', rfl, hm, hbr, hgr⟩; have hZ := HIU.out.grown hgr hm; have z1 := (hZ.box.c 1 (by decide)).1; have zf1 := (hZ.box.c 1 (by decide)).2; have zz := hZ.box.lt; simp only [List.getD_cons_zero, List.getD_cons_succ] at z1; have HZ : Hid (DeskIn w V Z PN (.slice a LN c) a' c' js') := hZ; have Hbr : Hid (js'.map JbV.bare = tellP PN (js.map JbV.bare) ⟨3, site, num, key, value, ask, yes, zs⟩) := hbr; clear hZ hm hgr hbr)
          have HS : Hid (DeskIn w V (Z.setCell ⟨w.heap.size + 1, 1, none⟩ (.slice a' js'.length c')) (recDesk site ((rs.map RcM.p).take (k + 1))).1 (.slice a' (js').length c') a' c' js' ∧ (js').map JbV.bare = (recDesk site ((rs.map RcM.p).take (k + 1))).2) := by
            show _ ∧ _
            rw [HPn.out]
            have h8 : dkStep site (PN, PJ) ⟨3, site, num, key, value, ask, yes, zs⟩ = (PN, tellP PN PJ ⟨3, site, num, key, value, ask, yes, zs⟩) := by simp [dkStep]
            rw [h8, ← HJ.out]
            exact ⟨HZ.out.put _, Hbr.out⟩
          clear HIU HJ HSt HK HPn HR HNum HL HRb hww HUb hcall HZ Hbr
          go_wp2
          go_roundw
          case rel => exact ⟨k + 1, a', c', js', by go_num, by omega, HS.out⟩
          case measure => simp [intOf]; omega
        · by_cases hk4 : kind = 4
          · subst hk4
            clear hk3
            go_upto_region 10 with (fail)
            have HG : Hid (∀ g, (Value.slice a LN c).ownBlock = some g → g < U.heap.size) := fun g eg => (HIU.out.mem.own.lt g (by rw [← eg]; cases a <;> rfl)).2
            refine wp_region_inv (by kernel_rfl) [30, 31, 32, 33, 34, 35, 36, 37] (fun L T u => ∃ (b0 : Nat), U.heap.size ≤ u.heap.size ∧ (L 0 = true → T 30 = .pointer (some ⟨w.heap.size + 1, 1, none⟩)) ∧ (L 1 = true → T 31 = .slice a LN c) ∧ (L 2 = true → T 32 = .pointer (some ⟨wr.heap.size, 1, none⟩)) ∧ (L 3 = true → T 33 = .pointer (some ⟨wr.heap.size, 2, none⟩)) ∧ (L 4 = true → T 34 = .int .i64 num) ∧ (L 5 = true → T 35 = .func (.func 55) #[] #[.pointer (some ⟨b0, 0, none⟩)]) ∧ (L 5 = true → L 6 = false → (u.cell? ⟨b0, 0, none⟩ = some (.int .i64 num) ∧ U.heap.size ≤ b0 ∧ b0 < u.heap.size)) ∧ (L 6 = true → T 36 = .slice a (keep (isNr num) js).length c) ∧ (L 7 = true → T 37 = .pointer (some ⟨w.heap.size + 1, 1, none⟩)) ∧ (L 6 = false → (DeskIn w V u PN (.slice a LN c) a c js ∧ BoxN u wr.heap.size 8 [.int .i64 4, .int .i64 site, .int .i64 num, .int .i64 key, .int .i64 value, .int .i64 ask, .bool yes, .slice sa sl sc])) ∧ (L 6 = true → L 8 = false → DeskIn w V u PN (.slice a LN c) a c (keep (isNr num) js)) ∧ (L 8 = true → DeskIn w V u PN (.slice a (keep (isNr num) js).length c) a c (keep (isNr num) js))) (by decide) (by kernel_rfl) (by kernel_rfl) ?_ ?_ ?_
            · exact ⟨0, Nat.le_refl _, nofun, nofun, nofun, nofun, nofun, nofun, nofun, nofun, nofun, fun _ => ⟨HIU.out.below (Below.refl _ _).drew, HUb.out.below (Below.refl _ _).drew HUb.out.lt⟩, nofun, nofun⟩
            · refine ⟨?_, ?_, ?_, ?_, ?_, ?_, ?_, ?_, ?_, trivial⟩
              · rintro L T u hd hk hcl ⟨b0, hb, p0, p1, p2, p3, p4, p5, p5w, p6, p7, c1, c2, c3⟩ K hK
                simp only [fr, Act.put, List.setIfInBounds_toArray, List.set_cons_zero, List.set_cons_succ, updO] at hK ⊢
                simp [Region.binds] at hd
                rw [if_pos (by rfl)]
                simp only [Oper.wpv]
                go_simp
                exact hK _ _ ⟨b0, hb, fun _ => rfl, p1, p2, p3, p4, p5, p5w, p6, p7, c1, c2, c3⟩
              · rintro L T u hd hk hcl ⟨b0, hb, p0, p1, p2, p3, p4, p5, p5w, p6, p7, c1, c2, c3⟩ K hK
                simp only [fr, Act.put, List.setIfInBounds_toArray, List.set_cons_zero, List.set_cons_succ, updO] at hK ⊢
                simp [Region.binds] at hd
                have g0 := p0 (by simp [hd])
                have k6 := hcl 6 _ rfl
                simp [Region.binds] at k6
                have h6 : L 6 = false := by cases h : L 6 with | false => rfl | true => have := k6 h; simp [hk] at this
                have hC := c1 h6
                have x1 : u.cell? ⟨w.heap.size + 1, 1, none⟩ = some (.slice a LN c) := (hC.1.box.c 1 (by decide)).1
                have zx := hC.1.box.lt
                clear hC
                rw [if_pos (by rfl)]
                simp only [Oper.wpv]
                go_simp
                exact hK _ _ ⟨b0, hb, p0, fun _ => rfl, p2, p3, p4, p5, p5w, p6, p7, c1, c2, c3⟩
              · rintro L T u hd hk hcl ⟨b0, hb, p0, p1, p2, p3, p4, p5, p5w, p6, p7, c1, c2, c3⟩ K hK
                simp only [fr, Act.put, List.setIfInBounds_toArray, List.set_cons_zero, List.set_cons_succ, updO] at hK ⊢
                simp [Region.binds] at hd
                rw [if_pos (by rfl)]
                simp only [Oper.wpv]
                go_simp
                exact hK _ _ ⟨b0, hb, p0, p1, fun _ => rfl, p3, p4, p5, p5w, p6, p7, c1, c2, c3⟩
              · rintro L T u hd hk hcl ⟨b0, hb, p0, p1, p2, p3, p4, p5, p5w, p6, p7, c1, c2, c3⟩ K hK
                simp only [fr, Act.put, List.setIfInBounds_toArray, List.set_cons_zero, List.set_cons_succ, updO] at hK ⊢
                simp [Region.binds] at hd
                have g2 := p2 (by simp [hd])
                rw [if_pos (by rfl)]
                simp only [Oper.wpv]
                go_simp
                exact hK _ _ ⟨b0, hb, p0, p1, p2, fun _ => rfl, p4, p5, p5w, p6, p7, c1, c2, c3⟩
              · rintro L T u hd hk hcl ⟨b0, hb, p0, p1, p2, p3, p4, p5, p5w, p6, p7, c1, c2, c3⟩ K hK
                simp only [fr, Act.put, List.setIfInBounds_toArray, List.set_cons_zero, List.set_cons_succ, updO] at hK ⊢
                simp [Region.binds] at hd
                have g3 := p3 (by simp [hd])
                have k6 := hcl 6 _ rfl
                simp [Region.binds] at k6
                have k5 := hcl 5 _ rfl
                simp [Region.binds] at k5
                have h6 : L 6 = false := by cases h : L 6 with | false => rfl | true => have h8 := k6 h; have h9 := k5 (by simp [h8]); simp [hk] at h9
                have hC := c1 h6
                have x1 : u.cell? ⟨wr.heap.size, 2, none⟩ = some (.int .i64 num) := (hC.2.c 2 (by decide)).1
                have zx := hC.2.lt
                clear hC
                rw [if_pos (by rfl)]
                simp only [Oper.wpv]
                go_simp
                exact hK _ _ ⟨b0, hb, p0, p1, p2, p3, fun _ => rfl, p5, p5w, p6, p7, c1, c2, c3⟩
              · rintro L T u hd hk hcl ⟨b0, hb, p0, p1, p2, p3, p4, p5, p5w, p6, p7, c1, c2, c3⟩ K hK
                simp only [fr, Act.put, List.setIfInBounds_toArray, List.set_cons_zero, List.set_cons_succ, updO] at hK ⊢
                simp [Region.binds] at hd
                have g4 := p4 (by simp [hd])
                have k6 := hcl 6 _ rfl
                simp [Region.binds] at k6
                have h6 : L 6 = false := by cases h : L 6 with | false => rfl | true => have := k6 h; simp [hk] at this
                rw [if_pos (by rfl)]
                simp only [Oper.wpv]
                go_simp
                refine (renum_any num _).mono ?_
                rintro e u1 ⟨b1, rfl, hc0, ⟨hl0, hl1⟩, hg⟩
                exact hK _ _ ⟨b1, (Nat.le_trans hb hg.size), p0, p1, p2, p3, p4, fun _ => rfl, fun _ _ => ⟨hc0, Nat.le_trans hb hl0, hl1⟩, p6, p7, fun h0 => ⟨(c1 h0).1.below hg, (c1 h0).2.below hg (c1 h0).2.lt⟩, fun h0 h1 => (c2 h0 h1).below hg, fun h0 => (c3 h0).below hg⟩
              · rintro L T u hd hk hcl ⟨b0, hb, p0, p1, p2, p3, p4, p5, p5w, p6, p7, c1, c2, c3⟩ K hK
                simp only [fr, Act.put, List.setIfInBounds_toArray, List.set_cons_zero, List.set_cons_succ, updO] at hK ⊢
                simp [Region.binds] at hd
                have g1 := p1 (by simp [hd])
                have g5 := p5 (by simp [hd])
                obtain ⟨hc0, hl0, hl1⟩ := p5w (by simp [hd]) hk
                have hC := (c1 hk).1
                have k8 := hcl 8 _ rfl
                simp [Region.binds] at k8
                have hjo := hC.mem.own
                rw [← HLN.out] at hjo
                rw [if_pos (by rfl)]
                simp only [Oper.wpv]
                go_simp
                refine (deleteJob_any 55 #[.pointer (some ⟨b0, 0, none⟩)] (isNr num) (w.heap.size + 2) a LN c js _ hjo (renum_asksG b0 num _ _ hc0 hl1 (fun e2 => by have := HG.out _ e2.symm; omega))).mono ?_
                rintro e u1 ⟨rfl, own1, gr1⟩
                have hH := hC.grown gr1 (hC.mem.kept (isNr num) own1 (by rw [← HLN.out]; exact gr1))
                exact hK _ _ ⟨b0, (Nat.le_trans hb gr1.size), p0, p1, p2, p3, p4, p5, fun _ h => Bool.noConfusion (show true = false from h), fun _ => rfl, p7, fun h => Bool.noConfusion (show true = false from h), fun _ _ => hH, fun h => by have := k8 h; simp [hk] at this⟩
              · rintro L T u hd hk hcl ⟨b0, hb, p0, p1, p2, p3, p4, p5, p5w, p6, p7, c1, c2, c3⟩ K hK
                simp only [fr, Act.put, List.setIfInBounds_toArray, List.set_cons_zero, List.set_cons_succ, updO] at hK ⊢
                simp [Region.binds] at hd
                rw [if_pos (by rfl)]
                simp only [Oper.wpv]
                go_simp
                exact hK _ _ ⟨b0, hb, p0, p1, p2, p3, p4, p5, p5w, p6, fun _ => rfl, c1, c2, c3⟩
              · rintro L T u hd hk hcl ⟨b0, hb, p0, p1, p2, p3, p4, p5, p5w, p6, p7, c1, c2, c3⟩ K hK
                simp only [fr, Act.put, List.setIfInBounds_toArray, List.set_cons_zero, List.set_cons_succ, updO] at hK ⊢
                simp [Region.binds] at hd
                have g7 := p7 (by simp [hd])
                have g6 := p6 (by simp [hd])
                have h6 : L 6 = true := by simp [hd]
                have hH := c2 h6 hk
                have x1 : u.cell? ⟨w.heap.size + 1, 1, none⟩ = some (.slice a LN c) := (hH.box.c 1 (by decide)).1
                have y1 := (hH.box.c 1 (by decide)).2
                have zx := hH.box.lt
                rw [if_pos (by rfl)]
                simp only [Oper.wpv]
                go_simp
                exact hK _ _ ⟨b0, (by simpa using hb), p0, p1, p2, p3, p4, p5, fun _ h => absurd (show L 6 = false from h) (by simp [h6]), p6, p7, fun h => absurd (show L 6 = false from h) (by simp [h6]), fun _ h => Bool.noConfusion (show true = false from h), fun _ => hH.put _⟩
            · rintro L T u hl ⟨b0, hb, p0, p1, p2, p3, p4, p5, p5w, p6, p7, c1, c2, c3⟩
              simp only [fr, Act.put, List.setIfInBounds_toArray, List.set_cons_zero, List.set_cons_succ]
              have HH : Hid (DeskIn w V u PN (.slice a (keep (isNr num) js).length c) a c (keep (isNr num) js)) := c3 (hl 8 (by decide))
              clear p0 p1 p2 p3 p4 p5 p5w p6 p7 c1 c2 c3
              have HS : Hid (DeskIn w V u (recDesk site ((rs.map RcM.p).take (k + 1))).1 (.slice a ((keep (isNr num) js)).length c) a c (keep (isNr num) js) ∧ ((keep (isNr num) js)).map JbV.bare = (recDesk site ((rs.map RcM.p).take (k + 1))).2) := by
                show _ ∧ _
                rw [HPn.out]
                have h8 : dkStep site (PN, PJ) ⟨4, site, num, key, value, ask, yes, zs⟩ = (PN, keep (isNr num) PJ) := by simp [dkStep]
                rw [h8, ← HJ.out]
                exact ⟨HH.out, keep_bare (fun _ => rfl) js⟩
              clear HIU HJ HSt HK HPn HR HNum HL HRb hww HUb HH HG
              go_wp2
              go_roundw
              case rel => exact ⟨k + 1, a, c, keep (isNr num) js, by go_num, by omega, HS.out⟩
              case measure => simp [intOf]; omega
          · by_cases hk5 : kind = 5
            · subst hk5
              clear hk3 hk4
              have hwr : IntKind.i64.wrap (num + 1) = num + 1 := by rw [IntKind.wrap_i64]; omega
              have HS : Hid (DeskIn w V (U.setCell ⟨w.heap.size + 1, 0, none⟩ (.int .i64 (max PN (num + 1)))) (recDesk site ((rs.map RcM.p).take (k + 1))).1 (.slice a (js).length c) a c js ∧ (js).map JbV.bare = (recDesk site ((rs.map RcM.p).take (k + 1))).2) := by
                show _ ∧ _
                rw [HPn.out]
                have h8 : dkStep site (PN, PJ) ⟨5, site, num, key, value, ask, yes, zs⟩ = (max PN (num + 1), PJ) := by simp [dkStep]
                rw [h8, ← HLN.out]
                exact ⟨HIU.out.step _, HJ.out⟩
              clear HIU HJ HSt HK HPn HR HNum HL HRb hww HUb
              by_cases hmx : PN < num + 1
              · have hmm : max PN (num + 1) = num + 1 := by omega
                have hmy : PN ≤ num + 1 := by omega
                have hmz : ¬ (num + 1 < PN) := by omega
                rw [hmm] at HS
                go_wp2
                go_roundw
                case rel => exact ⟨k + 1, a, c, js, by go_num, by omega, HS.out⟩
                case measure => simp [intOf]; omega
              · have hmm : max PN (num + 1) = PN := by omega
                have hmy : num + 1 ≤ PN := by omega
                have hmz : ¬ (PN < num + 1) := by omega
                rw [hmm] at HS
                go_wp2
                go_roundw
                case rel => exact ⟨k + 1, a, c, js, by go_num, by omega, HS.out⟩
                case measure => simp [intOf]; omega
            · have e3 : (kind == 3) = false := by simpa using hk3
              have e4 : (kind == 4) = false := by simpa using hk4
              have e5 : (kind == 5) = false := by simpa using hk5
              have HS : Hid (DeskIn w V U (recDesk site ((rs.map RcM.p).take (k + 1))).1 (.slice a (js).length c) a c js ∧ (js).map JbV.bare = (recDesk site ((rs.map RcM.p).take (k + 1))).2) := by
                show _ ∧ _
                rw [HPn.out]
                have h8 : dkStep site (PN, PJ) ⟨kind, site, num, key, value, ask, yes, zs⟩ = (PN, PJ) := by simp [dkStep, hk3, hk4, hk5]
                rw [h8, ← HLN.out]
                exact ⟨HIU.out, HJ.out⟩
              clear hk3 hk4 hk5
              clear HIU HJ HSt HK HPn HR HNum HL HRb hww HUb
              go_wp2
              go_roundw
              case rel => exact ⟨k + 1, a, c, js, by go_num, by omega, HS.out⟩
              case measure => simp [intOf]; omega
      · have e1 : (site != me) = true := by simpa using hme
        have HS : Hid (DeskIn w V U (recDesk me ((rs.map RcM.p).take (k + 1))).1 (.slice a (js).length c) a c js ∧ (js).map JbV.bare = (recDesk me ((rs.map RcM.p).take (k + 1))).2) := by
          show _ ∧ _
          rw [HPn.out]
          have h8 : dkStep me (PN, PJ) ⟨kind, site, num, key, value, ask, yes, zs⟩ = (PN, PJ) := by simp [dkStep, hme]
          rw [h8, ← HLN.out]
          exact ⟨HIU.out, HJ.out⟩
        clear HIU HJ HSt HK HPn HR HNum HL HRb hww HUb
        go_wp2
        go_roundw
        case rel => exact ⟨k + 1, a, c, js, by go_num, by omega, HS.out⟩
        case measure => simp [intOf]; omega
    · obtain rfl : k = n := by omega
      have hPf : recDesk me (rs.map RcM.p) = (PN, PJ) := by
        rw [← HP.out, List.take_of_length_le (by rw [List.length_map, HL.out]; exact Nat.le_refl _)]
      have hJ := hI.out.2
      have hD := hI.out.1
      have s0 : wr.cell? ⟨w.heap.size + 1, 0, none⟩ = some (.int .i64 PN) := (hD.box.c 0 (by decide)).1
      have s1 : wr.cell? ⟨w.heap.size + 1, 1, none⟩ = some (.slice a LN c) := (hD.box.c 1 (by decide)).1
      have sz := hD.box.lt
      have r0 : wr.cell? ⟨w.heap.size, 0, none⟩ = some (.int .i64 0) := (hrb.c 0 (by decide)).1
      have rf0 : wr.frozen? ⟨w.heap.size, 0, none⟩ = false := (hrb.c 0 (by decide)).2
      have r1 : wr.cell? ⟨w.heap.size, 1, none⟩ = some (.slice none 0 0) := (hrb.c 1 (by decide)).1
      have rf1 : wr.frozen? ⟨w.heap.size, 1, none⟩ = false := (hrb.c 1 (by decide)).2
      have rz := hrb.lt
      have HD : Hid (DeskOf w ((wr.setCell ⟨w.heap.size, 0, none⟩ (.int .i64 PN)).setCell ⟨w.heap.size, 1, none⟩ (.slice a LN c)) (.returned (.agg #[.int .i64 PN, .slice a LN c])) (recDesk me (rs.map RcM.p)).1 (recDesk me (rs.map RcM.p)).2) := by
        show DeskOf _ _ _ _ _
        rw [hPf]
        refine ⟨a, c, js, by rw [← HLN.out], ?_, hJ, (hww.setCell (by simp) _).setCell (by simp) _⟩
        exact ((hD.mem.aside (by omega) 0 _).aside (by omega) 1 _).base (by omega)
      clear hrb HRb HR HNum hPf hI HP hww hJ hD
      obtain ⟨F, hF⟩ : ∃ F : World, F = (wr.setCell ⟨w.heap.size, 0, none⟩ (.int .i64 PN)).setCell ⟨w.heap.size, 1, none⟩ (.slice a LN c) := ⟨_, rfl⟩
      have k0 : F.cell? ⟨w.heap.size, 0, none⟩ = some (.int .i64 PN) := by rw [hF]; go_simp
      have k1 : F.cell? ⟨w.heap.size, 1, none⟩ = some (.slice a LN c) := by rw [hF]; go_simp
      go_wp2
      rw [← hF] at HD ⊢
      clear hF
      refine bodyPost_ret (v := .agg #[.int .i64 PN, .slice a LN c]) (by simp [results, Tryz.results11, go_sem, k0, k1]) rfl HD.out
end Go.Proofs.YtekglahigjblkaaGreatDoor.Co
/- recover.storeOf: what was prepared, and what became of it. -/
namespace Go.Proofs.YtekglahigjblkaaGreatDoor.St
open Go.ChangeShapes Go.WideShapes Go.ChangeAt Go.RowKit Go.Maps
set_option linter.unusedVariables false

def IsOf (w w' : World) (e : Ending) (P : PS) : Prop := ∃ u : SV, e = .returned u.val ∧ OwnStore w' w.heap.size u ∧ u.data = P ∧ Below w.heap.size w w'
theorem isTx_one (u : World) (t : Int × Int) : IsRow 2 txCells (u.alloc (.cells #[.int .i64 t.1, .int .i64 t.2] 51)) (some ⟨u.heap.size, 0, none⟩) 1 1 [t] := by
  refine ⟨rfl, Nat.le_refl _, by unfold maxLen; omega, (fun e => by cases e), fun _ => ⟨u.heap.size, 0, rfl, by simp, fun i hi j hj => ?_⟩⟩
  obtain rfl : i = 0 := by omega
  rcases (by omega : j = 0 ∨ j = 1) with rfl | rfl <;> simp [txCells]
theorem take_map_succ {rs : List RcM} {k : Nat} (h : k < rs.length) : (rs.map RcM.p).take (k + 1) = (rs.map RcM.p).take k ++ [(rs.getD k default).p] := by
  rw [List.take_add_one]
  simp [List.getD, h]
theorem over_len_le (rs : List RcP) : (recStore rs).over.length ≤ rs.length := by
  have key : ∀ (l : List RcP) (p : PS), (l.foldl stStep p).over.length ≤ p.over.length + l.length := by
    intro l
    induction l with
    | nil => intro p; simp
    | cons a r ih =>
      intro p
      have h1 := ih (stStep p a)
      have h2 : (stStep p a).over.length ≤ p.over.length + 1 := by
        unfold stStep
        split
        · omega
        · split
          · simp
          · split
            · simp
            · omega
      simp only [List.foldl_cons, List.length_cons]
      omega
  have := key rs PS.nil
  simpa [recStore, PS.nil] using this
theorem wr_over (p : PS) (r : RcP) (h : p.over = []) : (p.wr r).over = [] := by
  unfold PS.wr
  split
  · rename_i h6
    unfold writeData
    rw [if_pos h6]
    exact h
  · exact h
theorem eta_over (y : PS) (h : y.over = []) (l : List (Int × Int)) : y = { ({ y with over := l } : PS) with over := [] } := by
  obtain ⟨y1, y2, y3, y4⟩ := y
  simp only at h
  subst h
  rfl
theorem step_wr (p : PS) (r : RcP) (hk : r.kind = 1) (ho : r.tx ∉ p.over) : stStep p r = { ({ p with over := [] } : PS).wr r with over := p.over } := by
  unfold stStep
  rw [if_neg ho, if_pos hk]
theorem StIn.wrote {B d m : Nat} {W U Z : World} {p : PS} {s s' : SV} {oa : Option Addr} {oc : Nat} {D : DataW Unit} {r : RcP} (hU : StIn B d m W U p s oa oc D) (hZ : StIn B d m W Z p s oa oc D) (hn : NewOr U Z s s') (hd : s'.data = s.data.wr r) (hk : r.kind = 1) (ho : r.tx ∉ p.over) :
    StIn B d m W ((((Z.setCell ⟨d, 0, none⟩ (.slice s'.ia s'.il s'.ic)).setCell ⟨d, 1, none⟩ (.slice s'.la s'.ll s'.lc)).setCell ⟨d, 2, none⟩ (.slice s'.da s'.dl s'.dc)).setCell ⟨d, 3, none⟩ (.slice s'.oa s'.ol s'.oc)) (stStep p r) s' oa oc D ∧ (stStep p r).over.length = p.over.length := by
  rw [step_wr p r hk ho]
  refine ⟨hZ.put (C := U.heap.size) hn (fun q8 e8 => (hU.over.lt q8 e8).2) hU.lt.2.2 ?_ rfl, rfl⟩
  rw [hd, hU.data]
  exact eta_over _ (wr_over _ r rfl) p.over
theorem step_no (p : PS) (r : RcP) (h1 : ¬ r.kind = 1) (h2 : ¬ (r.kind = 2 ∨ r.kind = 6)) : stStep p r = p := by
  unfold stStep
  by_cases ho : r.tx ∈ p.over
  · rw [if_pos ho]
  · rw [if_neg ho, if_neg h1, if_neg h2]
theorem StIn.done {B d m : Nat} {W wr : World} {p : PS} {s : SV} {oa : Option Addr} {oc : Nat} {D : DataW Unit} (h : StIn B d m W wr p s oa oc D) {r A : Nat} (hr : r < B) (hA : A ≤ B) (v v0 v1 v2 v3 : Value) :
    OwnStore (((((wr.setCell ⟨d, 3, none⟩ v).setCell ⟨r, 0, none⟩ v0).setCell ⟨r, 1, none⟩ v1).setCell ⟨r, 2, none⟩ v2).setCell ⟨r, 3, none⟩ v3) A ⟨s.ia, s.il, s.ic, s.la, s.ll, s.lc, s.da, s.dl, s.dc, oa, p.over.length, oc, s.items, s.locks, s.doubts, p.over⟩ ∧ SV.data ⟨s.ia, s.il, s.ic, s.la, s.ll, s.lc, s.da, s.dl, s.dc, oa, p.over.length, oc, s.items, s.locks, s.doubts, p.over⟩ = p := by
  have hd : d < B := by have := h.lt; omega
  have h0 : OwnStore wr B ⟨s.ia, s.il, s.ic, s.la, s.ll, s.lc, s.da, s.dl, s.dc, oa, p.over.length, oc, s.items, s.locks, s.doubts, p.over⟩ := ⟨h.own.items, h.own.locks, h.own.doubts, h.over, h.own.ap_il, h.own.ap_id, h.api.symm, h.own.ap_ld, h.apl.symm, h.apd.symm⟩
  refine ⟨(((((h0.asideS hd 3 v).asideS hr 0 v0).asideS hr 1 v1).asideS hr 2 v2).asideS hr 3 v3).base hA, ?_⟩
  have h8 := h.data
  obtain ⟨p1, p2, p3, p4⟩ := p
  have e1 : s.items = p1 := congrArg PS.items h8
  have e2 : s.locks = p2 := congrArg PS.locks h8
  have e3 : s.doubts = p3 := congrArg PS.doubts h8
  simp only [SV.data, e1, e2, e3]
theorem step_en (p : PS) (r : RcP) (hk : r.kind = 2 ∨ r.kind = 6) (ho : r.tx ∉ p.over) : stStep p r = { ({ p with over := [] } : PS).en r with over := p.over ++ [r.tx] } := by
  unfold stStep
  rw [if_neg ho, if_neg (by omega), if_pos hk]
theorem StIn.endd {B d m : Nat} {W U Z : World} {p : PS} {s s' : SV} {oa : Option Addr} {oc : Nat} {D : DataW Unit} {r : RcP} (hU : StIn B d m W U p s oa oc D) (hZ : StIn B d m W Z p s oa oc D) (hn : OwnStore Z U.heap.size s') (hd : s'.data = s.data.en r) :
    StIn B d m W ((((Z.setCell ⟨d, 0, none⟩ (.slice s'.ia s'.il s'.ic)).setCell ⟨d, 1, none⟩ (.slice s'.la s'.ll s'.lc)).setCell ⟨d, 2, none⟩ (.slice s'.da s'.dl s'.dc)).setCell ⟨d, 3, none⟩ (.slice s'.oa s'.ol s'.oc)) { ({ p with over := [] } : PS).en r with over := p.over } s' oa oc D := by
  refine hZ.put (C := U.heap.size) (Or.inr hn) (fun q8 e8 => (hU.over.lt q8 e8).2) hU.lt.2.2 ?_ rfl
  rw [hd, hU.data]
  exact eta_over _ rfl p.over
theorem cellPut4 {Z : World} {d b j : Nat} {x : Value} (h : Z.cell? ⟨b, j, none⟩ = some x) (hne : b ≠ d) (v0 v1 v2 v3 : Value) : ((((Z.setCell ⟨d, 0, none⟩ v0).setCell ⟨d, 1, none⟩ v1).setCell ⟨d, 2, none⟩ v2).setCell ⟨d, 3, none⟩ v3).cell? ⟨b, j, none⟩ = some x := by
  have key : ∀ (Z : World) (k : Nat) (v : Value), (Z.setCell ⟨d, k, none⟩ v).cell? ⟨b, j, none⟩ = Z.cell? ⟨b, j, none⟩ := by
    intro Z k v
    have h8 := Below.heap_setCell Z ⟨d, k, none⟩ v b hne
    unfold World.cell?
    simp only [h8]
  rw [key, key, key, key, h]
theorem sizePut4 {Z : World} {d b : Nat} (h : b < Z.heap.size) (v0 v1 v2 v3 : Value) : b < ((((Z.setCell ⟨d, 0, none⟩ v0).setCell ⟨d, 1, none⟩ v1).setCell ⟨d, 2, none⟩ v2).setCell ⟨d, 3, none⟩ v3).heap.size := by
  simpa using h
set_option maxRecDepth 100000 in
set_option maxHeartbeats 8000000 in
theorem storeOf_any (ao : Option Addr) (n cp : Nat) (rs : List RcM) (w : World) (h : IsRow 8 RcM.cells w ao n cp rs) (hwf : ∀ r ∈ rs, TxWf r.p.tx) (hn : n ≤ 1759218604441) :
    Calls Tryz.prog 10 #[.slice ao n cp] w fun e w' => IsOf w w' e (recStore (rs.map RcM.p)) := by
  obtain ⟨i4, E4⟩ := txElem
  have hmm := @run_makeMap Tryz.prog
  have hlen := h.1
  have HL : Hid (rs.length = n) := hlen
  have hcap : n ≤ cp := h.2.1
  have hcpm : cp ≤ maxLen := h.2.2.1
  unfold maxLen at hcpm
  have HR : Hid (∀ U, Below w.heap.size w U → IsRow 8 RcM.cells U ao n cp rs) := fun U hU => h.below hU
  have HWf : Hid (∀ r ∈ rs, TxWf r.p.tx) := hwf
  clear hlen h hwf
  obtain ⟨V, hV⟩ : ∃ V : World, V = (w.alloc (.cells #[.slice none 0 0, .slice none 0 0, .slice none 0 0, .slice none 0 0] 31)).alloc (.cells #[.slice none 0 0, .slice none 0 0, .slice none 0 0, .slice none 0 0] 31) := ⟨_, rfl⟩
  have bV : Below w.heap.size w V := by rw [hV]; exact ((Below.refl _ _).alloc (Nat.le_refl _) _).alloc (by simp) _
  have zV : V.heap.size = w.heap.size + 2 := by rw [hV]; simp
  have rb : BoxN V w.heap.size 4 [.slice none 0 0, .slice none 0 0, .slice none 0 0, .slice none 0 0] := by
    rw [hV]
    have h8 := boxn_new w #[.slice none 0 0, .slice none 0 0, .slice none 0 0, .slice none 0 0] 31 4 rfl
    exact h8.below ((Below.refl _ _).alloc (Nat.le_refl _) _) h8.lt
  have sb : BoxN V (w.heap.size + 1) 4 [.slice none 0 0, .slice none 0 0, .slice none 0 0, .slice none 0 0] := by
    rw [hV]
    have h8 := boxn_new (w.alloc (.cells #[.slice none 0 0, .slice none 0 0, .slice none 0 0, .slice none 0 0] 31)) #[.slice none 0 0, .slice none 0 0, .slice none 0 0, .slice none 0 0] 31 4 rfl
    simpa using h8
  have HV : Hid (V.heap.size = w.heap.size + 2) := zV
  have HRb : Hid (∀ U, Below (w.heap.size + 1) V U → BoxN U w.heap.size 4 [.slice none 0 0, .slice none 0 0, .slice none 0 0, .slice none 0 0] ∧ Below w.heap.size w U) := fun U hU => ⟨rb.below hU (by omega), bV.trans (hU.mono (by omega))⟩
  go_enter Tryz.func10, Tryz.ntmps10
  go_upto_region 3 with (fail)
  rw [← hV]
  clear hV
  have HSt0 : Hid (∀ U M, U = V.alloc M → U.ownsMap Tryz.prog 51 (plainElem Tryz.prog 3) (w.heap.size + 2) 0 (.map []) → StIn (w.heap.size + 3) (w.heap.size + 1) (w.heap.size + 2) V U (recStore []) SV.nil none 0 (.map [])) := fun U M eU hM => by
    have hb8 : Below V.heap.size V U := by rw [eU]; exact (Below.refl _ _).alloc (Nat.le_refl _) _
    have z8 : U.heap.size = w.heap.size + 3 := by rw [eU]; simp [zV]
    exact ⟨sb.below hb8 (by omega), ⟨World.ownsRow_nil _ _ _ _, World.ownsRow_nil _ _ _ _, World.ownsRow_nil _ _ _ _, World.ownsRow_nil _ _ _ _, (fun q _ e => by cases e), (fun q _ e => by cases e), (fun q _ e => by cases e), (fun q _ e => by cases e), (fun q _ e => by cases e), (fun q _ e => by cases e)⟩, rfl, World.ownsRow_nil _ _ _ _, (fun q _ e => by cases e), (fun q _ e => by cases e), (fun q _ e => by cases e), (fun q _ e => by cases e), hM, keeps_nil, (fun t ht => by cases ht), hb8.mono (by omega), by omega, by omega, by omega⟩
  go_upto_region 5 with (fail)
  go_loopw [4, 7, 8, 9, 13, 27, 32] (fun s4 _ _ _ s13 _ _ wr => ∃ (k : Nat) (s : SV) (oa : Option Addr) (oc : Nat) (D : DataW Unit), s13 = .int .i64 (k : Int) ∧ k ≤ n ∧ s4 = .slice oa (recStore ((rs.map RcM.p).take k)).over.length oc ∧ Hid (StIn (w.heap.size + 3) (w.heap.size + 1) (w.heap.size + 2) V wr (recStore ((rs.map RcM.p).take k)) s oa oc D)) (fun _ _ _ _ s13 _ _ _ => n - (intOf s13).toNat)
  case atStart => exact ⟨0, SV.nil, none, 0, .map [], rfl, Nat.zero_le _, rfl, HSt0.out _ _ rfl (by have h8 := World.ownsMap_made (H := Unit) V Tryz.prog 51 (plainElem Tryz.prog 3); rw [zV] at h8; exact h8)⟩
  case round =>
    clear HSt0 rb sb hmm
    obtain ⟨k, s, oa, oc, D, rfl, hk, rfl, hI⟩ := hrel
    obtain ⟨hrb, hww⟩ := HRb.out wr hI.out.bel
    obtain ⟨P, eP⟩ : ∃ P, P = recStore ((rs.map RcM.p).take k) := ⟨_, rfl⟩
    rw [← eP] at hI ⊢
    have hPl : P.over.length ≤ 1759218604441 := by
      rw [eP]
      have h8 := over_len_le ((rs.map RcM.p).take k)
      have h9 : ((rs.map RcM.p).take k).length ≤ k := by simp; omega
      omega
    obtain ⟨LN, eLN⟩ : ∃ LN, LN = P.over.length := ⟨_, rfl⟩
    rw [← eLN] at hPl ⊢
    have HLN : Hid (LN = P.over.length) := eLN
    have HP : Hid (P = recStore ((rs.map RcM.p).take k)) := eP
    clear eP eLN
    by_cases hlt : k < n

    · have hlt' : (k : Int) < (n : Int) := by omega
      have hrow := HR.out wr hww
      obtain ⟨b, off, rfl, zb, hcr⟩ := hrow.2.2.2.2 (by omega)
      have hcl := hcr k hlt
      have hkc : k < cp := by omega
      have HPn : Hid (recStore ((rs.map RcM.p).take (k + 1)) = stStep P (rs.getD k default).p) := by
        show _ = _
        rw [take_map_succ (by rw [HL.out]; exact hlt), recStore_snoc, HP.out]
      have hTx := HWf.out (rs.getD k default) (by simp [List.getD, show k < rs.length by rw [HL.out]; exact hlt])
      obtain ⟨v, ev⟩ : ∃ v, v = rs.getD k default := ⟨_, rfl⟩
      rw [← ev] at hcl HPn hTx
      clear ev hcr hrow
      obtain ⟨⟨kind, site, num, key, value, ask, yes, zs⟩, sa, sl, sc⟩ := v
      have hTx2 : TxWf (site, num) := hTx
      obtain ⟨l, hkey⟩ := key_tx hTx2
      have hhas := hI.out.keeps.2 (site, num) l hkey
      simp only at hkey
      have HTx : Hid (TxWf (site, num)) := hTx2
      clear hTx hTx2
      have a0 := hcl 0 (by decide)
      have a1 := hcl 1 (by decide)
      have a2 := hcl 2 (by decide)
      have a3 := hcl 3 (by decide)
      have a4 := hcl 4 (by decide)
      have a5 := hcl 5 (by decide)
      have a6 := hcl 6 (by decide)
      have a7 := hcl 7 (by decide)
      simp only [RcM.cells, List.getElem?_cons_zero, List.getElem?_cons_succ, Nat.add_zero] at a0 a1 a2 a3 a4 a5 a6 a7
      clear hcl
      obtain ⟨U, hU⟩ : ∃ U : World, U = wr.alloc (.cells #[.int .i64 kind, .int .i64 site, .int .i64 num, .int .i64 key, .int .i64 value, .int .i64 ask, .bool yes, .slice sa sl sc] 54) := ⟨_, rfl⟩
      have bU : Below wr.heap.size wr U := by rw [hU]; exact (Below.refl _ _).alloc (Nat.le_refl _) _
      have ub : BoxN U wr.heap.size 8 [.int .i64 kind, .int .i64 site, .int .i64 num, .int .i64 key, .int .i64 value, .int .i64 ask, .bool yes, .slice sa sl sc] := by rw [hU]; exact boxn_new wr #[.int .i64 kind, .int .i64 site, .int .i64 num, .int .i64 key, .int .i64 value, .int .i64 ask, .bool yes, .slice sa sl sc] 54 8 rfl
      have hIU := hI.out.below bU
      have hmU := hIU.map
      rw [← HLN.out] at hmU
      have zwd : (w.heap.size + 1) < wr.heap.size := hI.out.box.lt
      have zwm : (w.heap.size + 2) < wr.heap.size := Nat.lt_of_lt_of_le hI.out.lt.2.1 hI.out.lt.2.2
      go_upto_region 7 with (fail)
      rw [← hU]
      clear hU a0 a1 a2 a3 a4 a5 a6 a7 hI
      obtain ⟨M, eM⟩ : ∃ M, M = Maps.has D l := ⟨_, rfl⟩
      have HM : Hid (M = true ↔ (site, num) ∈ P.over) := by
        show _ ↔ _
        rw [eM, hhas]
        simp
      replace hhas : Maps.has D l = M := eM.symm
      have HIU : Hid (StIn (w.heap.size + 3) (w.heap.size + 1) (w.heap.size + 2) V U P s oa oc D) := hIU
      clear eM hIU
      have u0 : U.cell? ⟨wr.heap.size, 0, none⟩ = some (.int .i64 kind) := (ub.c 0 (by decide)).1
      have u1 : U.cell? ⟨wr.heap.size, 1, none⟩ = some (.int .i64 site) := (ub.c 1 (by decide)).1
      have u2 : U.cell? ⟨wr.heap.size, 2, none⟩ = some (.int .i64 num) := (ub.c 2 (by decide)).1
      have u3 : U.cell? ⟨wr.heap.size, 3, none⟩ = some (.int .i64 key) := (ub.c 3 (by decide)).1
      have u4 : U.cell? ⟨wr.heap.size, 4, none⟩ = some (.int .i64 value) := (ub.c 4 (by decide)).1
      have u5 : U.cell? ⟨wr.heap.size, 5, none⟩ = some (.int .i64 ask) := (ub.c 5 (by decide)).1
      have u6 : U.cell? ⟨wr.heap.size, 6, none⟩ = some (.bool yes) := (ub.c 6 (by decide)).1
      have u7 : U.cell? ⟨wr.heap.size, 7, none⟩ = some (.slice sa sl sc) := (ub.c 7 (by decide)).1
      have uz := ub.lt
      cases M with
      | true =>
        have HS : Hid (∃ s oa oc D, StIn (w.heap.size + 3) (w.heap.size + 1) (w.heap.size + 2) V U (recStore ((rs.map RcM.p).take (k + 1))) s oa oc D) := by
          show ∃ s oa oc D, _
          rw [HPn.out]
          have h8 : stStep P ⟨kind, site, num, key, value, ask, yes, zs⟩ = P := by
            unfold stStep
            rw [if_pos (show RcP.tx ⟨kind, site, num, key, value, ask, yes, zs⟩ ∈ P.over from HM.out.1 rfl)]
          rw [h8]
          exact ⟨_, _, _, _, HIU.out⟩
        have HS2 : Hid (StIn (w.heap.size + 3) (w.heap.size + 1) (w.heap.size + 2) V U (recStore ((rs.map RcM.p).take (k + 1))) s oa oc D ∧ LN = (recStore ((rs.map RcM.p).take (k + 1))).over.length) := by
          show _ ∧ _
          have h8 : stStep P ⟨kind, site, num, key, value, ask, yes, zs⟩ = P := by
            unfold stStep
            rw [if_pos (show RcP.tx ⟨kind, site, num, key, value, ask, yes, zs⟩ ∈ P.over from HM.out.1 rfl)]
          rw [HPn.out, h8]
          exact ⟨HIU.out, HLN.out⟩
        clear HS
        go_wp2_with (at_lookup; refine wpList_lookup_own_ok_int _ rfl _ _ 76 rfl 51 3 .i64 txn_keyed Tryz.underlying76 Tryz.underlying3 (int_zero _) (w.heap.size + 2) LN _ rfl hmU _ _ rfl hkey ?_; intro c hcat hwc; rw [hhas])
        go_roundw
        case rel => exact ⟨k + 1, s, oa, oc, D, by go_num, by omega, by rw [← HS2.out.2], HS2.out.1⟩
        case measure => simp [intOf]; omega
      | false =>
        have hnot : (site, num) ∉ P.over := fun h8 => by have h9 := HM.out.2 h8; cases h9
        have HNt : Hid ((site, num) ∉ P.over) := hnot
        clear HM hnot
        obtain ⟨ia, il, ic, la, ll, lc, da, dl, dc, oa0, ol0, oc0, its, lks, dbs, ovs⟩ := s
        have hdat := HIU.out.data
        have hov0 : ovs = [] := congrArg PS.over hdat
        have hol0 : ol0 = 0 := by
          have h8 : ovs.length = ol0 := own_len tx_len (by decide) HIU.out.own.over
          rw [← h8, hov0]
          rfl
        have HSt : Hid (IsStore U ⟨ia, il, ic, la, ll, lc, da, dl, dc, oa0, ol0, oc0, its, lks, dbs, ovs⟩) := HIU.out.own.isStore
        have Hwf0 : Hid (∀ t ∈ (SV.over ⟨ia, il, ic, la, ll, lc, da, dl, dc, oa0, ol0, oc0, its, lks, dbs, ovs⟩), TxWf t) := fun t ht => by rw [show SV.over ⟨ia, il, ic, la, ll, lc, da, dl, dc, oa0, ol0, oc0, its, lks, dbs, ovs⟩ = [] from hov0] at ht; cases ht
        have Hol : Hid ((SV.ol ⟨ia, il, ic, la, ll, lc, da, dl, dc, oa0, ol0, oc0, its, lks, dbs, ovs⟩) * 16 ≤ 140737488351232) := by show ol0 * 16 ≤ _; rw [hol0]; omega
        clear hov0 hol0
        have sbU := HIU.out.box
        have s0 : U.cell? ⟨(w.heap.size + 1), 0, none⟩ = some (.slice ia il ic) := (sbU.c 0 (by decide)).1
        have s1 : U.cell? ⟨(w.heap.size + 1), 1, none⟩ = some (.slice la ll lc) := (sbU.c 1 (by decide)).1
        have s2 : U.cell? ⟨(w.heap.size + 1), 2, none⟩ = some (.slice da dl dc) := (sbU.c 2 (by decide)).1
        have s3 : U.cell? ⟨(w.heap.size + 1), 3, none⟩ = some (.slice oa0 ol0 oc0) := (sbU.c 3 (by decide)).1
        have sz := sbU.lt
        by_cases hk1 : kind = 1
        · subst hk1
          have hWr := recWrite_any ⟨ia, il, ic, la, ll, lc, da, dl, dc, oa0, ol0, oc0, its, lks, dbs, ovs⟩ ⟨1, site, num, key, value, ask, yes, zs⟩ sa sl sc U HSt.out Hwf0.out Hol.out
          simp only [SV.val] at hWr
          clear hdat
          go_upto_region 17 with (first | (at_lookup; refine wpList_lookup_own_ok_int _ rfl _ _ 76 rfl 51 3 .i64 txn_keyed Tryz.underlying76 Tryz.underlying3 (int_zero _) (w.heap.size + 2) LN _ rfl hmU _ _ rfl hkey ?_; intro c hcat hwc; rw [hhas]) | (go_at_call 27; refine hWr.mono ?_; rintro e Z ⟨⟨ja, jl, jc, ka, kl, kc, ea, el, ec, ta, tl, tc, jts, kks, ees, tts⟩, rfl, hNO, hd, hbZ⟩; simp only []; have hIZ := HIU.out.below hbZ; have zb0 := (hIZ.box.c 0 (by decide)).1; have zf0 := (hIZ.box.c 0 (by decide)).2; have zb1 := (hIZ.box.c 1 (by decide)).1; have zf1 := (hIZ.box.c 1 (by decide)).2; have zb2 := (hIZ.box.c 2 (by decide)).1; have zf2 := (hIZ.box.c 2 (by decide)).2; have zb3 := (hIZ.box.c 3 (by decide)).1; have zf3 := (hIZ.box.c 3 (by decide)).2; have zbz := hIZ.box.lt; simp only [List.getD_cons_zero, List.getD_cons_succ] at zb0 zb1 zb2 zb3; have HIZ : Hid (StIn (w.heap.size + 3) (w.heap.size + 1) (w.heap.size + 2) V Z P ⟨ia, il, ic, la, ll, lc, da, dl, dc, oa0, ol0, oc0, its, lks, dbs, ovs⟩ oa oc D) := hIZ; have HNO : Hid (NewOr U Z ⟨ia, il, ic, la, ll, lc, da, dl, dc, oa0, ol0, oc0, its, lks, dbs, ovs⟩ ⟨ja, jl, jc, ka, kl, kc, ea, el, ec, ta, tl, tc, jts, kks, ees, tts⟩) := hNO; have HDt : Hid (SV.data ⟨ja, jl, jc, ka, kl, kc, ea, el, ec, ta, tl, tc, jts, kks, ees, tts⟩ = _) := hd; clear hIZ hNO hd))
          have HS2 : Hid (StIn (w.heap.size + 3) (w.heap.size + 1) (w.heap.size + 2) V ((((Z.setCell ⟨(w.heap.size + 1), 0, none⟩ (.slice ja jl jc)).setCell ⟨(w.heap.size + 1), 1, none⟩ (.slice ka kl kc)).setCell ⟨(w.heap.size + 1), 2, none⟩ (.slice ea el ec)).setCell ⟨(w.heap.size + 1), 3, none⟩ (.slice ta tl tc)) (recStore ((rs.map RcM.p).take (k + 1))) ⟨ja, jl, jc, ka, kl, kc, ea, el, ec, ta, tl, tc, jts, kks, ees, tts⟩ oa oc D ∧ LN = (recStore ((rs.map RcM.p).take (k + 1))).over.length) := by
            show _ ∧ _
            have h8 := HIU.out.wrote HIZ.out HNO.out (r := ⟨1, site, num, key, value, ask, yes, zs⟩) HDt.out rfl HNt.out
            rw [HPn.out]
            exact ⟨h8.1, HLN.out.trans h8.2.symm⟩
          clear hWr bU sbU HIU HSt Hwf0 Hol HNO HDt HNt hmU HIZ hhas s0 s1 s2 s3 sz u0 u1 u2 u3 u4 u5 u6 u7 uz HP HR HPn HTx hkey HWf HL bV HV HRb zb hww hrb
          go_wp2
          go_roundw
          case rel => exact ⟨k + 1, ⟨ja, jl, jc, ka, kl, kc, ea, el, ec, ta, tl, tc, jts, kks, ees, tts⟩, oa, oc, D, by go_num, by omega, by rw [← HS2.out.2], HS2.out.1⟩
          case measure => simp [intOf]; omega
        · clear hdat
          by_cases hk2 : kind = 2 ∨ kind = 6
          · rcases hk2 with rfl | rfl
            · clear hk1
              have hEn := recEnd_any ⟨ia, il, ic, la, ll, lc, da, dl, dc, oa0, ol0, oc0, its, lks, dbs, ovs⟩ ⟨2, site, num, key, value, ask, yes, zs⟩ sa sl sc U HSt.out Hwf0.out Hol.out
              simp only [SV.val] at hEn
              go_upto_region 15 with (first | (at_lookup; refine wpList_lookup_own_ok_int _ rfl _ _ 76 rfl 51 3 .i64 txn_keyed Tryz.underlying76 Tryz.underlying3 (int_zero _) (w.heap.size + 2) LN _ rfl hmU _ _ rfl hkey ?_; intro c hcat hwc; rw [hhas]) | (go_at_call 28; refine hEn.mono ?_; rintro e Z ⟨⟨ja, jl, jc, ka, kl, kc, ea, el, ec, ta, tl, tc, jts, kks, ees, tts⟩, rfl, hNO, hd, hbZ⟩; simp only []; have hIZ := HIU.out.below hbZ; have zb0 := (hIZ.box.c 0 (by decide)).1; have zf0 := (hIZ.box.c 0 (by decide)).2; have zb1 := (hIZ.box.c 1 (by decide)).1; have zf1 := (hIZ.box.c 1 (by decide)).2; have zb2 := (hIZ.box.c 2 (by decide)).1; have zf2 := (hIZ.box.c 2 (by decide)).2; have zb3 := (hIZ.box.c 3 (by decide)).1; have zf3 := (hIZ.box.c 3 (by decide)).2; have zbz := hIZ.box.lt; simp only [List.getD_cons_zero, List.getD_cons_succ] at zb0 zb1 zb2 zb3; have HIZ : Hid (StIn (w.heap.size + 3) (w.heap.size + 1) (w.heap.size + 2) V Z P ⟨ia, il, ic, la, ll, lc, da, dl, dc, oa0, ol0, oc0, its, lks, dbs, ovs⟩ oa oc D) := hIZ; have HNO : Hid (OwnStore Z U.heap.size ⟨ja, jl, jc, ka, kl, kc, ea, el, ec, ta, tl, tc, jts, kks, ees, tts⟩) := hNO; have HDt : Hid (SV.data ⟨ja, jl, jc, ka, kl, kc, ea, el, ec, ta, tl, tc, jts, kks, ees, tts⟩ = _) := hd; clear hIZ hNO hd))
              obtain ⟨Y, hY⟩ : ∃ Y : World, Y = (((Z.setCell ⟨(w.heap.size + 1), 0, none⟩ (.slice ja jl jc)).setCell ⟨(w.heap.size + 1), 1, none⟩ (.slice ka kl kc)).setCell ⟨(w.heap.size + 1), 2, none⟩ (.slice ea el ec)).setCell ⟨(w.heap.size + 1), 3, none⟩ (.slice ta tl tc) := ⟨_, rfl⟩
              have HIY : Hid (StIn (w.heap.size + 3) (w.heap.size + 1) (w.heap.size + 2) V Y { ({ P with over := [] } : PS).en ⟨2, site, num, key, value, ask, yes, zs⟩ with over := P.over } ⟨ja, jl, jc, ka, kl, kc, ea, el, ec, ta, tl, tc, jts, kks, ees, tts⟩ oa oc D) := by
                have h8 := HIU.out.endd HIZ.out HNO.out (r := ⟨2, site, num, key, value, ask, yes, zs⟩) HDt.out
                rw [hY]
                exact h8
              have y1 : Y.cell? ⟨wr.heap.size, 1, none⟩ = some (.int .i64 site) := by
                rw [hY]
                exact cellPut4 ((hbZ.cell (p := ⟨wr.heap.size, 1, none⟩) uz).trans u1) (Nat.ne_of_gt zwd) _ _ _ _
              have y2 : Y.cell? ⟨wr.heap.size, 2, none⟩ = some (.int .i64 num) := by
                rw [hY]
                exact cellPut4 ((hbZ.cell (p := ⟨wr.heap.size, 2, none⟩) uz).trans u2) (Nat.ne_of_gt zwd) _ _ _ _
              have yz : wr.heap.size < Y.heap.size := by rw [hY]; exact sizePut4 (Nat.lt_of_lt_of_le uz hbZ.size) _ _ _ _
              have hmY : Y.ownsMap Tryz.prog 51 (plainElem Tryz.prog 3) (w.heap.size + 2) LN D := by
                rw [HLN.out]
                exact HIY.out.map
              have hwk : (Lit.int .i64 (LN : Int)).wf = true := WalkArith.wf_i64 (by omega)
              have hkm : LN < maxLen := by unfold maxLen; omega
              rw [← hY]
              clear hY zb0 zb1 zb2 zb3 zf0 zf1 zf2 zf3 zbz HIZ HNO HDt HIU HSt Hwf0 Hol hEn sbU bU ub s0 s1 s2 s3 sz u0 u1 u2 u3 u4 u5 u6 u7 uz hmU HR HWf bV HV HRb hrb hww zb HP HL
              go_upto_region 16 with (at_mapUpdate; refine wpList_mapUpdate_own _ rfl _ _ _ 76 rfl 51 3 txn_keyed Tryz.underlying76 _ (w.heap.size + 2) LN _ rfl hmY hkm _ _ _ rfl rfl hkey _ [] (plainElem_int Tryz.underlying3 hwk) ?_; intro T hmT hgT)
              have t1 : T.cell? ⟨wr.heap.size, 1, none⟩ = some (.int .i64 site) := hgT.cell y1 (fun e => Nat.ne_of_gt zwm (Option.some.inj e))
              have t2 : T.cell? ⟨wr.heap.size, 2, none⟩ = some (.int .i64 num) := hgT.cell y2 (fun e => Nat.ne_of_gt zwm (Option.some.inj e))
              obtain ⟨X, eX⟩ : ∃ X : World, X = (T.alloc (.cells #[.int .i64 site, .int .i64 num] 51)) := ⟨_, rfl⟩
              have bX : Below T.heap.size T X := by rw [eX]; exact ((Below.refl _ _).alloc (Nat.le_refl _) _)
              have hone : IsRow 2 txCells X (some ⟨T.heap.size, 0, none⟩) 1 1 [(site, num)] := by
                rw [eX]
                exact isTx_one T (site, num)
              have hsT : Y.heap.size ≤ T.heap.size := hgT.size
              have hownX : X.ownsRow (w.heap.size + 3) 51 2 (.slice oa LN oc) LN (flat txCells P.over) := by
                have h8 := own_below (HIY.out.over.kept hgT (ne_of_lt HIY.out.over (by omega))) bX
                rw [HLN.out]
                exact h8
              have hBX : (w.heap.size + 3) ≤ X.heap.size := Nat.le_trans HIY.out.lt.2.2 (Nat.le_trans hsT bX.size)
              have HLB : Hid ((LN + 1) * 16 ≤ 140737488355328) := by show (LN + 1) * 16 ≤ _; omega
              clear y1 y2 hmY hkm hwk
              go_upto_region 17 with (rw [← eX]; refine wpList_append_row E4 (by rfl) (.tmp 43) (.tmp 46) (by rfl) (w.heap.size + 3) (.slice oa LN oc) LN P.over (by rfl) hownX _ 1 1 [(site, num)] (by rfl) hone (by unfold maxLen; omega) (by exact HLB.out) hBX ?_; intro a5 c5 w5 own5 gr5 at5)
              have HS2 : Hid (StIn (w.heap.size + 3) (w.heap.size + 1) (w.heap.size + 2) V w5 (recStore ((rs.map RcM.p).take (k + 1))) ⟨ja, jl, jc, ka, kl, kc, ea, el, ec, ta, tl, tc, jts, kks, ees, tts⟩ a5 c5 (D.put l (DataW.lit (Lit.int IntKind.i64 (LN : Int)))) ∧ LN + 1 = (recStore ((rs.map RcM.p).take (k + 1))).over.length) := by
                have hst := step_en P ⟨2, site, num, key, value, ask, yes, zs⟩ (Or.inl rfl) HNt.out
                have hln := HLN.out
                have h7 := hmT
                generalize DataW.lit (Lit.int IntKind.i64 (LN : Int)) = ee at h7 ⊢
                subst hln
                have h8 := HIY.out.add (t := (site, num)) (l := l) HTx.out hkey (u := T) (v := X) (x := w5) h7 hgT bX own5 gr5 at5
                rw [HPn.out, hst]
                exact ⟨h8, by simp [RcP.tx]⟩
              clear HIY hgT hmT own5 gr5 at5 hownX hone bX HNt HPn HTx
              go_wp2
              go_roundw
              case rel => exact ⟨k + 1, ⟨ja, jl, jc, ka, kl, kc, ea, el, ec, ta, tl, tc, jts, kks, ees, tts⟩, a5, c5, D.put l (DataW.lit (Lit.int IntKind.i64 (LN : Int))), by go_num, by omega, by rw [← HS2.out.2], HS2.out.1⟩
              case measure => simp [intOf]; omega
            · clear hk1
              have hEn := recEnd_any ⟨ia, il, ic, la, ll, lc, da, dl, dc, oa0, ol0, oc0, its, lks, dbs, ovs⟩ ⟨6, site, num, key, value, ask, yes, zs⟩ sa sl sc U HSt.out Hwf0.out Hol.out
              simp only [SV.val] at hEn
              go_upto_region 15 with (first | (at_lookup; refine wpList_lookup_own_ok_int _ rfl _ _ 76 rfl 51 3 .i64 txn_keyed Tryz.underlying76 Tryz.underlying3 (int_zero _) (w.heap.size + 2) LN _ rfl hmU _ _ rfl hkey ?_; intro c hcat hwc; rw [hhas]) | (go_at_call 28; refine hEn.mono ?_; rintro e Z ⟨⟨ja, jl, jc, ka, kl, kc, ea, el, ec, ta, tl, tc, jts, kks, ees, tts⟩, rfl, hNO, hd, hbZ⟩; simp only []; have hIZ := HIU.out.below hbZ; have zb0 := (hIZ.box.c 0 (by decide)).1; have zf0 := (hIZ.box.c 0 (by decide)).2; have zb1 := (hIZ.box.c 1 (by decide)).1; have zf1 := (hIZ.box.c 1 (by decide)).2; have zb2 := (hIZ.box.c 2 (by decide)).1; have zf2 := (hIZ.box.c 2 (by decide)).2; have zb3 := (hIZ.box.c 3 (by decide)).1; have zf3 := (hIZ.box.c 3 (by decide)).2; have zbz := hIZ.box.lt; simp only [List.getD_cons_zero, List.getD_cons_succ] at zb0 zb1 zb2 zb3; have HIZ : Hid (StIn (w.heap.size + 3) (w.heap.size + 1) (w.heap.size + 2) V Z P ⟨ia, il, ic, la, ll, lc, da, dl, dc, oa0, ol0, oc0, its, lks, dbs, ovs⟩ oa oc D) := hIZ; have HNO : Hid (OwnStore Z U.heap.size ⟨ja, jl, jc, ka, kl, kc, ea, el, ec, ta, tl, tc, jts, kks, ees, tts⟩) := hNO; have HDt : Hid (SV.data ⟨ja, jl, jc, ka, kl, kc, ea, el, ec, ta, tl, tc, jts, kks, ees, tts⟩ = _) := hd; clear hIZ hNO hd))
              obtain ⟨Y, hY⟩ : ∃ Y : World, Y = (((Z.setCell ⟨(w.heap.size + 1), 0, none⟩ (.slice ja jl jc)).setCell ⟨(w.heap.size + 1), 1, none⟩ (.slice ka kl kc)).setCell ⟨(w.heap.size + 1), 2, none⟩ (.slice ea el ec)).setCell ⟨(w.heap.size + 1), 3, none⟩ (.slice ta tl tc) := ⟨_, rfl⟩
              have HIY : Hid (StIn (w.heap.size + 3) (w.heap.size + 1) (w.heap.size + 2) V Y { ({ P with over := [] } : PS).en ⟨6, site, num, key, value, ask, yes, zs⟩ with over := P.over } ⟨ja, jl, jc, ka, kl, kc, ea, el, ec, ta, tl, tc, jts, kks, ees, tts⟩ oa oc D) := by
                have h8 := HIU.out.endd HIZ.out HNO.out (r := ⟨6, site, num, key, value, ask, yes, zs⟩) HDt.out
                rw [hY]
                exact h8
              have y1 : Y.cell? ⟨wr.heap.size, 1, none⟩ = some (.int .i64 site) := by
                rw [hY]
                exact cellPut4 ((hbZ.cell (p := ⟨wr.heap.size, 1, none⟩) uz).trans u1) (Nat.ne_of_gt zwd) _ _ _ _
              have y2 : Y.cell? ⟨wr.heap.size, 2, none⟩ = some (.int .i64 num) := by
                rw [hY]
                exact cellPut4 ((hbZ.cell (p := ⟨wr.heap.size, 2, none⟩) uz).trans u2) (Nat.ne_of_gt zwd) _ _ _ _
              have yz : wr.heap.size < Y.heap.size := by rw [hY]; exact sizePut4 (Nat.lt_of_lt_of_le uz hbZ.size) _ _ _ _
              have hmY : Y.ownsMap Tryz.prog 51 (plainElem Tryz.prog 3) (w.heap.size + 2) LN D := by
                rw [HLN.out]
                exact HIY.out.map
              have hwk : (Lit.int .i64 (LN : Int)).wf = true := WalkArith.wf_i64 (by omega)
              have hkm : LN < maxLen := by unfold maxLen; omega
              rw [← hY]
              clear hY zb0 zb1 zb2 zb3 zf0 zf1 zf2 zf3 zbz HIZ HNO HDt HIU HSt Hwf0 Hol hEn sbU bU ub s0 s1 s2 s3 sz u0 u1 u2 u3 u4 u5 u6 u7 uz hmU HR HWf bV HV HRb hrb hww zb HP HL
              go_upto_region 16 with (at_mapUpdate; refine wpList_mapUpdate_own _ rfl _ _ _ 76 rfl 51 3 txn_keyed Tryz.underlying76 _ (w.heap.size + 2) LN _ rfl hmY hkm _ _ _ rfl rfl hkey _ [] (plainElem_int Tryz.underlying3 hwk) ?_; intro T hmT hgT)
              have t1 : T.cell? ⟨wr.heap.size, 1, none⟩ = some (.int .i64 site) := hgT.cell y1 (fun e => Nat.ne_of_gt zwm (Option.some.inj e))
              have t2 : T.cell? ⟨wr.heap.size, 2, none⟩ = some (.int .i64 num) := hgT.cell y2 (fun e => Nat.ne_of_gt zwm (Option.some.inj e))
              obtain ⟨X, eX⟩ : ∃ X : World, X = (T.alloc (.cells #[.int .i64 site, .int .i64 num] 51)) := ⟨_, rfl⟩
              have bX : Below T.heap.size T X := by rw [eX]; exact ((Below.refl _ _).alloc (Nat.le_refl _) _)
              have hone : IsRow 2 txCells X (some ⟨T.heap.size, 0, none⟩) 1 1 [(site, num)] := by
                rw [eX]
                exact isTx_one T (site, num)
              have hsT : Y.heap.size ≤ T.heap.size := hgT.size
              have hownX : X.ownsRow (w.heap.size + 3) 51 2 (.slice oa LN oc) LN (flat txCells P.over) := by
                have h8 := own_below (HIY.out.over.kept hgT (ne_of_lt HIY.out.over (by omega))) bX
                rw [HLN.out]
                exact h8
              have hBX : (w.heap.size + 3) ≤ X.heap.size := Nat.le_trans HIY.out.lt.2.2 (Nat.le_trans hsT bX.size)
              have HLB : Hid ((LN + 1) * 16 ≤ 140737488355328) := by show (LN + 1) * 16 ≤ _; omega
              clear y1 y2 hmY hkm hwk
              go_upto_region 17 with (rw [← eX]; refine wpList_append_row E4 (by rfl) (.tmp 43) (.tmp 46) (by rfl) (w.heap.size + 3) (.slice oa LN oc) LN P.over (by rfl) hownX _ 1 1 [(site, num)] (by rfl) hone (by unfold maxLen; omega) (by exact HLB.out) hBX ?_; intro a5 c5 w5 own5 gr5 at5)
              have HS2 : Hid (StIn (w.heap.size + 3) (w.heap.size + 1) (w.heap.size + 2) V w5 (recStore ((rs.map RcM.p).take (k + 1))) ⟨ja, jl, jc, ka, kl, kc, ea, el, ec, ta, tl, tc, jts, kks, ees, tts⟩ a5 c5 (D.put l (DataW.lit (Lit.int IntKind.i64 (LN : Int)))) ∧ LN + 1 = (recStore ((rs.map RcM.p).take (k + 1))).over.length) := by
                have hst := step_en P ⟨6, site, num, key, value, ask, yes, zs⟩ (Or.inr rfl) HNt.out
                have hln := HLN.out
                have h7 := hmT
                generalize DataW.lit (Lit.int IntKind.i64 (LN : Int)) = ee at h7 ⊢
                subst hln
                have h8 := HIY.out.add (t := (site, num)) (l := l) HTx.out hkey (u := T) (v := X) (x := w5) h7 hgT bX own5 gr5 at5
                rw [HPn.out, hst]
                exact ⟨h8, by simp [RcP.tx]⟩
              clear HIY hgT hmT own5 gr5 at5 hownX hone bX HNt HPn HTx
              go_wp2
              go_roundw
              case rel => exact ⟨k + 1, ⟨ja, jl, jc, ka, kl, kc, ea, el, ec, ta, tl, tc, jts, kks, ees, tts⟩, a5, c5, D.put l (DataW.lit (Lit.int IntKind.i64 (LN : Int))), by go_num, by omega, by rw [← HS2.out.2], HS2.out.1⟩
              case measure => simp [intOf]; omega
          · clear HSt Hwf0 Hol HNt
            have HS2 : Hid (StIn (w.heap.size + 3) (w.heap.size + 1) (w.heap.size + 2) V U (recStore ((rs.map RcM.p).take (k + 1))) ⟨ia, il, ic, la, ll, lc, da, dl, dc, oa0, ol0, oc0, its, lks, dbs, ovs⟩ oa oc D ∧ LN = (recStore ((rs.map RcM.p).take (k + 1))).over.length) := by
              show _ ∧ _
              rw [HPn.out, step_no P ⟨kind, site, num, key, value, ask, yes, zs⟩ hk1 hk2]
              exact ⟨HIU.out, HLN.out⟩
            have e1 : (kind == 1) = false := by simpa using hk1
            have e2 : (kind == 2) = false := by simpa using (fun h8 => hk2 (Or.inl h8))
            have e6 : (kind == 6) = false := by simpa using (fun h8 => hk2 (Or.inr h8))
            clear bU sbU HIU HP HR HPn HTx HWf HL bV HV HRb hww hrb hk1 hk2
            go_wp2_with (at_lookup; refine wpList_lookup_own_ok_int _ rfl _ _ 76 rfl 51 3 .i64 txn_keyed Tryz.underlying76 Tryz.underlying3 (int_zero _) (w.heap.size + 2) LN _ rfl hmU _ _ rfl hkey ?_; intro c hcat hwc; rw [hhas])
            go_roundw
            case rel => exact ⟨k + 1, ⟨ia, il, ic, la, ll, lc, da, dl, dc, oa0, ol0, oc0, its, lks, dbs, ovs⟩, oa, oc, D, by go_num, by omega, by rw [← HS2.out.2], HS2.out.1⟩
            case measure => simp [intOf]; omega
    · obtain rfl : k = n := by omega
      obtain ⟨ia, il, ic, la, ll, lc, da, dl, dc, oa0, ol0, oc0, its, lks, dbs, ovs⟩ := s
      have hb8 := hI.out.box
      have s0 : wr.cell? ⟨(w.heap.size + 1), 0, none⟩ = some (.slice ia il ic) := (hb8.c 0 (by decide)).1
      have sf0 : wr.frozen? ⟨(w.heap.size + 1), 0, none⟩ = false := (hb8.c 0 (by decide)).2
      have s1 : wr.cell? ⟨(w.heap.size + 1), 1, none⟩ = some (.slice la ll lc) := (hb8.c 1 (by decide)).1
      have sf1 : wr.frozen? ⟨(w.heap.size + 1), 1, none⟩ = false := (hb8.c 1 (by decide)).2
      have s2 : wr.cell? ⟨(w.heap.size + 1), 2, none⟩ = some (.slice da dl dc) := (hb8.c 2 (by decide)).1
      have sf2 : wr.frozen? ⟨(w.heap.size + 1), 2, none⟩ = false := (hb8.c 2 (by decide)).2
      have s3 : wr.cell? ⟨(w.heap.size + 1), 3, none⟩ = some (.slice oa0 ol0 oc0) := (hb8.c 3 (by decide)).1
      have sf3 : wr.frozen? ⟨(w.heap.size + 1), 3, none⟩ = false := (hb8.c 3 (by decide)).2
      have sz := hb8.lt
      have r0 : wr.cell? ⟨w.heap.size, 0, none⟩ = some (.slice none 0 0) := (hrb.c 0 (by decide)).1
      have rf0 : wr.frozen? ⟨w.heap.size, 0, none⟩ = false := (hrb.c 0 (by decide)).2
      have r1 : wr.cell? ⟨w.heap.size, 1, none⟩ = some (.slice none 0 0) := (hrb.c 1 (by decide)).1
      have rf1 : wr.frozen? ⟨w.heap.size, 1, none⟩ = false := (hrb.c 1 (by decide)).2
      have r2 : wr.cell? ⟨w.heap.size, 2, none⟩ = some (.slice none 0 0) := (hrb.c 2 (by decide)).1
      have rf2 : wr.frozen? ⟨w.heap.size, 2, none⟩ = false := (hrb.c 2 (by decide)).2
      have r3 : wr.cell? ⟨w.heap.size, 3, none⟩ = some (.slice none 0 0) := (hrb.c 3 (by decide)).1
      have rf3 : wr.frozen? ⟨w.heap.size, 3, none⟩ = false := (hrb.c 3 (by decide)).2
      have rz := hrb.lt
      have hlt := hI.out.lt
      have h8 := hI.out.done (r := w.heap.size) (A := w.heap.size) (by omega) (by omega) (.slice oa LN oc) (.slice ia il ic) (.slice la ll lc) (.slice da dl dc) (.slice oa LN oc)
      simp only at h8
      rw [← HLN.out] at h8
      have hPf : P = recStore (rs.map RcM.p) := by
        rw [HP.out, List.take_of_length_le (by rw [List.length_map, HL.out]; exact Nat.le_refl _)]
      rw [hPf] at h8
      have HD : Hid (IsOf w (((((wr.setCell ⟨(w.heap.size + 1), 3, none⟩ (.slice oa LN oc)).setCell ⟨w.heap.size, 0, none⟩ (.slice ia il ic)).setCell ⟨w.heap.size, 1, none⟩ (.slice la ll lc)).setCell ⟨w.heap.size, 2, none⟩ (.slice da dl dc)).setCell ⟨w.heap.size, 3, none⟩ (.slice oa LN oc)) (.returned (.agg #[.slice ia il ic, .slice la ll lc, .slice da dl dc, .slice oa LN oc])) (recStore (rs.map RcM.p))) :=
        ⟨_, rfl, h8.1, h8.2, ((((hww.setCell (by simp) _).setCell (by simp) _).setCell (by simp) _).setCell (by simp) _).setCell (by simp) _⟩
      clear hb8 hrb HRb HR HWf bV zV HV E4 h8 hPf hI HP HLN hww
      obtain ⟨F, hF⟩ : ∃ F : World, F = ((((wr.setCell ⟨(w.heap.size + 1), 3, none⟩ (.slice oa LN oc)).setCell ⟨w.heap.size, 0, none⟩ (.slice ia il ic)).setCell ⟨w.heap.size, 1, none⟩ (.slice la ll lc)).setCell ⟨w.heap.size, 2, none⟩ (.slice da dl dc)).setCell ⟨w.heap.size, 3, none⟩ (.slice oa LN oc) := ⟨_, rfl⟩
      have k0 : F.cell? ⟨w.heap.size, 0, none⟩ = some (.slice ia il ic) := by rw [hF]; go_simp
      have k1 : F.cell? ⟨w.heap.size, 1, none⟩ = some (.slice la ll lc) := by rw [hF]; go_simp
      have k2 : F.cell? ⟨w.heap.size, 2, none⟩ = some (.slice da dl dc) := by rw [hF]; go_simp
      have k3 : F.cell? ⟨w.heap.size, 3, none⟩ = some (.slice oa LN oc) := by rw [hF]; go_simp
      go_wp2
      rw [← hF] at HD ⊢
      clear hF
      refine bodyPost_ret (v := .agg #[.slice ia il ic, .slice la ll lc, .slice da dl dc, .slice oa LN oc]) (by simp [results, Tryz.results10, go_sem, k0, k1, k2, k3]) rfl HD.out
end Go.Proofs.YtekglahigjblkaaGreatDoor.St
