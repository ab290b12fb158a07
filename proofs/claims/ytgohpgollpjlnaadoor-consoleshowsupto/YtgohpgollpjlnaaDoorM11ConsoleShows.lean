/- Texts of this claim, one behind the other. -/
import Derived.Test.YtgohpgollpjlnaaDoorM4ConsoleShows
import Derived.Test.YtgohpgollpjlnaaDoorM6ConsoleShows
import Derived.Test.YtgohpgollpjlnaaDoorM9ConsoleShows
import Derived.Test.YtgohpgollpjlnaaDoorM10ConsoleShows
import Derived.Deep.Cut
/- What part asks of a config and of stores: contracts of bounds.Site, bounds.Label and labelMay, of part.refuse and of the document's siteFault. -/
namespace Go.Proofs.YtgohpgollpjlnaaDoor.Pt
open Go.ChangeShapes Go.WideShapes Go.ChangeAt Go.RowKit
open Go.Proofs.YtgohpgollpjlnaaDoor.St (SV IsStore IsRow storeOK TxWf)
set_option linter.unusedVariables false

def plc (l : Int) (n : Nat) : Bool := decide (0 ≤ l ∧ l < (n : Int))
theorem plc_true {l : Int} {n : Nat} (h : plc l n = true) : 0 ≤ l ∧ l < (n : Int) := by simpa [plc] using h
theorem plc_in (l : Int) (len : Nat) : plc l len = inR l 0 ((len : Int) - 1) := by unfold plc inR; rw [Bool.eq_iff_iff]; simp; omega
theorem place_any (s p : Int) (a : Option Addr) (len cap : Nat) (l : Int) (w : World) (hl : len ≤ 6) :
    Calls Tryd.prog 43 #[.agg #[.int .i64 s, .slice a len cap, .int .i64 p], .int .i64 l] w fun e w' => e = .returned (.bool (plc l len)) ∧ Below w.heap.size w w' := by
  have hA : Below w.heap.size w (w.alloc (.cells #[.int .i64 s, .slice a len cap, .int .i64 p] 32)) := (Below.refl _ _).alloc (Nat.le_refl _) _
  have h2 : (len : Int) ≤ 6 := by omega
  rw [plc_in]
  go_enter Tryd.func43, Tryd.ntmps43
  go_wp2_with (go_at_call 78; refine (within_any _ _ _ _).mono ?_; rintro e w1 ⟨rfl, hu1⟩; rw [hu1]; clear hu1)
  go_ret
  exact ⟨rfl, hA⟩
theorem labelMay_any (s p : Int) (a : Option Addr) (len cap : Nat) (l : Int) (w : World) (hl : len ≤ 6) :
    Calls Tryd.prog 28 #[.agg #[.int .i64 s, .slice a len cap, .int .i64 p], .int .i64 l] w fun e w' => e = .returned (.bool (plc l len)) ∧ Below w.heap.size w w' := by
  have hA : Below w.heap.size w (w.alloc (.cells #[.int .i64 s, .slice a len cap, .int .i64 p] 32)) := (Below.refl _ _).alloc (Nat.le_refl _) _
  have h2 : (len : Int) ≤ 6 := by omega
  rw [plc_in]
  go_enter Tryd.func28, Tryd.ntmps28
  go_wp2_with (go_at_call 53; refine (in_any _ _ _ _).mono ?_; rintro e w1 ⟨rfl, hu1⟩; rw [hu1]; clear hu1)
  go_ret
  exact ⟨rfl, hA⟩

instance : Inhabited SV := ⟨SV.nil⟩
/-- Stores, one behind the other, each four slices. -/
structure IsStores (w : World) (a : Option Addr) (n cap : Nat) (ss : List SV) : Prop where
  row : IsRow 4 SV.box w a n cap ss
  each : ∀ i, i < n → IsStore w (ss.getD i default) ∧ ∀ t ∈ (ss.getD i default).over, TxWf t
theorem IsStores.below {w w' : World} {a : Option Addr} {n cap : Nat} {ss : List SV} (h : IsStores w a n cap ss) (hb : Below w.heap.size w w') : IsStores w' a n cap ss :=
  ⟨h.row.below hb, fun i hi => ⟨(h.each i hi).1.below hb, (h.each i hi).2⟩⟩
theorem IsStores.at {w : World} {a : Option Addr} {n cap : Nat} {ss : List SV} (h : IsStores w a n cap ss) {k : Nat} (hk : k < n) : ∃ b off, a = some ⟨b, off, none⟩ ∧ b < w.heap.size ∧ w.cell? ⟨b, off + k * 4, none⟩ = some (.slice (ss.getD k default).ia (ss.getD k default).il (ss.getD k default).ic) ∧ w.cell? ⟨b, off + k * 4 + 1, none⟩ = some (.slice (ss.getD k default).la (ss.getD k default).ll (ss.getD k default).lc) ∧ w.cell? ⟨b, off + k * 4 + 2, none⟩ = some (.slice (ss.getD k default).da (ss.getD k default).dl (ss.getD k default).dc) ∧ w.cell? ⟨b, off + k * 4 + 3, none⟩ = some (.slice (ss.getD k default).oa (ss.getD k default).ol (ss.getD k default).oc) := by
  obtain ⟨b, off, e, hl, hc⟩ := h.row.2.2.2.2 (by omega)
  exact ⟨b, off, e, hl, hc k hk 0 (by decide), hc k hk 1 (by decide), hc k hk 2 (by decide), hc k hk 3 (by decide)⟩

def siteErr (s : Int) (ls : List (Int × Int)) (p l me : Int) (n : Nat) (ss : List SV) : Int :=
  if cfgFault s ls p = 0 then (if plc l ls.length then (if inR me 0 (s - 1) then (if n = ls.length then (if ss.all storeOK then 0 else 9) else 9) else 2) else 6) else cfgFault s ls p
theorem all_at {ss : List SV} {k : Nat} (hk : k < ss.length) : (ss.take (k + 1)).all storeOK = ((ss.take k).all storeOK && storeOK (ss.getD k default)) := by
  rw [St.take_at hk, List.all_append]
  simp
theorem all_not {ss : List SV} {k : Nat} (hk : k < ss.length) (h : storeOK (ss.getD k default) = false) : ss.all storeOK = false := by
  rw [List.all_eq_false]
  exact ⟨ss.getD k default, by simp [List.getD, hk], fun e => by rw [h] at e; cases e⟩

end Go.Proofs.YtgohpgollpjlnaaDoor.Pt
/- How a call that is handed a store and answers one begins: a box for the store, a box for the answer. -/
namespace Go.Proofs.YtgohpgollpjlnaaDoor.St
open Go.ChangeShapes Go.WideShapes Go.ChangeAt Go.RowKit
set_option linter.unusedVariables false

structure Pre (w W : World) (s : SV) : Prop where
  bel : Below w.heap.size w W
  sz : W.heap.size = w.heap.size + 2
  st : IsStore W s
  par : BoxN W w.heap.size 4 s.box
  res : BoxN W (w.heap.size + 1) 4 SV.nil.box
theorem pre_of (w : World) (s : SV) (h : IsStore w s) : Pre w ((w.alloc (.cells #[.slice s.ia s.il s.ic, .slice s.la s.ll s.lc, .slice s.da s.dl s.dc, .slice s.oa s.ol s.oc] 55)).alloc (.cells #[.slice none 0 0, .slice none 0 0, .slice none 0 0, .slice none 0 0] 55)) s := by
  have h1 : Below w.heap.size w (w.alloc (.cells #[.slice s.ia s.il s.ic, .slice s.la s.ll s.lc, .slice s.da s.dl s.dc, .slice s.oa s.ol s.oc] 55)) := (Below.refl _ _).alloc (Nat.le_refl _) _
  have h2 : Below w.heap.size w ((w.alloc (.cells #[.slice s.ia s.il s.ic, .slice s.la s.ll s.lc, .slice s.da s.dl s.dc, .slice s.oa s.ol s.oc] 55)).alloc (.cells #[.slice none 0 0, .slice none 0 0, .slice none 0 0, .slice none 0 0] 55)) := h1.alloc (by simp) _
  have b1 := boxn_new w #[.slice s.ia s.il s.ic, .slice s.la s.ll s.lc, .slice s.da s.dl s.dc, .slice s.oa s.ol s.oc] 55 4 rfl
  have b2 := boxn_new (w.alloc (.cells #[.slice s.ia s.il s.ic, .slice s.la s.ll s.lc, .slice s.da s.dl s.dc, .slice s.oa s.ol s.oc] 55)) #[.slice none 0 0, .slice none 0 0, .slice none 0 0, .slice none 0 0] 55 4 rfl
  refine ⟨h2, by simp, h.below h2, ?_, by simpa [SV.nil, SV.box] using b2⟩
  refine b1.below (B := (w.alloc (.cells #[.slice s.ia s.il s.ic, .slice s.la s.ll s.lc, .slice s.da s.dl s.dc, .slice s.oa s.ol s.oc] 55)).heap.size) ((Below.refl _ _).alloc (Nat.le_refl _) _) (by simp)
theorem Pre.z0 {w W : World} {s : SV} (h : Pre w W s) : w.heap.size < W.heap.size := by have := h.sz; omega
theorem Pre.z1 {w W : World} {s : SV} (h : Pre w W s) : w.heap.size + 1 < W.heap.size := by have := h.sz; omega
theorem Pre.cells {w W : World} {s : SV} (h : Pre w W s) (U : World) (hU : Below W.heap.size W U) : U.cell? ⟨w.heap.size, 0, none⟩ = some (.slice s.ia s.il s.ic) ∧ U.cell? ⟨w.heap.size, 1, none⟩ = some (.slice s.la s.ll s.lc) ∧ U.cell? ⟨w.heap.size, 2, none⟩ = some (.slice s.da s.dl s.dc) ∧ U.cell? ⟨w.heap.size, 3, none⟩ = some (.slice s.oa s.ol s.oc) := by
  have hp := h.par.below hU h.z0
  exact ⟨(hp.c 0 (by decide)).1, (hp.c 1 (by decide)).1, (hp.c 2 (by decide)).1, (hp.c 3 (by decide)).1⟩
theorem Pre.out {w W : World} {s : SV} (h : Pre w W s) (U : World) (hU : Below W.heap.size W U) : (w.heap.size + 1 < U.heap.size ∧ U.cell? ⟨w.heap.size + 1, 0, none⟩ = some (.slice none 0 0) ∧ U.cell? ⟨w.heap.size + 1, 1, none⟩ = some (.slice none 0 0) ∧ U.cell? ⟨w.heap.size + 1, 2, none⟩ = some (.slice none 0 0) ∧ U.cell? ⟨w.heap.size + 1, 3, none⟩ = some (.slice none 0 0)) ∧ U.frozen? ⟨w.heap.size + 1, 0, none⟩ = false ∧ U.frozen? ⟨w.heap.size + 1, 1, none⟩ = false ∧ U.frozen? ⟨w.heap.size + 1, 2, none⟩ = false ∧ U.frozen? ⟨w.heap.size + 1, 3, none⟩ = false := by
  have hp := h.res.below hU h.z1
  exact ⟨⟨hp.lt, (hp.c 0 (by decide)).1, (hp.c 1 (by decide)).1, (hp.c 2 (by decide)).1, (hp.c 3 (by decide)).1⟩, (hp.c 0 (by decide)).2, (hp.c 1 (by decide)).2, (hp.c 2 (by decide)).2, (hp.c 3 (by decide)).2⟩
theorem Pre.below {w W U : World} {s : SV} (h : Pre w W s) (hU : Below W.heap.size W U) : Below w.heap.size w U := h.bel.trans (hU.mono h.bel.size)
/-- What is told to the answer's box. -/
theorem Pre.done {w W U : World} {s r : SV} (h : Pre w W s) (hU : Below W.heap.size W U) (hr : IsStore U r) (hn : ∀ b off, (r.ia = some ⟨b, off, none⟩ ∧ 0 < r.il) ∨ (r.la = some ⟨b, off, none⟩ ∧ 0 < r.ll) ∨ (r.da = some ⟨b, off, none⟩ ∧ 0 < r.dl) ∨ (r.oa = some ⟨b, off, none⟩ ∧ 0 < r.ol) → b ≠ w.heap.size + 1) (p0 p1 p2 p3 : Value) :
    IsStore ((((U.setCell ⟨w.heap.size + 1, 0, none⟩ p0).setCell ⟨w.heap.size + 1, 1, none⟩ p1).setCell ⟨w.heap.size + 1, 2, none⟩ p2).setCell ⟨w.heap.size + 1, 3, none⟩ p3) r ∧ Below w.heap.size w ((((U.setCell ⟨w.heap.size + 1, 0, none⟩ p0).setCell ⟨w.heap.size + 1, 1, none⟩ p1).setCell ⟨w.heap.size + 1, 2, none⟩ p2).setCell ⟨w.heap.size + 1, 3, none⟩ p3) := by
  have far : ∀ {α : Type} [Inhabited α] {k : Nat} {cells : α → List Value} {U : World} {a : Option Addr} {n c : Nat} {xs : List α} (j : Nat) (v : Value), (∀ b off, a = some ⟨b, off, none⟩ ∧ 0 < n → b ≠ w.heap.size + 1) → IsRow k cells U a n c xs → IsRow k cells (U.setCell ⟨w.heap.size + 1, j, none⟩ v) a n c xs := by
    intro α _ k cells U a n c xs j v hne hR
    obtain ⟨r1, r2, r3, r4, r5⟩ := hR
    refine ⟨r1, r2, r3, r4, fun hp => ?_⟩
    obtain ⟨b, off, e, hl, hc⟩ := r5 hp
    refine ⟨b, off, e, by simpa using hl, fun i hi q hq => ?_⟩
    rw [World.cell?_of_block (a := ⟨b, off + i * k + q, none⟩) (Below.heap_setCell U ⟨w.heap.size + 1, j, none⟩ v b (hne b off ⟨e, hp⟩))]
    exact hc i hi q hq
  have n1 := fun b off (q : r.ia = some ⟨b, off, none⟩ ∧ 0 < r.il) => hn b off (.inl q)
  have n2 := fun b off (q : r.la = some ⟨b, off, none⟩ ∧ 0 < r.ll) => hn b off (.inr (.inl q))
  have n3 := fun b off (q : r.da = some ⟨b, off, none⟩ ∧ 0 < r.dl) => hn b off (.inr (.inr (.inl q)))
  have n4 := fun b off (q : r.oa = some ⟨b, off, none⟩ ∧ 0 < r.ol) => hn b off (.inr (.inr (.inr q)))
  refine ⟨⟨far 3 _ n1 (far 2 _ n1 (far 1 _ n1 (far 0 _ n1 hr.items))), far 3 _ n2 (far 2 _ n2 (far 1 _ n2 (far 0 _ n2 hr.locks))), far 3 _ n3 (far 2 _ n3 (far 1 _ n3 (far 0 _ n3 hr.doubts))), far 3 _ n4 (far 2 _ n4 (far 1 _ n4 (far 0 _ n4 hr.over)))⟩, ?_⟩
  refine Below.setCell (Below.setCell (Below.setCell (Below.setCell (h.below hU) ?_ _) ?_ _) ?_ _) ?_ _
  all_goals exact Nat.le_succ _
/-- The same of a store that was made behind the two boxes. -/
theorem Pre.made {w W U : World} {s r : SV} {m : Nat} (h : Pre w W s) (hM : Made W U W.heap.size m r) (p0 p1 p2 p3 : Value) :
    IsStore ((((U.setCell ⟨w.heap.size + 1, 0, none⟩ p0).setCell ⟨w.heap.size + 1, 1, none⟩ p1).setCell ⟨w.heap.size + 1, 2, none⟩ p2).setCell ⟨w.heap.size + 1, 3, none⟩ p3) r ∧ OwnStore ((((U.setCell ⟨w.heap.size + 1, 0, none⟩ p0).setCell ⟨w.heap.size + 1, 1, none⟩ p1).setCell ⟨w.heap.size + 1, 2, none⟩ p2).setCell ⟨w.heap.size + 1, 3, none⟩ p3) w.heap.size r ∧ Below w.heap.size w ((((U.setCell ⟨w.heap.size + 1, 0, none⟩ p0).setCell ⟨w.heap.size + 1, 1, none⟩ p1).setCell ⟨w.heap.size + 1, 2, none⟩ p2).setCell ⟨w.heap.size + 1, 3, none⟩ p3) := by
  have z1 := h.z1
  have ho : OwnStore ((((U.setCell ⟨w.heap.size + 1, 0, none⟩ p0).setCell ⟨w.heap.size + 1, 1, none⟩ p1).setCell ⟨w.heap.size + 1, 2, none⟩ p2).setCell ⟨w.heap.size + 1, 3, none⟩ p3) W.heap.size r :=
    (((hM.own.box (p := ⟨w.heap.size + 1, 0, none⟩) z1 p0).box (p := ⟨w.heap.size + 1, 1, none⟩) z1 p1).box (p := ⟨w.heap.size + 1, 2, none⟩) z1 p2).box (p := ⟨w.heap.size + 1, 3, none⟩) z1 p3
  refine ⟨ho.isStore, ho.base h.bel.size, ?_⟩
  refine Below.setCell (Below.setCell (Below.setCell (Below.setCell (h.below hM.bel) ?_ _) ?_ _) ?_ _) ?_ _
  all_goals exact Nat.le_succ _
end Go.Proofs.YtgohpgollpjlnaaDoor.St
/- Contracts of sameTxns and sameStore: at the same data they return true, and leave what was in memory. -/
namespace Go.Proofs.YtgohpgollpjlnaaDoor.St
open Go.ChangeShapes Go.WideShapes Go.ChangeAt Go.RowKit
set_option linter.unusedVariables false

end Go.Proofs.YtgohpgollpjlnaaDoor.St
