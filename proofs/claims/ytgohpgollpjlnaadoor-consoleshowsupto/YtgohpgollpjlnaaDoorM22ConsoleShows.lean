/- Texts of this claim, one behind the other. -/
import Derived.Test.YtgohpgollpjlnaaDoorShelf
import Derived.Test.YtgohpgollpjlnaaDoorA1ConsoleShows
import Derived.Test.YtgohpgollpjlnaaDoorM5ConsoleShows
import Derived.Shelf.Strings.BuilderK
import Derived.Lib.BufferKept
import Derived.Test.YtgohpgollpjlnaaDoorProg
import Derived.WalkKit
import Derived.ProofKit
import Derived.Below
import Derived.BigQuiet
import Derived.BigRegion
import Derived.RegionTactic
import Derived.Deep.RegionWith
import Derived.WalkSmall
import Derived.Test.YtgohpgollpjlnaaDoorM17ConsoleShows
import Derived.Test.YtgohpgollpjlnaaDoorM2ConsoleShows
import Derived.Test.YtgohpgollpjlnaaDoorM15ConsoleShows
import Derived.OwnWalk
import Derived.Deep.QuietTactic
import Derived.Lib.QuietBelow
import Derived.Deep.Cut
import Derived.Deep.DeepCutAuto
/- strings.Builder: what is written goes in behind; what else is there stays. -/
namespace Go.Proofs.YtgohpgollpjlnaaDoor.Cn
open Go.ChangeShapes Go.WideShapes Go.ChangeAt Go.RowKit
open Go.Proofs.YtgohpgollpjlnaaDoor.St (BoxN boxn_new)
set_option linter.unusedVariables false

/-- A builder in block b that holds these bytes. -/
def Bld (B b : Nat) (l : List UInt8) (w : World) : Prop := Lib.IsBuilderF 98 5 B b (Lib.byteCells l) w
def Kept (b : Nat) (w w' : World) : Prop := Lib.OthersKept 5 (some b) w w'
theorem str_cells (s : ByteArray) : Lib.strCells s = Lib.byteCells s.data.toList := by
  unfold Lib.strCells Lib.byteCells
  simp
theorem cells_app (l m : List UInt8) : Lib.byteCells l ++ Lib.byteCells m = Lib.byteCells (l ++ m) := by
  unfold Lib.byteCells
  simp
theorem cells_len (l : List UInt8) : (Lib.byteCells l).length = l.length := by
  unfold Lib.byteCells
  simp
theorem write_any (B b : Nat) (l : List UInt8) (s : ByteArray) (w : World) (h : Bld B b l w) (hlen : l.length + s.size ≤ 140737488355328) (hBw : B ≤ w.heap.size) :
    Calls Tryd.prog 48 #[.pointer (some ⟨b, 0, none⟩), .string s] w fun e w' => e = .returned (.tuple #[.int .i64 s.size, .nilIface]) ∧ Bld B b (l ++ s.data.toList) w' ∧ Below B w w' ∧ Kept b w w' := by
  refine (Any.Builder_WriteString_k (ρ := Tryd.lays156_ren) { Tryd.lays156 with } Tryd.Builder_Extra_156 B b (Lib.byteCells l) s w h (by rw [cells_len]; exact hlen) hBw).mono ?_
  rintro e w' ⟨rfl, h1, h2, h3⟩
  refine ⟨rfl, Or.inr ?_, h2, h3⟩
  rw [str_cells, cells_app] at h1
  exact h1
theorem string_any (B b : Nat) (l : List UInt8) (w : World) (h : Bld B b l w) (hBw : B ≤ w.heap.size) :
    Calls Tryd.prog 51 #[.pointer (some ⟨b, 0, none⟩)] w fun e w' => e = .returned (.string ⟨l.toArray⟩) ∧ Bld B b l w' ∧ Below B w w' ∧ Kept b w w' :=
  Tryd.Builder_String_any_k B b l w h hBw
theorem Bld.new (w : World) (B : Nat) (hB : B ≤ w.heap.size) : Bld B w.heap.size [] (w.alloc (.cells #[.pointer none, .slice none 0 0] 98)) :=
  Or.inl ⟨hB, .slice none 0 0, heap_alloc_new w _, World.ownsRowF_nil _ _ _ _, by simp [Value.ownBlock]⟩
theorem Bld.below {B b : Nat} {l : List UInt8} {w w' : World} (h : Bld B b l w) (hb : Below w.heap.size w w') : Bld B b l w' := by
  have key : ∀ p, Lib.BuilderAtF 98 5 B b p (Lib.byteCells l) w → Lib.BuilderAtF 98 5 B b p (Lib.byteCells l) w' := fun p h => by
    obtain ⟨h1, v, h2, h3, h4⟩ := h
    have hl : b < w.heap.size := by
      by_cases hh : b < w.heap.size
      · exact hh
      · rw [Array.getElem?_eq_none (by omega)] at h2; cases h2
    refine ⟨h1, v, (hb.block b hl).trans h2, h3.kept (row := none) ⟨hb.os, hb.tape, hb.output, hb.size, fun j hj _ => hb.block j hj⟩ ?_, h4⟩
    cases hv : v.ownBlock with
    | none => exact Or.inl rfl
    | some g => exact Or.inr (by simp)
  exact h.elim (fun x => Or.inl (key _ x)) (fun x => Or.inr (key _ x))
theorem Bld.lt {B b : Nat} {l : List UInt8} {w : World} (h : Bld B b l w) : b < w.heap.size := by
  rcases h with h | h <;> exact h.lt
/-- A block as it lies. -/
def ObAt (w : World) (q : Nat) (cs : Array Value) (T : TypeId) : Prop := w.heap[q]? = some (.cells cs T (0, 0))
theorem ObAt.new (w : World) (cs : Array Value) (T : TypeId) : ObAt (w.alloc (.cells cs T)) w.heap.size cs T := heap_alloc_new w _
theorem ObAt.lt {w : World} {q : Nat} {cs : Array Value} {T : TypeId} (h : ObAt w q cs T) : q < w.heap.size := (Array.getElem?_eq_some_iff.1 h).1
theorem ObAt.below {w w' : World} {q : Nat} {cs : Array Value} {T : TypeId} (h : ObAt w q cs T) (hb : Below w.heap.size w w') : ObAt w' q cs T := (hb.block q h.lt).trans h
theorem ObAt.kept {w w' : World} {b q : Nat} {cs : Array Value} {T : TypeId} (h : ObAt w q cs T) (hk : Kept b w w') (hq : q ≠ b) (hT : T ≠ 5) : ObAt w' q cs T :=
  hk q _ h (fun e => hq (Option.some.inj e)) (fun c fz e => by cases e; exact hT rfl)
theorem ObAt.cell {w : World} {q : Nat} {cs : Array Value} {T : TypeId} (h : ObAt w q cs T) (i : Nat) : w.cell? ⟨q, i, none⟩ = cs[i]? := cell_of_row w q i cs T (0, 0) h
end Go.Proofs.YtgohpgollpjlnaaDoor.Cn
/- The contract of bounds.Label, and what a place is. -/
namespace Go.Proofs.YtgohpgollpjlnaaDoor.Se
open Go.ChangeShapes Go.WideShapes Go.ChangeAt Go.RowKit

/-- Is it the place of one of so many? -/
def plc (l : Int) (n : Nat) : Bool := decide (0 ≤ l ∧ l < (n : Int))
theorem plc_true {l : Int} {n : Nat} (h : plc l n = true) : 0 ≤ l ∧ l < (n : Int) := by simpa [plc] using h
theorem plc_false {l : Int} {n : Nat} (h : plc l n = false) : l < 0 ∨ (n : Int) ≤ l := by simp [plc] at h; omega

def labAtI (ls : List (Int × Int)) (l : Int) : Int × Int := ls.getD l.toNat (0, 0)

theorem isPlace_any (s p : Int) (a : Option Addr) (len cap : Nat) (l : Int) (w : World) (hl : len ≤ maxLen) :
    Calls Tryd.prog 43 #[.agg #[.int .i64 s, .slice a len cap, .int .i64 p], .int .i64 l] w fun e w' => e = .returned (.bool (plc l len)) ∧ Below w.heap.size w w' := by
  have hA : Below w.heap.size w (w.alloc (.cells #[.int .i64 s, .slice a len cap, .int .i64 p] 32)) := (Below.refl _ _).alloc (Nat.le_refl _) _
  unfold maxLen at hl
  have h2 : (len : Int) ≤ 9223372036854775807 := by omega
  have e : plc l len = inR l 0 ((len : Int) - 1) := by unfold plc inR; rw [Bool.eq_iff_iff]; simp; omega
  rw [e]
  clear e
  go_enter Tryd.func43, Tryd.ntmps43
  go_wp2_with (go_at_call 78; refine (within_any _ _ _ _).mono ?_; rintro e w1 ⟨rfl, hu1⟩; rw [hu1]; clear hu1)
  go_ret
  exact ⟨rfl, hA⟩

end Go.Proofs.YtgohpgollpjlnaaDoor.Se
/- console's isPrepared and sees. -/
namespace Go.Proofs.YtgohpgollpjlnaaDoor.Cn
open Go.ChangeShapes Go.WideShapes Go.ChangeAt Go.RowKit
open Go.Proofs.YtgohpgollpjlnaaDoor.St (BoxN boxn_new SV IsStore IsRow storeOK TxWf cntErr cntIs writes_count isRow_nil)
set_option linter.unusedVariables false

def noOv (s : SV) : SV := { s with oa := none, ol := 0, oc := 0, over := [] }
theorem noOv_is {w : World} {s : SV} (h : IsStore w s) : IsStore w (noOv s) := ⟨h.items, h.locks, h.doubts, isRow_nil _ _ _⟩
/-- Has a transaction a lock that is a Write, in a store that may be? -/
def prepB (s : SV) (t : Int × Int) : Bool := decide (cntErr (noOv s) t = 0) && decide (0 < cntIs (noOv s) t)
set_option maxRecDepth 100000 in
set_option maxHeartbeats 2000000 in
theorem prep_any (s : SV) (t1 t2 : Int) (w : World) (h : IsStore w s) :
    Calls Tryd.prog 47 #[s.val, .agg #[.int .i64 t1, .int .i64 t2]] w fun e w' => e = .returned (.bool (prepB s (t1, t2))) ∧ Below w.heap.size w w' := by
  have HC : Hid (∀ W, Below w.heap.size w W → Calls Tryd.prog 18 #[(noOv s).val, .agg #[.int .i64 t1, .int .i64 t2]] W fun e w' => e = .returned (.tuple #[.int .i64 (cntIs (noOv s) (t1, t2)), .int .i64 (cntErr (noOv s) (t1, t2))]) ∧ Below W.heap.size W w') := fun W hb => writes_count (noOv s) (t1, t2) W (noOv_is (h.below hb)) (fun x hx => by cases hx)
  have HP : Hid (prepB s (t1, t2) = (decide (cntErr (noOv s) (t1, t2) = 0) && decide (0 < cntIs (noOv s) (t1, t2)))) := rfl
  obtain ⟨E, eE⟩ : ∃ E, E = cntErr (noOv s) (t1, t2) := ⟨_, rfl⟩
  obtain ⟨M, eM⟩ : ∃ M, M = cntIs (noOv s) (t1, t2) := ⟨_, rfl⟩
  obtain ⟨R, eR⟩ : ∃ R, R = prepB s (t1, t2) := ⟨_, rfl⟩
  rw [← eE, ← eM] at HC HP
  rw [← eR] at HP ⊢
  clear eE eM eR h
  obtain ⟨ia, il, ic, la, ll, lc, da, dl, dc, oa, ol, oc, items, locks, doubts, over⟩ := s
  simp only [SV.val, noOv] at *
  go_enter Tryd.func47, Tryd.ntmps47
  go_upto_region 2 with (fail)
  obtain ⟨W, hW⟩ : ∃ W : World, W = (w.alloc (.cells #[.slice ia il ic, .slice la ll lc, .slice da dl dc, .slice none 0 0] 55)).alloc (.cells #[.int .i64 t1, .int .i64 t2] 23) := ⟨_, rfl⟩
  rw [← hW]
  have oS : ObAt W w.heap.size #[.slice ia il ic, .slice la ll lc, .slice da dl dc, .slice none 0 0] 55 := by rw [hW]; exact (ObAt.new w _ _).below ((Below.refl _ _).alloc (Nat.le_refl _) _)
  have oT : ObAt W (w.heap.size + 1) #[.int .i64 t1, .int .i64 t2] 23 := by rw [hW]; have h8 := ObAt.new (w.alloc (.cells #[.slice ia il ic, .slice la ll lc, .slice da dl dc, .slice none 0 0] 55)) #[.int .i64 t1, .int .i64 t2] 23; simpa using h8
  have bW : Below w.heap.size w W := by rw [hW]; exact ((Below.refl _ _).alloc (Nat.le_refl _) _).alloc (by simp) _
  clear hW
  have c0 : W.cell? ⟨w.heap.size, 0, none⟩ = some (.slice ia il ic) := oS.cell 0
  have c1 : W.cell? ⟨w.heap.size, 1, none⟩ = some (.slice la ll lc) := oS.cell 1
  have c2 : W.cell? ⟨w.heap.size, 2, none⟩ = some (.slice da dl dc) := oS.cell 2
  have c3 : W.cell? ⟨w.heap.size, 3, none⟩ = some (.slice none 0 0) := oS.cell 3
  have d0 : W.cell? ⟨w.heap.size + 1, 0, none⟩ = some (.int .i64 t1) := oT.cell 0
  have d1 : W.cell? ⟨w.heap.size + 1, 1, none⟩ = some (.int .i64 t2) := oT.cell 1
  have z0 := oS.lt
  have z1 := oT.lt
  have HCW := HC.out W bW
  clear HC oS oT
  by_cases hE : E = 0
  · subst hE
    by_cases hM : 0 < M
    · have HR : Hid (R = true) := by show _ = _; rw [HP.out]; simp [hM]
      clear HP
      go_wp2_with (go_at_call 18; refine HCW.mono ?_; rintro e u ⟨rfl, hu⟩)
      go_ret
      exact ⟨ret_bool HR.out.symm, bW.trans (hu.mono bW.size)⟩
    · have HR : Hid (R = false) := by show _ = _; rw [HP.out]; simp [hM]
      clear HP
      go_wp2_with (go_at_call 18; refine HCW.mono ?_; rintro e u ⟨rfl, hu⟩)
      go_ret
      exact ⟨ret_bool (by rw [HR.out]; simpa using hM), bW.trans (hu.mono bW.size)⟩
  · have HR : Hid (R = false) := by show _ = _; rw [HP.out]; simp [hE]
    have hE2 : ((E : Int) == 0) = false := by simpa using hE
    clear HP hE
    go_wp2_with (go_at_call 18; refine HCW.mono ?_; rintro e u ⟨rfl, hu⟩)
    go_ret
    exact ⟨ret_bool HR.out.symm, bW.trans (hu.mono bW.size)⟩
/-- Is a place seen from a label? -/
def seesP (ls : List (Int × Int)) (l p : Int) : Bool := inR p 0 ((ls.length : Int) - 1) && abv (ls.getD l.toNat (0, 0)).1 (ls.getD l.toNat (0, 0)).2 (ls.getD p.toNat (0, 0)).1 (ls.getD p.toNat (0, 0)).2
theorem label_any (s q : Int) (a : Option Addr) (len cap : Nat) (l : Int) (w : World) (hl : len ≤ 6) :
    Calls Tryd.prog 43 #[.agg #[.int .i64 s, .slice a len cap, .int .i64 q], .int .i64 l] w fun e w' => e = .returned (.bool (inR l 0 ((len : Int) - 1))) ∧ Below w.heap.size w w' := by
  have hA : Below w.heap.size w (w.alloc (.cells #[.int .i64 s, .slice a len cap, .int .i64 q] 32)) := (Below.refl _ _).alloc (Nat.le_refl _) _
  have hw : IntKind.i64.wrap ((len : Int) - 1) = (len : Int) - 1 := by simp [IntKind.wrap, IntKind.bits, IntKind.signed]; omega
  go_enter Tryd.func43, Tryd.ntmps43
  go_wp2_with (go_at_call 78; refine (within_any _ _ _ _).mono ?_; rintro e w1 ⟨rfl, hu1⟩; rw [hu1]; clear hu1)
  go_ret
  exact ⟨rfl, hA⟩
set_option maxRecDepth 100000 in
set_option maxHeartbeats 2000000 in
theorem sees_any (s q : Int) (a : Option Addr) (len cap : Nat) (ls : List (Int × Int)) (l p : Int) (w : World) (hl : IsLabs w a len cap ls) (h6 : len ≤ 6) (hl0 : 0 ≤ l) (hl1 : l < (len : Int)) :
    Calls Tryd.prog 46 #[.agg #[.int .i64 s, .slice a len cap, .int .i64 q], .int .i64 l, .int .i64 p] w fun e w' => e = .returned (.bool (seesP ls l p)) ∧ Below w.heap.size w w' := by
  have hL := fun W => label_any s q a len cap p W h6
  obtain ⟨W, hW⟩ : ∃ W : World, W = w.alloc (.cells #[.int .i64 s, .slice a len cap, .int .i64 q] 32) := ⟨_, rfl⟩
  have oC : ObAt W w.heap.size #[.int .i64 s, .slice a len cap, .int .i64 q] 32 := by rw [hW]; exact ObAt.new w _ _
  have bW : Below w.heap.size w W := by rw [hW]; exact (Below.refl _ _).alloc (Nat.le_refl _) _
  obtain ⟨hlen, _, _, hlab⟩ := hl.below bW
  have HS : Hid (seesP ls l p = (inR p 0 ((len : Int) - 1) && abv (ls.getD l.toNat (0, 0)).1 (ls.getD l.toNat (0, 0)).2 (ls.getD p.toNat (0, 0)).1 (ls.getD p.toNat (0, 0)).2)) := by
    show _ = _
    unfold seesP
    rw [hlen]
  obtain ⟨R, eR⟩ : ∃ R, R = seesP ls l p := ⟨_, rfl⟩
  rw [← eR] at HS ⊢
  clear eR
  have c0 : W.cell? ⟨w.heap.size, 0, none⟩ = some (.int .i64 s) := oC.cell 0
  have c1 : W.cell? ⟨w.heap.size, 1, none⟩ = some (.slice a len cap) := oC.cell 1
  have c2 : W.cell? ⟨w.heap.size, 2, none⟩ = some (.int .i64 q) := oC.cell 2
  have zc := oC.lt
  have m0 := fun d os => cell_regrown c0 d os
  have m1 := fun d os => cell_regrown c1 d os
  have m2 := fun d os => cell_regrown c2 d os
  by_cases hp : 0 ≤ p ∧ p ≤ (len : Int) - 1
  · have ep : inR p 0 ((len : Int) - 1) = true := by unfold inR; simpa using hp
    rw [ep] at hL HS
    have cL : ∀ w', Calls Tryd.prog 43 #[.agg #[.int .i64 s, .slice a len cap, .int .i64 q], .int .i64 p] w' fun e w'' => e = .returned (.bool true) ∧ Below w'.heap.size w' w'' := hL
    obtain ⟨bk, off, hae, hL2⟩ := hlab (by omega)
    subst hae
    obtain ⟨i, rfl⟩ : ∃ i : Nat, l = i := ⟨l.toNat, by omega⟩
    obtain ⟨j, rfl⟩ : ∃ j : Nat, p = j := ⟨p.toNat, by omega⟩
    have hil : (i : Int) < (len : Int) := by omega
    have hjl : (j : Int) < (len : Int) := by omega
    simp only [Int.toNat_natCast] at HS
    obtain ⟨x, hx⟩ : ∃ x, x = ls.getD i (0, 0) := ⟨_, rfl⟩
    obtain ⟨y, hy⟩ : ∃ y, y = ls.getD j (0, 0) := ⟨_, rfl⟩
    have ri := hL2.2 i (by omega)
    have rj := hL2.2 j (by omega)
    rw [← hx] at ri HS
    rw [← hy] at rj HS
    obtain ⟨r0, r1⟩ := ri
    obtain ⟨r2, r3⟩ := rj
    have q0 := fun d os => cell_regrown r0 d os
    have q1 := fun d os => cell_regrown r1 d os
    have q2 := fun d os => cell_regrown r2 d os
    have q3 := fun d os => cell_regrown r3 d os
    have cA := fun w' => above_any x.1 x.2 y.1 y.2 w'
    obtain ⟨V, eV⟩ : ∃ V, V = abv x.1 x.2 y.1 y.2 := ⟨_, rfl⟩
    rw [← eV] at cA HS
    clear eV hx hy hlen hlab hL hp ep hl hl0 hl1 h6 oC
    cases V with
    | true =>
      have HR : Hid (R = true) := HS
      clear HS
      go_enter Tryd.func46, Tryd.ntmps46
      go_upto_region 1 with (fail)
      rw [← hW]
      clear hW
      refine wp_region_quiet_below (by kernel_rfl) (by kernel_rfl) ?_
      repeat (go_big_quiet_step (first | (go_at_call 43; exact Calls.regrown_of (cL _)) | (go_at_call 86; exact Calls.regrown_of (cA _))))
      refine wpQuiet_nil ?_
      intro _ hw'
      obtain ⟨⟨dq, osq⟩, hw''⟩ := hw'
      subst hw''
      have bQ := bW.trans ((below_regrown W dq osq).mono bW.size)
      go_wp2
      go_ret
      exact ⟨ret_bool HR.out.symm, bQ⟩
    | false =>
      have HR : Hid (R = false) := HS
      clear HS
      go_enter Tryd.func46, Tryd.ntmps46
      go_upto_region 1 with (fail)
      rw [← hW]
      clear hW
      refine wp_region_quiet_below (by kernel_rfl) (by kernel_rfl) ?_
      repeat (go_big_quiet_step (first | (go_at_call 43; exact Calls.regrown_of (cL _)) | (go_at_call 86; exact Calls.regrown_of (cA _))))
      refine wpQuiet_nil ?_
      intro _ hw'
      obtain ⟨⟨dq, osq⟩, hw''⟩ := hw'
      subst hw''
      have bQ := bW.trans ((below_regrown W dq osq).mono bW.size)
      go_wp2
      go_ret
      exact ⟨ret_bool HR.out.symm, bQ⟩
  · have ep : inR p 0 ((len : Int) - 1) = false := by unfold inR; simp only [decide_eq_false_iff_not]; exact hp
    rw [ep] at hL HS
    have cL : ∀ w', Calls Tryd.prog 43 #[.agg #[.int .i64 s, .slice a len cap, .int .i64 q], .int .i64 p] w' fun e w'' => e = .returned (.bool false) ∧ Below w'.heap.size w' w'' := hL
    have HR : Hid (R = false) := HS
    clear HS hlen hlab hL hp ep hl hl0 hl1 h6 oC
    go_enter Tryd.func46, Tryd.ntmps46
    go_upto_region 1 with (fail)
    rw [← hW]
    clear hW
    refine wp_region_quiet_below (by kernel_rfl) (by kernel_rfl) ?_
    repeat (go_big_quiet_step ((go_at_call 43; exact Calls.regrown_of (cL _))))
    refine wpQuiet_nil ?_
    intro _ hw'
    obtain ⟨⟨dq, osq⟩, hw''⟩ := hw'
    subst hw''
    have bQ := bW.trans ((below_regrown W dq osq).mono bW.size)
    go_wp2
    go_ret
    exact ⟨ret_bool HR.out.symm, bQ⟩
end Go.Proofs.YtgohpgollpjlnaaDoor.Cn
