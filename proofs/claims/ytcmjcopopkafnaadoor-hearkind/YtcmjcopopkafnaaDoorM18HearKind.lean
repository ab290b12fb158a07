/- Texts of this claim, one behind the other. -/
import Derived.Test.YtcmjcopopkafnaaDoorM17HearKind
import Derived.Test.YtcmjcopopkafnaaDoorM15HearKind
import Derived.Test.YtcmjcopopkafnaaDoorM10HearKind
import Derived.Deep.RegionWith
import Derived.Test.YtcmjcopopkafnaaDoorM16HearKind
import Derived.Test.YtcmjcopopkafnaaDoorM8HearKind
/- What store.End makes of a store, on plain data; a list of items put in another's place, wherever it lies. -/
namespace Go.Proofs.YtcmjcopopkafnaaDoor.St
open Go.ChangeShapes Go.WideShapes Go.ChangeAt Go.RowKit
set_option linter.unusedVariables false

def putAll (its : List ItV) (l : List LkV) : List ItV := l.foldl (fun a k => putI k.key k.value a) its
def endErr (s : SV) (t : Int × Int) (yes : Bool) : Int := if storeOK s then (if txOK t then 0 else 2) else 9
def endData (s : SV) (t : Int × Int) (yes : Bool) : PS := if endErr s t yes = 0 then ⟨if yes then putAll s.items (s.locks.filter (wOf t)) else s.items, keep (ofT t) s.locks, keep (dbT t) s.doubts, if t ∈ s.over then s.over else s.over ++ [t]⟩ else PS.nil
theorem put_bd (key value : Int) {v : Int} (h0 : 1 ≤ v) : ∀ (xs : List ItV), (∀ y ∈ xs, 0 ≤ y.version ∧ y.version ≤ v) → (putI key value xs).length ≤ xs.length + 1 ∧ ∀ y ∈ putI key value xs, 0 ≤ y.version ∧ y.version ≤ v + 1
  | [], _ => by simp [putI]; omega
  | x :: r, h => by
    have hx := h x (by simp)
    have hr : ∀ y ∈ r, 0 ≤ y.version ∧ y.version ≤ v := fun y hy => h y (by simp [hy])
    rw [putI]
    split
    · refine ⟨by simp, fun y hy => ?_⟩
      rcases List.mem_cons.1 hy with rfl | hy
      · simp; omega
      · have := hr y hy; omega
    · split
      · refine ⟨by simp, fun y hy => ?_⟩
        rcases List.mem_cons.1 hy with rfl | hy
        · simp; omega
        · rcases List.mem_cons.1 hy with rfl | hy
          · omega
          · have := hr y hy; omega
      · obtain ⟨q1, q2⟩ := put_bd key value h0 r hr
        refine ⟨by simp only [List.length_cons]; omega, fun y hy => ?_⟩
        rcases List.mem_cons.1 hy with rfl | hy
        · omega
        · exact q2 y hy
theorem putAll_at {its : List ItV} {l : List LkV} {k : Nat} (hk : k < l.length) : putAll its (l.take (k + 1)) = putI (l.getD k default).key (l.getD k default).value (putAll its (l.take k)) := by
  unfold putAll
  rw [take_at hk, List.foldl_append]
  rfl
/-- Another list of items, wherever it lies. -/
theorem Made.putg_items {W w w5 : World} {C m : Nat} {r : SV} (h : Made W w C m r) {a : Option Addr} {n c : Nat} {xs : List ItV} (hg : w.grownBy w5 (Value.slice r.ia r.il r.ic).ownBlock) (hown : w5.ownsRow C 105 3 (.slice a n c) n (flat ItV.cells xs))
    (hat : ∀ q, (Value.slice a n c).ownBlock = some q → (Value.slice r.ia r.il r.ic).ownBlock = some q ∨ w.heap.size ≤ q) :
    w5.cell? ⟨m, 0, none⟩ = some (Value.slice r.ia r.il r.ic) ∧ w5.frozen? ⟨m, 0, none⟩ = false ∧ Made W (w5.setCell ⟨m, 0, none⟩ (.slice a n c)) C m { r with ia := a, il := n, ic := c, items := xs } := by
  have hb5 : BoxN w5 m 4 r.box := h.box.grown hg (fun e => h.far_i e.symm)
  have o5 := h.own.put_items hg hown hat
  have hfar : (Value.slice a n c).ownBlock ≠ some m := by
    intro e
    rcases hat m e with e2 | e2
    · exact h.far_i e2
    · have := h.box.lt; omega
  have bel5 : Below C W w5 := h.bel.grown hg h.sz (fun q hq => (h.own.items.lt q hq).1)
  have gs := grown_setCell w5 ⟨m, 0, none⟩ (.slice a n c)
  refine ⟨(hb5.c 0 (by decide)).1, (hb5.c 0 (by decide)).2, ?_⟩
  exact ⟨⟨o5.items.kept gs (.inr hfar), o5.locks.kept gs (.inr h.far_l), o5.doubts.kept gs (.inr h.far_d), o5.over.kept gs (.inr h.far_o), o5.ap_il, o5.ap_id, o5.ap_io, o5.ap_ld, o5.ap_lo, o5.ap_do⟩, hb5.set 0 (by decide) _, hfar, h.far_l, h.far_d, h.far_o, h.le, bel5.setCell (p := ⟨m, 0, none⟩) h.le _⟩
end Go.Proofs.YtcmjcopopkafnaaDoor.St
/- What forcing makes of a site's label, on plain data; copies of notes. -/
namespace Go.Proofs.YtcmjcopopkafnaaDoor.Pt
open Go.ChangeShapes Go.WideShapes Go.ChangeAt Go.RowKit
open Go.Proofs.YtcmjcopopkafnaaDoor.St (SV PS IsStore IsRow storeOK TxWf BoxN boxn_new OwnStore flat flat_append Elem isOne grown_setCell own_below own_isRow isRow_nil cntErr cntIs endErr endData txOK)
set_option linter.unusedVariables false

def forceErr (s : Int) (ls : List (Int × Int)) (p l me : Int) (n : Nat) (ss : List SV) (nn : Nat) (t : Int × Int) : Int :=
  if siteErr s ls p l me n ss = 0 then (if cntErr (ss.getD l.toNat default) t = 0 then (if cntIs (ss.getD l.toNat default) t = 0 then 6 else if 60 ≤ nn then 8 else 0) else cntErr (ss.getD l.toNat default) t) else siteErr s ls p l me n ss
def forceD (s : Int) (ls : List (Int × Int)) (p l me : Int) (n : Nat) (ss : List SV) (nn : Nat) (ns : List NV) (t : Int × Int) (yes : Bool) : AD :=
  if forceErr s ls p l me n ss nn t = 0 then ⟨endData (ss.getD l.toNat default) t yes, [], [⟨6, t.1, t.2, 0, 0, 0, yes⟩], ns ++ [⟨t.1, t.2, yes, false⟩]⟩ else AD.nil
theorem ntInfo : (Tryd.prog.info? 145).map (fun i => (i.zero, i.size, i.bytes)) = some (some (.agg #[.int .i64 0, .int .i64 0, .bool false, .bool false]), 4, 24) := by kernel_rfl
theorem ntElem : ∃ i, Elem 4 NV.cells 145 46 i (.agg #[.int .i64 0, .int .i64 0, .bool false, .bool false]) 24 := by
  obtain ⟨j0, hj, lj0, lj1, lj2⟩ := info_parts ntInfo
  exact ⟨j0, ncells_len, by decide, ncells_one, Tryd.underlying46, hj, lj0, lj1, lj2, rfl⟩
theorem grownN {w w' : World} (h : w.grownBy w' none) : Below w.heap.size w w' := (Below.refl w.heap.size w).grown h (Nat.le_refl _) (fun k hk => by cases hk)
/-- Notes in memory of the call's own. -/
def NotesNew (w w' : World) (e : Ending) (n : Nat) (ns : List NV) : Prop :=
  ∃ a' cap', e = .returned (.slice a' n cap') ∧ w'.ownsRow w.heap.size 145 4 (.slice a' n cap') n (flat NV.cells ns) ∧ Below w.heap.size w w'
theorem freshNotes_any (a : Option Addr) (n cap : Nat) (ns : List NV) (w : World) (h : IsNotes w a n cap ns) (hn : n * 24 ≤ 140737488351232) :
    Calls Tryd.prog 26 #[.slice a n cap] w fun e w' => NotesNew w w' e n ns := by
  obtain ⟨iN, EN⟩ := ntElem
  go_enter Tryd.func26, Tryd.ntmps26
  go_wp2_with (at_builtin; go_loud (refine St.wpList_append_row EN (by rfl) _ _ (by rfl) w.heap.size (.slice none 0 0) 0 [] (by rfl) (World.ownsRow_nil _ _ _ _) a n cap ns (by rfl) h (by unfold maxLen; omega) (by omega) (Nat.le_refl _) ?_; intro a5 c5 w5 own5 gr5 at5))
  simp only [Nat.zero_add, List.nil_append] at own5 ⊢
  go_ret
  exact ⟨a5, c5, rfl, own5, grownN gr5⟩
end Go.Proofs.YtcmjcopopkafnaaDoor.Pt
/- Contracts of store.by, and of the function that it hands back. -/
namespace Go.Proofs.YtcmjcopopkafnaaDoor.St
open Go.ChangeShapes Go.WideShapes Go.ChangeAt Go.RowKit
set_option linter.unusedVariables false

def byT (t : Int × Int) (ky : Int) (k : LkV) : Bool := decide (k.t = t) && decide (k.key = ky)
set_option maxHeartbeats 1000000 in
theorem by_asks (b0 : Nat) (b1 : Nat) (t : Int × Int) (ky : Int) (w : World) (c00 : w.cell? ⟨b0, 0, none⟩ = some (.int .i64 t.1)) (c01 : w.cell? ⟨b0, 1, none⟩ = some (.int .i64 t.2)) (z0 : b0 < w.heap.size) (c10 : w.cell? ⟨b1, 0, none⟩ = some (.int .i64 ky)) (z1 : b1 < w.heap.size) : Asks 88 #[.pointer (some ⟨b0, 0, none⟩), .pointer (some ⟨b1, 0, none⟩)] LkV.val (byT t ky) w := by
  refine ⟨enters_of Tryd.func88 (by kernel_rfl) rfl, fun x w' hb => ?_⟩
  rw [← hb.cell (p := ⟨b0, 0, none⟩) z0] at c00
  rw [← hb.cell (p := ⟨b0, 1, none⟩) z0] at c01
  have y0 := Nat.lt_of_lt_of_le z0 hb.size
  rw [← hb.cell (p := ⟨b1, 0, none⟩) z1] at c10
  have y1 := Nat.lt_of_lt_of_le z1 hb.size
  obtain ⟨ts, tn⟩ := t
  obtain ⟨⟨site, num⟩, key, write, value, ask⟩ := x
  simp only [LkV.val] at *
  have hA : ∀ o, Below w'.heap.size w' (w'.alloc o) := fun o => (Below.refl _ _).alloc (Nat.le_refl _) _
  show Calls Tryd.prog 88 #[_, .pointer (some ⟨b0, 0, none⟩), .pointer (some ⟨b1, 0, none⟩)] w' _
  go_enter Tryd.func88, Tryd.ntmps88
  go_wp2
  all_goals go_ret
  all_goals exact ⟨ret_bool (by first | (simp_all [byT]; done) | (simp_all [byT]; rfl)), hA _⟩
theorem by_any (t : Int × Int) (ky : Int) (w : World) :
    Calls Tryd.prog 61 #[.agg #[.int .i64 t.1, .int .i64 t.2], .int .i64 ky] w fun e w' => ∃ b0 b1 : Nat, e = .returned (.func (.func 88) #[] #[.pointer (some ⟨b0, 0, none⟩), .pointer (some ⟨b1, 0, none⟩)]) ∧ Asks 88 #[.pointer (some ⟨b0, 0, none⟩), .pointer (some ⟨b1, 0, none⟩)] LkV.val (byT t ky) w' ∧ Below w.heap.size w w' := by
  obtain ⟨ts, tn⟩ := t
  simp only
  obtain ⟨W, hW⟩ : ∃ W : World, W = ((w.alloc (.cells #[.int .i64 ts, .int .i64 tn] 30)).alloc (.cells #[.int .i64 ky] 3)) := ⟨_, rfl⟩
  have hB : Below w.heap.size w W := by rw [hW]; exact (((Below.refl _ _).alloc (Nat.le_refl _) _).alloc (by simp) _)
  have zW : W.heap.size = w.heap.size + 2 := by rw [hW]; simp
  have c00 : W.cell? ⟨w.heap.size, 0, none⟩ = some (.int .i64 ts) := by rw [hW]; go_simp
  have c01 : W.cell? ⟨w.heap.size, 1, none⟩ = some (.int .i64 tn) := by rw [hW]; go_simp
  have c10 : W.cell? ⟨w.heap.size + 1, 0, none⟩ = some (.int .i64 ky) := by rw [hW]; go_simp
  have hq := by_asks w.heap.size (w.heap.size + 1) (ts, tn) ky W c00 c01 (by omega) c10 (by omega)
  go_enter Tryd.func61, Tryd.ntmps61
  go_wp2
  rw [← hW]
  go_ret
  exact ⟨_, _, rfl, hq, hB⟩
end Go.Proofs.YtcmjcopopkafnaaDoor.St
