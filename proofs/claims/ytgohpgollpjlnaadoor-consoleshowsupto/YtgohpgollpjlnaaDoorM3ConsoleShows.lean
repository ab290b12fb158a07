/- Texts of this claim, one behind the other. -/
import Derived.Test.YtgohpgollpjlnaaDoorM2ConsoleShows
import Derived.Laws.OwnMore
import Derived.Laws.AppendOwn
import Derived.Deep.AppendLies
import Derived.Deep.Cut
import Derived.Lib.QuietBelow
/- append of all elements of a slice to a row of the call's own: elements of several cells. -/
namespace Go.Proofs.YtgohpgollpjlnaaDoor.St
open Go.ChangeShapes Go.WideShapes Go.ChangeAt Go.RowKit
set_option linter.unusedVariables false

/-- What is known of an element's type. -/
structure Elem {α : Type} (k : Nat) (cells : α → List Value) (te tsl : TypeId) (i : TypeInfo) (z : Value) (bytes : Nat) : Prop where
  len : ∀ x, (cells x).length = k
  pos : 0 < k
  one : ∀ x, ∀ u ∈ cells x, u.oneCell' = true
  sl : Tryd.prog.underlying tsl = some (.slice te)
  info : Tryd.prog.info? te = some i
  zero : i.zero = some z
  size : i.size = k
  byts : i.bytes = bytes
  zs : z.cells.size = k

theorem flat_one' {α : Type} {k : Nat} {cells : α → List Value} (hone : ∀ x, ∀ u ∈ cells x, u.oneCell' = true) (xs : List α) : ∀ u ∈ flat cells xs, u.oneCell' = true := by
  intro u hu
  simp only [flat, List.mem_flatMap] at hu
  obtain ⟨x, _, h⟩ := hu
  exact hone x u h
theorem row_lies {α : Type} [Inhabited α] {k : Nat} {cells : α → List Value} (hk : ∀ x, (cells x).length = k) (hp : 0 < k) {w : World} {ad : Addr} {len cap : Nat} {xs : List α} (h : IsRow k cells w (some ad) len cap xs) : ∀ j u, (flat cells xs)[j]? = some u → w.cell? (ad.add j) = some u := by
  intro j u hu
  have hj : j < (flat cells xs).length := (List.getElem?_eq_some_iff.1 hu).1
  rw [flat_len hk, h.1] at hj
  have hl : 0 < len := by
    rcases Nat.eq_zero_or_pos len with h0 | h0
    · subst h0; simp at hj
    · exact h0
  obtain ⟨b', off', e, _, hc⟩ := h.2.2.2.2 hl
  cases e
  have h1 : j / k < len := (Nat.div_lt_iff_lt_mul hp).2 hj
  have hm : j % k < k := Nat.mod_lt _ hp
  have h2 := hc (j / k) h1 (j % k) hm
  have h3 := flat_get hk xs (j / k) (by rw [h.1]; exact h1) (j % k) hm
  have e : j / k * k + j % k = j := by rw [Nat.mul_comm]; exact Nat.div_add_mod j k
  rw [e] at h3
  have e2 : off' + j = off' + j / k * k + j % k := by rw [Nat.add_assoc, e]
  rw [adr_add, e2, h2, ← h3, hu]

theorem run_append_row {α : Type} [Inhabited α] {k : Nat} {cells : α → List Value} {te tsl : TypeId} {i : TypeInfo} {z : Value} {bytes : Nat} (E : Elem k cells te tsl i z bytes) {w : World} (ty : TypeId) (B : Nat) (v : Value) (n : Nat) (xs : List α) (hown : w.ownsRow B te k v n (flat cells xs))
    (a : Option Addr) (len cap : Nat) (bs : List α) (hs : IsRow k cells w a len cap bs) (h63 : n + len ≤ maxLen) (hby : (n + len) * bytes ≤ 140737488355328) (hbase : B ≤ w.heap.size) :
    ∃ a' cap' w', (Builtin.append_ #[tsl, tsl] ty #[v, .slice a len cap]).run Tryd.prog w = .ok (.slice a' (n + len) cap') w' ∧ w'.ownsRow B te k (.slice a' (n + len) cap') (n + len) (flat cells (xs ++ bs)) ∧ w.grownBy w' v.ownBlock ∧
      ((Value.slice a' (n + len) cap').ownBlock = v.ownBlock ∨ (Value.slice a' (n + len) cap').ownBlock = some w.heap.size) := by
  have hs' := hs
  obtain ⟨h1, h2, h3, hn, h4⟩ := hs
  cases a with
  | none =>
    have := hn rfl
    subst this
    obtain rfl : len = 0 := by omega
    obtain rfl : bs = [] := List.length_eq_zero_iff.1 h1
    have hrun := run_append_owned_none (P := Tryd.prog) (w := w) B tsl ty te i k E.sl E.info v n (flat cells xs) hown
    obtain ⟨a', cap', rfl, _⟩ := own_form hown
    exact ⟨a', cap', w, hrun, by simpa using hown, World.grownBy.refl _ _, .inl rfl⟩
  | some ad =>
    obtain ⟨v', w', hr, k2, k3, _, k5⟩ := run_append_own_at (P := Tryd.prog) w B tsl ty te i z k bytes E.sl E.info E.zero E.size E.byts E.zs E.pos v n (flat cells xs) hown ad len cap (flat cells bs)
      (by rw [flat_len E.len, h1]) (row_lies E.len E.pos hs') (flat_one' (k := k) E.one bs) h63 hby hbase
    obtain ⟨a', cap', rfl, _⟩ := own_form k2
    exact ⟨a', cap', w', hr, by rw [flat_append]; exact k2, k3, k5⟩

theorem wpList_append_row {α : Type} [Inhabited α] {k : Nat} {cells : α → List Value} {te tsl : TypeId} {i : TypeInfo} {z : Value} {bytes : Nat} (E : Elem k cells te tsl i z bytes) {w : World} {ops : Array Oper} {rest : List Oper} {o : Oper} {A : Act} {Q : Exit → Act → World → Prop} (hgd : o.guard = none) (s x : Operand)
    (ho : o.op = .call { callee := .builtin .append, args := #[s, x], argTypes := #[tsl, tsl] })
    (B : Nat) (v : Value) (n : Nat) (xs : List α) (hs : A.eval s = v) (hown : w.ownsRow B te k v n (flat cells xs))
    (a : Option Addr) (len cap : Nat) (bs : List α) (hx : A.eval x = .slice a len cap) (hb : IsRow k cells w a len cap bs) (h63 : n + len ≤ maxLen) (hby : (n + len) * bytes ≤ 140737488355328) (hbase : B ≤ w.heap.size)
    (h : ∀ a' cap' w', w'.ownsRow B te k (.slice a' (n + len) cap') (n + len) (flat cells (xs ++ bs)) → w.grownBy w' v.ownBlock → ((Value.slice a' (n + len) cap').ownBlock = v.ownBlock ∨ (Value.slice a' (n + len) cap').ownBlock = some w.heap.size) → wpList Tryd.prog ops Q rest (A.put o.dst (.slice a' (n + len) cap')) w') :
    wpList Tryd.prog ops Q (o :: rest) A w := by
  refine wpList_plain hgd fun K hK => ?_
  obtain ⟨a', cap', w', hr, h2, h3, h4⟩ := run_append_row E (w := w) o.type B v n xs hown a len cap bs hb h63 hby hbase
  unfold Oper.wp execOp
  simp only [ho, resolve, invoke, builtin, Sem.run_bind, Sem.run_pure, Result.andThen_ok, List.map_toArray, List.map_cons, List.map_nil, hs, hx, hr]
  exact hK _ _ (h a' cap' w' h2 h3 h4)

/-- The same at a step of a region that draws its order. -/
theorem step_append_row {α : Type} [Inhabited α] {k : Nat} {cells : α → List Value} {te tsl : TypeId} {i : TypeInfo} {z : Value} {bytes : Nat} (E : Elem k cells te tsl i z bytes) {w : World} {ops : Array Oper} {o : Oper} {A : Act} {K : Act → World → Prop} {Q : Exit → Act → World → Prop} {F : Prop} (hgd : o.guard = none) (s x : Operand)
    (ho : o.op = .call { callee := .builtin .append, args := #[s, x], argTypes := #[tsl, tsl] })
    (B : Nat) (v : Value) (n : Nat) (xs : List α) (hs : A.eval s = v) (hown : w.ownsRow B te k v n (flat cells xs))
    (a : Option Addr) (len cap : Nat) (bs : List α) (hx : A.eval x = .slice a len cap) (hb : IsRow k cells w a len cap bs) (h63 : n + len ≤ maxLen) (hby : (n + len) * bytes ≤ 140737488355328) (hbase : B ≤ w.heap.size)
    (h : ∀ a' cap' w', w'.ownsRow B te k (.slice a' (n + len) cap') (n + len) (flat cells (xs ++ bs)) → w.grownBy w' v.ownBlock → ((Value.slice a' (n + len) cap').ownBlock = v.ownBlock ∨ (Value.slice a' (n + len) cap').ownBlock = some w.heap.size) → K (A.put o.dst (.slice a' (n + len) cap')) w') :
    if Region.wanted o (yielded ops A.tmps) = true then Oper.wp Tryd.prog o A w K Q else F := by
  have hw : Region.wanted o (yielded ops A.tmps) = true := by simp [Region.wanted, hgd]
  rw [if_pos hw]
  obtain ⟨a', cap', w', hr, h2, h3, h4⟩ := run_append_row E (w := w) o.type B v n xs hown a len cap bs hb h63 hby hbase
  unfold Oper.wp execOp
  simp only [ho, resolve, invoke, builtin, Sem.run_bind, Sem.run_pure, Result.andThen_ok, List.map_toArray, List.map_cons, List.map_nil, hs, hx, hr]
  exact h a' cap' w' h2 h3 h4
end Go.Proofs.YtgohpgollpjlnaaDoor.St
/- Contracts of the document's small functions: In, plainTxn, doubtOf, isOver. -/
namespace Go.Proofs.YtgohpgollpjlnaaDoor.St
open Go.ChangeShapes Go.WideShapes Go.ChangeAt Go.RowKit
set_option linter.unusedVariables false

theorem in_any (n lo hi : Int) (w : World) :
    Calls Tryd.prog 53 #[.int .i64 n, .int .i64 lo, .int .i64 hi] w fun e w' => e = .returned (.bool (inR n lo hi)) ∧ w' = w := by
  go_enter Tryd.func53, Tryd.ntmps53
  go_wp2
  all_goals go_ret
  all_goals exact ⟨ret_bool (by unfold inR; rw [Bool.eq_iff_iff]; simp; omega), rfl⟩
theorem in_below (n lo hi : Int) (w : World) :
    Calls Tryd.prog 53 #[.int .i64 n, .int .i64 lo, .int .i64 hi] w fun e w' => e = .returned (.bool (inR n lo hi)) ∧ Below w.heap.size w w' :=
  (in_any n lo hi w).mono fun e u hu => ⟨hu.1, by rw [hu.2]; exact Below.refl _ _⟩
theorem plainTxn_any (t : Int × Int) (w : World) :
    Calls Tryd.prog 30 #[.agg #[.int .i64 t.1, .int .i64 t.2]] w fun e w' => e = .returned (.bool (txOK t)) ∧ Below w.heap.size w w' := by
  obtain ⟨site, num⟩ := t
  have hA : Below w.heap.size w (w.alloc (.cells #[.int .i64 site, .int .i64 num] 23)) := (Below.refl _ _).alloc (Nat.le_refl _) _
  unfold txOK
  cases hr : inR site 0 3 with
  | false =>
    go_enter Tryd.func30, Tryd.ntmps30
    go_wp2_with (go_at_call 53; refine (in_any _ _ _ _).mono ?_; rintro e w1 ⟨rfl, hu1⟩; rw [hu1]; clear hu1)
    go_ret
    exact ⟨by simp, hA⟩
  | true =>
    go_enter Tryd.func30, Tryd.ntmps30
    go_wp2_with (go_at_call 53; refine (in_any _ _ _ _).mono ?_; rintro e w1 ⟨rfl, hu1⟩; rw [hu1]; clear hu1)
    go_ret
    exact ⟨by simp, hA⟩

set_option maxHeartbeats 2000000 in
theorem doubtOf_ref (s : SV) (t : Int × Int) (w : World) (h : IsDoubts w s.da s.dl s.dc s.doubts) :
    Calls Tryd.prog 54 #[s.val, .agg #[.int .i64 t.1, .int .i64 t.2]] w fun e w' => e = .returned (.int .i64 (idxI (dbT t) s.doubts)) ∧ Below w.heap.size w w' := by
  obtain ⟨ia, il, ic, la, ll, lc, da, dl, dc, oa, ol, oc, items, locks, doubts, over⟩ := s
  obtain ⟨ts, tn⟩ := t
  simp only [SV.val] at *
  obtain ⟨hlen, hcap, hmax, _, hmem⟩ := h
  have HL : Hid (doubts.length = dl) := hlen
  clear hlen
  unfold maxLen at hmax
  obtain ⟨W, hW⟩ : ∃ W : World, W = (w.alloc (.cells #[.slice ia il ic, .slice la ll lc, .slice da dl dc, .slice oa ol oc] 55)).alloc (.cells #[.int .i64 ts, .int .i64 tn] 23) := ⟨_, rfl⟩
  have hB : Below w.heap.size w W := by rw [hW]; exact ((Below.refl _ _).alloc (Nat.le_refl _) _).alloc (by simp) _
  have zW : W.heap.size = w.heap.size + 2 := by rw [hW]; simp
  have c2 : W.cell? ⟨w.heap.size, 2, none⟩ = some (.slice da dl dc) := by rw [hW]; go_simp
  have d0 : W.cell? ⟨w.heap.size + 1, 0, none⟩ = some (.int .i64 ts) := by rw [hW]; go_simp
  have d1 : W.cell? ⟨w.heap.size + 1, 1, none⟩ = some (.int .i64 tn) := by rw [hW]; go_simp
  have z0 : w.heap.size < W.heap.size := by omega
  have z1 : w.heap.size + 1 < W.heap.size := by omega
  clear zW
  go_enter Tryd.func54, Tryd.ntmps54
  go_wp2
  rw [← hW]
  clear hW
  go_loopw [5] (fun s5 wr => ∃ (k : Nat), k ≤ dl ∧ s5 = .int .i64 k ∧ (∀ i, i < k → dbT (ts, tn) (doubts.getD i default) = false) ∧ Below W.heap.size W wr) (fun s5 _ => dl - (intOf s5).toNat)
  case atStart => exact ⟨0, Nat.zero_le _, rfl, fun i hi => absurd hi (by omega), Below.refl _ _⟩
  case round =>
    obtain ⟨k, hk, rfl, hnot, hb⟩ := hrel
    have hwr := hB.trans (hb.mono hB.size)
    have x2 := (hb.cell (p := ⟨w.heap.size, 2, none⟩) z0).trans c2
    have y0 := (hb.cell (p := ⟨w.heap.size + 1, 0, none⟩) z1).trans d0
    have y1 := (hb.cell (p := ⟨w.heap.size + 1, 1, none⟩) z1).trans d1
    by_cases hlt : k < dl
    · have hlt' : (k : Int) < (dl : Int) := by omega
      obtain ⟨b, off, rfl, zb, hc⟩ := hmem (by omega)
      have hcells := hc k hlt
      have hhit := idxI_hit (p := dbT (ts, tn)) (l := doubts) (k := k) (by have := HL.out; omega) hnot
      have hnot' : dbT (ts, tn) (doubts.getD k default) = false → ∀ i, i < k + 1 → dbT (ts, tn) (doubts.getD i default) = false := fun hf i hi => by
        by_cases e : i = k
        · rw [e]; exact hf
        · exact hnot i (by omega)
      obtain ⟨x, ex⟩ : ∃ x, x = doubts.getD k default := ⟨_, rfl⟩
      rw [← ex] at hcells hhit hnot'
      clear ex
      obtain ⟨⟨site, num⟩, age⟩ := x
      have a0 := hcells 0 (by decide)
      have a1 := hcells 1 (by decide)
      simp [DbV.cells] at a0 a1
      rw [← hwr.cell (p := ⟨b, off + k * 3, none⟩) zb] at a0
      rw [← hwr.cell (p := ⟨b, off + k * 3 + 1, none⟩) zb] at a1
      clear hcells hc
      by_cases e1 : site = ts
      · by_cases e2 : num = tn
        · subst e1 e2
          have hh := hhit (by simp [dbT])
          clear hhit hnot'
          go_wp2
          go_quiet (fail)
          go_wp2
          go_ret
          exact ⟨by rw [hh]; rfl, below_drewN hwr nq⟩
        · have hh := hnot' (by simp [dbT]; intro _ e; exact e2 e)
          have e3 : (num == tn) = false := by simpa using e2
          clear hhit hnot'
          subst e1
          go_wp2
          go_quiet (fail)
          go_wp2
          go_roundw
          case rel => exact ⟨k + 1, by omega, by go_num, hh, below_drewN hb nq⟩
          case measure => simp [intOf]; omega
      · have hh := hnot' (by simp [dbT]; intro e; exact absurd e e1)
        have e3 : (site == ts) = false := by simpa using e1
        clear hhit hnot'
        go_wp2
        go_quiet (fail)
        go_wp2
        go_roundw
        case rel => exact ⟨k + 1, by omega, by go_num, hh, below_drewN hb nq⟩
        case measure => simp [intOf]; omega
    · have hfin : idxI (dbT (ts, tn)) doubts = -1 := idxI_none (fun i hi => hnot i (by have := HL.out; omega))
      go_wp2
      go_ret
      exact ⟨by rw [hfin]; rfl, hwr⟩

set_option maxHeartbeats 2000000 in
theorem isOver_ref (s : SV) (t : Int × Int) (w : World) (h : IsTxns w s.oa s.ol s.oc s.over) :
    Calls Tryd.prog 55 #[s.val, .agg #[.int .i64 t.1, .int .i64 t.2]] w fun e w' => e = .returned (.bool (decide (t ∈ s.over))) ∧ Below w.heap.size w w' := by
  obtain ⟨ia, il, ic, la, ll, lc, da, dl, dc, oa, ol, oc, items, locks, doubts, over⟩ := s
  obtain ⟨ts, tn⟩ := t
  simp only [SV.val] at *
  obtain ⟨hlen, hcap, hmax, _, hmem⟩ := h
  have HL : Hid (over.length = ol) := hlen
  clear hlen
  unfold maxLen at hmax
  obtain ⟨W, hW⟩ : ∃ W : World, W = (w.alloc (.cells #[.slice ia il ic, .slice la ll lc, .slice da dl dc, .slice oa ol oc] 55)).alloc (.cells #[.int .i64 ts, .int .i64 tn] 23) := ⟨_, rfl⟩
  have hB : Below w.heap.size w W := by rw [hW]; exact ((Below.refl _ _).alloc (Nat.le_refl _) _).alloc (by simp) _
  have zW : W.heap.size = w.heap.size + 2 := by rw [hW]; simp
  have c3 : W.cell? ⟨w.heap.size, 3, none⟩ = some (.slice oa ol oc) := by rw [hW]; go_simp
  have d0 : W.cell? ⟨w.heap.size + 1, 0, none⟩ = some (.int .i64 ts) := by rw [hW]; go_simp
  have d1 : W.cell? ⟨w.heap.size + 1, 1, none⟩ = some (.int .i64 tn) := by rw [hW]; go_simp
  have z0 : w.heap.size < W.heap.size := by omega
  have z1 : w.heap.size + 1 < W.heap.size := by omega
  clear zW
  go_enter Tryd.func55, Tryd.ntmps55
  go_wp2
  rw [← hW]
  clear hW
  go_loopw [5] (fun s5 wr => ∃ (k : Nat), k ≤ ol ∧ s5 = .int .i64 k ∧ (∀ i, i < k → over.getD i default ≠ (ts, tn)) ∧ Below W.heap.size W wr) (fun s5 _ => ol - (intOf s5).toNat)
  case atStart => exact ⟨0, Nat.zero_le _, rfl, fun i hi => absurd hi (by omega), Below.refl _ _⟩
  case round =>
    obtain ⟨k, hk, rfl, hnot, hb⟩ := hrel
    have hwr := hB.trans (hb.mono hB.size)
    have x2 := (hb.cell (p := ⟨w.heap.size, 3, none⟩) z0).trans c3
    have y0 := (hb.cell (p := ⟨w.heap.size + 1, 0, none⟩) z1).trans d0
    have y1 := (hb.cell (p := ⟨w.heap.size + 1, 1, none⟩) z1).trans d1
    by_cases hlt : k < ol
    · have hlt' : (k : Int) < (ol : Int) := by omega
      obtain ⟨b, off, rfl, zb, hc⟩ := hmem (by omega)
      have hcells := hc k hlt
      have hkl : k < over.length := by have := HL.out; omega
      have hmm : over.getD k default ∈ over := by simp [List.getD, hkl]
      have hnot' : over.getD k default ≠ (ts, tn) → ∀ i, i < k + 1 → over.getD i default ≠ (ts, tn) := fun hf i hi => by
        by_cases e : i = k
        · rw [e]; exact hf
        · exact hnot i (by omega)
      obtain ⟨x, ex⟩ : ∃ x, x = over.getD k default := ⟨_, rfl⟩
      rw [← ex] at hcells hmm hnot'
      clear ex
      obtain ⟨site, num⟩ := x
      have a0 := hcells 0 (by decide)
      have a1 := hcells 1 (by decide)
      simp [txCells] at a0 a1
      rw [← hwr.cell (p := ⟨b, off + k * 2, none⟩) zb] at a0
      rw [← hwr.cell (p := ⟨b, off + k * 2 + 1, none⟩) zb] at a1
      clear hcells hc
      by_cases e1 : site = ts
      · by_cases e2 : num = tn
        · subst e1 e2
          clear hnot'
          go_wp2
          go_quiet (fail)
          go_wp2
          go_ret
          exact ⟨by simp [hmm], below_drewN hwr nq⟩
        · have hh := hnot' (by simp; intro _ e; exact e2 e)
          have e3 : (num == tn) = false := by simpa using e2
          clear hnot'
          subst e1
          go_wp2
          go_quiet (fail)
          go_wp2
          go_roundw
          case rel => exact ⟨k + 1, by omega, by go_num, hh, below_drewN hb nq⟩
          case measure => simp [intOf]; omega
      · have hh := hnot' (by simp; intro e; exact absurd e e1)
        have e3 : (site == ts) = false := by simpa using e1
        clear hnot'
        go_wp2
        go_quiet (fail)
        go_wp2
        go_roundw
        case rel => exact ⟨k + 1, by omega, by go_num, hh, below_drewN hb nq⟩
        case measure => simp [intOf]; omega
    · have hfin : (ts, tn) ∉ over := fun hm => by
        obtain ⟨i, hi, e⟩ := List.getElem_of_mem hm
        exact hnot i (by have := HL.out; omega) (by simp [List.getD, hi, e])
      go_wp2
      go_ret
      exact ⟨by simp [hfin], hwr⟩
end Go.Proofs.YtgohpgollpjlnaaDoor.St
/- What the document's StoreMay asks, on plain data, and that it is what Check asks. -/
namespace Go.Proofs.YtgohpgollpjlnaaDoor.St
open Go.ChangeShapes Go.WideShapes Go.ChangeAt Go.RowKit
set_option linter.unusedVariables false

def itemsR : Option Int → List ItV → Bool
  | _, [] => true
  | p, x :: r => inR x.key 0 7 && inR x.value 0 1073741824 && inR x.version 1 1048576 && (match p with | none => true | some q => !(decide (x.key ≤ q))) && itemsR (some x.key) r
def lkRest (k : LkV) : Bool := inR k.key 0 7 && inR k.value 0 1073741824 && inR k.ask 0 1048576 && (k.write || (decide (k.value = 0) && decide (k.ask = 0)))
def lkR (ds : List DbV) : List LkV → List LkV → Bool
  | _, [] => true
  | seen, k :: r => (ds.any (dbT k.t) && lkRest k) && !(seen.any (against k)) && lkR ds (seen ++ [k]) r
def dbR (ls : List LkV) (ov : List (Int × Int)) : List DbV → List DbV → Bool
  | _, [] => true
  | seen, d :: r => txOK d.t && inR d.age 0 1048576 && ls.any (ofT d.t) && !(seen.any (dbT d.t)) && !(decide (d.t ∈ ov)) && dbR ls ov (seen ++ [d]) r
def refOK (s : SV) : Bool := decide (s.locks.length ≤ 24) && itemsR none s.items && lkR s.doubts [] s.locks && dbR s.locks s.over [] s.doubts && overGo [] s.over

theorem items_same : ∀ (l : List ItV) (q : Int), -1 ≤ q → itemsR (some q) l = itemsOK (q + 1) l := by
  intro l
  induction l with
  | nil => intro q _; rfl
  | cons x r ih =>
    intro q hq
    simp only [itemsR, itemsOK]
    by_cases h : inR x.key (q + 1) 7 = true
    · have := inR_of h
      rw [h, inR_true (n := x.key) (lo := 0) (by omega) this.2, ih x.key (by omega)]
      have : ¬ x.key ≤ q := by omega
      simp [this]
    · have h' : inR x.key (q + 1) 7 = false := by simpa using h
      rw [h']
      have := inR_not h'
      by_cases h0 : inR x.key 0 7 = true
      · have h1 := inR_of h0
        have : x.key ≤ q := by omega
        simp [this]
      · have : inR x.key 0 7 = false := by simpa using h0
        simp [this]
theorem items_none (l : List ItV) : itemsR none l = itemsOK 0 l := by
  cases l with
  | nil => rfl
  | cons x r =>
    simp only [itemsR, itemsOK]
    by_cases h : inR x.key 0 7 = true
    · have := inR_of h
      rw [items_same r x.key (by omega)]
      simp
    · have h' : inR x.key 0 7 = false := by simpa using h
      simp [h']

def nag : List LkV → List LkV → Bool
  | _, [] => true
  | seen, k :: r => !(seen.any (against k)) && nag (seen ++ [k]) r
def onceD : List DbV → List DbV → Bool
  | _, [] => true
  | seen, d :: r => !(seen.any (dbT d.t)) && onceD (seen ++ [d]) r
theorem locksGo_parts : ∀ (l seen : List LkV), locksGo seen l = (l.all (fun k => txOK k.t) && l.all lkRest && nag seen l) := by
  intro l
  induction l with
  | nil => intro seen; rfl
  | cons k r ih =>
    intro seen
    simp only [locksGo, nag, List.all_cons, ih, lockOK, lkRest]
    rw [Bool.eq_iff_iff]
    simp only [Bool.and_eq_true]
    constructor <;> intro h <;> simp_all
theorem lkR_parts (ds : List DbV) : ∀ (l seen : List LkV), lkR ds seen l = (l.all (fun k => ds.any (dbT k.t)) && l.all lkRest && nag seen l) := by
  intro l
  induction l with
  | nil => intro seen; rfl
  | cons k r ih =>
    intro seen
    simp only [lkR, nag, List.all_cons, ih]
    rw [Bool.eq_iff_iff]
    simp only [Bool.and_eq_true]
    constructor <;> intro h <;> simp_all
def dbRest (ls : List LkV) (ov : List (Int × Int)) (d : DbV) : Bool := inR d.age 0 1048576 && ls.any (ofT d.t) && !(decide (d.t ∈ ov))
theorem doubtsGo_parts (ls : List LkV) (ov : List (Int × Int)) : ∀ (l seen : List DbV), doubtsGo ls ov seen l = (l.all (dbRest ls ov) && onceD seen l) := by
  intro l
  induction l with
  | nil => intro seen; rfl
  | cons d r ih =>
    intro seen
    simp only [doubtsGo, onceD, List.all_cons, ih, dbRest]
    rw [Bool.eq_iff_iff]
    simp only [Bool.and_eq_true]
    constructor <;> intro h <;> simp_all
theorem dbR_parts (ls : List LkV) (ov : List (Int × Int)) : ∀ (l seen : List DbV), dbR ls ov seen l = (l.all (fun d => txOK d.t) && l.all (dbRest ls ov) && onceD seen l) := by
  intro l
  induction l with
  | nil => intro seen; rfl
  | cons d r ih =>
    intro seen
    simp only [dbR, onceD, List.all_cons, ih, dbRest]
    rw [Bool.eq_iff_iff]
    simp only [Bool.and_eq_true]
    constructor <;> intro h <;> simp_all

theorem ref_is (s : SV) : refOK s = storeOK s := by
  unfold refOK storeOK locksOK doubtsOK
  rw [items_none, lkR_parts, dbR_parts, locksGo_parts, doubtsGo_parts]
  rw [Bool.eq_iff_iff]
  simp only [Bool.and_eq_true]
  constructor
  · rintro ⟨⟨⟨⟨h1, h2⟩, ⟨h3, h4⟩, h5⟩, ⟨h6, h7⟩, h8⟩, h9⟩
    refine ⟨⟨⟨h2, h1, ⟨?_, h4⟩, h5⟩, h9⟩, ⟨h7, h8⟩, h3⟩
    rw [List.all_eq_true] at h3 h6 ⊢
    intro k hk
    obtain ⟨d, hd, e⟩ := List.any_eq_true.1 (h3 k hk)
    have e' : d.t = k.t := by simpa [dbT] using e
    rw [← e']
    exact h6 d hd
  · rintro ⟨⟨⟨h2, h1, ⟨ht, h4⟩, h5⟩, h9⟩, ⟨h7, h8⟩, h3⟩
    refine ⟨⟨⟨⟨h1, h2⟩, ⟨h3, h4⟩, h5⟩, ⟨?_, h7⟩, h8⟩, h9⟩
    rw [List.all_eq_true] at h7 ht ⊢
    intro d hd
    have := h7 d hd
    simp only [dbRest, Bool.and_eq_true] at this
    obtain ⟨k, hk, e⟩ := List.any_eq_true.1 this.1.2
    have e' : k.t = d.t := by simpa [ofT] using e
    rw [← e']
    exact ht k hk

def prevK (l : List ItV) : Nat → Option Int
  | 0 => none
  | k + 1 => some (l.getD k default).key
theorem itemsR_at {xs : List ItV} {k : Nat} (hk : k < xs.length) (h : itemsR none xs = itemsR (prevK xs k) (xs.drop k)) :
    itemsR none xs = (inR (xs.getD k default).key 0 7 && inR (xs.getD k default).value 0 1073741824 && inR (xs.getD k default).version 1 1048576 && (match prevK xs k with | none => true | some q => !(decide ((xs.getD k default).key ≤ q))) && itemsR (prevK xs (k + 1)) (xs.drop (k + 1))) := by
  rw [h, drop_at hk]
  rfl
theorem lkR_at {ds : List DbV} {xs : List LkV} {k : Nat} (hk : k < xs.length) (h : lkR ds [] xs = lkR ds (xs.take k) (xs.drop k)) :
    lkR ds [] xs = ((ds.any (dbT (xs.getD k default).t) && lkRest (xs.getD k default)) && !((xs.take k).any (against (xs.getD k default))) && lkR ds (xs.take (k + 1)) (xs.drop (k + 1))) := by
  rw [h, drop_at hk, take_at hk]
  rfl
theorem dbR_at {ls : List LkV} {ov : List (Int × Int)} {xs : List DbV} {k : Nat} (hk : k < xs.length) (h : dbR ls ov [] xs = dbR ls ov (xs.take k) (xs.drop k)) :
    dbR ls ov [] xs = (txOK (xs.getD k default).t && inR (xs.getD k default).age 0 1048576 && ls.any (ofT (xs.getD k default).t) && !((xs.take k).any (dbT (xs.getD k default).t)) && !(decide ((xs.getD k default).t ∈ ov)) && dbR ls ov (xs.take (k + 1)) (xs.drop (k + 1))) := by
  rw [h, drop_at hk, take_at hk]
  rfl
/-- The first place of a transaction's doubt is this one, just if it is not among those ahead. -/
theorem first_is {xs : List DbV} {k : Nat} (hk : k < xs.length) : decide (idxI (dbT (xs.getD k default).t) xs = (k : Int)) = !((xs.take k).any (dbT (xs.getD k default).t)) := by
  rw [Bool.eq_iff_iff]
  simp only [decide_eq_true_eq, Bool.not_eq_true', List.any_eq_false]
  constructor
  · intro h x hx
    obtain ⟨i, hi, rfl⟩ := List.getElem_of_mem hx
    have hi' : i < k := by simp at hi; omega
    intro hd
    unfold idxI at h
    cases hf : xs.findIdx? (dbT (xs.getD k default).t) with
    | none => rw [hf] at h; simp at h
    | some m =>
      rw [hf] at h
      simp at h
      obtain rfl : m = k := by omega
      rw [List.findIdx?_eq_some_iff_getElem] at hf
      obtain ⟨_, _, h3⟩ := hf
      have := h3 i hi'
      simp at hd
      exact absurd hd (by simpa using this)
  · intro h
    refine idxI_hit hk (fun i hi => ?_) (by simp [dbT])
    have hi' : i < xs.length := by omega
    have := h (xs.getD i default) (by
      rw [List.mem_take_iff_getElem]
      exact ⟨i, by omega, by simp [List.getD, hi']⟩)
    simpa using this
end Go.Proofs.YtgohpgollpjlnaaDoor.St
