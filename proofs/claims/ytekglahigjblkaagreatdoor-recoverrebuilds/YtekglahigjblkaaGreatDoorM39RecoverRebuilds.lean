/- Texts of this claim, one behind the other. -/
import Derived.Test.YtekglahigjblkaaGreatDoorM36RecoverRebuilds
import Derived.Test.YtekglahigjblkaaGreatDoorM14RecoverRebuilds
import Derived.Test.YtekglahigjblkaaGreatDoorM12RecoverRebuilds
import Derived.Deep.RegionLaw
import Derived.Test.YtekglahigjblkaaGreatDoorM19RecoverRebuilds
import Derived.Test.YtekglahigjblkaaGreatDoorM37RecoverRebuilds
import Derived.Test.YtekglahigjblkaaGreatDoorM17RecoverRebuilds
import Derived.Lib.QuietBelow
/- Plain data of a job put in, and the row of its sites, for the document's RebuiltOf. -/
namespace Go.Proofs.YtekglahigjblkaaGreatDoor.Rb
open Go.ChangeShapes Go.WideShapes Go.ChangeAt Go.RowKit
open Go.Proofs.YtekglahigjblkaaGreatDoor.St Go.Proofs.YtekglahigjblkaaGreatDoor.Co Go.Proofs.YtekglahigjblkaaGreatDoor.Pt
set_option linter.unusedVariables false

theorem insS_none {x : JbV} : ∀ {l r : List JbV}, l.any (isAb x.n) = false → insS x (l ++ r) = l ++ insS x r
  | [], r, _ => rfl
  | j :: l, r, h => by
    rw [List.any_cons, Bool.or_eq_false_iff] at h
    have h1 : ¬ x.n < j.n := by have := h.1; unfold isAb at this; simpa using this
    rw [List.cons_append, insS, if_neg h1, insS_none h.2]
    rfl
theorem insS_some {x : JbV} : ∀ {l r : List JbV}, l.any (isAb x.n) = true → insS x (l ++ r) = insS x l ++ r
  | [], r, h => by simp at h
  | j :: l, r, h => by
    rw [List.cons_append, insS, insS]
    by_cases h1 : x.n < j.n
    · rw [if_pos h1, if_pos h1]; rfl
    · rw [if_neg h1, if_neg h1]
      have h2 : l.any (isAb x.n) = true := by
        rw [List.any_cons, Bool.or_eq_true] at h
        rcases h with h | h
        · unfold isAb at h; simp at h; exact absurd h h1
        · exact h
      rw [insS_some h2]
      rfl
theorem insS_mem {x j : JbV} : ∀ {l : List JbV}, j ∈ insS x l → j = x ∨ j ∈ l
  | [], h => by simpa [insS] using h
  | y :: l, h => by
    rw [insS] at h
    split at h
    · simpa using h
    · rcases List.mem_cons.1 h with h | h
      · exact Or.inr (by simp [h])
      · rcases insS_mem h with h | h
        · exact Or.inl h
        · exact Or.inr (by simp [h])
theorem insS_bare {x : JbV} : ∀ {l : List JbV}, (insS x l).map JbV.bare = insS x.bare (l.map JbV.bare)
  | [] => rfl
  | y :: l => by
    rw [insS, List.map_cons, insS]
    by_cases h : x.n < y.n
    · rw [if_pos h, if_pos (show x.bare.n < y.bare.n from h)]; rfl
    · rw [if_neg h, if_neg (show ¬ x.bare.n < y.bare.n from h), List.map_cons, insS_bare]
theorem insS_len {x : JbV} : ∀ {l : List JbV}, (insS x l).length = l.length + 1
  | [] => rfl
  | y :: l => by
    rw [insS]
    split
    · rfl
    · rw [List.length_cons, insS_len]; rfl
def abv (x : JbV) (js : List JbV) (k : Nat) : Bool := (js.take k).any (isAb x.n)
def insA (x : JbV) (js : List JbV) (k : Nat) : List JbV := if abv x js k = true then insS x (js.take k) else js.take k
theorem abv_succ {x : JbV} {js : List JbV} {k : Nat} (hk : k < js.length) : abv x js (k + 1) = (abv x js k || decide (x.n < (js.getD k default).n)) := by
  unfold abv
  rw [List.take_succ_eq_append_getElem hk, List.any_append]
  simp [isAb, List.getD, hk]
theorem insA_put {x : JbV} {js : List JbV} {k : Nat} (hk : k < js.length) (h0 : abv x js k = false) (h1 : x.n < (js.getD k default).n) : insA x js (k + 1) = insA x js k ++ [x] ++ [js.getD k default] := by
  have h2 : abv x js (k + 1) = true := by rw [abv_succ hk, h0]; simpa using h1
  have e : js.getD k default = js[k] := by simp [List.getD, hk]
  unfold insA
  rw [if_pos h2, h0, if_neg (by decide), List.take_succ_eq_append_getElem hk, insS_none h0, e, insS, if_pos (by rw [← e]; exact h1)]
  simp
theorem insA_on {x : JbV} {js : List JbV} {k : Nat} (hk : k < js.length) (h : abv x js k = true ∨ ¬ x.n < (js.getD k default).n) : abv x js (k + 1) = abv x js k ∧ insA x js (k + 1) = insA x js k ++ [js.getD k default] := by
  have e : js.getD k default = js[k] := by simp [List.getD, hk]
  have h2 : abv x js (k + 1) = abv x js k := by
    rw [abv_succ hk]
    rcases h with h | h
    · rw [h]; rfl
    · rw [decide_eq_false h, Bool.or_false]
  refine ⟨h2, ?_⟩
  unfold insA
  rw [h2]
  by_cases h3 : abv x js k = true
  · rw [if_pos h3, if_pos h3, List.take_succ_eq_append_getElem hk, insS_some h3, e]
  · rw [if_neg h3, if_neg h3, List.take_succ_eq_append_getElem hk, e]
theorem insA_len {x : JbV} {js : List JbV} {k : Nat} (hk : k ≤ js.length) : (insA x js k).length ≤ k + 1 := by
  unfold insA
  split
  · rw [insS_len, List.length_take]; omega
  · rw [List.length_take]; omega
theorem insA_end {x : JbV} {js : List JbV} : (abv x js js.length = true → insA x js js.length = insS x js) ∧ (abv x js js.length = false → insA x js js.length ++ [x] = insS x js) := by
  unfold insA abv
  rw [List.take_of_length_le (Nat.le_refl _)]
  refine ⟨fun h => by rw [if_pos h], fun h => ?_⟩
  rw [h, if_neg (by decide)]
  have h9 := insS_none (r := []) h
  rw [List.append_nil] at h9
  rw [h9]
  rfl
def OwR (B : Nat) (u : World) (a : Option Addr) (n c : Nat) (zs : List Int) : Prop := u.ownsRow B 3 1 (.slice a n c) n (flat inCell zs)
def FarR (e : Nat) (v : Value) : Prop := v.ownBlock ≠ some e
theorem OwR.below {B : Nat} {u v : World} {a : Option Addr} {n c : Nat} {zs : List Int} (h : OwR B u a n c zs) (hb : Below u.heap.size u v) : OwR B v a n c zs := own_below h hb
theorem OwR.base {B C : Nat} {u : World} {a : Option Addr} {n c : Nat} {zs : List Int} (h : OwR B u a n c zs) (hC : C ≤ B) : OwR C u a n c zs := Co.own_base h hC
theorem OwR.farNew {B : Nat} {u : World} {a : Option Addr} {n c : Nat} {zs : List Int} (h : OwR B u a n c zs) : FarR u.heap.size (.slice a n c) := fun e => by
  have := (World.ownsRow.lt h _ e).2
  omega
theorem OwR.farOld {B e : Nat} {u : World} {a : Option Addr} {n c : Nat} {zs : List Int} (h : OwR B u a n c zs) (he : e < B) : FarR e (.slice a n c) := fun e2 => by
  have := (World.ownsRow.lt h _ e2).1
  omega
theorem OwR.put {B e i : Nat} {u : World} {a : Option Addr} {n c : Nat} {zs : List Int} (h : OwR B u a n c zs) (hf : FarR e (.slice a n c)) (v : Value) : OwR B (u.setCell ⟨e, i, none⟩ v) a n c zs :=
  ownsRow_setCell_other h (fun e2 => hf e2) v
theorem OwR.aside6 {B e : Nat} {u : World} {a : Option Addr} {n c : Nat} {zs : List Int} (h : OwR B u a n c zs) (hf : FarR e (.slice a n c)) (v0 v1 v2 v3 v4 v5 : Value) : OwR B ((((((u.setCell ⟨e, 0, none⟩ v0).setCell ⟨e, 1, none⟩ v1).setCell ⟨e, 2, none⟩ v2).setCell ⟨e, 3, none⟩ v3).setCell ⟨e, 4, none⟩ v4).setCell ⟨e, 5, none⟩ v5) a n c zs :=
  (((((h.put hf v0).put hf v1).put hf v2).put hf v3).put hf v4).put hf v5
end Go.Proofs.YtekglahigjblkaaGreatDoor.Rb
/- The contract of the document's withItem: a new value of a key in a list of items, in memory of its own. -/
namespace Go.Proofs.YtekglahigjblkaaGreatDoor.St
open Go.ChangeShapes Go.WideShapes Go.ChangeAt Go.RowKit
set_option linter.unusedVariables false

def wiStep (key value : Int) (p : List ItV × Bool) (x : ItV) : List ItV × Bool :=
  if x.key = key then (p.1 ++ [⟨key, value, x.version + 1⟩], true) else if key < x.key ∧ p.2 = false then (p.1 ++ [⟨key, value, 1⟩] ++ [x], true) else (p.1 ++ [x], p.2)
def wiFin (key value : Int) (p : List ItV × Bool) : List ItV := if p.2 then p.1 else p.1 ++ [⟨key, value, 1⟩]
theorem wi_true (key value : Int) : ∀ (xs acc : List ItV), (∀ x ∈ xs, x.key ≠ key) → xs.foldl (wiStep key value) (acc, true) = (acc ++ xs, true)
  | [], acc, _ => by simp
  | x :: r, acc, h => by
    rw [List.foldl_cons]
    have : wiStep key value (acc, true) x = (acc ++ [x], true) := by
      unfold wiStep
      rw [if_neg (h x (by simp)), if_neg (by simp)]
    rw [this, wi_true key value r _ (fun y hy => h y (by simp [hy]))]
    simp
theorem wi_false (key value : Int) : ∀ (xs acc : List ItV), xs.Pairwise (fun a b => a.key < b.key) → wiFin key value (xs.foldl (wiStep key value) (acc, false)) = acc ++ putI key value xs
  | [], acc, _ => rfl
  | x :: r, acc, h => by
    rw [List.pairwise_cons] at h
    have hgt := h.1
    rw [List.foldl_cons, putI]
    by_cases e : x.key = key
    · have hs : wiStep key value (acc, false) x = (acc ++ [⟨key, value, x.version + 1⟩], true) := by unfold wiStep; rw [if_pos e]
      rw [hs, if_pos e, wi_true key value r _ (fun y hy => by have := hgt y hy; omega)]
      simp [wiFin]
    · by_cases hlt : key < x.key
      · have hs : wiStep key value (acc, false) x = (acc ++ [⟨key, value, 1⟩] ++ [x], true) := by unfold wiStep; rw [if_neg e, if_pos ⟨hlt, rfl⟩]
        rw [hs, if_neg e, if_pos hlt, wi_true key value r _ (fun y hy => by have := hgt y hy; omega)]
        simp [wiFin]
      · have hs : wiStep key value (acc, false) x = (acc ++ [x], false) := by unfold wiStep; rw [if_neg e, if_neg (fun e => hlt e.1)]
        rw [hs, if_neg e, if_neg hlt, wi_false key value r (acc ++ [x]) h.2]
        simp
theorem wi_at {key value : Int} {xs : List ItV} {j : Nat} (hj : j < xs.length) : (xs.take (j + 1)).foldl (wiStep key value) ([], false) = wiStep key value ((xs.take j).foldl (wiStep key value) ([], false)) (xs.getD j default) := by
  rw [take_at hj, List.foldl_append]
  rfl

set_option maxRecDepth 100000 in
set_option maxHeartbeats 4000000 in
theorem withItem_any (a : Option Addr) (n c : Nat) (xs : List ItV) (key value : Int) (w : World) (h : IsItems w a n c xs) (hn : n ≤ 60) (hv : ∀ x ∈ xs, 0 ≤ x.version ∧ x.version ≤ 2000000) (hok : xs.Pairwise (fun a b => a.key < b.key)) :
    Calls Tryz.prog 40 #[.slice a n c, .int .i64 key, .int .i64 value] w fun e w' => ∃ (ao : Option Addr) (cp : Nat), e = .returned (.slice ao (putI key value xs).length cp) ∧ w'.ownsRow w.heap.size 68 3 (.slice ao (putI key value xs).length cp) (putI key value xs).length (flat ItV.cells (putI key value xs)) ∧ Below w.heap.size w w' := by
  obtain ⟨i1, E1⟩ := itElem
  have HE : Hid (putI key value xs = wiFin key value (xs.foldl (wiStep key value) ([], false))) := by show _ = _; rw [wi_false key value xs [] hok]; rfl
  obtain ⟨R, eR⟩ : ∃ R, R = putI key value xs := ⟨_, rfl⟩
  rw [← eR] at HE ⊢
  have HL : Hid (xs.length = n) := h.1
  have HV : Hid (∀ x ∈ xs, 0 ≤ x.version ∧ x.version ≤ 2000000) := hv
  clear eR hv hok
  go_enter Tryz.func40, Tryz.ntmps40
  go_wp2
  go_loopw [7, 8, 9] (fun s7 s8 s9 wr => ∃ (j : Nat) (ys : List ItV) (pt : Bool) (ao : Option Addr) (cp : Nat), s9 = .int .i64 (j : Int) ∧ s8 = .bool pt ∧ s7 = .slice ao ys.length cp ∧ j ≤ n ∧ ys.length ≤ 2 * j ∧ Hid ((ys, pt) = (xs.take j).foldl (wiStep key value) ([], false)) ∧ wr.ownsRow w.heap.size 68 3 (.slice ao ys.length cp) ys.length (flat ItV.cells ys) ∧ Below w.heap.size w wr) (fun _ _ s9 _ => n - (intOf s9).toNat)
  case atStart => exact ⟨0, [], false, none, 0, rfl, rfl, rfl, Nat.zero_le _, Nat.le_refl _, rfl, World.ownsRow_nil _ _ _ _, Below.refl _ _⟩
  case round =>
    obtain ⟨j, ys, pt, ao, cp, rfl, rfl, rfl, hj, hyl, hys, hown, hb⟩ := hrel
    have hbs := hb.size
    by_cases hlt : j < n
    · have hlt' : (j : Int) < (n : Int) := by omega
      have hjl : j < xs.length := by rw [HL.out]; exact hlt
      have HS : Hid ((xs.take (j + 1)).foldl (wiStep key value) ([], false) = wiStep key value (ys, pt) (xs.getD j default)) := by show _ = _; rw [wi_at hjl, hys.out]
      have hvx := HV.out _ (getD_mem hjl)
      obtain ⟨b, off, rfl, zb, hc⟩ := (h.below hb).2.2.2.2 (by omega)
      have hcells := hc j hlt
      obtain ⟨x, ex⟩ : ∃ x, x = xs.getD j default := ⟨_, rfl⟩
      rw [← ex] at hcells HS hvx
      have HX : Hid (xs.getD j default = x) := ex.symm
      clear ex hc hys
      obtain ⟨xk, xv, xw⟩ := x
      have e0 := hcells 0 (by decide)
      have e1 := hcells 1 (by decide)
      have e2 := hcells 2 (by decide)
      simp only [ItV.cells, List.getElem?_cons_zero, List.getElem?_cons_succ, Nat.add_zero] at e0 e1 e2
      simp only [] at hvx
      have hwr : IntKind.i64.wrap (xw + 1) = xw + 1 := by apply wrap_in <;> omega
      clear hcells
      by_cases hq : xk = key
      · have hq' := hq.symm
        clear hq
        subst hq'
        replace HS : Hid ((xs.take (j + 1)).foldl (wiStep key value) ([], false) = (ys ++ [⟨key, value, xw + 1⟩], true)) := by show _ = _; rw [HS.out]; simp [wiStep]
        go_upto_region 8 with (at_builtin; refine wpList_append_row E1 (by rfl) _ _ (by rfl) w.heap.size (.slice ao ys.length cp) ys.length ys (by rfl) (own_below hown ((Below.refl _ _).alloc (Nat.le_refl _) _)) _ 1 1 [⟨key, value, xw + 1⟩] (by rfl) (isOne (k := 3) (cells := ItV.cells) wr #[.int .i64 key, .int .i64 value, .int .i64 (xw + 1)] _ ⟨key, value, xw + 1⟩ rfl rfl) (by unfold maxLen; omega) (by omega) (by simp; omega) ?_; intro a5 c5 w5 own5 gr5 at5)
        have hb5 : Below w.heap.size w w5 := (hb.alloc hb.size _).grown gr5 (by have := hb.size; simp; omega) (fun q hq => (hown.lt q hq).1)
        obtain ⟨zs, ez⟩ : ∃ zs, zs = ys ++ [(⟨key, value, xw + 1⟩ : ItV)] := ⟨_, rfl⟩
        have elz : Hid (zs.length = ys.length + 1) := by rw [ez]; show _ = _; simp
        rw [← ez] at HS own5
        clear ez
        go_wp2
        go_roundw
        case rel =>
          refine ⟨j + 1, zs, true, a5, c5, by go_num, rfl, ?_, by omega, ?_, HS.out.symm, ?_, hb5⟩
          · rw [elz.out]
          · rw [elz.out]; omega
          · rw [elz.out]; exact own5
        case measure => simp [intOf]; omega
      · by_cases hg : key < xk ∧ pt = false
        · obtain ⟨hg, rfl⟩ := hg
          replace HS : Hid ((xs.take (j + 1)).foldl (wiStep key value) ([], false) = (ys ++ [⟨key, value, 1⟩] ++ [⟨xk, xv, xw⟩], true)) := by show _ = _; rw [HS.out]; simp [wiStep, hq, hg]
          have b0 := hb
          go_upto_region 11 with (at_builtin; refine wpList_append_row E1 (by rfl) _ _ (by rfl) w.heap.size (.slice ao ys.length cp) ys.length ys (by rfl) (own_below hown ((Below.refl _ _).alloc (Nat.le_refl _) _)) _ 1 1 [⟨key, value, 1⟩] (by rfl) (isOne (k := 3) (cells := ItV.cells) wr #[.int .i64 key, .int .i64 value, .int .i64 1] _ ⟨key, value, 1⟩ rfl rfl) (by unfold maxLen; omega) (by omega) (by simp; omega) ?_; intro a5 c5 w5 own5 gr5 at5)
          have hb5 : Below w.heap.size w w5 := (hb.alloc hb.size _).grown gr5 (by have := hb.size; simp; omega) (fun q hq => (hown.lt q hq).1)
          have hbs5 := hb5.size
          have hr5 := (h.below hb5).2.2.2.2 (by omega)
          obtain ⟨b', off', eb, _, hc5⟩ := hr5
          simp only [Option.some.injEq, Addr.mk.injEq, and_true] at eb
          obtain ⟨rfl, rfl⟩ := eb
          have hxx : xs.getD j default = ⟨xk, xv, xw⟩ := HX.out
          have hcells := hc5 j hlt
          rw [hxx] at hcells
          have d0 := hcells 0 (by decide)
          have d1 := hcells 1 (by decide)
          have d2 := hcells 2 (by decide)
          simp only [ItV.cells, List.getElem?_cons_zero, List.getElem?_cons_succ, Nat.add_zero] at d0 d1 d2
          clear e0 e1 e2 hcells hc5 hxx
          have hkk : True := trivial
          go_upto_region 5 with (at_builtin; refine wpList_append_row E1 (by rfl) _ _ (by rfl) w.heap.size (.slice a5 (ys.length + 1) c5) (ys.length + 1) (ys ++ [⟨key, value, 1⟩]) (by rfl) (own_below own5 ((Below.refl _ _).alloc (Nat.le_refl _) _)) _ 1 1 [⟨xk, xv, xw⟩] (by rfl) (isOne (k := 3) (cells := ItV.cells) w5 #[.int .i64 xk, .int .i64 xv, .int .i64 xw] _ ⟨xk, xv, xw⟩ rfl rfl) (by unfold maxLen; omega) (by omega) (by simp; omega) ?_; intro a6 c6 w6 own6 gr6 at6)
          have hb6 : Below w.heap.size w w6 := (hb5.alloc hb5.size _).grown gr6 (by have := hb5.size; simp; omega) (fun q hq => (own5.lt q hq).1)
          obtain ⟨zs, ez⟩ : ∃ zs, zs = ys ++ [(⟨key, value, 1⟩ : ItV)] ++ [(⟨xk, xv, xw⟩ : ItV)] := ⟨_, rfl⟩
          have elz : Hid (zs.length = ys.length + 1 + 1) := by rw [ez]; show _ = _; simp
          rw [← ez] at HS own6
          clear ez
          go_wp2
          go_roundw
          case rel =>
            refine ⟨j + 1, zs, true, a6, c6, by go_num, rfl, ?_, by omega, ?_, HS.out.symm, ?_, hb6⟩
            · rw [elz.out]
            · rw [elz.out]; omega
            · rw [elz.out]; exact own6
          case measure => simp [intOf]; omega
        · replace HS : Hid ((xs.take (j + 1)).foldl (wiStep key value) ([], false) = (ys ++ [⟨xk, xv, xw⟩], pt)) := by show _ = _; rw [HS.out]; unfold wiStep; rw [if_neg hq, if_neg hg]
          have hcase : ¬ key < xk ∨ (key < xk ∧ pt = true) := by
            by_cases h1 : key < xk
            · right; refine ⟨h1, ?_⟩; cases pt with
              | true => rfl
              | false => exact absurd ⟨h1, rfl⟩ hg
            · exact .inl h1
          clear hg
          rcases hcase with hg | ⟨hg, rfl⟩
          all_goals
            go_upto_region 5 with (at_builtin; refine wpList_append_row E1 (by rfl) _ _ (by rfl) w.heap.size (.slice ao ys.length cp) ys.length ys (by rfl) (own_below hown ((Below.refl _ _).alloc (Nat.le_refl _) _)) _ 1 1 [⟨xk, xv, xw⟩] (by rfl) (isOne (k := 3) (cells := ItV.cells) wr #[.int .i64 xk, .int .i64 xv, .int .i64 xw] _ ⟨xk, xv, xw⟩ rfl rfl) (by unfold maxLen; omega) (by omega) (by simp; omega) ?_; intro a5 c5 w5 own5 gr5 at5)
            have hb5 : Below w.heap.size w w5 := (hb.alloc hb.size _).grown gr5 (by have := hb.size; simp; omega) (fun q hq => (hown.lt q hq).1)
            obtain ⟨zs, ez⟩ : ∃ zs, zs = ys ++ [(⟨xk, xv, xw⟩ : ItV)] := ⟨_, rfl⟩
            have elz : Hid (zs.length = ys.length + 1) := by rw [ez]; show _ = _; simp
            rw [← ez] at HS own5
            clear ez
            go_wp2
            go_roundw
            case rel =>
              refine ⟨j + 1, zs, _, a5, c5, by go_num, rfl, ?_, by omega, ?_, HS.out.symm, ?_, hb5⟩
              · rw [elz.out]
              · rw [elz.out]; omega
              · rw [elz.out]; exact own5
            case measure => simp [intOf]; omega
    · obtain rfl : j = n := by omega
      rw [List.take_of_length_le (by rw [HL.out]; exact Nat.le_refl _)] at hys
      cases pt with
      | true =>
        have hR : R = ys := by rw [HE.out, ← hys.out]; rfl
        subst hR
        go_wp2
        go_ret
        exact ⟨ao, cp, rfl, hown, hb⟩
      | false =>
        have HR : Hid (R = ys ++ [⟨key, value, 1⟩]) := by show _ = _; rw [HE.out, ← hys.out]; rfl
        go_upto_region 15 with (at_builtin; refine wpList_append_row E1 (by rfl) _ _ (by rfl) w.heap.size (.slice ao ys.length cp) ys.length ys (by rfl) (own_below hown ((Below.refl _ _).alloc (Nat.le_refl _) _)) _ 1 1 [⟨key, value, 1⟩] (by rfl) (isOne (k := 3) (cells := ItV.cells) wr #[.int .i64 key, .int .i64 value, .int .i64 1] _ ⟨key, value, 1⟩ rfl rfl) (by unfold maxLen; omega) (by omega) (by simp; omega) ?_; intro a5 c5 w5 own5 gr5 at5)
        have hb5 : Below w.heap.size w w5 := (hb.alloc hb.size _).grown gr5 (by have := hb.size; simp; omega) (fun q hq => (hown.lt q hq).1)
        have elR : Hid (R.length = ys.length + 1) := by show _ = _; rw [HR.out]; simp
        rw [← HR.out] at own5
        go_wp2
        go_ret
        refine ⟨a5, c5, ?_, ?_, hb5⟩
        · rw [elR.out]; rfl
        · rw [elR.out]; exact own5
end Go.Proofs.YtekglahigjblkaaGreatDoor.St
/- The contract of the document's EndOf. -/
namespace Go.Proofs.YtekglahigjblkaaGreatDoor.St
open Go.ChangeShapes Go.WideShapes Go.ChangeAt Go.RowKit
set_option linter.unusedVariables false

theorem putI_key (key value : Int) (P : Int → Prop) (hk : P key) : ∀ (xs : List ItV), (∀ x ∈ xs, P x.key) → ∀ x ∈ putI key value xs, P x.key
  | [], _ => by simp [putI, hk]
  | y :: r, h => by
    rw [putI]
    have hr : ∀ x ∈ r, P x.key := fun x hx => h x (by simp [hx])
    split
    · intro x hx
      rcases List.mem_cons.1 hx with rfl | hx
      · exact hk
      · exact hr x hx
    · split
      · intro x hx
        rcases List.mem_cons.1 hx with rfl | hx
        · exact hk
        · exact h x hx
      · intro x hx
        rcases List.mem_cons.1 hx with rfl | hx
        · exact h _ (by simp)
        · exact putI_key key value P hk r hr x hx
theorem putI_srt (key value : Int) : ∀ (xs : List ItV), xs.Pairwise (fun a b => a.key < b.key) → (putI key value xs).Pairwise (fun a b => a.key < b.key)
  | [], _ => by simp [putI]
  | x :: r, h => by
    have h0 := h
    rw [List.pairwise_cons] at h
    rw [putI]
    split
    · rename_i e
      rw [List.pairwise_cons]
      exact ⟨fun y hy => by have := h.1 y hy; simp only []; omega, h.2⟩
    · split
      · rename_i e
        rw [List.pairwise_cons]
        refine ⟨fun y hy => ?_, h0⟩
        rcases List.mem_cons.1 hy with rfl | hy
        · exact e
        · have := h.1 y hy; simp only []; omega
      · rw [List.pairwise_cons]
        exact ⟨putI_key key value (fun k => x.key < k) (by omega) r h.1, putI_srt key value r h.2⟩
theorem items_srt : ∀ (xs : List ItV) (lo : Int), itemsOK lo xs = true → xs.Pairwise (fun a b => a.key < b.key) ∧ ∀ x ∈ xs, lo ≤ x.key ∧ 1 ≤ x.version ∧ x.version ≤ 1048576
  | [], _, _ => by simp
  | y :: r, lo, h => by
    simp only [itemsOK, Bool.and_eq_true] at h
    have b1 := inR_of h.1.1.1
    have b3 := inR_of h.1.2
    obtain ⟨q1, q2⟩ := items_srt r _ h.2
    refine ⟨List.pairwise_cons.2 ⟨fun x hx => by have := (q2 x hx).1; omega, q1⟩, fun x hx => ?_⟩
    rcases List.mem_cons.1 hx with rfl | hx
    · exact ⟨b1.1, b3.1, b3.2⟩
    · have := q2 x hx
      exact ⟨by omega, this.2⟩
theorem nT2 {W V U : World} (h : Below W.heap.size W V) (h2 : Below V.heap.size V U) : Below W.heap.size W U := h.trans (h2.mono h.size)
theorem row_up {α : Type} [Inhabited α] {k : Nat} {cells : α → List Value} {Y U : World} {a : Option Addr} {n c m B : Nat} {te : TypeId} {xs : List α} (hk : ∀ x, (cells x).length = k) (hp : 0 < k) (ho : Y.ownsRow B te k (.slice a n c) n (flat cells xs)) (hlt : ∀ q, (Value.slice a n c).ownBlock = some q → q < m) (hU : Below m Y U) : IsRow k cells U a n c xs := by
  obtain ⟨r1, r2, r3, r4, r5⟩ := (own_isRow hk ho (own_len hk hp ho)).1
  refine ⟨r1, r2, r3, r4, fun hp => ?_⟩
  obtain ⟨b, off, rfl, hl, hc⟩ := r5 hp
  have hb : b < m := hlt b (own_block ho)
  refine ⟨b, off, rfl, Nat.lt_of_lt_of_le hl hU.size, fun i hi q hq => ?_⟩
  rw [hU.cell (p := ⟨b, off + i * k + q, none⟩) hb]
  exact hc i hi q hq
theorem putAll_snoc (its : List ItV) (l : List LkV) (k : LkV) : putAll its (l ++ [k]) = putI k.key k.value (putAll its l) := by
  unfold putAll
  rw [List.foldl_append]
  rfl
theorem filter_step {α : Type} [Inhabited α] {q : α → Bool} {xs : List α} {j : Nat} (hj : j < xs.length) : (xs.take (j + 1)).filter q = (xs.take j).filter q ++ (if q (xs.getD j default) then [xs.getD j default] else []) := by
  rw [take_at hj, List.filter_append]
  congr 1
  generalize xs.getD j default = x
  cases h : q x <;> simp [h]
/-- What is left of the items, as far as the locks have been gone through. -/
def itAt (its : List ItV) (locks : List LkV) (t : Int × Int) (yes : Bool) (k : Nat) : List ItV := if yes then putAll its ((locks.take k).filter (wOf t)) else its
theorem itAt_step {its : List ItV} {locks : List LkV} {t : Int × Int} {yes : Bool} {k : Nat} (hk : k < locks.length) : itAt its locks t yes (k + 1) = if yes && wOf t (locks.getD k default) then putI (locks.getD k default).key (locks.getD k default).value (itAt its locks t yes k) else itAt its locks t yes k := by
  unfold itAt
  rw [filter_step hk]
  cases yes with
  | false => rfl
  | true =>
    cases h : wOf t (locks.getD k default) with
    | true => simp only [if_true, Bool.and_self]; exact putAll_snoc _ _ _
    | false => simp

set_option maxRecDepth 100000 in
set_option maxHeartbeats 8000000 in
theorem endRef_own (s : SV) (t : Int × Int) (yes : Bool) (w : World) (h : IsStore w s) (h1 : s.il * 24 ≤ 140737488351232) (h2 : s.ll * 48 ≤ 140737488351232) (h3 : s.dl * 24 ≤ 140737488351232) (h4 : s.ol * 16 ≤ 140737488351232) :
    Calls Tryz.prog 17 #[s.val, .agg #[.int .i64 t.1, .int .i64 t.2], .bool yes] w fun e w' => ∃ r : SV, e = .returned (.tuple #[r.val, .int .i64 (endErr s t yes)]) ∧ OwnStore w' w.heap.size r ∧ r.data = endData s t yes ∧ Below w.heap.size w w' := by
  obtain ⟨i2, E2⟩ := lkElem
  obtain ⟨i3, E3⟩ := dbElem
  obtain ⟨i4, E4⟩ := txElem
  have hC : ∀ w', IsStore w' s → Calls Tryz.prog 33 #[s.val, .agg #[.int .i64 t.1, .int .i64 t.2], .int .i64 0] w' fun e w'' => e = .returned (.int .i64 (endErr s t yes)) ∧ Below w'.heap.size w' w'' := fun w' h1 => by
    have e0 : endErr s t yes = refErr s t 0 := by
      unfold endErr refErr
      rw [show inR 0 0 7 = true from rfl, Bool.and_true]
    rw [e0]
    exact askFault_any s t 0 w' h1
  have hCp := fun w' k => storeCopy_any s w' k h1 h2 h3 h4
  have hOv := fun w' h1 => isOver_ref s t w' h1
  have hok : endErr s t yes = 0 → (s.il ≤ 8 ∧ s.ll ≤ 24 ∧ s.dl ≤ 24) ∧ s.items.Pairwise (fun a b => a.key < b.key) ∧ ∀ x ∈ s.items, 0 ≤ x.version ∧ x.version ≤ 1048576 := fun e => by
    have hs : storeOK s = true := by unfold endErr at e; split at e <;> first | assumption | omega
    have hi := hs
    unfold storeOK at hi
    simp only [Bool.and_eq_true] at hi
    obtain ⟨q1, q2⟩ := items_srt s.items 0 hi.1.1.1
    exact ⟨ok_sizes hs h, q1, fun x hx => by have := q2 x hx; omega⟩
  obtain ⟨E, e0⟩ : ∃ R : Int, R = endErr s t yes := ⟨_, rfl⟩
  obtain ⟨D, e1⟩ : ∃ R, R = endData s t yes := ⟨_, rfl⟩
  obtain ⟨O, e2⟩ : ∃ R, R = decide (t ∈ s.over) := ⟨_, rfl⟩
  have eD : Hid (D = if E = 0 then ⟨itAt s.items s.locks t yes s.ll, s.locks.filter (fun k => !(ofT t k)), s.doubts.filter (fun d => !(dbT t d)), if O then s.over else s.over ++ [t]⟩ else PS.nil) := by
    show _ = _
    rw [e0, e1, e2]
    show endData s t yes = _
    unfold endData itAt
    rw [← h.locks.1, List.take_of_length_le (Nat.le_refl _)]
    by_cases ht : t ∈ s.over <;> simp only [ht, decide_true, decide_false, if_true, if_false, Bool.false_eq_true] <;> rfl
  rw [← e0, ← e1]
  rw [← e0] at hC hok
  rw [← e2] at hOv
  clear e0 e1 e2
  have HLl : Hid (s.locks.length = s.ll) := h.locks.1
  have HLd : Hid (s.doubts.length = s.dl) := h.doubts.1
  have hol : s.ol ≤ maxLen := Nat.le_trans h.over.2.1 h.over.2.2.1
  unfold maxLen at hol
  have hh := h
  obtain ⟨ia, il, ic, la, ll, lc, da, dl, dc, oa, ol, oc, items, locks, doubts, over⟩ := s
  obtain ⟨ts, tn⟩ := t
  simp only [SV.val] at *
  obtain ⟨W, hW⟩ : ∃ W : World, W = (((w.alloc (.cells #[.slice ia il ic, .slice la ll lc, .slice da dl dc, .slice oa ol oc] 31)).alloc (.cells #[.int .i64 ts, .int .i64 tn] 51)).alloc (.cells #[.slice none 0 0, .slice none 0 0, .slice none 0 0, .slice none 0 0] 31)) := ⟨_, rfl⟩
  have hB : Below w.heap.size w W := by rw [hW]; exact ((((Below.refl _ _).alloc (Nat.le_refl _) _).alloc (by simp) _).alloc (by simp; omega) _)
  have zW : W.heap.size = w.heap.size + 3 := by rw [hW]; simp
  have zb0 : w.heap.size < W.heap.size := by omega
  have zb1 : w.heap.size + 1 < W.heap.size := by omega
  have zb2 : w.heap.size + 1 + 1 < W.heap.size := by omega
  have HZW : Hid (W.heap.size = w.heap.size + 3) := zW
  clear zW
  have c0 : W.cell? ⟨w.heap.size, 0, none⟩ = some (.slice ia il ic) := by rw [hW]; go_simp
  have c1 : W.cell? ⟨w.heap.size, 1, none⟩ = some (.slice la ll lc) := by rw [hW]; go_simp
  have c2 : W.cell? ⟨w.heap.size, 2, none⟩ = some (.slice da dl dc) := by rw [hW]; go_simp
  have c3 : W.cell? ⟨w.heap.size, 3, none⟩ = some (.slice oa ol oc) := by rw [hW]; go_simp
  have t0 : W.cell? ⟨w.heap.size + 1, 0, none⟩ = some (.int .i64 ts) := by rw [hW]; go_simp
  have t1 : W.cell? ⟨w.heap.size + 1, 1, none⟩ = some (.int .i64 tn) := by rw [hW]; go_simp
  have r0 : W.cell? ⟨w.heap.size + 1 + 1, 0, none⟩ = some (.slice none 0 0) := by rw [hW]; go_simp
  have r1 : W.cell? ⟨w.heap.size + 1 + 1, 1, none⟩ = some (.slice none 0 0) := by rw [hW]; go_simp
  have r2 : W.cell? ⟨w.heap.size + 1 + 1, 2, none⟩ = some (.slice none 0 0) := by rw [hW]; go_simp
  have r3 : W.cell? ⟨w.heap.size + 1 + 1, 3, none⟩ = some (.slice none 0 0) := by rw [hW]; go_simp
  have rf0 : W.frozen? ⟨w.heap.size + 1 + 1, 0, none⟩ = false := by rw [hW]; go_simp
  have rf1 : W.frozen? ⟨w.heap.size + 1 + 1, 1, none⟩ = false := by rw [hW]; go_simp
  have rf2 : W.frozen? ⟨w.heap.size + 1 + 1, 2, none⟩ = false := by rw [hW]; go_simp
  have rf3 : W.frozen? ⟨w.heap.size + 1 + 1, 3, none⟩ = false := by rw [hW]; go_simp
  have rz : w.heap.size + 1 + 1 < W.heap.size := zb2
  have KA : Hid (∀ U : World, Below W.heap.size W U → U.cell? ⟨w.heap.size, 0, none⟩ = some (.slice ia il ic) ∧ U.cell? ⟨w.heap.size, 1, none⟩ = some (.slice la ll lc) ∧ U.cell? ⟨w.heap.size, 2, none⟩ = some (.slice da dl dc) ∧ U.cell? ⟨w.heap.size, 3, none⟩ = some (.slice oa ol oc) ∧ U.cell? ⟨w.heap.size + 1, 0, none⟩ = some (.int .i64 ts) ∧ U.cell? ⟨w.heap.size + 1, 1, none⟩ = some (.int .i64 tn) ∧ U.cell? ⟨w.heap.size + 1 + 1, 0, none⟩ = some (.slice none 0 0) ∧ U.cell? ⟨w.heap.size + 1 + 1, 1, none⟩ = some (.slice none 0 0) ∧ U.cell? ⟨w.heap.size + 1 + 1, 2, none⟩ = some (.slice none 0 0) ∧ U.cell? ⟨w.heap.size + 1 + 1, 3, none⟩ = some (.slice none 0 0) ∧ U.frozen? ⟨w.heap.size + 1 + 1, 0, none⟩ = false ∧ U.frozen? ⟨w.heap.size + 1 + 1, 1, none⟩ = false ∧ U.frozen? ⟨w.heap.size + 1 + 1, 2, none⟩ = false ∧ U.frozen? ⟨w.heap.size + 1 + 1, 3, none⟩ = false ∧ w.heap.size + 1 + 1 < U.heap.size) := fun U hU => ⟨(hU.cell (p := ⟨w.heap.size, 0, none⟩) zb0).trans c0, (hU.cell (p := ⟨w.heap.size, 1, none⟩) zb0).trans c1, (hU.cell (p := ⟨w.heap.size, 2, none⟩) zb0).trans c2, (hU.cell (p := ⟨w.heap.size, 3, none⟩) zb0).trans c3, (hU.cell (p := ⟨w.heap.size + 1, 0, none⟩) zb1).trans t0, (hU.cell (p := ⟨w.heap.size + 1, 1, none⟩) zb1).trans t1, (hU.cell (p := ⟨w.heap.size + 1 + 1, 0, none⟩) zb2).trans r0, (hU.cell (p := ⟨w.heap.size + 1 + 1, 1, none⟩) zb2).trans r1, (hU.cell (p := ⟨w.heap.size + 1 + 1, 2, none⟩) zb2).trans r2, (hU.cell (p := ⟨w.heap.size + 1 + 1, 3, none⟩) zb2).trans r3, (hU.frozen (p := ⟨w.heap.size + 1 + 1, 0, none⟩) zb2).trans rf0, (hU.frozen (p := ⟨w.heap.size + 1 + 1, 1, none⟩) zb2).trans rf1, (hU.frozen (p := ⟨w.heap.size + 1 + 1, 2, none⟩) zb2).trans rf2, (hU.frozen (p := ⟨w.heap.size + 1 + 1, 3, none⟩) zb2).trans rf3, Nat.lt_of_lt_of_le zb2 hU.size⟩
  have hSW := hh.below hB
  have HS : Hid (∀ U : World, Below W.heap.size W U → IsStore U ⟨ia, il, ic, la, ll, lc, da, dl, dc, oa, ol, oc, items, locks, doubts, over⟩) := fun U hU => hSW.below hU
  clear hh h
  go_enter Tryz.func17, Tryz.ntmps17
  go_upto_region 1 with (fail)
  rw [← hW]
  clear hW
  by_cases hE : E = 0
  · subst hE
    obtain ⟨⟨q1, q2, q3⟩, hsrt, hver⟩ := hok rfl
    have HSRT : Hid (items.Pairwise (fun a b => a.key < b.key) ∧ ∀ x ∈ items, 0 ≤ x.version ∧ x.version ≤ 1048576) := ⟨hsrt, hver⟩
    clear hok hsrt hver
    have yD : D = ⟨itAt items locks (ts, tn) yes ll, locks.filter (fun k => !(ofT (ts, tn) k)), doubts.filter (fun d => !(dbT (ts, tn) d)), if O then over else over ++ [(ts, tn)]⟩ := by rw [eD.out, if_pos rfl]
    go_upto_region 5 with (first
      | (go_at_call 33; refine (hC _ hSW).mono ?_; rintro e w1 ⟨rfl, hb1⟩; clear c0 c1 c2 c3 t0 t1 r0 r1 r2 r3 rf0 rf1 rf2 rf3 rz; obtain ⟨c0, c1, c2, c3, t0, t1, r0, r1, r2, r3, rf0, rf1, rf2, rf3, rz⟩ := KA.out _ hb1; have hS1 := HS.out _ hb1)
      | (go_at_call 38; refine (hCp _ hS1).mono ?_; rintro e w2 ⟨⟨a0, n0, u0, a1, n1, u1, a2, n2, u2, a3, n3, u3, items', locks', doubts', over'⟩, rfl, hsame, hown, hb2'⟩; obtain ⟨v1, v2, v3, v4, v5, v6, v7, v8⟩ := hsame; simp only [] at v1 v2 v3 v4 v5 v6 v7 v8; obtain rfl := v1.symm; obtain rfl := v2.symm; obtain rfl := v3.symm; obtain rfl := v4.symm; obtain rfl := v5.symm; obtain rfl := v6.symm; obtain rfl := v7.symm; obtain rfl := v8.symm; simp only []; have hb2 : Below W.heap.size W w2 := hb1.trans (hb2'.mono hb1.size)))
    obtain ⟨X, hX⟩ : ∃ X : World, X = w2.alloc (.cells #[.slice a0 il u0, .slice a1 ll u1, .slice a2 dl u2, .slice a3 ol u3] 31) := ⟨_, rfl⟩
    have hb3 : Below w2.heap.size w2 X := by rw [hX]; exact (Below.refl _ _).alloc (Nat.le_refl _) _
    have bA : BoxN X w2.heap.size 4 [.slice a0 il u0, .slice a1 ll u1, .slice a2 dl u2, .slice a3 ol u3] := by rw [hX]; exact boxn_new w2 #[.slice a0 il u0, .slice a1 ll u1, .slice a2 dl u2, .slice a3 ol u3] 31 4 rfl
    have ownX : OwnStore X W.heap.size ⟨a0, il, u0, a1, ll, u1, a2, dl, u2, a3, ol, u3, items, locks, doubts, over⟩ := (hown.base hb1.size).below hb3
    have hbX : Below W.heap.size W X := hb2.trans (hb3.mono hb2.size)
    rw [← hX]
    obtain ⟨ma, em⟩ : ∃ m, m = w2.heap.size := ⟨_, rfl⟩
    have zm : W.heap.size ≤ ma := by rw [em]; exact hb2.size
    rw [← em] at bA ⊢
    have hO3 : ∀ q, (Value.slice a3 ol u3).ownBlock = some q → q < ma := fun q hq => by rw [em]; exact (hown.over.lt q hq).2
    clear hX hown em c0 c1 c2 c3 t0 t1 r0 r1 r2 r3 rf0 rf1 rf2 rf3 rz hS1 hC hCp hb2 hb2' hb1 hb3
    clear w2
    have xa0 := (bA.c 0 (by decide)).1
    have xa1 := (bA.c 1 (by decide)).1
    have xa2 := (bA.c 2 (by decide)).1
    have xa3 := (bA.c 3 (by decide)).1
    simp only [List.getD_cons_zero, List.getD_cons_succ] at xa0 xa1 xa2 xa3
    have bAl := bA.lt
    obtain ⟨Y, hY⟩ : ∃ Y : World, Y = X.alloc (.cells #[.slice a0 il u0, .slice none 0 0, .slice none 0 0, .slice a3 ol u3] 31) := ⟨_, rfl⟩
    have bXY : Below X.heap.size X Y := by rw [hY]; exact (Below.refl _ _).alloc (Nat.le_refl _) _
    have hM0 : Made W Y W.heap.size X.heap.size ⟨a0, il, u0, none, 0, 0, none, 0, 0, a3, ol, u3, items, [], [], over⟩ := by
      refine Made.new (w := X) ⟨ownX.items, World.ownsRow_nil _ _ _ _, World.ownsRow_nil _ _ _ _, ownX.over, ?_, ?_, ownX.ap_io, ?_, ?_, ?_⟩ hbX bXY (Nat.le_refl _) ?_ hbX.size
      · intro q _ hq; simp [Value.ownBlock] at hq
      · intro q _ hq; simp [Value.ownBlock] at hq
      · intro q hq; simp [Value.ownBlock] at hq
      · intro q hq; simp [Value.ownBlock] at hq
      · intro q hq; simp [Value.ownBlock] at hq
      · rw [hY]
        exact boxn_new X #[.slice a0 il u0, .slice none 0 0, .slice none 0 0, .slice a3 ol u3] 31 4 rfl
    go_upto_region 6 with (fail)
    rw [← hY]
    obtain ⟨m, em2⟩ : ∃ m, m = X.heap.size := ⟨_, rfl⟩
    have zam : ma < m := by rw [em2]; exact bAl
    rw [← em2] at hM0 ⊢
    have hApL := ownX.ap_lo
    have hApD := ownX.ap_do
    have hLlt : ∀ q, (Value.slice a1 ll u1).ownBlock = some q → q < m := fun q hq => by rw [em2]; exact (ownX.locks.lt q hq).2
    have hDlt : ∀ q, (Value.slice a2 dl u2).ownBlock = some q → q < m := fun q hq => by rw [em2]; exact (ownX.doubts.lt q hq).2
    have ownY := ownX.below bXY
    have bAY := bA.below bXY bA.lt
    have offm : Off ⟨a0, il, u0, a1, ll, u1, a2, dl, u2, a3, ol, u3, items, locks, doubts, over⟩ m := Off.of_lt ownX (by rw [em2]; exact Nat.le_refl _)
    clear hY xa0 xa1 xa2 xa3 bA bAl bXY ownX em2
    have HLi : Hid (items.length = il) := hM0.own.isStore.items.1
    obtain ⟨c0, c1, c2, c3, t0, t1, r0, r1, r2, r3, rf0, rf1, rf2, rf3, rz⟩ := KA.out _ hM0.bel
    have hT0 := (HS.out _ hM0.bel).over
    simp only [] at hT0
    have HLo : Hid (over.length = ol) := hT0.1
    obtain ⟨OV, eOV⟩ : ∃ OV, OV = if O then over else over ++ [(ts, tn)] := ⟨_, rfl⟩
    rw [← eOV] at yD
    replace yD : Hid (D = ⟨itAt items locks (ts, tn) yes ll, locks.filter (fun k => !(ofT (ts, tn) k)), doubts.filter (fun d => !(dbT (ts, tn) d)), OV⟩) := yD
    have HOV : Hid (OV = if O then over else over ++ [(ts, tn)]) := eOV
    clear eOV
    go_upto_if 30 with (go_at_call 36; refine (hOv _ hT0).mono ?_; rintro e Y1 ⟨rfl, hb6⟩)
    have hM1 := hM0.below hb6
    have hAll1 := ownY.below hb6
    have bA1 := bAY.below hb6 bAY.lt
    have zY1 := hM1.sz
    clear c0 c1 c2 c3 t0 t1 r0 r1 r2 r3 rf0 rf1 rf2 rf3 rz hT0 hM0 ownY bAY hOv hb6
    go_cut [] from 31 to 36 (fun wc => ∃ (oa2 : Option Addr) (oc2 : Nat), Made W wc W.heap.size m ⟨a0, il, u0, none, 0, 0, none, 0, 0, oa2, OV.length, oc2, items, [], [], OV⟩ ∧ OwnStore wc W.heap.size ⟨a0, il, u0, a1, ll, u1, a2, dl, u2, oa2, OV.length, oc2, items, locks, doubts, OV⟩ ∧ BoxN wc ma 4 [.slice a0 il u0, .slice a1 ll u1, .slice a2 dl u2, .slice a3 ol u3])
    case first =>
      cases O with
      | true =>
        have eo : OV = over := HOV.out
        subst eo
        go_wp2
        go_meet
        case rel => exact ⟨a3, u3, by rw [HLo.out]; exact hM1, by rw [HLo.out]; exact hAll1, bA1⟩
      | false =>
        have HO2 : Hid (OV = over ++ [(ts, tn)]) := HOV.out
        obtain ⟨mz, x0, x1, x2, x3, g0, g1, g2, g3⟩ := hM1.cells
        simp only [] at x0 x1 x2 x3
        obtain ⟨c0, c1, c2, c3, t0, t1, r0, r1, r2, r3, rf0, rf1, rf2, rf3, rz⟩ := KA.out _ hM1.bel
        go_upto_region 7 with (fail)
        have hov1 := hM1.own.over
        simp only [] at hov1
        go_wp2_with (at_builtin; refine wpList_append_row E4 (by rfl) _ _ (by rfl) W.heap.size (.slice a3 ol u3) ol over (by rfl) (own_below hov1 ((Below.refl _ _).alloc (Nat.le_refl _) _)) _ 1 1 [(ts, tn)] (by rfl) (isOne (k := 2) (cells := txCells) Y1 #[.int .i64 ts, .int .i64 tn] _ (ts, tn) rfl rfl) (by unfold maxLen; omega) (by omega) (by simp; omega) ?_; intro a5 c5 w5 own5 gr5 at5; obtain ⟨cl5, fz5, hM5⟩ := hM1.put_over ((Below.refl _ _).alloc (Nat.le_refl _) _) gr5 own5 at5; have z5 := hM5.box.lt; simp only [] at cl5)
        go_meet
        case rel =>
          have el : OV.length = ol + 1 := by rw [HO2.out, List.length_append, HLo.out]; rfl
          refine ⟨a5, c5, ?_, ?_, ?_⟩
          · rw [el, HO2.out]; exact hM5
          · rw [el, HO2.out]
            have hx := (hAll1.below ((Below.refl _ _).alloc (Nat.le_refl _) (.cells #[.int .i64 ts, .int .i64 tn] 51))).put_over gr5 own5 (at_of at5 (Nat.le_refl _))
            exact Off.far (Off.put_over offm at5 (by have := hM1.box.lt; simp; omega)) hx _
          · have hb1 := bA1.below (B := Y1.heap.size) ((Below.refl _ _).alloc (Nat.le_refl _) (.cells #[.int .i64 ts, .int .i64 tn] 51)) bA1.lt
            exact (hb1.grown gr5 (fun e => by have := hO3 ma e.symm; omega)).far (by omega)
    case rest =>
      obtain ⟨oa2, oc2, hM2, hAll, bA2⟩ := hcut
      obtain ⟨Y2, eY2⟩ : ∃ Y2, Y2 = wc := ⟨_, rfl⟩
      rw [← eY2] at hM2 hAll bA2 ⊢
      clear eY2 hM1 hAll1 bA1 zY1 HOV
      have KC : Hid (∀ U : World, Below m Y2 U → (U.cell? ⟨ma, 0, none⟩ = some (.slice a0 il u0) ∧ U.cell? ⟨ma, 1, none⟩ = some (.slice a1 ll u1) ∧ U.cell? ⟨ma, 2, none⟩ = some (.slice a2 dl u2) ∧ U.cell? ⟨ma, 3, none⟩ = some (.slice a3 ol u3)) ∧ IsLocks U a1 ll u1 locks ∧ IsDoubts U a2 dl u2 doubts) := fun U hU => by
        have hp := bA2.below hU zam
        exact ⟨⟨(hp.c 0 (by decide)).1, (hp.c 1 (by decide)).1, (hp.c 2 (by decide)).1, (hp.c 3 (by decide)).1⟩, row_up lk_len (by decide) hAll.locks hLlt hU, row_up db_len (by decide) hAll.doubts hDlt hU⟩
      have mY : m ≤ Y2.heap.size := Nat.le_of_lt hM2.box.lt
      clear bA2 hAll hLlt hDlt
      go_wp2
      go_loopw [11] (fun i wr => ∃ (k : Nat) (a : Option Addr) (c : Nat) (ys : List LkV) (b0 : Option Addr) (d0 : Nat) (zs : List ItV), i = .int .i64 (k : Int) ∧ k ≤ ll ∧ Hid (ys = (locks.take k).filter (fun x => !(ofT (ts, tn) x))) ∧ ys.length ≤ k ∧ Hid (zs = itAt items locks (ts, tn) yes k) ∧ zs.length ≤ 8 + k ∧ Hid (zs.Pairwise (fun a b => a.key < b.key) ∧ ∀ x ∈ zs, 0 ≤ x.version ∧ x.version ≤ 1048576 + (k : Int)) ∧ Made W wr W.heap.size m ⟨b0, zs.length, d0, a, ys.length, c, none, 0, 0, oa2, OV.length, oc2, zs, ys, [], OV⟩ ∧ (∀ q, (Value.slice a ys.length c).ownBlock = some q → m ≤ q) ∧ Below m Y2 wr) (fun i _ => ll - (intOf i).toNat)
      case atStart => exact ⟨0, none, 0, [], a0, u0, items, rfl, Nat.zero_le _, rfl, Nat.le_refl _, by show _ = _; unfold itAt; cases yes <;> rfl, by rw [HLi.out]; omega, ⟨HSRT.out.1, fun x hx => by have := HSRT.out.2 x hx; omega⟩, by rw [HLi.out]; exact hM2, fun q hq => by simp [Value.ownBlock] at hq, Below.refl _ _⟩
      case round =>
        obtain ⟨k, a, c, ys, b0, d0, zs, rfl, hk, hys, hyk, hzs, hzk, hsv, hM, hbk, hbm⟩ := hrel
        have HBK : Hid (∀ q, (Value.slice a ys.length c).ownBlock = some q → m ≤ q) := hbk
        clear hbk
        obtain ⟨⟨xa0, xa1, xa2, xa3⟩, hL, hDb⟩ := KC.out _ hbm
        obtain ⟨mz, x0, x1, x2, x3, g0, g1, g2, g3⟩ := hM.cells
        obtain ⟨c0, c1, c2, c3, t0, t1, r0, r1, r2, r3, rf0, rf1, rf2, rf3, rz⟩ := KA.out _ hM.bel
        simp only [] at x0 x1 x2 x3
        have hsz := hM.sz
        by_cases hlt : k < ll
        · have hlt' : (k : Int) < (ll : Int) := by omega
          have hkl : k < locks.length := by rw [HLl.out]; exact hlt
          have HT : Hid ((locks.take (k + 1)).filter (fun x => !(ofT (ts, tn) x)) = ys ++ (if !(ofT (ts, tn) (locks.getD k default)) then [locks.getD k default] else [])) := by show _ = _; rw [hys.out]; exact filter_step hkl
          have HI : Hid (itAt items locks (ts, tn) yes (k + 1) = if yes && wOf (ts, tn) (locks.getD k default) then putI (locks.getD k default).key (locks.getD k default).value zs else zs) := by show _ = _; rw [itAt_step hkl, hzs.out]
          obtain ⟨b, off, rfl, zb, hc⟩ := hL.2.2.2.2 (by omega)
          have hcells := hc k hlt
          obtain ⟨x, ex⟩ : ∃ x, x = locks.getD k default := ⟨_, rfl⟩
          rw [← ex] at hcells HT HI
          clear ex hc hys hzs
          obtain ⟨⟨q0, q1⟩, q2, q3, q4, q5⟩ := x
          have e0 := hcells 0 (by decide)
          have e1 := hcells 1 (by decide)
          have e2 := hcells 2 (by decide)
          have e3 := hcells 3 (by decide)
          have e4 := hcells 4 (by decide)
          have e5 := hcells 5 (by decide)
          simp only [LkV.cells, List.getElem?_cons_zero, List.getElem?_cons_succ, Nat.add_zero] at e0 e1 e2 e3 e4 e5
          clear hcells
          simp only [] at HI
          by_cases hq : q0 = ts
          · have hq' := hq.symm
            clear hq
            subst hq'
            by_cases hq1 : q1 = tn
            · have hq1' := hq1.symm
              clear hq1
              subst hq1'
              have HT' : Hid ((locks.take (k + 1)).filter (fun x => !(ofT (ts, tn) x)) = ys) := by show _ = _; rw [HT.out]; simp [ofT]
              have hw : wOf (ts, tn) ⟨(ts, tn), q2, q3, q4, q5⟩ = q3 := by simp [wOf]
              rw [hw] at HI
              clear HT hw
              go_upto_region 11 with (fail)
              go_quiet (fail)
              have bN : Below wr.heap.size wr (wr.drewN nq) := below_drewN (Below.refl _ _) nq
              obtain ⟨V, eV⟩ : ∃ V, V = wr.drewN nq := ⟨_, rfl⟩
              rw [← eV] at bN ⊢
              have hMV := hM.below bN
              have hbV : Below m Y2 V := hbm.trans (bN.mono (Nat.le_of_lt hM.box.lt))
              clear eV x0 x1 x2 x3 g0 g1 g2 g3 mz xa0 xa1 xa2 xa3 c0 c1 c2 c3 t0 t1 r0 r1 r2 r3 rf0 rf1 rf2 rf3 rz
              obtain ⟨⟨xa0, xa1, xa2, xa3⟩, hL', hDb'⟩ := KC.out _ hbV
              obtain ⟨mz, x0, x1, x2, x3, g0, g1, g2, g3⟩ := hMV.cells
              obtain ⟨c0, c1, c2, c3, t0, t1, r0, r1, r2, r3, rf0, rf1, rf2, rf3, rz⟩ := KA.out _ hMV.bel
              simp only [] at x0 x1 x2 x3
              have hszV := hMV.sz
              have e0' := (bN.cell (p := ⟨b, off + k * 6, none⟩) zb).trans e0
              have e1' := (bN.cell (p := ⟨b, off + k * 6 + 1, none⟩) zb).trans e1
              have e2' := (bN.cell (p := ⟨b, off + k * 6 + 2, none⟩) zb).trans e2
              have e3' := (bN.cell (p := ⟨b, off + k * 6 + 3, none⟩) zb).trans e3
              have e4' := (bN.cell (p := ⟨b, off + k * 6 + 4, none⟩) zb).trans e4
              have e5' := (bN.cell (p := ⟨b, off + k * 6 + 5, none⟩) zb).trans e5
              clear e0 e1 e2 e3 e4 e5
              cases q3 with
              | true =>
                cases yes with
                | true =>
                  have HI' : Hid (itAt items locks (ts, tn) true (k + 1) = putI q2 q4 zs) := by show _ = _; rw [HI.out]; rfl
                  clear HI
                  have zbV : b < V.heap.size := Nat.lt_of_lt_of_le zb bN.size
                  have zma : ma < V.heap.size := Nat.lt_trans zam mz
                  have KV : Hid (∀ U, Below V.heap.size V U → U.cell? ⟨m, 0, none⟩ = some (.slice b0 zs.length d0) ∧ U.cell? ⟨ma, 1, none⟩ = some (.slice (some ⟨b, off, none⟩) ll u1) ∧ U.cell? ⟨b, off + k * 6 + 2, none⟩ = some (.int .i64 q2) ∧ U.cell? ⟨b, off + k * 6 + 4, none⟩ = some (.int .i64 q4)) := fun U hU => ⟨(hU.cell (p := ⟨m, 0, none⟩) mz).trans x0, (hU.cell (p := ⟨ma, 1, none⟩) zma).trans xa1, (hU.cell (p := ⟨b, off + k * 6 + 2, none⟩) zbV).trans e2', (hU.cell (p := ⟨b, off + k * 6 + 4, none⟩) zbV).trans e4'⟩
                  have HIt : Hid (∀ U, Below V.heap.size V U → IsItems U b0 zs.length d0 zs) := fun U hU => (hMV.below hU).own.isStore.items
                  have hWi := fun w' h1 => withItem_any b0 zs.length d0 zs q2 q4 w' h1 (by omega) (fun x hx => by have := hsv.out.2 x hx; omega) hsv.out.1
                  obtain ⟨PI, ePI⟩ : ∃ PI, PI = putI q2 q4 zs := ⟨_, rfl⟩
                  have hpl := (put_bd q2 q4 (v := 1048576 + (k : Int)) (by omega) zs (fun y hy => hsv.out.2 y hy)).1
                  have hpv : Hid (PI.Pairwise (fun a b => a.key < b.key) ∧ ∀ x ∈ PI, 0 ≤ x.version ∧ x.version ≤ 1048576 + ((k + 1 : Nat) : Int)) := by
                    rw [ePI]
                    exact ⟨putI_srt q2 q4 zs hsv.out.1, fun x hx => by have := (put_bd q2 q4 (v := 1048576 + (k : Int)) (by omega) zs (fun y hy => hsv.out.2 y hy)).2 x hx; omega⟩
                  rw [← ePI] at hWi hpl
                  have HI2 : Hid (itAt items locks (ts, tn) true (k + 1) = PI) := by show _ = _; rw [HI'.out, ePI]
                  clear ePI HI'
                  go_upto_region 14 with (fail)
                  clear x1 x2 x3 g1 g2 g3 xa0 xa2 xa3 c0 c1 c2 c3 t0 t1 r0 r1 r2 r3 rf0 rf1 rf2 rf3 rz e0' e1' e3' e5' hL' hDb' KC KA HS HLl HLd HLi HSRT yD eD HZW hL hDb KV hM hbm hSW hkl hApL hApD offm hO3
                  first | go_region_with ((go_at_call 40; refine (hWi _ (HIt.out _ (by (with_reducible repeat (first | exact Below.refl _ _ | refine nD ?_ | refine nA ?_ _)); done))).mono ?_; rintro e w5 ⟨a5, c5, rfl, own5, hb5'⟩; have hu5 : Below V.heap.size V w5 := nT2 (by (with_reducible repeat (first | exact Below.refl _ _ | refine nD ?_ | refine nA ?_ _)); done) hb5'; obtain ⟨cl5, fz5, hM5⟩ := hMV.putg_items (grown_below hu5 _) (own_base own5 (by simp; omega)) (fun q hq => .inr (by have := (own5.lt q hq).1; simpa using this)); have z5 := hM5.box.lt; simp only [] at cl5)) | fail
                  all_goals
                    go_wp2
                    go_roundw
                    case rel => exact ⟨k + 1, a, c, ys, a5, c5, PI, by go_num, by omega, HT'.out.symm, by omega, HI2.out.symm, by omega, hpv.out, hM5, HBK.out, (hbV.trans (hu5.mono (Nat.le_of_lt mz))).setCell (p := ⟨m, 0, none⟩) (Nat.le_refl _) _⟩
                    case measure => simp [intOf]; omega
                | false =>
                  have HI' : Hid (itAt items locks (ts, tn) false (k + 1) = zs) := by show _ = _; rw [HI.out]; rfl
                  clear HI
                  go_wp2
                  go_roundw
                  case rel => exact ⟨k + 1, a, c, ys, b0, d0, zs, by go_num, by omega, HT'.out.symm, by omega, HI'.out.symm, by omega, ⟨hsv.out.1, fun x hx => by have := hsv.out.2 x hx; omega⟩, hMV, HBK.out, hbV⟩
                  case measure => simp [intOf]; omega
              | false =>
                have HI' : Hid (itAt items locks (ts, tn) yes (k + 1) = zs) := by show _ = _; rw [HI.out]; simp
                clear HI
                go_wp2
                go_roundw
                case rel => exact ⟨k + 1, a, c, ys, b0, d0, zs, by go_num, by omega, HT'.out.symm, by omega, HI'.out.symm, by omega, ⟨hsv.out.1, fun x hx => by have := hsv.out.2 x hx; omega⟩, hMV, HBK.out, hbV⟩
                case measure => simp [intOf]; omega
            · have HT' : Hid ((locks.take (k + 1)).filter (fun x => !(ofT (ts, tn) x)) = ys ++ [⟨(ts, q1), q2, q3, q4, q5⟩]) := by show _ = _; rw [HT.out]; simp [ofT, hq1]
              have HI' : Hid (itAt items locks (ts, tn) yes (k + 1) = zs) := by show _ = _; rw [HI.out]; simp [wOf, hq1]
              clear HT HI
              go_upto_region 11 with (fail)
              go_quiet (fail)
              have bN : Below wr.heap.size wr (wr.drewN nq) := below_drewN (Below.refl _ _) nq
              obtain ⟨V, eV⟩ : ∃ V, V = wr.drewN nq := ⟨_, rfl⟩
              rw [← eV] at bN ⊢
              have hMV := hM.below bN
              have hbV : Below m Y2 V := hbm.trans (bN.mono (Nat.le_of_lt hM.box.lt))
              clear eV x0 x1 x2 x3 g0 g1 g2 g3 mz xa0 xa1 xa2 xa3 c0 c1 c2 c3 t0 t1 r0 r1 r2 r3 rf0 rf1 rf2 rf3 rz
              obtain ⟨⟨xa0, xa1, xa2, xa3⟩, hL', hDb'⟩ := KC.out _ hbV
              obtain ⟨mz, x0, x1, x2, x3, g0, g1, g2, g3⟩ := hMV.cells
              obtain ⟨c0, c1, c2, c3, t0, t1, r0, r1, r2, r3, rf0, rf1, rf2, rf3, rz⟩ := KA.out _ hMV.bel
              simp only [] at x0 x1 x2 x3
              have hszV := hMV.sz
              have e0' := (bN.cell (p := ⟨b, off + k * 6, none⟩) zb).trans e0
              have e1' := (bN.cell (p := ⟨b, off + k * 6 + 1, none⟩) zb).trans e1
              have e2' := (bN.cell (p := ⟨b, off + k * 6 + 2, none⟩) zb).trans e2
              have e3' := (bN.cell (p := ⟨b, off + k * 6 + 3, none⟩) zb).trans e3
              have e4' := (bN.cell (p := ⟨b, off + k * 6 + 4, none⟩) zb).trans e4
              have e5' := (bN.cell (p := ⟨b, off + k * 6 + 5, none⟩) zb).trans e5
              clear e0 e1 e2 e3 e4 e5
              go_upto_region 12 with (fail)
              go_region_law (first | (refine step_append_row E2 (by rfl) (.tmp 53) (.tmp 59) (by rfl) W.heap.size (.slice a ys.length c) ys.length ys (by rfl) (own_below hMV.own.locks (by (with_reducible repeat (first | exact Below.refl _ _ | refine nD ?_ | refine nA ?_ _)); done)) _ 1 1 [⟨(ts, q1), q2, q3, q4, q5⟩] (by rfl) (isOne _ _ _ _ rfl rfl) (by unfold maxLen; omega) (by omega) (by simp; omega) ?_; intro a5 c5 w5 own5 gr5 at5; obtain ⟨cl5, fz5, hM5⟩ := hMV.put_locks (by (with_reducible repeat (first | exact Below.refl _ _ | refine nD ?_ | refine nA ?_ _)); done) gr5 own5 at5; have z5 := hM5.box.lt; simp only [] at cl5; have hb5 : Below m Y2 w5 := Below.grown (hbV.trans (Below.mono (by (with_reducible repeat (first | exact Below.refl _ _ | refine nD ?_ | refine nA ?_ _)); done) (Nat.le_of_lt mz))) gr5 (by simp; omega) HBK.out; have HB5 : Hid (∀ q, (Value.slice a5 (ys.length + 1) c5).ownBlock = some q → m ≤ q) := (fun q hq => by rcases at5 with e | e <;> rw [e] at hq; exact HBK.out q hq; simp at hq; omega)))
              all_goals
                go_wp2
                go_roundw
                case rel =>
                  have el : (ys ++ [(⟨(ts, q1), q2, q3, q4, q5⟩ : LkV)]).length = ys.length + 1 := by simp
                  refine ⟨k + 1, a5, c5, ys ++ [(⟨(ts, q1), q2, q3, q4, q5⟩ : LkV)], b0, d0, zs, by go_num, by omega, HT'.out.symm, by rw [el]; omega, HI'.out.symm, by omega, ⟨hsv.out.1, fun x hx => by have := hsv.out.2 x hx; omega⟩, ?_, by rw [el]; exact HB5.out, hb5.setCell (p := ⟨m, 1, none⟩) (Nat.le_refl _) _⟩
                  rw [el]
                  exact hM5
                case measure => simp [intOf]; omega
          · have HT' : Hid ((locks.take (k + 1)).filter (fun x => !(ofT (ts, tn) x)) = ys ++ [⟨(q0, q1), q2, q3, q4, q5⟩]) := by show _ = _; rw [HT.out]; simp [ofT, hq]
            have HI' : Hid (itAt items locks (ts, tn) yes (k + 1) = zs) := by show _ = _; rw [HI.out]; simp [wOf, hq]
            clear HT HI
            go_upto_region 11 with (fail)
            go_quiet (fail)
            have bN : Below wr.heap.size wr (wr.drewN nq) := below_drewN (Below.refl _ _) nq
            obtain ⟨V, eV⟩ : ∃ V, V = wr.drewN nq := ⟨_, rfl⟩
            rw [← eV] at bN ⊢
            have hMV := hM.below bN
            have hbV : Below m Y2 V := hbm.trans (bN.mono (Nat.le_of_lt hM.box.lt))
            clear eV x0 x1 x2 x3 g0 g1 g2 g3 mz xa0 xa1 xa2 xa3 c0 c1 c2 c3 t0 t1 r0 r1 r2 r3 rf0 rf1 rf2 rf3 rz
            obtain ⟨⟨xa0, xa1, xa2, xa3⟩, hL', hDb'⟩ := KC.out _ hbV
            obtain ⟨mz, x0, x1, x2, x3, g0, g1, g2, g3⟩ := hMV.cells
            obtain ⟨c0, c1, c2, c3, t0, t1, r0, r1, r2, r3, rf0, rf1, rf2, rf3, rz⟩ := KA.out _ hMV.bel
            simp only [] at x0 x1 x2 x3
            have hszV := hMV.sz
            have e0' := (bN.cell (p := ⟨b, off + k * 6, none⟩) zb).trans e0
            have e1' := (bN.cell (p := ⟨b, off + k * 6 + 1, none⟩) zb).trans e1
            have e2' := (bN.cell (p := ⟨b, off + k * 6 + 2, none⟩) zb).trans e2
            have e3' := (bN.cell (p := ⟨b, off + k * 6 + 3, none⟩) zb).trans e3
            have e4' := (bN.cell (p := ⟨b, off + k * 6 + 4, none⟩) zb).trans e4
            have e5' := (bN.cell (p := ⟨b, off + k * 6 + 5, none⟩) zb).trans e5
            clear e0 e1 e2 e3 e4 e5
            go_upto_region 12 with (fail)
            go_region_law (first | (refine step_append_row E2 (by rfl) (.tmp 53) (.tmp 59) (by rfl) W.heap.size (.slice a ys.length c) ys.length ys (by rfl) (own_below hMV.own.locks (by (with_reducible repeat (first | exact Below.refl _ _ | refine nD ?_ | refine nA ?_ _)); done)) _ 1 1 [⟨(q0, q1), q2, q3, q4, q5⟩] (by rfl) (isOne _ _ _ _ rfl rfl) (by unfold maxLen; omega) (by omega) (by simp; omega) ?_; intro a5 c5 w5 own5 gr5 at5; obtain ⟨cl5, fz5, hM5⟩ := hMV.put_locks (by (with_reducible repeat (first | exact Below.refl _ _ | refine nD ?_ | refine nA ?_ _)); done) gr5 own5 at5; have z5 := hM5.box.lt; simp only [] at cl5; have hb5 : Below m Y2 w5 := Below.grown (hbV.trans (Below.mono (by (with_reducible repeat (first | exact Below.refl _ _ | refine nD ?_ | refine nA ?_ _)); done) (Nat.le_of_lt mz))) gr5 (by simp; omega) HBK.out; have HB5 : Hid (∀ q, (Value.slice a5 (ys.length + 1) c5).ownBlock = some q → m ≤ q) := (fun q hq => by rcases at5 with e | e <;> rw [e] at hq; exact HBK.out q hq; simp at hq; omega)))
            all_goals
              go_wp2
              go_roundw
              case rel =>
                have el : (ys ++ [(⟨(q0, q1), q2, q3, q4, q5⟩ : LkV)]).length = ys.length + 1 := by simp
                refine ⟨k + 1, a5, c5, ys ++ [(⟨(q0, q1), q2, q3, q4, q5⟩ : LkV)], b0, d0, zs, by go_num, by omega, HT'.out.symm, by rw [el]; omega, HI'.out.symm, by omega, ⟨hsv.out.1, fun x hx => by have := hsv.out.2 x hx; omega⟩, ?_, by rw [el]; exact HB5.out, hb5.setCell (p := ⟨m, 1, none⟩) (Nat.le_refl _) _⟩
                rw [el]
                exact hM5
              case measure => simp [intOf]; omega
        · obtain rfl : ll = k := by omega
          have HYS : Hid (ys = locks.filter (fun x => !(ofT (ts, tn) x))) := by show _ = _; rw [hys.out, List.take_of_length_le (by rw [HLl.out]; exact Nat.le_refl _)]
          have HZS : Hid (zs = itAt items locks (ts, tn) yes ll) := hzs
          have hM1 := hM
          have hbm1 := hbm
          go_wp2
          clear x0 x1 x2 x3 g0 g1 g2 g3 mz xa0 xa1 xa2 xa3 hM hbm hsz hL hDb HBK hys hzs hzk hyk hsv c0 c1 c2 c3 t0 t1 r0 r1 r2 r3 rf0 rf1 rf2 rf3 rz
          rename World => wo
          go_loopw [12] (fun i wr => ∃ (k : Nat) (b2 : Option Addr) (d2 : Nat) (ds : List DbV), i = .int .i64 (k : Int) ∧ k ≤ dl ∧ Hid (ds = (doubts.take k).filter (fun x => !(dbT (ts, tn) x))) ∧ ds.length ≤ k ∧ Made W wr W.heap.size m ⟨b0, zs.length, d0, a, ys.length, c, b2, ds.length, d2, oa2, OV.length, oc2, zs, ys, ds, OV⟩ ∧ (∀ q, (Value.slice b2 ds.length d2).ownBlock = some q → m ≤ q) ∧ Below m Y2 wr) (fun i _ => dl - (intOf i).toNat)
          case atStart => exact ⟨0, none, 0, [], rfl, Nat.zero_le _, rfl, Nat.le_refl _, hM1, fun q hq => by simp [Value.ownBlock] at hq, hbm1⟩
          case round =>
            clear hM1 hbm1
            obtain ⟨k, b2, d2, ds, rfl, hk2, hds, hdk, hM, hbk, hbm⟩ := hrel
            have HBK : Hid (∀ q, (Value.slice b2 ds.length d2).ownBlock = some q → m ≤ q) := hbk
            clear hbk
            obtain ⟨⟨xa0, xa1, xa2, xa3⟩, hL, hDb⟩ := KC.out _ hbm
            obtain ⟨mz, x0, x1, x2, x3, g0, g1, g2, g3⟩ := hM.cells
            obtain ⟨c0, c1, c2, c3, t0, t1, r0, r1, r2, r3, rf0, rf1, rf2, rf3, rz⟩ := KA.out _ hM.bel
            simp only [] at x0 x1 x2 x3
            have hsz := hM.sz
            by_cases hlt : k < dl
            · have hlt' : (k : Int) < (dl : Int) := by omega
              have hkl : k < doubts.length := by rw [HLd.out]; exact hlt
              have HT : Hid ((doubts.take (k + 1)).filter (fun x => !(dbT (ts, tn) x)) = ds ++ (if !(dbT (ts, tn) (doubts.getD k default)) then [doubts.getD k default] else [])) := by show _ = _; rw [hds.out]; exact filter_step hkl
              obtain ⟨b, off, rfl, zb, hc⟩ := hDb.2.2.2.2 (by omega)
              have hcells := hc k hlt
              obtain ⟨x, ex⟩ : ∃ x, x = doubts.getD k default := ⟨_, rfl⟩
              rw [← ex] at hcells HT
              clear ex hc hds
              obtain ⟨⟨q0, q1⟩, q2⟩ := x
              have e0 := hcells 0 (by decide)
              have e1 := hcells 1 (by decide)
              have e2 := hcells 2 (by decide)
              simp only [DbV.cells, List.getElem?_cons_zero, List.getElem?_cons_succ, Nat.add_zero] at e0 e1 e2
              clear hcells
              by_cases hq : q0 = ts
              · have hq' := hq.symm
                clear hq
                subst hq'
                by_cases hq1 : q1 = tn
                · have hq1' := hq1.symm
                  clear hq1
                  subst hq1'
                  have HT' : Hid ((doubts.take (k + 1)).filter (fun x => !(dbT (ts, tn) x)) = ds) := by show _ = _; rw [HT.out]; simp [dbT]
                  clear HT
                  go_upto_region 18 with (fail)
                  go_quiet (fail)
                  have bN : Below wr.heap.size wr (wr.drewN nq) := below_drewN (Below.refl _ _) nq
                  obtain ⟨V, eV⟩ : ∃ V, V = wr.drewN nq := ⟨_, rfl⟩
                  rw [← eV] at bN ⊢
                  have hMV := hM.below bN
                  have hbV : Below m Y2 V := hbm.trans (bN.mono (Nat.le_of_lt hM.box.lt))
                  clear eV x0 x1 x2 x3 g0 g1 g2 g3 mz xa0 xa1 xa2 xa3 c0 c1 c2 c3 t0 t1 r0 r1 r2 r3 rf0 rf1 rf2 rf3 rz
                  obtain ⟨⟨xa0, xa1, xa2, xa3⟩, hL', hDb'⟩ := KC.out _ hbV
                  obtain ⟨mz, x0, x1, x2, x3, g0, g1, g2, g3⟩ := hMV.cells
                  obtain ⟨c0, c1, c2, c3, t0, t1, r0, r1, r2, r3, rf0, rf1, rf2, rf3, rz⟩ := KA.out _ hMV.bel
                  simp only [] at x0 x1 x2 x3
                  have hszV := hMV.sz
                  have e0' := (bN.cell (p := ⟨b, off + k * 3, none⟩) zb).trans e0
                  have e1' := (bN.cell (p := ⟨b, off + k * 3 + 1, none⟩) zb).trans e1
                  have e2' := (bN.cell (p := ⟨b, off + k * 3 + 2, none⟩) zb).trans e2
                  clear e0 e1 e2
                  go_wp2
                  go_roundw
                  case rel => exact ⟨k + 1, b2, d2, ds, by go_num, by omega, HT'.out.symm, by omega, hMV, HBK.out, hbV⟩
                  case measure => simp [intOf]; omega
                · have HT' : Hid ((doubts.take (k + 1)).filter (fun x => !(dbT (ts, tn) x)) = ds ++ [⟨(ts, q1), q2⟩]) := by show _ = _; rw [HT.out]; simp [dbT, hq1]
                  clear HT
                  go_upto_region 18 with (fail)
                  go_quiet (fail)
                  have bN : Below wr.heap.size wr (wr.drewN nq) := below_drewN (Below.refl _ _) nq
                  obtain ⟨V, eV⟩ : ∃ V, V = wr.drewN nq := ⟨_, rfl⟩
                  rw [← eV] at bN ⊢
                  have hMV := hM.below bN
                  have hbV : Below m Y2 V := hbm.trans (bN.mono (Nat.le_of_lt hM.box.lt))
                  clear eV x0 x1 x2 x3 g0 g1 g2 g3 mz xa0 xa1 xa2 xa3 c0 c1 c2 c3 t0 t1 r0 r1 r2 r3 rf0 rf1 rf2 rf3 rz
                  obtain ⟨⟨xa0, xa1, xa2, xa3⟩, hL', hDb'⟩ := KC.out _ hbV
                  obtain ⟨mz, x0, x1, x2, x3, g0, g1, g2, g3⟩ := hMV.cells
                  obtain ⟨c0, c1, c2, c3, t0, t1, r0, r1, r2, r3, rf0, rf1, rf2, rf3, rz⟩ := KA.out _ hMV.bel
                  simp only [] at x0 x1 x2 x3
                  have hszV := hMV.sz
                  have e0' := (bN.cell (p := ⟨b, off + k * 3, none⟩) zb).trans e0
                  have e1' := (bN.cell (p := ⟨b, off + k * 3 + 1, none⟩) zb).trans e1
                  have e2' := (bN.cell (p := ⟨b, off + k * 3 + 2, none⟩) zb).trans e2
                  clear e0 e1 e2
                  go_upto_region 19 with (fail)
                  go_region_law (first | (refine step_append_row E3 (by rfl) (.tmp 103) (.tmp 109) (by rfl) W.heap.size (.slice b2 ds.length d2) ds.length ds (by rfl) (own_below hMV.own.doubts (by (with_reducible repeat (first | exact Below.refl _ _ | refine nD ?_ | refine nA ?_ _)); done)) _ 1 1 [⟨(ts, q1), q2⟩] (by rfl) (isOne _ _ _ _ rfl rfl) (by unfold maxLen; omega) (by omega) (by simp; omega) ?_; intro a5 c5 w5 own5 gr5 at5; obtain ⟨cl5, fz5, hM5⟩ := hMV.put_doubts (by (with_reducible repeat (first | exact Below.refl _ _ | refine nD ?_ | refine nA ?_ _)); done) gr5 own5 at5; have z5 := hM5.box.lt; simp only [] at cl5; have hb5 : Below m Y2 w5 := Below.grown (hbV.trans (Below.mono (by (with_reducible repeat (first | exact Below.refl _ _ | refine nD ?_ | refine nA ?_ _)); done) (Nat.le_of_lt mz))) gr5 (by simp; omega) HBK.out; have HB5 : Hid (∀ q, (Value.slice a5 (ds.length + 1) c5).ownBlock = some q → m ≤ q) := (fun q hq => by rcases at5 with e | e <;> rw [e] at hq; exact HBK.out q hq; simp at hq; omega)))
                  all_goals
                    go_wp2
                    go_roundw
                    case rel =>
                      have el : (ds ++ [(⟨(ts, q1), q2⟩ : DbV)]).length = ds.length + 1 := by simp
                      refine ⟨k + 1, a5, c5, ds ++ [(⟨(ts, q1), q2⟩ : DbV)], by go_num, by omega, HT'.out.symm, by rw [el]; omega, ?_, by rw [el]; exact HB5.out, hb5.setCell (p := ⟨m, 2, none⟩) (Nat.le_refl _) _⟩
                      rw [el]
                      exact hM5
                    case measure => simp [intOf]; omega
              · have HT' : Hid ((doubts.take (k + 1)).filter (fun x => !(dbT (ts, tn) x)) = ds ++ [⟨(q0, q1), q2⟩]) := by show _ = _; rw [HT.out]; simp [dbT, hq]
                clear HT
                go_upto_region 18 with (fail)
                go_quiet (fail)
                have bN : Below wr.heap.size wr (wr.drewN nq) := below_drewN (Below.refl _ _) nq
                obtain ⟨V, eV⟩ : ∃ V, V = wr.drewN nq := ⟨_, rfl⟩
                rw [← eV] at bN ⊢
                have hMV := hM.below bN
                have hbV : Below m Y2 V := hbm.trans (bN.mono (Nat.le_of_lt hM.box.lt))
                clear eV x0 x1 x2 x3 g0 g1 g2 g3 mz xa0 xa1 xa2 xa3 c0 c1 c2 c3 t0 t1 r0 r1 r2 r3 rf0 rf1 rf2 rf3 rz
                obtain ⟨⟨xa0, xa1, xa2, xa3⟩, hL', hDb'⟩ := KC.out _ hbV
                obtain ⟨mz, x0, x1, x2, x3, g0, g1, g2, g3⟩ := hMV.cells
                obtain ⟨c0, c1, c2, c3, t0, t1, r0, r1, r2, r3, rf0, rf1, rf2, rf3, rz⟩ := KA.out _ hMV.bel
                simp only [] at x0 x1 x2 x3
                have hszV := hMV.sz
                have e0' := (bN.cell (p := ⟨b, off + k * 3, none⟩) zb).trans e0
                have e1' := (bN.cell (p := ⟨b, off + k * 3 + 1, none⟩) zb).trans e1
                have e2' := (bN.cell (p := ⟨b, off + k * 3 + 2, none⟩) zb).trans e2
                clear e0 e1 e2
                go_upto_region 19 with (fail)
                go_region_law (first | (refine step_append_row E3 (by rfl) (.tmp 103) (.tmp 109) (by rfl) W.heap.size (.slice b2 ds.length d2) ds.length ds (by rfl) (own_below hMV.own.doubts (by (with_reducible repeat (first | exact Below.refl _ _ | refine nD ?_ | refine nA ?_ _)); done)) _ 1 1 [⟨(q0, q1), q2⟩] (by rfl) (isOne _ _ _ _ rfl rfl) (by unfold maxLen; omega) (by omega) (by simp; omega) ?_; intro a5 c5 w5 own5 gr5 at5; obtain ⟨cl5, fz5, hM5⟩ := hMV.put_doubts (by (with_reducible repeat (first | exact Below.refl _ _ | refine nD ?_ | refine nA ?_ _)); done) gr5 own5 at5; have z5 := hM5.box.lt; simp only [] at cl5; have hb5 : Below m Y2 w5 := Below.grown (hbV.trans (Below.mono (by (with_reducible repeat (first | exact Below.refl _ _ | refine nD ?_ | refine nA ?_ _)); done) (Nat.le_of_lt mz))) gr5 (by simp; omega) HBK.out; have HB5 : Hid (∀ q, (Value.slice a5 (ds.length + 1) c5).ownBlock = some q → m ≤ q) := (fun q hq => by rcases at5 with e | e <;> rw [e] at hq; exact HBK.out q hq; simp at hq; omega)))
                all_goals
                  go_wp2
                  go_roundw
                  case rel =>
                    have el : (ds ++ [(⟨(q0, q1), q2⟩ : DbV)]).length = ds.length + 1 := by simp
                    refine ⟨k + 1, a5, c5, ds ++ [(⟨(q0, q1), q2⟩ : DbV)], by go_num, by omega, HT'.out.symm, by rw [el]; omega, ?_, by rw [el]; exact HB5.out, hb5.setCell (p := ⟨m, 2, none⟩) (Nat.le_refl _) _⟩
                    rw [el]
                    exact hM5
                  case measure => simp [intOf]; omega
            · obtain rfl : dl = k := by omega
              have yD' : Hid (D = ⟨zs, ys, ds, OV⟩) := by show _ = _; rw [yD.out, HYS.out, HZS.out, hds.out, List.take_of_length_le (by rw [HLd.out]; exact Nat.le_refl _)]
              go_wp2
              refine bodyPost_ret (v := .tuple #[.agg #[.slice b0 zs.length d0, .slice a ys.length c, .slice b2 ds.length d2, .slice oa2 OV.length oc2], .int .i64 0]) (by simp [results, Tryz.results17, go_sem, r0, r1, r2, r3]) rfl ?_
              rw [yD'.out]
              exact ⟨⟨b0, zs.length, d0, a, ys.length, c, b2, ds.length, d2, oa2, OV.length, oc2, zs, ys, ds, OV⟩, rfl, (hM.own.four (b := w.heap.size + 1 + 1) (by omega) (.slice b0 zs.length d0) (.slice a ys.length c) (.slice b2 ds.length d2) (.slice oa2 OV.length oc2)).base (by omega), rfl, below_four (hB.trans (hM.bel.mono hB.size)) (by omega) (.slice b0 zs.length d0) (.slice a ys.length c) (.slice b2 ds.length d2) (.slice oa2 OV.length oc2)⟩
  · have hEE := hE
    go_wp2_with (go_at_call 33; refine (hC _ hSW).mono ?_; rintro e w1 ⟨rfl, hb1⟩; clear c0 c1 c2 c3 t0 t1 r0 r1 r2 r3 rf0 rf1 rf2 rf3 rz; obtain ⟨c0, c1, c2, c3, t0, t1, r0, r1, r2, r3, rf0, rf1, rf2, rf3, rz⟩ := KA.out _ hb1)
    refine bodyPost_ret (v := .tuple #[.agg #[.slice none 0 0, .slice none 0 0, .slice none 0 0, .slice none 0 0], .int .i64 E]) (by simp [results, Tryz.results17, go_sem, r0, r1, r2, r3]) rfl ?_
    have hD : D = PS.nil := by rw [eD.out, if_neg hE]
    rw [hD]
    exact ⟨SV.nil, rfl, ownStore_nil _ _, rfl, below_four (hB.trans (hb1.mono hB.size)) (by omega) (.slice none 0 0) (.slice none 0 0) (.slice none 0 0) (.slice none 0 0)⟩
theorem endRef_any (s : SV) (t : Int × Int) (yes : Bool) (w : World) (h : IsStore w s) (h1 : s.il * 24 ≤ 140737488351232) (h2 : s.ll * 48 ≤ 140737488351232) (h3 : s.dl * 24 ≤ 140737488351232) (h4 : s.ol * 16 ≤ 140737488351232) :
    Calls Tryz.prog 17 #[s.val, .agg #[.int .i64 t.1, .int .i64 t.2], .bool yes] w fun e w' => ∃ r : SV, e = .returned (.tuple #[r.val, .int .i64 (endErr s t yes)]) ∧ IsStore w' r ∧ r.data = endData s t yes ∧ Below w.heap.size w w' :=
  (endRef_own s t yes w h h1 h2 h3 h4).mono fun e w' ⟨r, q1, q2, q3⟩ => ⟨r, q1, q2.isStore, q3⟩
end Go.Proofs.YtekglahigjblkaaGreatDoor.St
