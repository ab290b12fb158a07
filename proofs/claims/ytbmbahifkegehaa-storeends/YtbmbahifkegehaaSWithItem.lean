/- The contract of the document's withItem: a new value of a key in a list of items, in memory of its own. -/
import Derived.Test.YtbmbahifkegehaaSPut
import Derived.Test.YtbmbahifkegehaaSMade
import Derived.Deep.RegionLaw
namespace Go.Proofs.Ytbmbahifkegehaa.St
open Go.ChangeShapes Go.WideShapes Go.ChangeAt Go.RowKit
set_option linter.unusedVariables false

def wiStep (key value : Int) (p : List ItV × Bool) (x : ItV) : List ItV × Bool :=
  if x.key = key then (p.1 ++ [⟨key, value, x.version + 1⟩], true) else if key < x.key ∧ p.2 = false then (p.1 ++ [⟨key, value, 1⟩] ++ [x], true) else (p.1 ++ [x], p.2)
def wiFin (key value : Int) (p : List ItV × Bool) : List ItV := if p.2 then p.1 else p.1 ++ [⟨key, value, 1⟩]
theorem wi_true (key value : Int) : ∀ (xs acc : List ItV), (∀ x ∈ xs, x.key ≠ key) → xs.foldl (wiStep key value) (acc, true) = (acc ++ xs, true)
  | [], acc, _ => by simp
  | x :: r, acc, h => by
    rw [List.foldl_cons]
    have : wiStep key value (acc, true) x = (acc ++ [x], true) := by
      unfold wiStep
      rw [if_neg (h x (by simp)), if_neg (by simp)]
    rw [this, wi_true key value r _ (fun y hy => h y (by simp [hy]))]
    simp
theorem wi_false (key value : Int) : ∀ (xs acc : List ItV), xs.Pairwise (fun a b => a.key < b.key) → wiFin key value (xs.foldl (wiStep key value) (acc, false)) = acc ++ putI key value xs
  | [], acc, _ => rfl
  | x :: r, acc, h => by
    rw [List.pairwise_cons] at h
    have hgt := h.1
    rw [List.foldl_cons, putI]
    by_cases e : x.key = key
    · have hs : wiStep key value (acc, false) x = (acc ++ [⟨key, value, x.version + 1⟩], true) := by unfold wiStep; rw [if_pos e]
      rw [hs, if_pos e, wi_true key value r _ (fun y hy => by have := hgt y hy; omega)]
      simp [wiFin]
    · by_cases hlt : key < x.key
      · have hs : wiStep key value (acc, false) x = (acc ++ [⟨key, value, 1⟩] ++ [x], true) := by unfold wiStep; rw [if_neg e, if_pos ⟨hlt, rfl⟩]
        rw [hs, if_neg e, if_pos hlt, wi_true key value r _ (fun y hy => by have := hgt y hy; omega)]
        simp [wiFin]
      · have hs : wiStep key value (acc, false) x = (acc ++ [x], false) := by unfold wiStep; rw [if_neg e, if_neg (fun e => hlt e.1)]
        rw [hs, if_neg e, if_neg hlt, wi_false key value r (acc ++ [x]) h.2]
        simp
theorem wi_at {key value : Int} {xs : List ItV} {j : Nat} (hj : j < xs.length) : (xs.take (j + 1)).foldl (wiStep key value) ([], false) = wiStep key value ((xs.take j).foldl (wiStep key value) ([], false)) (xs.getD j default) := by
  rw [take_at hj, List.foldl_append]
  rfl

set_option maxRecDepth 100000 in
set_option maxHeartbeats 4000000 in
theorem withItem_any (a : Option Addr) (n c : Nat) (xs : List ItV) (key value : Int) (w : World) (h : IsItems w a n c xs) (hn : n ≤ 60) (hv : ∀ x ∈ xs, 0 ≤ x.version ∧ x.version ≤ 2000000) (hok : xs.Pairwise (fun a b => a.key < b.key)) :
    Calls Try.prog 33 #[.slice a n c, .int .i64 key, .int .i64 value] w fun e w' => ∃ (ao : Option Addr) (cp : Nat), e = .returned (.slice ao (putI key value xs).length cp) ∧ w'.ownsRow w.heap.size 59 3 (.slice ao (putI key value xs).length cp) (putI key value xs).length (flat ItV.cells (putI key value xs)) ∧ Below w.heap.size w w' := by
  obtain ⟨i1, E1⟩ := itElem
  have HE : Hid (putI key value xs = wiFin key value (xs.foldl (wiStep key value) ([], false))) := by show _ = _; rw [wi_false key value xs [] hok]; rfl
  obtain ⟨R, eR⟩ : ∃ R, R = putI key value xs := ⟨_, rfl⟩
  rw [← eR] at HE ⊢
  have HL : Hid (xs.length = n) := h.1
  have HV : Hid (∀ x ∈ xs, 0 ≤ x.version ∧ x.version ≤ 2000000) := hv
  clear eR hv hok
  go_enter Try.func33, Try.ntmps33
  go_wp2
  go_loopw [7, 8, 9] (fun s7 s8 s9 wr => ∃ (j : Nat) (ys : List ItV) (pt : Bool) (ao : Option Addr) (cp : Nat), s9 = .int .i64 (j : Int) ∧ s8 = .bool pt ∧ s7 = .slice ao ys.length cp ∧ j ≤ n ∧ ys.length ≤ 2 * j ∧ Hid ((ys, pt) = (xs.take j).foldl (wiStep key value) ([], false)) ∧ wr.ownsRow w.heap.size 59 3 (.slice ao ys.length cp) ys.length (flat ItV.cells ys) ∧ Below w.heap.size w wr) (fun _ _ s9 _ => n - (intOf s9).toNat)
  case atStart => exact ⟨0, [], false, none, 0, rfl, rfl, rfl, Nat.zero_le _, Nat.le_refl _, rfl, World.ownsRow_nil _ _ _ _, Below.refl _ _⟩
  case round =>
    obtain ⟨j, ys, pt, ao, cp, rfl, rfl, rfl, hj, hyl, hys, hown, hb⟩ := hrel
    have hbs := hb.size
    by_cases hlt : j < n
    · have hlt' : (j : Int) < (n : Int) := by omega
      have hjl : j < xs.length := by rw [HL.out]; exact hlt
      have HS : Hid ((xs.take (j + 1)).foldl (wiStep key value) ([], false) = wiStep key value (ys, pt) (xs.getD j default)) := by show _ = _; rw [wi_at hjl, hys.out]
      have hvx := HV.out _ (getD_mem hjl)
      obtain ⟨b, off, rfl, zb, hc⟩ := (h.below hb).2.2.2.2 (by omega)
      have hcells := hc j hlt
      obtain ⟨x, ex⟩ : ∃ x, x = xs.getD j default := ⟨_, rfl⟩
      rw [← ex] at hcells HS hvx
      have HX : Hid (xs.getD j default = x) := ex.symm
      clear ex hc hys
      obtain ⟨xk, xv, xw⟩ := x
      have e0 := hcells 0 (by decide)
      have e1 := hcells 1 (by decide)
      have e2 := hcells 2 (by decide)
      simp only [ItV.cells, List.getElem?_cons_zero, List.getElem?_cons_succ, Nat.add_zero] at e0 e1 e2
      simp only [] at hvx
      have hwr : IntKind.i64.wrap (xw + 1) = xw + 1 := by apply wrap_in <;> omega
      clear hcells
      by_cases hq : xk = key
      · have hq' := hq.symm
        clear hq
        subst hq'
        replace HS : Hid ((xs.take (j + 1)).foldl (wiStep key value) ([], false) = (ys ++ [⟨key, value, xw + 1⟩], true)) := by show _ = _; rw [HS.out]; simp [wiStep]
        go_upto_region 8 with (at_builtin; refine wpList_append_row E1 (by rfl) _ _ (by rfl) w.heap.size (.slice ao ys.length cp) ys.length ys (by rfl) (own_below hown ((Below.refl _ _).alloc (Nat.le_refl _) _)) _ 1 1 [⟨key, value, xw + 1⟩] (by rfl) (isOne (k := 3) (cells := ItV.cells) wr #[.int .i64 key, .int .i64 value, .int .i64 (xw + 1)] _ ⟨key, value, xw + 1⟩ rfl rfl) (by unfold maxLen; omega) (by omega) (by simp; omega) ?_; intro a5 c5 w5 own5 gr5 at5)
        have hb5 : Below w.heap.size w w5 := (hb.alloc hb.size _).grown gr5 (by have := hb.size; simp; omega) (fun q hq => (hown.lt q hq).1)
        obtain ⟨zs, ez⟩ : ∃ zs, zs = ys ++ [(⟨key, value, xw + 1⟩ : ItV)] := ⟨_, rfl⟩
        have elz : Hid (zs.length = ys.length + 1) := by rw [ez]; show _ = _; simp
        rw [← ez] at HS own5
        clear ez
        go_wp2
        go_roundw
        case rel =>
          refine ⟨j + 1, zs, true, a5, c5, by go_num, rfl, ?_, by omega, ?_, HS.out.symm, ?_, hb5⟩
          · rw [elz.out]
          · rw [elz.out]; omega
          · rw [elz.out]; exact own5
        case measure => simp [intOf]; omega
      · by_cases hg : key < xk ∧ pt = false
        · obtain ⟨hg, rfl⟩ := hg
          replace HS : Hid ((xs.take (j + 1)).foldl (wiStep key value) ([], false) = (ys ++ [⟨key, value, 1⟩] ++ [⟨xk, xv, xw⟩], true)) := by show _ = _; rw [HS.out]; simp [wiStep, hq, hg]
          have b0 := hb
          go_upto_region 11 with (at_builtin; refine wpList_append_row E1 (by rfl) _ _ (by rfl) w.heap.size (.slice ao ys.length cp) ys.length ys (by rfl) (own_below hown ((Below.refl _ _).alloc (Nat.le_refl _) _)) _ 1 1 [⟨key, value, 1⟩] (by rfl) (isOne (k := 3) (cells := ItV.cells) wr #[.int .i64 key, .int .i64 value, .int .i64 1] _ ⟨key, value, 1⟩ rfl rfl) (by unfold maxLen; omega) (by omega) (by simp; omega) ?_; intro a5 c5 w5 own5 gr5 at5)
          have hb5 : Below w.heap.size w w5 := (hb.alloc hb.size _).grown gr5 (by have := hb.size; simp; omega) (fun q hq => (hown.lt q hq).1)
          have hbs5 := hb5.size
          have hr5 := (h.below hb5).2.2.2.2 (by omega)
          obtain ⟨b', off', eb, _, hc5⟩ := hr5
          simp only [Option.some.injEq, Addr.mk.injEq, and_true] at eb
          obtain ⟨rfl, rfl⟩ := eb
          have hxx : xs.getD j default = ⟨xk, xv, xw⟩ := HX.out
          have hcells := hc5 j hlt
          rw [hxx] at hcells
          have d0 := hcells 0 (by decide)
          have d1 := hcells 1 (by decide)
          have d2 := hcells 2 (by decide)
          simp only [ItV.cells, List.getElem?_cons_zero, List.getElem?_cons_succ, Nat.add_zero] at d0 d1 d2
          clear e0 e1 e2 hcells hc5 hxx
          have hkk : True := trivial
          go_upto_region 5 with (at_builtin; refine wpList_append_row E1 (by rfl) _ _ (by rfl) w.heap.size (.slice a5 (ys.length + 1) c5) (ys.length + 1) (ys ++ [⟨key, value, 1⟩]) (by rfl) (own_below own5 ((Below.refl _ _).alloc (Nat.le_refl _) _)) _ 1 1 [⟨xk, xv, xw⟩] (by rfl) (isOne (k := 3) (cells := ItV.cells) w5 #[.int .i64 xk, .int .i64 xv, .int .i64 xw] _ ⟨xk, xv, xw⟩ rfl rfl) (by unfold maxLen; omega) (by omega) (by simp; omega) ?_; intro a6 c6 w6 own6 gr6 at6)
          have hb6 : Below w.heap.size w w6 := (hb5.alloc hb5.size _).grown gr6 (by have := hb5.size; simp; omega) (fun q hq => (own5.lt q hq).1)
          obtain ⟨zs, ez⟩ : ∃ zs, zs = ys ++ [(⟨key, value, 1⟩ : ItV)] ++ [(⟨xk, xv, xw⟩ : ItV)] := ⟨_, rfl⟩
          have elz : Hid (zs.length = ys.length + 1 + 1) := by rw [ez]; show _ = _; simp
          rw [← ez] at HS own6
          clear ez
          go_wp2
          go_roundw
          case rel =>
            refine ⟨j + 1, zs, true, a6, c6, by go_num, rfl, ?_, by omega, ?_, HS.out.symm, ?_, hb6⟩
            · rw [elz.out]
            · rw [elz.out]; omega
            · rw [elz.out]; exact own6
          case measure => simp [intOf]; omega
        · replace HS : Hid ((xs.take (j + 1)).foldl (wiStep key value) ([], false) = (ys ++ [⟨xk, xv, xw⟩], pt)) := by show _ = _; rw [HS.out]; unfold wiStep; rw [if_neg hq, if_neg hg]
          have hcase : ¬ key < xk ∨ (key < xk ∧ pt = true) := by
            by_cases h1 : key < xk
            · right; refine ⟨h1, ?_⟩; cases pt with
              | true => rfl
              | false => exact absurd ⟨h1, rfl⟩ hg
            · exact .inl h1
          clear hg
          rcases hcase with hg | ⟨hg, rfl⟩
          all_goals
            go_upto_region 5 with (at_builtin; refine wpList_append_row E1 (by rfl) _ _ (by rfl) w.heap.size (.slice ao ys.length cp) ys.length ys (by rfl) (own_below hown ((Below.refl _ _).alloc (Nat.le_refl _) _)) _ 1 1 [⟨xk, xv, xw⟩] (by rfl) (isOne (k := 3) (cells := ItV.cells) wr #[.int .i64 xk, .int .i64 xv, .int .i64 xw] _ ⟨xk, xv, xw⟩ rfl rfl) (by unfold maxLen; omega) (by omega) (by simp; omega) ?_; intro a5 c5 w5 own5 gr5 at5)
            have hb5 : Below w.heap.size w w5 := (hb.alloc hb.size _).grown gr5 (by have := hb.size; simp; omega) (fun q hq => (hown.lt q hq).1)
            obtain ⟨zs, ez⟩ : ∃ zs, zs = ys ++ [(⟨xk, xv, xw⟩ : ItV)] := ⟨_, rfl⟩
            have elz : Hid (zs.length = ys.length + 1) := by rw [ez]; show _ = _; simp
            rw [← ez] at HS own5
            clear ez
            go_wp2
            go_roundw
            case rel =>
              refine ⟨j + 1, zs, _, a5, c5, by go_num, rfl, ?_, by omega, ?_, HS.out.symm, ?_, hb5⟩
              · rw [elz.out]
              · rw [elz.out]; omega
              · rw [elz.out]; exact own5
            case measure => simp [intOf]; omega
    · obtain rfl : j = n := by omega
      rw [List.take_of_length_le (by rw [HL.out]; exact Nat.le_refl _)] at hys
      cases pt with
      | true =>
        have hR : R = ys := by rw [HE.out, ← hys.out]; rfl
        subst hR
        go_wp2
        go_ret
        exact ⟨ao, cp, rfl, hown, hb⟩
      | false =>
        have HR : Hid (R = ys ++ [⟨key, value, 1⟩]) := by show _ = _; rw [HE.out, ← hys.out]; rfl
        go_upto_region 15 with (at_builtin; refine wpList_append_row E1 (by rfl) _ _ (by rfl) w.heap.size (.slice ao ys.length cp) ys.length ys (by rfl) (own_below hown ((Below.refl _ _).alloc (Nat.le_refl _) _)) _ 1 1 [⟨key, value, 1⟩] (by rfl) (isOne (k := 3) (cells := ItV.cells) wr #[.int .i64 key, .int .i64 value, .int .i64 1] _ ⟨key, value, 1⟩ rfl rfl) (by unfold maxLen; omega) (by omega) (by simp; omega) ?_; intro a5 c5 w5 own5 gr5 at5)
        have hb5 : Below w.heap.size w w5 := (hb.alloc hb.size _).grown gr5 (by have := hb.size; simp; omega) (fun q hq => (hown.lt q hq).1)
        have elR : Hid (R.length = ys.length + 1) := by show _ = _; rw [HR.out]; simp
        rw [← HR.out] at own5
        go_wp2
        go_ret
        refine ⟨a5, c5, ?_, ?_, hb5⟩
        · rw [elR.out]; rfl
        · rw [elR.out]; exact own5
end Go.Proofs.Ytbmbahifkegehaa.St
