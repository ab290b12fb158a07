/- Texts of this claim, one behind the other. -/
import Derived.Test.YtifdjlhgcbkamaaM14PartForces
import Derived.Test.YtifdjlhgcbkamaaM18PartForces
import Derived.Test.YtifdjlhgcbkamaaM16PartForces
import Derived.Test.YtifdjlhgcbkamaaM6PartForces
import Derived.Deep.RegionLaw
/- The contract of the document's WritesOf; the walk of the law StoreCounts. -/
namespace Go.Proofs.Ytifdjlhgcbkamaa.St
open Go.ChangeShapes Go.WideShapes Go.ChangeAt Go.RowKit
set_option linter.unusedVariables false

def wOf' (t : Int × Int) (k : LkV) : Bool := decide (k.t = t) && k.write
theorem countP_at0 {α : Type} [Inhabited α] {p : α → Bool} {xs : List α} {j : Nat} (hj : j < xs.length) : (xs.take (j + 1)).countP p = (xs.take j).countP p + (if p (xs.getD j default) then 1 else 0) := by
  rw [take_at hj, List.countP_append]
  simp [List.countP_cons]
theorem wOf_same (t : Int × Int) (l : List LkV) : l.countP (wOf' t) = (l.filter (wOf t)).length := by
  rw [← List.countP_eq_length_filter]
  congr 1
  funext k
  simp [wOf', wOf, Bool.and_comm]
theorem ask_cnt (s : SV) (t : Int × Int) : askErr s t 0 = cntErr s t := by
  unfold askErr cntErr
  have : inR 0 0 7 = true := by decide
  rw [this]
  simp

set_option maxRecDepth 100000 in
set_option maxHeartbeats 4000000 in
theorem writesRef_any (s : SV) (t : Int × Int) (w : World) (h : IsStore w s) :
    Calls Try.prog 22 #[s.val, .agg #[.int .i64 t.1, .int .i64 t.2]] w fun e w' => e = .returned (.tuple #[.int .i64 (cntIs s t), .int .i64 (cntErr s t)]) ∧ Below w.heap.size w w' := by
  have hC := fun w' h1 => askFault_any s t 0 w' h1
  simp only [ask_cnt] at hC
  obtain ⟨E, e6⟩ : ∃ R : Int, R = cntErr s t := ⟨_, rfl⟩
  obtain ⟨R, e7⟩ : ∃ R, R = cntIs s t := ⟨_, rfl⟩
  have eR : Hid (R = if E = 0 then (s.locks.countP (wOf' t) : Int) else 0) := by rw [e6, wOf_same]; exact e7
  rw [← e6, ← e7]
  rw [← e6] at hC
  clear e6 e7
  have hh := h
  have hl := h.locks
  obtain ⟨ia, il, ic, la, ll, lc, da, dl, dc, oa, ol, oc, items, locks, doubts, over⟩ := s
  obtain ⟨ts, tn⟩ := t
  simp only [SV.val] at *
  obtain ⟨hlen, hcap, hmax, _, hmem⟩ := hl
  have HL : Hid (locks.length = ll) := hlen
  clear hlen
  unfold maxLen at hmax
  obtain ⟨P, eP⟩ : ∃ P, P = wOf' (ts, tn) := ⟨_, rfl⟩
  have EP : Hid (∀ y, P y = (decide (y.t = (ts, tn)) && y.write)) := by show ∀ _, _; rw [eP]; intro y; rfl
  rw [← eP] at eR
  clear eP
  obtain ⟨W, hW⟩ : ∃ W : World, W = (w.alloc (.cells #[.slice ia il ic, .slice la ll lc, .slice da dl dc, .slice oa ol oc] 34)).alloc (.cells #[.int .i64 ts, .int .i64 tn] 28) := ⟨_, rfl⟩
  have hB : Below w.heap.size w W := by rw [hW]; exact ((Below.refl _ _).alloc (Nat.le_refl _) _).alloc (by simp) _
  have zW : W.heap.size = w.heap.size + 2 := by rw [hW]; simp
  have z0 : w.heap.size < W.heap.size := by omega
  have z1 : w.heap.size + 1 < W.heap.size := by omega
  clear zW
  have c0 : W.cell? ⟨w.heap.size, 0, none⟩ = some (.slice ia il ic) := by rw [hW]; go_simp
  have c1 : W.cell? ⟨w.heap.size, 1, none⟩ = some (.slice la ll lc) := by rw [hW]; go_simp
  have c2 : W.cell? ⟨w.heap.size, 2, none⟩ = some (.slice da dl dc) := by rw [hW]; go_simp
  have c3 : W.cell? ⟨w.heap.size, 3, none⟩ = some (.slice oa ol oc) := by rw [hW]; go_simp
  have c4 : W.cell? ⟨w.heap.size + 1, 0, none⟩ = some (.int .i64 ts) := by rw [hW]; go_simp
  have c5 : W.cell? ⟨w.heap.size + 1, 1, none⟩ = some (.int .i64 tn) := by rw [hW]; go_simp
  have KA : Hid (∀ U : World, Below W.heap.size W U → U.cell? ⟨w.heap.size, 0, none⟩ = some (.slice ia il ic) ∧ U.cell? ⟨w.heap.size, 1, none⟩ = some (.slice la ll lc) ∧ U.cell? ⟨w.heap.size, 2, none⟩ = some (.slice da dl dc) ∧ U.cell? ⟨w.heap.size, 3, none⟩ = some (.slice oa ol oc) ∧ U.cell? ⟨w.heap.size + 1, 0, none⟩ = some (.int .i64 ts) ∧ U.cell? ⟨w.heap.size + 1, 1, none⟩ = some (.int .i64 tn)) := fun U hU =>
    ⟨(hU.cell (p := ⟨w.heap.size, 0, none⟩) z0).trans c0, (hU.cell (p := ⟨w.heap.size, 1, none⟩) z0).trans c1, (hU.cell (p := ⟨w.heap.size, 2, none⟩) z0).trans c2, (hU.cell (p := ⟨w.heap.size, 3, none⟩) z0).trans c3, (hU.cell (p := ⟨w.heap.size + 1, 0, none⟩) z1).trans c4, (hU.cell (p := ⟨w.heap.size + 1, 1, none⟩) z1).trans c5⟩
  have hSW := hh.below hB
  go_enter Try.func22, Try.ntmps22
  go_upto_region 1 with (fail)
  rw [← hW]
  clear hW
  by_cases hE : E = 0
  · subst hE
    go_wp2_with (go_at_call 47; refine (hC _ hSW).mono ?_; rintro e w1 ⟨rfl, hb1⟩)
    clear c0 c1 c2 c3 c4 c5
    go_loopw [7, 8] (fun s7 s8 wr => ∃ (k A : Nat), k ≤ ll ∧ s8 = .int .i64 k ∧ s7 = .int .i64 A ∧ Hid (A = (locks.take k).countP P) ∧ A ≤ k ∧ Below W.heap.size W wr) (fun _ s8 _ => ll - (intOf s8).toNat)
    case atStart => exact ⟨0, 0, Nat.zero_le _, rfl, rfl, rfl, Nat.le_refl _, hb1⟩
    case round =>
      obtain ⟨k, A, hk, rfl, rfl, hA, hAk, hb⟩ := hrel
      have hwr := hB.trans (hb.mono hB.size)
      obtain ⟨c0, c1, c2, c3, c4, c5⟩ := KA.out _ hb
      by_cases hlt : k < ll
      · have hlt' : (k : Int) < (ll : Int) := by omega
        obtain ⟨b, off, rfl, zb, hc⟩ := hmem (by omega)
        have hkl : k < locks.length := by have := HL.out; omega
        have hcells := hc k hlt
        have n1 := countP_at0 (p := P) hkl
        obtain ⟨x, ex⟩ : ∃ x, x = locks.getD k default := ⟨_, rfl⟩
        rw [← ex] at hcells n1
        clear ex
        rw [EP.out, ← hA.out] at n1
        obtain ⟨⟨site, num⟩, key2, write, value, ask⟩ := x
        simp only at n1
        have N1 : Hid ((locks.take (k + 1)).countP P = A + if (decide ((site, num) = (ts, tn)) && write) = true then 1 else 0) := n1
        clear n1 hA
        have a0 := hcells 0 (by decide)
        have a1 := hcells 1 (by decide)
        have a3 := hcells 3 (by decide)
        simp [LkV.cells] at a0 a1 a3
        rw [← hwr.cell (p := ⟨b, off + k * 6, none⟩) zb] at a0
        rw [← hwr.cell (p := ⟨b, off + k * 6 + 1, none⟩) zb] at a1
        rw [← hwr.cell (p := ⟨b, off + k * 6 + 3, none⟩) zb] at a3
        clear hcells hc
        have k63 : (k : Int) < 9223372036854775807 := by omega
        by_cases e1 : site = ts
        · by_cases e2 : num = tn
          · subst e1 e2
            cases write with
            | true =>
              go_wp2
              go_quiet (fail)
              go_wp2
              go_roundw
              case rel => exact ⟨k + 1, A + 1, by omega, by go_num, by go_num, by show _ = _; rw [N1.out]; simp, by omega, below_drewN hb nq⟩
              case measure => simp [intOf]; omega
            | false =>
              go_wp2
              go_quiet (fail)
              go_wp2
              go_roundw
              case rel => exact ⟨k + 1, A, by omega, by go_num, rfl, by show _ = _; rw [N1.out]; simp, by omega, below_drewN hb nq⟩
              case measure => simp [intOf]; omega
          · have e3 : (num == tn) = false := by simpa using e2
            subst e1
            go_wp2
            go_quiet (fail)
            go_wp2
            go_roundw
            case rel => exact ⟨k + 1, A, by omega, by go_num, rfl, by show _ = _; rw [N1.out]; simp [e2], by omega, below_drewN hb nq⟩
            case measure => simp [intOf]; omega
        · have e3 : (site == ts) = false := by simpa using e1
          go_wp2
          go_quiet (fail)
          go_wp2
          go_roundw
          case rel => exact ⟨k + 1, A, by omega, by go_num, rfl, by show _ = _; rw [N1.out]; simp [e1], by omega, below_drewN hb nq⟩
          case measure => simp [intOf]; omega
      · have hke : k = ll := by omega
        have etk : locks.take k = locks := List.take_of_length_le (by have := HL.out; omega)
        have hA' := hA.out
        rw [etk] at hA'
        clear etk hke hA
        subst hA'
        go_wp2
        go_ret2
        exact ⟨by rw [eR.out]; rfl, hwr⟩
  · go_wp2_with (go_at_call 47; refine (hC _ hSW).mono ?_; rintro e w1 ⟨rfl, hb1⟩)
    go_ret2
    exact ⟨by rw [eR.out, if_neg hE]; rfl, hB.trans (hb1.mono hB.size)⟩
end Go.Proofs.Ytifdjlhgcbkamaa.St
/- The contract of the document's withItem: a new value of a key in a list of items, in memory of its own. -/
namespace Go.Proofs.Ytifdjlhgcbkamaa.St
open Go.ChangeShapes Go.WideShapes Go.ChangeAt Go.RowKit
set_option linter.unusedVariables false

def wiStep (key value : Int) (p : List ItV × Bool) (x : ItV) : List ItV × Bool :=
  if x.key = key then (p.1 ++ [⟨key, value, x.version + 1⟩], true) else if key < x.key ∧ p.2 = false then (p.1 ++ [⟨key, value, 1⟩] ++ [x], true) else (p.1 ++ [x], p.2)
def wiFin (key value : Int) (p : List ItV × Bool) : List ItV := if p.2 then p.1 else p.1 ++ [⟨key, value, 1⟩]
theorem wi_true (key value : Int) : ∀ (xs acc : List ItV), (∀ x ∈ xs, x.key ≠ key) → xs.foldl (wiStep key value) (acc, true) = (acc ++ xs, true)
  | [], acc, _ => by simp
  | x :: r, acc, h => by
    rw [List.foldl_cons]
    have : wiStep key value (acc, true) x = (acc ++ [x], true) := by
      unfold wiStep
      rw [if_neg (h x (by simp)), if_neg (by simp)]
    rw [this, wi_true key value r _ (fun y hy => h y (by simp [hy]))]
    simp
theorem wi_false (key value : Int) : ∀ (xs acc : List ItV), xs.Pairwise (fun a b => a.key < b.key) → wiFin key value (xs.foldl (wiStep key value) (acc, false)) = acc ++ putI key value xs
  | [], acc, _ => rfl
  | x :: r, acc, h => by
    rw [List.pairwise_cons] at h
    have hgt := h.1
    rw [List.foldl_cons, putI]
    by_cases e : x.key = key
    · have hs : wiStep key value (acc, false) x = (acc ++ [⟨key, value, x.version + 1⟩], true) := by unfold wiStep; rw [if_pos e]
      rw [hs, if_pos e, wi_true key value r _ (fun y hy => by have := hgt y hy; omega)]
      simp [wiFin]
    · by_cases hlt : key < x.key
      · have hs : wiStep key value (acc, false) x = (acc ++ [⟨key, value, 1⟩] ++ [x], true) := by unfold wiStep; rw [if_neg e, if_pos ⟨hlt, rfl⟩]
        rw [hs, if_neg e, if_pos hlt, wi_true key value r _ (fun y hy => by have := hgt y hy; omega)]
        simp [wiFin]
      · have hs : wiStep key value (acc, false) x = (acc ++ [x], false) := by unfold wiStep; rw [if_neg e, if_neg (fun e => hlt e.1)]
        rw [hs, if_neg e, if_neg hlt, wi_false key value r (acc ++ [x]) h.2]
        simp
theorem wi_at {key value : Int} {xs : List ItV} {j : Nat} (hj : j < xs.length) : (xs.take (j + 1)).foldl (wiStep key value) ([], false) = wiStep key value ((xs.take j).foldl (wiStep key value) ([], false)) (xs.getD j default) := by
  rw [take_at hj, List.foldl_append]
  rfl

set_option maxRecDepth 100000 in
set_option maxHeartbeats 4000000 in
theorem withItem_any (a : Option Addr) (n c : Nat) (xs : List ItV) (key value : Int) (w : World) (h : IsItems w a n c xs) (hn : n ≤ 60) (hv : ∀ x ∈ xs, 0 ≤ x.version ∧ x.version ≤ 2000000) (hok : xs.Pairwise (fun a b => a.key < b.key)) :
    Calls Try.prog 50 #[.slice a n c, .int .i64 key, .int .i64 value] w fun e w' => ∃ (ao : Option Addr) (cp : Nat), e = .returned (.slice ao (putI key value xs).length cp) ∧ w'.ownsRow w.heap.size 85 3 (.slice ao (putI key value xs).length cp) (putI key value xs).length (flat ItV.cells (putI key value xs)) ∧ Below w.heap.size w w' := by
  obtain ⟨i1, E1⟩ := itElem
  have HE : Hid (putI key value xs = wiFin key value (xs.foldl (wiStep key value) ([], false))) := by show _ = _; rw [wi_false key value xs [] hok]; rfl
  obtain ⟨R, eR⟩ : ∃ R, R = putI key value xs := ⟨_, rfl⟩
  rw [← eR] at HE ⊢
  have HL : Hid (xs.length = n) := h.1
  have HV : Hid (∀ x ∈ xs, 0 ≤ x.version ∧ x.version ≤ 2000000) := hv
  clear eR hv hok
  go_enter Try.func50, Try.ntmps50
  go_wp2
  go_loopw [7, 8, 9] (fun s7 s8 s9 wr => ∃ (j : Nat) (ys : List ItV) (pt : Bool) (ao : Option Addr) (cp : Nat), s9 = .int .i64 (j : Int) ∧ s8 = .bool pt ∧ s7 = .slice ao ys.length cp ∧ j ≤ n ∧ ys.length ≤ 2 * j ∧ Hid ((ys, pt) = (xs.take j).foldl (wiStep key value) ([], false)) ∧ wr.ownsRow w.heap.size 85 3 (.slice ao ys.length cp) ys.length (flat ItV.cells ys) ∧ Below w.heap.size w wr) (fun _ _ s9 _ => n - (intOf s9).toNat)
  case atStart => exact ⟨0, [], false, none, 0, rfl, rfl, rfl, Nat.zero_le _, Nat.le_refl _, rfl, World.ownsRow_nil _ _ _ _, Below.refl _ _⟩
  case round =>
    obtain ⟨j, ys, pt, ao, cp, rfl, rfl, rfl, hj, hyl, hys, hown, hb⟩ := hrel
    have hbs := hb.size
    by_cases hlt : j < n
    · have hlt' : (j : Int) < (n : Int) := by omega
      have hjl : j < xs.length := by rw [HL.out]; exact hlt
      have HS : Hid ((xs.take (j + 1)).foldl (wiStep key value) ([], false) = wiStep key value (ys, pt) (xs.getD j default)) := by show _ = _; rw [wi_at hjl, hys.out]
      have hvx := HV.out _ (getD_mem hjl)
      obtain ⟨b, off, rfl, zb, hc⟩ := (h.below hb).2.2.2.2 (by omega)
      have hcells := hc j hlt
      obtain ⟨x, ex⟩ : ∃ x, x = xs.getD j default := ⟨_, rfl⟩
      rw [← ex] at hcells HS hvx
      have HX : Hid (xs.getD j default = x) := ex.symm
      clear ex hc hys
      obtain ⟨xk, xv, xw⟩ := x
      have e0 := hcells 0 (by decide)
      have e1 := hcells 1 (by decide)
      have e2 := hcells 2 (by decide)
      simp only [ItV.cells, List.getElem?_cons_zero, List.getElem?_cons_succ, Nat.add_zero] at e0 e1 e2
      simp only [] at hvx
      have hwr : IntKind.i64.wrap (xw + 1) = xw + 1 := by apply wrap_in <;> omega
      clear hcells
      by_cases hq : xk = key
      · have hq' := hq.symm
        clear hq
        subst hq'
        replace HS : Hid ((xs.take (j + 1)).foldl (wiStep key value) ([], false) = (ys ++ [⟨key, value, xw + 1⟩], true)) := by show _ = _; rw [HS.out]; simp [wiStep]
        go_upto_region 8 with (at_builtin; refine wpList_append_row E1 (by rfl) _ _ (by rfl) w.heap.size (.slice ao ys.length cp) ys.length ys (by rfl) (own_below hown ((Below.refl _ _).alloc (Nat.le_refl _) _)) _ 1 1 [⟨key, value, xw + 1⟩] (by rfl) (isOne (k := 3) (cells := ItV.cells) wr #[.int .i64 key, .int .i64 value, .int .i64 (xw + 1)] _ ⟨key, value, xw + 1⟩ rfl rfl) (by unfold maxLen; omega) (by omega) (by simp; omega) ?_; intro a5 c5 w5 own5 gr5 at5)
        have hb5 : Below w.heap.size w w5 := (hb.alloc hb.size _).grown gr5 (by have := hb.size; simp; omega) (fun q hq => (hown.lt q hq).1)
        obtain ⟨zs, ez⟩ : ∃ zs, zs = ys ++ [(⟨key, value, xw + 1⟩ : ItV)] := ⟨_, rfl⟩
        have elz : Hid (zs.length = ys.length + 1) := by rw [ez]; show _ = _; simp
        rw [← ez] at HS own5
        clear ez
        go_wp2
        go_roundw
        case rel =>
          refine ⟨j + 1, zs, true, a5, c5, by go_num, rfl, ?_, by omega, ?_, HS.out.symm, ?_, hb5⟩
          · rw [elz.out]
          · rw [elz.out]; omega
          · rw [elz.out]; exact own5
        case measure => simp [intOf]; omega
      · by_cases hg : key < xk ∧ pt = false
        · obtain ⟨hg, rfl⟩ := hg
          replace HS : Hid ((xs.take (j + 1)).foldl (wiStep key value) ([], false) = (ys ++ [⟨key, value, 1⟩] ++ [⟨xk, xv, xw⟩], true)) := by show _ = _; rw [HS.out]; simp [wiStep, hq, hg]
          have b0 := hb
          go_upto_region 11 with (at_builtin; refine wpList_append_row E1 (by rfl) _ _ (by rfl) w.heap.size (.slice ao ys.length cp) ys.length ys (by rfl) (own_below hown ((Below.refl _ _).alloc (Nat.le_refl _) _)) _ 1 1 [⟨key, value, 1⟩] (by rfl) (isOne (k := 3) (cells := ItV.cells) wr #[.int .i64 key, .int .i64 value, .int .i64 1] _ ⟨key, value, 1⟩ rfl rfl) (by unfold maxLen; omega) (by omega) (by simp; omega) ?_; intro a5 c5 w5 own5 gr5 at5)
          have hb5 : Below w.heap.size w w5 := (hb.alloc hb.size _).grown gr5 (by have := hb.size; simp; omega) (fun q hq => (hown.lt q hq).1)
          have hbs5 := hb5.size
          have hr5 := (h.below hb5).2.2.2.2 (by omega)
          obtain ⟨b', off', eb, _, hc5⟩ := hr5
          simp only [Option.some.injEq, Addr.mk.injEq, and_true] at eb
          obtain ⟨rfl, rfl⟩ := eb
          have hxx : xs.getD j default = ⟨xk, xv, xw⟩ := HX.out
          have hcells := hc5 j hlt
          rw [hxx] at hcells
          have d0 := hcells 0 (by decide)
          have d1 := hcells 1 (by decide)
          have d2 := hcells 2 (by decide)
          simp only [ItV.cells, List.getElem?_cons_zero, List.getElem?_cons_succ, Nat.add_zero] at d0 d1 d2
          clear e0 e1 e2 hcells hc5 hxx
          have hkk : True := trivial
          go_upto_region 5 with (at_builtin; refine wpList_append_row E1 (by rfl) _ _ (by rfl) w.heap.size (.slice a5 (ys.length + 1) c5) (ys.length + 1) (ys ++ [⟨key, value, 1⟩]) (by rfl) (own_below own5 ((Below.refl _ _).alloc (Nat.le_refl _) _)) _ 1 1 [⟨xk, xv, xw⟩] (by rfl) (isOne (k := 3) (cells := ItV.cells) w5 #[.int .i64 xk, .int .i64 xv, .int .i64 xw] _ ⟨xk, xv, xw⟩ rfl rfl) (by unfold maxLen; omega) (by omega) (by simp; omega) ?_; intro a6 c6 w6 own6 gr6 at6)
          have hb6 : Below w.heap.size w w6 := (hb5.alloc hb5.size _).grown gr6 (by have := hb5.size; simp; omega) (fun q hq => (own5.lt q hq).1)
          obtain ⟨zs, ez⟩ : ∃ zs, zs = ys ++ [(⟨key, value, 1⟩ : ItV)] ++ [(⟨xk, xv, xw⟩ : ItV)] := ⟨_, rfl⟩
          have elz : Hid (zs.length = ys.length + 1 + 1) := by rw [ez]; show _ = _; simp
          rw [← ez] at HS own6
          clear ez
          go_wp2
          go_roundw
          case rel =>
            refine ⟨j + 1, zs, true, a6, c6, by go_num, rfl, ?_, by omega, ?_, HS.out.symm, ?_, hb6⟩
            · rw [elz.out]
            · rw [elz.out]; omega
            · rw [elz.out]; exact own6
          case measure => simp [intOf]; omega
        · replace HS : Hid ((xs.take (j + 1)).foldl (wiStep key value) ([], false) = (ys ++ [⟨xk, xv, xw⟩], pt)) := by show _ = _; rw [HS.out]; unfold wiStep; rw [if_neg hq, if_neg hg]
          have hcase : ¬ key < xk ∨ (key < xk ∧ pt = true) := by
            by_cases h1 : key < xk
            · right; refine ⟨h1, ?_⟩; cases pt with
              | true => rfl
              | false => exact absurd ⟨h1, rfl⟩ hg
            · exact .inl h1
          clear hg
          rcases hcase with hg | ⟨hg, rfl⟩
          all_goals
            go_upto_region 5 with (at_builtin; refine wpList_append_row E1 (by rfl) _ _ (by rfl) w.heap.size (.slice ao ys.length cp) ys.length ys (by rfl) (own_below hown ((Below.refl _ _).alloc (Nat.le_refl _) _)) _ 1 1 [⟨xk, xv, xw⟩] (by rfl) (isOne (k := 3) (cells := ItV.cells) wr #[.int .i64 xk, .int .i64 xv, .int .i64 xw] _ ⟨xk, xv, xw⟩ rfl rfl) (by unfold maxLen; omega) (by omega) (by simp; omega) ?_; intro a5 c5 w5 own5 gr5 at5)
            have hb5 : Below w.heap.size w w5 := (hb.alloc hb.size _).grown gr5 (by have := hb.size; simp; omega) (fun q hq => (hown.lt q hq).1)
            obtain ⟨zs, ez⟩ : ∃ zs, zs = ys ++ [(⟨xk, xv, xw⟩ : ItV)] := ⟨_, rfl⟩
            have elz : Hid (zs.length = ys.length + 1) := by rw [ez]; show _ = _; simp
            rw [← ez] at HS own5
            clear ez
            go_wp2
            go_roundw
            case rel =>
              refine ⟨j + 1, zs, _, a5, c5, by go_num, rfl, ?_, by omega, ?_, HS.out.symm, ?_, hb5⟩
              · rw [elz.out]
              · rw [elz.out]; omega
              · rw [elz.out]; exact own5
            case measure => simp [intOf]; omega
    · obtain rfl : j = n := by omega
      rw [List.take_of_length_le (by rw [HL.out]; exact Nat.le_refl _)] at hys
      cases pt with
      | true =>
        have hR : R = ys := by rw [HE.out, ← hys.out]; rfl
        subst hR
        go_wp2
        go_ret
        exact ⟨ao, cp, rfl, hown, hb⟩
      | false =>
        have HR : Hid (R = ys ++ [⟨key, value, 1⟩]) := by show _ = _; rw [HE.out, ← hys.out]; rfl
        go_upto_region 15 with (at_builtin; refine wpList_append_row E1 (by rfl) _ _ (by rfl) w.heap.size (.slice ao ys.length cp) ys.length ys (by rfl) (own_below hown ((Below.refl _ _).alloc (Nat.le_refl _) _)) _ 1 1 [⟨key, value, 1⟩] (by rfl) (isOne (k := 3) (cells := ItV.cells) wr #[.int .i64 key, .int .i64 value, .int .i64 1] _ ⟨key, value, 1⟩ rfl rfl) (by unfold maxLen; omega) (by omega) (by simp; omega) ?_; intro a5 c5 w5 own5 gr5 at5)
        have hb5 : Below w.heap.size w w5 := (hb.alloc hb.size _).grown gr5 (by have := hb.size; simp; omega) (fun q hq => (hown.lt q hq).1)
        have elR : Hid (R.length = ys.length + 1) := by show _ = _; rw [HR.out]; simp
        rw [← HR.out] at own5
        go_wp2
        go_ret
        refine ⟨a5, c5, ?_, ?_, hb5⟩
        · rw [elR.out]; rfl
        · rw [elR.out]; exact own5
end Go.Proofs.Ytifdjlhgcbkamaa.St
/- The contract of the document's StoreCopy: the same, in memory of its own. -/
namespace Go.Proofs.Ytifdjlhgcbkamaa.St
open Go.ChangeShapes Go.WideShapes Go.ChangeAt Go.RowKit
set_option linter.unusedVariables false

/-- What a result's box is told does not touch what was made behind it. -/
theorem out_box {w W U : World} {n : Nat} {r : SV} (zle : n + 1 < W.heap.size) (hB : Below n w W) (h : OwnStore U W.heap.size r) (hb : Below W.heap.size W U) (p0 p1 p2 p3 : Value) :
    OwnStore ((((U.setCell ⟨n + 1, 0, none⟩ p0).setCell ⟨n + 1, 1, none⟩ p1).setCell ⟨n + 1, 2, none⟩ p2).setCell ⟨n + 1, 3, none⟩ p3) n r ∧ Below n w ((((U.setCell ⟨n + 1, 0, none⟩ p0).setCell ⟨n + 1, 1, none⟩ p1).setCell ⟨n + 1, 2, none⟩ p2).setCell ⟨n + 1, 3, none⟩ p3) := by
  refine ⟨OwnStore.base (B := W.heap.size) ((((h.box (p := ⟨n + 1, 0, none⟩) zle p0).box (p := ⟨n + 1, 1, none⟩) zle p1).box (p := ⟨n + 1, 2, none⟩) zle p2).box (p := ⟨n + 1, 3, none⟩) zle p3) (by omega), ?_⟩
  refine Below.setCell (Below.setCell (Below.setCell (Below.setCell (hB.trans (hb.mono (by omega))) ?_ _) ?_ _) ?_ _) ?_ _
  all_goals exact Nat.le_succ _

set_option maxRecDepth 100000 in
set_option maxHeartbeats 8000000 in
theorem storeCopy_any (s : SV) (w : World) (h : IsStore w s) (h1 : s.il * 24 ≤ 140737488351232) (h2 : s.ll * 48 ≤ 140737488351232) (h3 : s.dl * 24 ≤ 140737488351232) (h4 : s.ol * 16 ≤ 140737488351232) :
    Calls Try.prog 48 #[s.val] w fun e w' => ∃ r : SV, e = .returned r.val ∧ s.same r ∧ OwnStore w' w.heap.size r ∧ Below w.heap.size w w' := by
  obtain ⟨i1, E1⟩ := itElem
  obtain ⟨i2, E2⟩ := lkElem
  obtain ⟨i3, E3⟩ := dbElem
  obtain ⟨i4, E4⟩ := txElem
  have HI : Hid (s.items.length = s.il) := h.items.1
  have HL : Hid (s.locks.length = s.ll) := h.locks.1
  have HD : Hid (s.doubts.length = s.dl) := h.doubts.1
  have HO : Hid (s.over.length = s.ol) := h.over.1
  have mx1 := h.items.2.1
  have mx1' := h.items.2.2.1
  have mx2 := h.locks.2.1
  have mx2' := h.locks.2.2.1
  have mx3 := h.doubts.2.1
  have mx3' := h.doubts.2.2.1
  have mx4 := h.over.2.1
  have mx4' := h.over.2.2.1
  unfold maxLen at mx1' mx2' mx3' mx4'
  obtain ⟨ia, il, ic, la, ll, lc, da, dl, dc, oa, ol, oc, items, locks, doubts, over⟩ := s
  simp only [SV.val] at *
  obtain ⟨W, hW⟩ : ∃ W : World, W = ((w.alloc (.cells #[.slice ia il ic, .slice la ll lc, .slice da dl dc, .slice oa ol oc] 34)).alloc (.cells #[.slice none 0 0, .slice none 0 0, .slice none 0 0, .slice none 0 0] 34)) := ⟨_, rfl⟩
  have hB : Below w.heap.size w W := by rw [hW]; exact ((Below.refl _ _).alloc (Nat.le_refl _) _).alloc (by simp) _
  have hz : W.heap.size = w.heap.size + 2 := by rw [hW]; simp
  have HZ : Hid (W.heap.size = w.heap.size + 2) := hz
  have zle : w.heap.size + 1 < W.heap.size := by omega
  have z0 : w.heap.size < W.heap.size := by omega
  have hS := h.below hB
  have HS : Hid (∀ U, Below W.heap.size W U → IsStore U ⟨ia, il, ic, la, ll, lc, da, dl, dc, oa, ol, oc, items, locks, doubts, over⟩) := fun U hU => hS.below hU
  have d0 : W.cell? ⟨w.heap.size, 0, none⟩ = some (.slice ia il ic) := by rw [hW]; go_simp
  have d1 : W.cell? ⟨w.heap.size, 1, none⟩ = some (.slice la ll lc) := by rw [hW]; go_simp
  have d2 : W.cell? ⟨w.heap.size, 2, none⟩ = some (.slice da dl dc) := by rw [hW]; go_simp
  have d3 : W.cell? ⟨w.heap.size, 3, none⟩ = some (.slice oa ol oc) := by rw [hW]; go_simp
  have KD : Hid (∀ U : World, Below W.heap.size W U → U.cell? ⟨w.heap.size, 0, none⟩ = some (.slice ia il ic) ∧ U.cell? ⟨w.heap.size, 1, none⟩ = some (.slice la ll lc) ∧ U.cell? ⟨w.heap.size, 2, none⟩ = some (.slice da dl dc) ∧ U.cell? ⟨w.heap.size, 3, none⟩ = some (.slice oa ol oc)) := fun U hU =>
    ⟨(hU.cell (p := ⟨w.heap.size, 0, none⟩) z0).trans d0, (hU.cell (p := ⟨w.heap.size, 1, none⟩) z0).trans d1, (hU.cell (p := ⟨w.heap.size, 2, none⟩) z0).trans d2, (hU.cell (p := ⟨w.heap.size, 3, none⟩) z0).trans d3⟩
  have RB : BoxN W (w.heap.size + 1) 4 [.slice none 0 0, .slice none 0 0, .slice none 0 0, .slice none 0 0] := by
    rw [hW]
    have := boxn_new (w.alloc (.cells #[.slice ia il ic, .slice la ll lc, .slice da dl dc, .slice oa ol oc] 34)) #[.slice none 0 0, .slice none 0 0, .slice none 0 0, .slice none 0 0] 34 4 rfl
    simpa using this
  have HRB : Hid (∀ U, Below W.heap.size W U → BoxN U (w.heap.size + 1) 4 [.slice none 0 0, .slice none 0 0, .slice none 0 0, .slice none 0 0]) := fun U hU => RB.below hU zle
  obtain ⟨X, hX⟩ : ∃ X : World, X = W.alloc (.cells #[.slice none 0 0, .slice none 0 0, .slice none 0 0, .slice none 0 0] 34) := ⟨_, rfl⟩
  have hM0 : Made W X W.heap.size W.heap.size SV.nil := by
    have hb1 : Below W.heap.size W X := by rw [hX]; exact (Below.refl _ _).alloc (Nat.le_refl _) _
    refine Made.new (ownStore_nil W _) (Below.refl _ _) hb1 (Nat.le_refl _) ?_ (Nat.le_refl _)
    rw [hX]
    exact boxn_new W #[.slice none 0 0, .slice none 0 0, .slice none 0 0, .slice none 0 0] 34 4 rfl
  clear hS d0 d1 d2 d3 h mx1 mx2 mx3 mx4 RB
  go_enter Try.func48, Try.ntmps48
  go_upto_region 1 with (fail)
  rw [← hW]
  clear hW
  rw [show w.heap.size + 2 = W.heap.size from hz.symm] at *
  clear hz
  go_upto_region 2 with (fail)
  rw [← hX]
  clear hX
  go_wp2
  go_loopw [4] (fun i wr => ∃ (k : Nat) (a : Option Addr) (c : Nat), i = .int .i64 (k : Int) ∧ k ≤ il ∧ Made W wr W.heap.size W.heap.size ⟨a, k, c, none, 0, 0, none, 0, 0, none, 0, 0, (items.take k), [], [], []⟩) (fun i _ => il - (intOf i).toNat)
  case atStart => exact ⟨0, none, 0, rfl, Nat.zero_le _, hM0⟩
  case round =>
    obtain ⟨k, a, c, rfl, hk, hM⟩ := hrel
    obtain ⟨mz, x0, x1, x2, x3, f0, f1, f2, f3⟩ := hM.cells
    simp only [] at x0 x1 x2 x3
    obtain ⟨d0, d1, d2, d3⟩ := KD.out _ hM.bel
    by_cases hlt : k < il
    · have hlt' : (k : Int) < (il : Int) := by omega
      obtain ⟨b, off, rfl, zb, hc⟩ := (HS.out _ hM.bel).items.2.2.2.2 (by show 0 < il; omega)
      have hcells := hc k hlt
      have HT : Hid (items.take (k + 1) = items.take k ++ [items.getD k default]) := take_at (by rw [HI.out]; exact hlt)
      simp only [] at hcells
      obtain ⟨x, ex⟩ : ∃ x, x = items.getD k default := ⟨_, rfl⟩
      rw [← ex] at hcells HT
      clear ex hc
      obtain ⟨q0, q1, q2⟩ := x
      have e0 := hcells 0 (by decide)
      have e1 := hcells 1 (by decide)
      have e2 := hcells 2 (by decide)
      simp only [ItV.cells, List.getElem?_cons_zero, List.getElem?_cons_succ, Nat.add_zero] at e0 e1 e2
      clear hcells
      have zM := hM.bel.size
      go_upto_region 5 with (fail)
      go_region_law (first | (refine step_append_row E1 (by rfl) (.tmp 17) (.tmp 23) (by rfl) W.heap.size (.slice a k c) k (items.take k) (by rfl) (own_below hM.own.items (by (with_reducible repeat (first | exact Below.refl _ _ | refine nD ?_ | refine nA ?_ _)); done)) _ 1 1 [⟨q0, q1, q2⟩] (by rfl) (isOne _ _ _ _ rfl rfl) (by unfold maxLen; omega) (by omega) (by simp; omega) ?_; intro a5 c5 w5 own5 gr5 at5; obtain ⟨cl5, fz5, hM5⟩ := hM.put_items (by (with_reducible repeat (first | exact Below.refl _ _ | refine nD ?_ | refine nA ?_ _)); done) gr5 own5 at5; have z5 := hM5.box.lt; simp only [] at cl5))
      all_goals
        go_wp2
        go_roundw
        case rel => exact ⟨k + 1, a5, c5, by go_num, by omega, by rw [HT.out]; exact hM5⟩
        case measure => simp [intOf]; omega
    · obtain rfl : il = k := by omega
      rw [List.take_of_length_le (by rw [HI.out]; exact Nat.le_refl _)] at hM
      have hM1 := hM
      go_wp2
      clear x0 x1 x2 x3 f0 f1 f2 f3 d0 d1 d2 d3 mz hM
      obtain ⟨a0, ea0⟩ : ∃ a0, a0 = a := ⟨_, rfl⟩
      obtain ⟨c0, ec0⟩ : ∃ c0, c0 = c := ⟨_, rfl⟩
      rw [← ea0, ← ec0] at hM1
      clear ea0 ec0 hk
      go_loopw [5] (fun i wr => ∃ (k : Nat) (a : Option Addr) (c : Nat), i = .int .i64 (k : Int) ∧ k ≤ ll ∧ Made W wr W.heap.size W.heap.size ⟨a0, il, c0, a, k, c, none, 0, 0, none, 0, 0, items, (locks.take k), [], []⟩) (fun i _ => ll - (intOf i).toNat)
      case atStart => exact ⟨0, none, 0, rfl, Nat.zero_le _, hM1⟩
      case round =>
        obtain ⟨k, a, c, rfl, hk, hM⟩ := hrel
        obtain ⟨mz, x0, x1, x2, x3, f0, f1, f2, f3⟩ := hM.cells
        simp only [] at x0 x1 x2 x3
        obtain ⟨d0, d1, d2, d3⟩ := KD.out _ hM.bel
        by_cases hlt : k < ll
        · have hlt' : (k : Int) < (ll : Int) := by omega
          obtain ⟨b, off, rfl, zb, hc⟩ := (HS.out _ hM.bel).locks.2.2.2.2 (by show 0 < ll; omega)
          have hcells := hc k hlt
          have HT : Hid (locks.take (k + 1) = locks.take k ++ [locks.getD k default]) := take_at (by rw [HL.out]; exact hlt)
          simp only [] at hcells
          obtain ⟨x, ex⟩ : ∃ x, x = locks.getD k default := ⟨_, rfl⟩
          rw [← ex] at hcells HT
          clear ex hc
          obtain ⟨⟨q0, q1⟩, q2, q3, q4, q5⟩ := x
          have e0 := hcells 0 (by decide)
          have e1 := hcells 1 (by decide)
          have e2 := hcells 2 (by decide)
          have e3 := hcells 3 (by decide)
          have e4 := hcells 4 (by decide)
          have e5 := hcells 5 (by decide)
          simp only [LkV.cells, List.getElem?_cons_zero, List.getElem?_cons_succ, Nat.add_zero] at e0 e1 e2 e3 e4 e5
          clear hcells
          have zM := hM.bel.size
          go_upto_region 9 with (fail)
          go_region_law (first | (refine step_append_row E2 (by rfl) (.tmp 34) (.tmp 40) (by rfl) W.heap.size (.slice a k c) k (locks.take k) (by rfl) (own_below hM.own.locks (by (with_reducible repeat (first | exact Below.refl _ _ | refine nD ?_ | refine nA ?_ _)); done)) _ 1 1 [⟨(q0, q1), q2, q3, q4, q5⟩] (by rfl) (isOne _ _ _ _ rfl rfl) (by unfold maxLen; omega) (by omega) (by simp; omega) ?_; intro a5 c5 w5 own5 gr5 at5; obtain ⟨cl5, fz5, hM5⟩ := hM.put_locks (by (with_reducible repeat (first | exact Below.refl _ _ | refine nD ?_ | refine nA ?_ _)); done) gr5 own5 at5; have z5 := hM5.box.lt; simp only [] at cl5))
          all_goals
            go_wp2
            go_roundw
            case rel => exact ⟨k + 1, a5, c5, by go_num, by omega, by rw [HT.out]; exact hM5⟩
            case measure => simp [intOf]; omega
        · obtain rfl : ll = k := by omega
          rw [List.take_of_length_le (by rw [HL.out]; exact Nat.le_refl _)] at hM
          have hM2 := hM
          go_wp2
          clear x0 x1 x2 x3 f0 f1 f2 f3 d0 d1 d2 d3 mz hM
          obtain ⟨a1, ea1⟩ : ∃ a1, a1 = a := ⟨_, rfl⟩
          obtain ⟨c1, ec1⟩ : ∃ c1, c1 = c := ⟨_, rfl⟩
          rw [← ea1, ← ec1] at hM2
          clear ea1 ec1 hk
          go_loopw [6] (fun i wr => ∃ (k : Nat) (a : Option Addr) (c : Nat), i = .int .i64 (k : Int) ∧ k ≤ dl ∧ Made W wr W.heap.size W.heap.size ⟨a0, il, c0, a1, ll, c1, a, k, c, none, 0, 0, items, locks, (doubts.take k), []⟩) (fun i _ => dl - (intOf i).toNat)
          case atStart => exact ⟨0, none, 0, rfl, Nat.zero_le _, hM2⟩
          case round =>
            obtain ⟨k, a, c, rfl, hk, hM⟩ := hrel
            obtain ⟨mz, x0, x1, x2, x3, f0, f1, f2, f3⟩ := hM.cells
            simp only [] at x0 x1 x2 x3
            obtain ⟨d0, d1, d2, d3⟩ := KD.out _ hM.bel
            by_cases hlt : k < dl
            · have hlt' : (k : Int) < (dl : Int) := by omega
              obtain ⟨b, off, rfl, zb, hc⟩ := (HS.out _ hM.bel).doubts.2.2.2.2 (by show 0 < dl; omega)
              have hcells := hc k hlt
              have HT : Hid (doubts.take (k + 1) = doubts.take k ++ [doubts.getD k default]) := take_at (by rw [HD.out]; exact hlt)
              simp only [] at hcells
              obtain ⟨x, ex⟩ : ∃ x, x = doubts.getD k default := ⟨_, rfl⟩
              rw [← ex] at hcells HT
              clear ex hc
              obtain ⟨⟨q0, q1⟩, q2⟩ := x
              have e0 := hcells 0 (by decide)
              have e1 := hcells 1 (by decide)
              have e2 := hcells 2 (by decide)
              simp only [DbV.cells, List.getElem?_cons_zero, List.getElem?_cons_succ, Nat.add_zero] at e0 e1 e2
              clear hcells
              have zM := hM.bel.size
              go_upto_region 13 with (fail)
              go_region_law (first | (refine step_append_row E3 (by rfl) (.tmp 51) (.tmp 57) (by rfl) W.heap.size (.slice a k c) k (doubts.take k) (by rfl) (own_below hM.own.doubts (by (with_reducible repeat (first | exact Below.refl _ _ | refine nD ?_ | refine nA ?_ _)); done)) _ 1 1 [⟨(q0, q1), q2⟩] (by rfl) (isOne _ _ _ _ rfl rfl) (by unfold maxLen; omega) (by omega) (by simp; omega) ?_; intro a5 c5 w5 own5 gr5 at5; obtain ⟨cl5, fz5, hM5⟩ := hM.put_doubts (by (with_reducible repeat (first | exact Below.refl _ _ | refine nD ?_ | refine nA ?_ _)); done) gr5 own5 at5; have z5 := hM5.box.lt; simp only [] at cl5))
              all_goals
                go_wp2
                go_roundw
                case rel => exact ⟨k + 1, a5, c5, by go_num, by omega, by rw [HT.out]; exact hM5⟩
                case measure => simp [intOf]; omega
            · obtain rfl : dl = k := by omega
              rw [List.take_of_length_le (by rw [HD.out]; exact Nat.le_refl _)] at hM
              have hM3 := hM
              go_wp2
              clear x0 x1 x2 x3 f0 f1 f2 f3 d0 d1 d2 d3 mz hM
              obtain ⟨a2, ea2⟩ : ∃ a2, a2 = a := ⟨_, rfl⟩
              obtain ⟨c2, ec2⟩ : ∃ c2, c2 = c := ⟨_, rfl⟩
              rw [← ea2, ← ec2] at hM3
              clear ea2 ec2 hk
              go_loopw [7] (fun i wr => ∃ (k : Nat) (a : Option Addr) (c : Nat), i = .int .i64 (k : Int) ∧ k ≤ ol ∧ Made W wr W.heap.size W.heap.size ⟨a0, il, c0, a1, ll, c1, a2, dl, c2, a, k, c, items, locks, doubts, (over.take k)⟩) (fun i _ => ol - (intOf i).toNat)
              case atStart => exact ⟨0, none, 0, rfl, Nat.zero_le _, hM3⟩
              case round =>
                obtain ⟨k, a, c, rfl, hk, hM⟩ := hrel
                obtain ⟨mz, x0, x1, x2, x3, f0, f1, f2, f3⟩ := hM.cells
                simp only [] at x0 x1 x2 x3
                obtain ⟨d0, d1, d2, d3⟩ := KD.out _ hM.bel
                by_cases hlt : k < ol
                · have hlt' : (k : Int) < (ol : Int) := by omega
                  obtain ⟨b, off, rfl, zb, hc⟩ := (HS.out _ hM.bel).over.2.2.2.2 (by show 0 < ol; omega)
                  have hcells := hc k hlt
                  have HT : Hid (over.take (k + 1) = over.take k ++ [over.getD k default]) := take_at (by rw [HO.out]; exact hlt)
                  simp only [] at hcells
                  obtain ⟨x, ex⟩ : ∃ x, x = over.getD k default := ⟨_, rfl⟩
                  rw [← ex] at hcells HT
                  clear ex hc
                  obtain ⟨q0, q1⟩ := x
                  have e0 := hcells 0 (by decide)
                  have e1 := hcells 1 (by decide)
                  simp only [txCells, List.getElem?_cons_zero, List.getElem?_cons_succ, Nat.add_zero] at e0 e1
                  clear hcells
                  have zM := hM.bel.size
                  go_upto_region 17 with (fail)
                  go_region_law (first | (refine step_append_row E4 (by rfl) (.tmp 68) (.tmp 74) (by rfl) W.heap.size (.slice a k c) k (over.take k) (by rfl) (own_below hM.own.over (by (with_reducible repeat (first | exact Below.refl _ _ | refine nD ?_ | refine nA ?_ _)); done)) _ 1 1 [(q0, q1)] (by rfl) (isOne _ _ _ _ rfl rfl) (by unfold maxLen; omega) (by omega) (by simp; omega) ?_; intro a5 c5 w5 own5 gr5 at5; obtain ⟨cl5, fz5, hM5⟩ := hM.put_over (by (with_reducible repeat (first | exact Below.refl _ _ | refine nD ?_ | refine nA ?_ _)); done) gr5 own5 at5; have z5 := hM5.box.lt; simp only [] at cl5))
                  all_goals
                    go_wp2
                    go_roundw
                    case rel => exact ⟨k + 1, a5, c5, by go_num, by omega, by rw [HT.out]; exact hM5⟩
                    case measure => simp [intOf]; omega
                · obtain rfl : ol = k := by omega
                  rw [List.take_of_length_le (by rw [HO.out]; exact Nat.le_refl _)] at hM
                  have hM4 := hM
                  skip
                  have rb := HRB.out _ hM4.bel
                  have r0 := (rb.c 0 (by decide)).1
                  have g0 := (rb.c 0 (by decide)).2
                  have z0 := (hM4.box.c 0 (by decide)).1
                  have r1 := (rb.c 1 (by decide)).1
                  have g1 := (rb.c 1 (by decide)).2
                  have z1 := (hM4.box.c 1 (by decide)).1
                  have r2 := (rb.c 2 (by decide)).1
                  have g2 := (rb.c 2 (by decide)).2
                  have z2 := (hM4.box.c 2 (by decide)).1
                  have r3 := (rb.c 3 (by decide)).1
                  have g3 := (rb.c 3 (by decide)).2
                  have z3 := (hM4.box.c 3 (by decide)).1
                  simp only [SV.box, List.getD_cons_zero, List.getD_cons_succ] at r0 r1 r2 r3 z0 z1 z2 z3
                  have mz := hM4.box.lt
                  have rz := rb.lt
                  go_wp2
                  refine bodyPost_ret (v := .agg #[.slice a0 il c0, .slice a1 ll c1, .slice a2 dl c2, .slice a ol c]) (by simp [results, Try.results48, go_sem, r0, r1, r2, r3]) rfl ?_
                  obtain ⟨t1, t2⟩ := out_box zle hB hM4.own hM4.bel (.slice a0 il c0) (.slice a1 ll c1) (.slice a2 dl c2) (.slice a ol c)
                  exact ⟨⟨a0, il, c0, a1, ll, c1, a2, dl, c2, a, ol, c, items, locks, doubts, over⟩, rfl, ⟨rfl, rfl, rfl, rfl, rfl, rfl, rfl, rfl⟩, t1, t2⟩
end Go.Proofs.Ytifdjlhgcbkamaa.St
