/- Texts of this claim, one behind the other. -/
import Derived.Test.YtifdjlhgcbkamaaM17PartForces
import Derived.Lib.QuietBelow
import Derived.Deep.RegionHeld3
import Derived.Deep.RegionLaw
import Derived.Deep.DeepCutAuto
import Derived.Test.YtifdjlhgcbkamaaM10PartForces
/- The contracts of part.refuseForce and part.Force. -/
namespace Go.Proofs.Ytifdjlhgcbkamaa.Pt
open Go.ChangeShapes Go.WideShapes Go.ChangeAt Go.RowKit
open Go.Proofs.Ytifdjlhgcbkamaa.St (SV PS IsStore IsRow storeOK TxWf BoxN boxn_new OwnStore flat flat_append Elem isOne grown_setCell own_below own_isRow isRow_nil cntErr cntIs endErr endData txOK)
set_option linter.unusedVariables false


set_option maxRecDepth 100000 in
set_option maxHeartbeats 4000000 in
theorem refuseForce_any (s p : Int) (a : Option Addr) (len cap : Nat) (ls : List (Int × Int)) (l me : Int) (sa : Option Addr) (n sc : Nat) (ss : List SV) (na : Option Addr) (nn nc : Nat) (t : Int × Int) (w : World) (hl : IsLabs w a len cap ls) (hS : IsStores w sa n sc ss) (hnn : nn ≤ 9223372036854775807) :
    Calls Try.prog 18 #[.agg #[.int .i64 s, .slice a len cap, .int .i64 p], .int .i64 l, .int .i64 me, .slice sa n sc, .slice na nn nc, .agg #[.int .i64 t.1, .int .i64 t.2]] w fun e w' => e = .returned (.int .i64 (forceErr s ls p l me n ss nn t)) ∧ Below w.heap.size w w' := by
  have hRf := fun w' h1 h2 => refuse_any s p a len cap ls l me sa n sc ss w' h1 h2
  have hok := fun h => site_ok (s := s) (ls := ls) (p := p) (l := l) (me := me) (n := n) (ss := ss) h hS.row.1
  have HF : Hid (forceErr s ls p l me n ss nn t = if siteErr s ls p l me n ss = 0 then (if cntErr (ss.getD l.toNat default) t = 0 then (if cntIs (ss.getD l.toNat default) t = 0 then 6 else if 60 ≤ nn then 8 else 0) else cntErr (ss.getD l.toNat default) t) else siteErr s ls p l me n ss) := rfl
  obtain ⟨FE, eFE⟩ : ∃ x, x = forceErr s ls p l me n ss nn t := ⟨_, rfl⟩
  rw [← eFE] at HF ⊢
  clear eFE
  obtain ⟨E, eE⟩ : ∃ x, x = siteErr s ls p l me n ss := ⟨_, rfl⟩
  rw [← eE] at hRf hok HF
  clear eE
  obtain ⟨t1, t2⟩ := t
  simp only [] at HF ⊢
  obtain ⟨W, hW⟩ : ∃ W : World, W = (w.alloc (.cells #[.int .i64 s, .slice a len cap, .int .i64 p] 24)).alloc (.cells #[.int .i64 t1, .int .i64 t2] 28) := ⟨_, rfl⟩
  have hB : Below w.heap.size w W := by rw [hW]; exact ((Below.refl _ _).alloc (Nat.le_refl _) _).alloc (by simp) _
  have z1 : w.heap.size + 1 < W.heap.size := by rw [hW]; simp
  have z0 : w.heap.size < W.heap.size := by omega
  have c0 : W.cell? ⟨w.heap.size, 0, none⟩ = some (.int .i64 s) := by rw [hW]; go_simp
  have c1 : W.cell? ⟨w.heap.size, 1, none⟩ = some (.slice a len cap) := by rw [hW]; go_simp
  have c2 : W.cell? ⟨w.heap.size, 2, none⟩ = some (.int .i64 p) := by rw [hW]; go_simp
  have c3 : W.cell? ⟨w.heap.size + 1, 0, none⟩ = some (.int .i64 t1) := by rw [hW]; go_simp
  have c4 : W.cell? ⟨w.heap.size + 1, 1, none⟩ = some (.int .i64 t2) := by rw [hW]; go_simp
  have hl1 := hl.below hB
  have hS1 := hS.below hB
  go_enter Try.func18, Try.ntmps18
  go_upto_region 1 with (fail)
  rw [← hW]
  clear hW
  go_upto_region 2 with (go_at_call 28; refine (hRf _ hl1 hS1).mono ?_; rintro e w1 ⟨rfl, hb1⟩)
  have hbw := hB.trans (hb1.mono hB.size)
  by_cases hE : E = 0
  · obtain ⟨hcf, ⟨hl0, hln⟩, hme, hnl, hso⟩ := hok hE
    subst hE
    obtain ⟨k, rfl⟩ : ∃ k : Nat, l = (k : Int) := ⟨l.toNat, by omega⟩
    have hk : k < n := by omega
    have hkn : (k : Int) < (n : Int) := by omega
    have hkc : k < sc := Nat.lt_of_lt_of_le hk hS.row.2.1
    rw [if_pos rfl, Int.toNat_natCast] at HF
    have hS2 := hS1.below hb1
    have hCn := fun U hU => St.writes_count (ss.getD k default) (t1, t2) U hU (hS.each k hk).2
    have hIs := (hS2.each k hk).1
    obtain ⟨b, off, hsa, hblt, y0, y1, y2, y3⟩ := hS2.at hk
    subst hsa
    obtain ⟨CE, eCE⟩ : ∃ x, x = cntErr (ss.getD k default) (t1, t2) := ⟨_, rfl⟩
    obtain ⟨CI, eCI⟩ : ∃ x, x = cntIs (ss.getD k default) (t1, t2) := ⟨_, rfl⟩
    rw [← eCE, ← eCI] at HF hCn
    clear eCE eCI hok hnl hcf hme hso
    obtain ⟨⟨xa0, xn0, xc0, xa1, xn1, xc1, xa2, xn2, xc2, xa3, xn3, xc3, xi, xl, xd, xo⟩, eX⟩ : ∃ x, x = ss.getD k default := ⟨_, rfl⟩
    rw [← eX] at hCn y0 y1 y2 y3 hIs
    clear eX
    simp only [SV.val] at hCn y0 y1 y2 y3
    have q3 := (hb1.cell (p := ⟨w.heap.size + 1, 0, none⟩) z1).trans c3
    have q4 := (hb1.cell (p := ⟨w.heap.size + 1, 1, none⟩) z1).trans c4
    clear c0 c1 c2 c3 c4
    have r0 := fun d os => cell_regrown y0 d os
    have r1 := fun d os => cell_regrown y1 d os
    have r2 := fun d os => cell_regrown y2 d os
    have r3 := fun d os => cell_regrown y3 d os
    have r4 := fun d os => cell_regrown q3 d os
    have r5 := fun d os => cell_regrown q4 d os
    go_upto_region 4 with (fail)
    refine wp_region_quiet_below (by kernel_rfl) (by kernel_rfl) ?_
    repeat (go_big_quiet_step ((exact Calls.regrown_of (hCn _ (hIs.below (below_regrown _ _ _))))))
    refine wpQuiet_nil ?_
    intro _ hw'
    obtain ⟨⟨dq, osq⟩, hw''⟩ := hw'
    subst hw''
    have bQ := hbw.trans ((below_regrown w1 dq osq).mono hbw.size)
    obtain ⟨Z, eZ⟩ : ∃ Z, Z = Go.Sort.grow (Go.redrawn w1 dq) osq := ⟨_, rfl⟩
    by_cases hC : CE = 0
    · subst hC
      rw [if_pos rfl] at HF
      by_cases hI : CI = 0
      · subst hI
        rw [if_pos rfl] at HF
        have HE : Hid (FE = 6) := HF
        clear HF
        go_wp2
        go_ret
        exact ⟨by rw [HE.out]; rfl, bQ⟩
      · have hI2 : (CI == 0) = false := by simp [hI]
        rw [if_neg hI] at HF
        by_cases h60 : 60 ≤ nn
        · have h60' : (60 : Int) ≤ (nn : Int) := by omega
          have HE : Hid (FE = 8) := by show _ = _; rw [HF.out, if_pos h60]
          clear HF
          go_wp2
          go_ret
          exact ⟨by rw [HE.out]; rfl, bQ⟩
        · have h60' : (nn : Int) < 60 := by omega
          have HE : Hid (FE = 0) := by show _ = _; rw [HF.out, if_neg h60]
          clear HF
          go_wp2
          go_ret
          exact ⟨by rw [HE.out]; rfl, bQ⟩
    · rw [if_neg hC] at HF
      have HE : Hid (FE = CE) := HF
      have hC2 : (CE == 0) = false := by simp [hC]
      clear HF
      go_wp2
      go_ret
      exact ⟨by rw [HE.out]; rfl, bQ⟩
  · rw [if_neg hE] at HF
    have HE : Hid (FE = E) := HF
    have hE2 : (E == 0) = false := by simp [hE]
    clear HF hok
    go_wp2
    go_ret
    exact ⟨by rw [HE.out]; rfl, hbw⟩

end Go.Proofs.Ytifdjlhgcbkamaa.Pt
/- The contract of part.Force. -/
namespace Go.Proofs.Ytifdjlhgcbkamaa.Pt
open Go.ChangeShapes Go.WideShapes Go.ChangeAt Go.RowKit
open Go.Proofs.Ytifdjlhgcbkamaa.St (SV PS IsStore IsRow storeOK TxWf BoxN boxn_new OwnStore flat flat_append Elem isOne grown_setCell own_below own_isRow isRow_nil cntErr cntIs endErr endData txOK)
set_option linter.unusedVariables false

theorem rowA {α : Type} [Inhabited α] {k : Nat} {cells : α → List Value} {U : World} {a : Option Addr} {n c : Nat} {xs : List α} (h : IsRow k cells U a n c xs) (o : Obj) : IsRow k cells (U.alloc o) a n c xs := St.IsRow.below h ((Below.refl _ _).alloc (Nat.le_refl _) o)
theorem rowD {α : Type} [Inhabited α] {k : Nat} {cells : α → List Value} {U : World} {a : Option Addr} {n c : Nat} {xs : List α} (h : IsRow k cells U a n c xs) : IsRow k cells U.drew a n c xs := St.IsRow.below h (Below.refl _ _).drew
theorem row_grown_at {α : Type} [Inhabited α] {k : Nat} {cells : α → List Value} {V u : World} {q n c : Nat} {xs : List α} {r : Option Nat} (h : IsRow k cells V (some ⟨q, 0, none⟩) n c xs) (hg : V.grownBy u r) (hq : r ≠ some q) : IsRow k cells u (some ⟨q, 0, none⟩) n c xs :=
  row_grown h hg (fun b off e e' => by simp at e; obtain ⟨rfl, _⟩ := e; exact hq e'.symm)
theorem isOneQ {α : Type} [Inhabited α] {k : Nat} {cells : α → List Value} {u : World} {cs : Array Value} {t : TypeId} {x : α} {q : Nat} (hq : q = u.heap.size) (hc : cs.toList = cells x) (hk : cs.size = k) : IsRow k cells (u.alloc (.cells cs t)) (some ⟨q, 0, none⟩) 1 1 [x] := by
  subst hq; exact isOne u cs t x hc hk
theorem cellA {u : World} {b i : Nat} {x : Value} (h : u.cell? ⟨b, i, none⟩ = some x) (o : Obj) : (u.alloc o).cell? ⟨b, i, none⟩ = some x := (((Below.refl _ _).alloc (Nat.le_refl _) o).cell (p := ⟨b, i, none⟩) (World.block_lt_of_cell? u _ h)).trans h
theorem cellD {u : World} {b i : Nat} {x : Value} (h : u.cell? ⟨b, i, none⟩ = some x) : u.drew.cell? ⟨b, i, none⟩ = some x := ((Below.refl _ _).drew.cell (p := ⟨b, i, none⟩) (World.block_lt_of_cell? u _ h)).trans h
theorem cellS {u : World} {Q b i : Nat} {x : Value} (h : u.cell? ⟨b, i, none⟩ = some x) (hb : b ≠ Q) (j : Nat) (v : Value) : (u.setCell ⟨Q, j, none⟩ v).cell? ⟨b, i, none⟩ = some x := by
  rw [World.cell?_of_block (a := ⟨b, i, none⟩) (Below.heap_setCell u ⟨Q, j, none⟩ v b hb)]; exact h
theorem cell7 {u : World} {Q b i : Nat} {x : Value} (h : u.cell? ⟨b, i, none⟩ = some x) (hb : b ≠ Q) (v0 v1 v2 v3 v4 v5 v6 : Value) : (((((((u.setCell ⟨Q, 0, none⟩ (v0)).setCell ⟨Q, 1, none⟩ (v1)).setCell ⟨Q, 2, none⟩ (v2)).setCell ⟨Q, 3, none⟩ (v3)).setCell ⟨Q, 4, none⟩ (v4)).setCell ⟨Q, 5, none⟩ (v5)).setCell ⟨Q, 6, none⟩ (v6)).cell? ⟨b, i, none⟩ = some x := by
  have hg := grown7 u Q v0 v1 v2 v3 v4 v5 v6
  have hlt := World.block_lt_of_cell? u _ h
  rw [World.cell?_of_block (a := ⟨b, i, none⟩) (hg.block b hlt (by simpa using hb))]
  exact h
/-- The answer's box is told: a store of the call's own, one record, notes. -/
theorem force_fin {Y Z : World} {C Q nn : Nat} {r : SV} {vs : List Value} {rec : RV} {ns : List NV} {rblk : Nat} {a5 : Option Addr} {c5 : Nat} (hO : OwnStore Y C r) (hC : C ≤ Y.heap.size) (hQ : Q < C) (qb : BoxN Y Q 7 vs) (hZ : Below Y.heap.size Y Z) (hR : IsRow 8 RV.cells Z (some ⟨rblk, 0, none⟩) 1 1 [rec]) (hrb : C ≤ rblk) (hN : IsRow 4 NV.cells Z a5 (nn + 1) c5 ns) (hnb : ∀ b off, a5 = some ⟨b, off, none⟩ → C ≤ b) :
    BoxN (((((((Z.setCell ⟨Q, 0, none⟩ (.slice r.ia r.il r.ic)).setCell ⟨Q, 1, none⟩ (.slice r.la r.ll r.lc)).setCell ⟨Q, 2, none⟩ (.slice r.da r.dl r.dc)).setCell ⟨Q, 3, none⟩ (.slice r.oa r.ol r.oc)).setCell ⟨Q, 4, none⟩ (.slice none 0 0)).setCell ⟨Q, 5, none⟩ (.slice (some ⟨rblk, 0, none⟩) 1 1)).setCell ⟨Q, 6, none⟩ (.slice a5 (nn + 1) c5)) Q 7 (AnsV.cells ⟨r, none, 0, 0, some ⟨rblk, 0, none⟩, 1, 1, a5, nn + 1, c5, [], [rec], ns⟩) ∧ IsAns (((((((Z.setCell ⟨Q, 0, none⟩ (.slice r.ia r.il r.ic)).setCell ⟨Q, 1, none⟩ (.slice r.la r.ll r.lc)).setCell ⟨Q, 2, none⟩ (.slice r.da r.dl r.dc)).setCell ⟨Q, 3, none⟩ (.slice r.oa r.ol r.oc)).setCell ⟨Q, 4, none⟩ (.slice none 0 0)).setCell ⟨Q, 5, none⟩ (.slice (some ⟨rblk, 0, none⟩) 1 1)).setCell ⟨Q, 6, none⟩ (.slice a5 (nn + 1) c5)) ⟨r, none, 0, 0, some ⟨rblk, 0, none⟩, 1, 1, a5, nn + 1, c5, [], [rec], ns⟩ ∧ AnsV.far ⟨r, none, 0, 0, some ⟨rblk, 0, none⟩, 1, 1, a5, nn + 1, c5, [], [rec], ns⟩ C := by
  have hf : AnsV.far ⟨r, none, 0, 0, some ⟨rblk, 0, none⟩, 1, 1, a5, nn + 1, c5, [], [rec], ns⟩ C :=
    ⟨fun b o e => (hO.items.lt b (by rw [show r.ia = _ from e]; rfl)).1, fun b o e => (hO.locks.lt b (by rw [show r.la = _ from e]; rfl)).1, fun b o e => (hO.doubts.lt b (by rw [show r.da = _ from e]; rfl)).1, fun b o e => (hO.over.lt b (by rw [show r.oa = _ from e]; rfl)).1, (fun b o e => by cases e), (fun b o e => by simp at e; omega), hnb⟩
  have hi : IsAns Z ⟨r, none, 0, 0, some ⟨rblk, 0, none⟩, 1, 1, a5, nn + 1, c5, [], [rec], ns⟩ := ⟨hO.isStore.below hZ, isRow_nil _ _ _, hR, hN⟩
  have qz := qb.below hZ qb.lt
  obtain ⟨x0, x1, x2, x3, x4, x5, x6, rfl⟩ : ∃ x0 x1 x2 x3 x4 x5 x6, vs = [x0, x1, x2, x3, x4, x5, x6] := by
    match vs, qb.len with
    | [x0, x1, x2, x3, x4, x5, x6], _ => exact ⟨x0, x1, x2, x3, x4, x5, x6, rfl⟩
  exact ⟨((((((qz.set 0 (by omega) _).set 1 (by omega) _).set 2 (by omega) _).set 3 (by omega) _).set 4 (by omega) _).set 5 (by omega) _).set 6 (by omega) _, hi.grown (grown7 Z Q _ _ _ _ _ _ _) hf hQ, hf⟩
theorem force_fin2 {Y Z : World} {C Q nn : Nat} {r : SV} {vs : List Value} {rec : RV} {ns : List NV} {rblk : Nat} {a5 : Option Addr} {c5 : Nat} {cs : Array Value} {ty : TypeId} (hO : OwnStore Y C r) (hC : C ≤ Y.heap.size) (hQ : Q < C) (qb : BoxN Y Q 7 vs) (hZ : Below Y.heap.size Y Z) (hq : rblk = Z.heap.size) (hcs : cs.toList = rec.cells) (hcz : cs.size = 8) (hN : IsRow 4 NV.cells Z a5 (nn + 1) c5 ns) (hnb : ∀ b off, a5 = some ⟨b, off, none⟩ → C ≤ b) :
    BoxN (World.alloc (((((((Z.setCell ⟨Q, 0, none⟩ (.slice r.ia r.il r.ic)).setCell ⟨Q, 1, none⟩ (.slice r.la r.ll r.lc)).setCell ⟨Q, 2, none⟩ (.slice r.da r.dl r.dc)).setCell ⟨Q, 3, none⟩ (.slice r.oa r.ol r.oc)).setCell ⟨Q, 4, none⟩ (.slice none 0 0)).setCell ⟨Q, 5, none⟩ (.slice (some ⟨rblk, 0, none⟩) 1 1)).setCell ⟨Q, 6, none⟩ (.slice a5 (nn + 1) c5)) (.cells cs ty)) Q 7 (AnsV.cells ⟨r, none, 0, 0, some ⟨rblk, 0, none⟩, 1, 1, a5, nn + 1, c5, [], [rec], ns⟩) ∧ IsAns (World.alloc (((((((Z.setCell ⟨Q, 0, none⟩ (.slice r.ia r.il r.ic)).setCell ⟨Q, 1, none⟩ (.slice r.la r.ll r.lc)).setCell ⟨Q, 2, none⟩ (.slice r.da r.dl r.dc)).setCell ⟨Q, 3, none⟩ (.slice r.oa r.ol r.oc)).setCell ⟨Q, 4, none⟩ (.slice none 0 0)).setCell ⟨Q, 5, none⟩ (.slice (some ⟨rblk, 0, none⟩) 1 1)).setCell ⟨Q, 6, none⟩ (.slice a5 (nn + 1) c5)) (.cells cs ty)) ⟨r, none, 0, 0, some ⟨rblk, 0, none⟩, 1, 1, a5, nn + 1, c5, [], [rec], ns⟩ ∧ AnsV.far ⟨r, none, 0, 0, some ⟨rblk, 0, none⟩, 1, 1, a5, nn + 1, c5, [], [rec], ns⟩ C := by
  have hrb : C ≤ rblk := by rw [hq]; exact Nat.le_trans hC hZ.size
  have hf : AnsV.far ⟨r, none, 0, 0, some ⟨rblk, 0, none⟩, 1, 1, a5, nn + 1, c5, [], [rec], ns⟩ C :=
    ⟨fun b o e => (hO.items.lt b (by rw [show r.ia = _ from e]; rfl)).1, fun b o e => (hO.locks.lt b (by rw [show r.la = _ from e]; rfl)).1, fun b o e => (hO.doubts.lt b (by rw [show r.da = _ from e]; rfl)).1, fun b o e => (hO.over.lt b (by rw [show r.oa = _ from e]; rfl)).1, (fun b o e => by cases e), (fun b o e => by simp at e; omega), hnb⟩
  have hi : IsAns Z ⟨r, none, 0, 0, none, 0, 0, a5, nn + 1, c5, [], [], ns⟩ := ⟨hO.isStore.below hZ, isRow_nil _ _ _, isRow_nil _ _ _, hN⟩
  have hf0 : AnsV.far ⟨r, none, 0, 0, none, 0, 0, a5, nn + 1, c5, [], [], ns⟩ C := ⟨hf.ia, hf.la, hf.da, hf.oa, hf.ma, (fun b o e => by cases e), hf.na⟩
  have qz := qb.below hZ qb.lt
  obtain ⟨x0, x1, x2, x3, x4, x5, x6, rfl⟩ : ∃ x0 x1 x2 x3 x4 x5 x6, vs = [x0, x1, x2, x3, x4, x5, x6] := by
    match vs, qb.len with
    | [x0, x1, x2, x3, x4, x5, x6], _ => exact ⟨x0, x1, x2, x3, x4, x5, x6, rfl⟩
  have i1 := (hi.grown (grown7 Z Q (.slice r.ia r.il r.ic) (.slice r.la r.ll r.lc) (.slice r.da r.dl r.dc) (.slice r.oa r.ol r.oc) (.slice none 0 0) (.slice (some ⟨rblk, 0, none⟩) 1 1) (.slice a5 (nn + 1) c5)) hf0 hQ).below ((Below.refl _ _).alloc (Nat.le_refl _) (.cells cs ty))
  have b1 := ((((((qz.set 0 (by omega) (.slice r.ia r.il r.ic)).set 1 (by omega) (.slice r.la r.ll r.lc)).set 2 (by omega) (.slice r.da r.dl r.dc)).set 3 (by omega) (.slice r.oa r.ol r.oc)).set 4 (by omega) (.slice none 0 0)).set 5 (by omega) (.slice (some ⟨rblk, 0, none⟩) 1 1)).set 6 (by omega) (.slice a5 (nn + 1) c5)
  exact ⟨b1.below ((Below.refl _ _).alloc (Nat.le_refl _) _) b1.lt, ⟨i1.st, i1.ms, isOneQ (by rw [hq]; simp) hcs hcz, i1.ns⟩, hf⟩
theorem force_ok {s : Int} {ls : List (Int × Int)} {p l me : Int} {n : Nat} {ss : List SV} {nn : Nat} {t : Int × Int} (h : forceErr s ls p l me n ss nn t = 0) : siteErr s ls p l me n ss = 0 ∧ cntErr (ss.getD l.toNat default) t = 0 ∧ nn < 60 := by
  unfold forceErr at h
  split at h
  · rename_i h1
    split at h
    · rename_i h2
      split at h
      · simp at h
      · split at h
        · simp at h
        · exact ⟨h1, h2, by omega⟩
    · rename_i h2; exact absurd h h2
  · rename_i h1; exact absurd h h1
theorem end_is (s : SV) (t : Int × Int) (yes : Bool) : endErr s t yes = cntErr s t := rfl

set_option maxRecDepth 100000 in
set_option maxHeartbeats 8000000 in
theorem force_any (s p : Int) (a : Option Addr) (len cap : Nat) (ls : List (Int × Int)) (l me : Int) (sa : Option Addr) (n sc : Nat) (ss : List SV) (na : Option Addr) (nn nc : Nat) (ns : List NV) (t : Int × Int) (yes : Bool) (w : World) (hl : IsLabs w a len cap ls) (hS : IsStores w sa n sc ss) (hN : IsNotes w na nn nc ns) (hn24 : nn * 24 ≤ 140737488351232) (hov : ∀ i, i < n → (ss.getD i default).ol * 16 ≤ 140737488351232) :
    Calls Try.prog 7 #[.agg #[.int .i64 s, .slice a len cap, .int .i64 p], .int .i64 l, .int .i64 me, .slice sa n sc, .slice na nn nc, .agg #[.int .i64 t.1, .int .i64 t.2], .bool yes] w fun e w' => ∃ v : AnsV, e = .returned (.tuple #[v.val, .int .i64 (forceErr s ls p l me n ss nn t)]) ∧ IsAns w' v ∧ v.data = forceD s ls p l me n ss nn ns t yes ∧ Below w.heap.size w w' ∧ v.far w.heap.size := by
  obtain ⟨iN, EN⟩ := ntElem
  have hRf := fun w' h1 h2 => refuseForce_any s p a len cap ls l me sa n sc ss na nn nc t w' h1 h2 (by omega)
  have hok := fun h => force_ok (s := s) (ls := ls) (p := p) (l := l) (me := me) (n := n) (ss := ss) (nn := nn) (t := t) h
  have hok2 := fun h => site_ok (s := s) (ls := ls) (p := p) (l := l) (me := me) (n := n) (ss := ss) h hS.row.1
  have HD : Hid (forceD s ls p l me n ss nn ns t yes = if forceErr s ls p l me n ss nn t = 0 then ⟨endData (ss.getD l.toNat default) t yes, [], [⟨6, t.1, t.2, 0, 0, 0, yes⟩], ns ++ [⟨t.1, t.2, yes, false⟩]⟩ else AD.nil) := rfl
  obtain ⟨TD, eTD⟩ : ∃ x, x = forceD s ls p l me n ss nn ns t yes := ⟨_, rfl⟩
  rw [← eTD] at HD ⊢
  clear eTD
  obtain ⟨E, eE⟩ : ∃ x, x = forceErr s ls p l me n ss nn t := ⟨_, rfl⟩
  rw [← eE] at hRf hok HD ⊢
  clear eE
  obtain ⟨t1, t2⟩ := t
  simp only [] at HD hRf ⊢
  obtain ⟨W, hW⟩ : ∃ W : World, W = ((w.alloc (.cells #[.int .i64 s, .slice a len cap, .int .i64 p] 24)).alloc (.cells #[.int .i64 t1, .int .i64 t2] 28)).alloc (.cells #[.slice none 0 0, .slice none 0 0, .slice none 0 0, .slice none 0 0, .slice none 0 0, .slice none 0 0, .slice none 0 0] 38) := ⟨_, rfl⟩
  have hB : Below w.heap.size w W := by rw [hW]; exact (((Below.refl _ _).alloc (Nat.le_refl _) _).alloc (by simp) _).alloc (by simp; omega) _
  have z2 : w.heap.size + 2 < W.heap.size := by rw [hW]; simp
  have z1 : w.heap.size + 1 < W.heap.size := by omega
  have z0 : w.heap.size < W.heap.size := by omega
  have d0 : W.cell? ⟨w.heap.size, 0, none⟩ = some (.int .i64 s) := by rw [hW]; go_simp
  have d1 : W.cell? ⟨w.heap.size, 1, none⟩ = some (.slice a len cap) := by rw [hW]; go_simp
  have d2 : W.cell? ⟨w.heap.size, 2, none⟩ = some (.int .i64 p) := by rw [hW]; go_simp
  have d3 : W.cell? ⟨w.heap.size + 1, 0, none⟩ = some (.int .i64 t1) := by rw [hW]; go_simp
  have d4 : W.cell? ⟨w.heap.size + 1, 1, none⟩ = some (.int .i64 t2) := by rw [hW]; go_simp
  have qb : BoxN W (w.heap.size + 2) 7 [.slice none 0 0, .slice none 0 0, .slice none 0 0, .slice none 0 0, .slice none 0 0, .slice none 0 0, .slice none 0 0] := by
    rw [hW]; simpa using boxn_new ((w.alloc (.cells #[.int .i64 s, .slice a len cap, .int .i64 p] 24)).alloc (.cells #[.int .i64 t1, .int .i64 t2] 28)) #[.slice none 0 0, .slice none 0 0, .slice none 0 0, .slice none 0 0, .slice none 0 0, .slice none 0 0, .slice none 0 0] 38 7 rfl
  have KC : Hid (∀ V : World, Below W.heap.size W V → V.cell? ⟨w.heap.size, 0, none⟩ = some (.int .i64 s) ∧ V.cell? ⟨w.heap.size, 1, none⟩ = some (.slice a len cap) ∧ V.cell? ⟨w.heap.size, 2, none⟩ = some (.int .i64 p) ∧ V.cell? ⟨w.heap.size + 1, 0, none⟩ = some (.int .i64 t1) ∧ V.cell? ⟨w.heap.size + 1, 1, none⟩ = some (.int .i64 t2)) := fun V hV => ⟨(hV.cell (p := ⟨w.heap.size, 0, none⟩) z0).trans d0, (hV.cell (p := ⟨w.heap.size, 1, none⟩) z0).trans d1, (hV.cell (p := ⟨w.heap.size, 2, none⟩) z0).trans d2, (hV.cell (p := ⟨w.heap.size + 1, 0, none⟩) z1).trans d3, (hV.cell (p := ⟨w.heap.size + 1, 1, none⟩) z1).trans d4⟩
  have KQ : Hid (∀ V : World, Below W.heap.size W V → BoxN V (w.heap.size + 2) 7 [.slice none 0 0, .slice none 0 0, .slice none 0 0, .slice none 0 0, .slice none 0 0, .slice none 0 0, .slice none 0 0]) := fun V hV => qb.below hV qb.lt
  have HS : Hid (∀ V : World, Below W.heap.size W V → IsLabs V a len cap ls ∧ IsStores V sa n sc ss ∧ IsNotes V na nn nc ns ∧ Below w.heap.size w V) := fun V hV => by
    have hv := hB.trans (hV.mono hB.size)
    exact ⟨hl.below hv, hS.below hv, St.IsRow.below hN hv, hv⟩
  clear qb
  obtain ⟨hl1, hs1, _⟩ := HS.out _ (Below.refl _ _)
  go_enter Try.func7, Try.ntmps7
  go_upto_region 1 with (fail)
  rw [← hW]
  clear hW
  go_upto_region 2 with (go_at_call 18; refine (hRf _ hl1 hs1).mono ?_; rintro e w1 ⟨rfl, hb1⟩)
  clear d0 d1 d2 d3 d4 hl1 hs1
  have zw1 := hb1.size
  by_cases hE : E = 0
  · obtain ⟨hs0, hc0, h60⟩ := hok hE
    obtain ⟨hcf, ⟨hl0, hln⟩, hme, hnl, hso⟩ := hok2 hs0
    subst hE
    obtain ⟨k, rfl⟩ : ∃ k : Nat, l = (k : Int) := ⟨l.toNat, by omega⟩
    have hk : k < n := by omega
    have hkn : (k : Int) < (n : Int) := by omega
    have hkc : k < sc := Nat.lt_of_lt_of_le hk hS.row.2.1
    have hov := hov k hk
    rw [Int.toNat_natCast] at hc0
    have HTD : Hid (TD = ⟨endData (ss.getD k default) (t1, t2) yes, [], [⟨6, t1, t2, 0, 0, 0, yes⟩], ns ++ [⟨t1, t2, yes, false⟩]⟩) := by
      show _ = _
      rw [HD.out, if_pos rfl, Int.toNat_natCast]
    have hEnd : ∀ U, Below w1.heap.size w1 U → Calls Try.prog 19 #[(ss.getD k default).val, .agg #[.int .i64 t1, .int .i64 t2], .bool yes] U fun e w' => ∃ r : SV, e = .returned (.tuple #[r.val, .int .i64 0]) ∧ OwnStore w' U.heap.size r ∧ r.data = endData (ss.getD k default) (t1, t2) yes ∧ Below U.heap.size U w' := fun U hU => by
      have := St.end_own (ss.getD k default) (t1, t2) yes U (((HS.out _ hb1).2.1.below hU).each k hk).1 (hS.each k hk).2 hov
      rw [end_is, hc0] at this
      exact this
    clear hok hok2 HD hso hnl hcf hme hs0 hc0
    obtain ⟨b, off, hsa, hblt, y0, y1, y2, y3⟩ := (HS.out _ hb1).2.1.at hk
    subst hsa
    obtain ⟨D, eD⟩ : ∃ D, D = endData (ss.getD k default) (t1, t2) yes := ⟨_, rfl⟩
    rw [← eD] at hEnd HTD
    clear eD
    obtain ⟨⟨xa0, xn0, xc0, xa1, xn1, xc1, xa2, xn2, xc2, xa3, xn3, xc3, xi, xl, xd, xo⟩, eX⟩ : ∃ x, x = ss.getD k default := ⟨_, rfl⟩
    rw [← eX] at hEnd y0 y1 y2 y3
    clear eX
    simp only [SV.val] at hEnd y0 y1 y2 y3
    have HEnd : Hid (∀ U, Below w1.heap.size w1 U → Calls Try.prog 19 #[.agg #[.slice xa0 xn0 xc0, .slice xa1 xn1 xc1, .slice xa2 xn2 xc2, .slice xa3 xn3 xc3], .agg #[.int .i64 t1, .int .i64 t2], .bool yes] U fun e w' => ∃ r : SV, e = .returned (.tuple #[r.val, .int .i64 0]) ∧ OwnStore w' U.heap.size r ∧ r.data = D ∧ Below U.heap.size U w') := hEnd
    clear hEnd
    obtain ⟨_, _, _, e3, e4⟩ := KC.out _ hb1
    have zq : w.heap.size + 1 < w1.heap.size := by omega
    have KX : Hid (∀ U, Below w1.heap.size w1 U → U.cell? ⟨b, off + k * 4, none⟩ = some (.slice xa0 xn0 xc0) ∧ U.cell? ⟨b, off + k * 4 + 1, none⟩ = some (.slice xa1 xn1 xc1) ∧ U.cell? ⟨b, off + k * 4 + 2, none⟩ = some (.slice xa2 xn2 xc2) ∧ U.cell? ⟨b, off + k * 4 + 3, none⟩ = some (.slice xa3 xn3 xc3) ∧ U.cell? ⟨w.heap.size + 1, 0, none⟩ = some (.int .i64 t1) ∧ U.cell? ⟨w.heap.size + 1, 1, none⟩ = some (.int .i64 t2)) := fun U hU =>
      ⟨(hU.cell (p := ⟨b, off + k * 4, none⟩) hblt).trans y0, (hU.cell (p := ⟨b, off + k * 4 + 1, none⟩) hblt).trans y1, (hU.cell (p := ⟨b, off + k * 4 + 2, none⟩) hblt).trans y2, (hU.cell (p := ⟨b, off + k * 4 + 3, none⟩) hblt).trans y3, (hU.cell (p := ⟨w.heap.size + 1, 0, none⟩) zq).trans e3, (hU.cell (p := ⟨w.heap.size + 1, 1, none⟩) zq).trans e4⟩
    clear y0 y1 y2 y3 e3 e4
    go_upto_region 4 with (fail)
    go_cut [17, 18] (fun s17 s18 wc => ∃ (g : Nat) (r : SV), s17 = .pointer (some ⟨g, 0, none⟩) ∧ s18 = .int .i64 0 ∧ w1.heap.size ≤ g ∧ BoxN wc g 4 r.box ∧ OwnStore wc w1.heap.size r ∧ r.data = D ∧ Below w1.heap.size w1 wc)
    case first =>
      go_region_held3 (fun U => U.cell? ⟨b, off + k * 4, none⟩ = some (.slice xa0 xn0 xc0) ∧ U.cell? ⟨b, off + k * 4 + 1, none⟩ = some (.slice xa1 xn1 xc1) ∧ U.cell? ⟨b, off + k * 4 + 2, none⟩ = some (.slice xa2 xn2 xc2) ∧ U.cell? ⟨b, off + k * 4 + 3, none⟩ = some (.slice xa3 xn3 xc3) ∧ U.cell? ⟨w.heap.size + 1, 0, none⟩ = some (.int .i64 t1) ∧ U.cell? ⟨w.heap.size + 1, 1, none⟩ = some (.int .i64 t2))
        (exact KX.out _ (by (with_reducible repeat (first | exact Below.refl _ _ | exact hu2 | refine qD ?_ | refine qA ?_ _ | refine qS ?_ (by first | omega | (simp; done)) _)); done))
        ((go_at_call 19; refine (HEnd.out _ (by (with_reducible repeat (first | exact Below.refl _ _ | exact hu2 | refine qD ?_ | refine qA ?_ _ | refine qS ?_ (by first | omega | (simp; done)) _)); done)).mono ?_; rintro e w2 ⟨⟨ra0, rn0, rc0, ra1, rn1, rc1, ra2, rn2, rc2, ra3, rn3, rc3, ri, rl, rd, ro⟩, rfl, hO2', hd2, hb2⟩; simp only [SV.val]; have hu2 : Below w1.heap.size w1 w2 := qT (by (with_reducible repeat (first | exact Below.refl _ _ | exact hu2 | refine qD ?_ | refine qA ?_ _ | refine qS ?_ (by first | omega | (simp; done)) _)); done) hb2; have zu2 := hu2.size; (first | (have bx3 : BoxN w2 w1.heap.size 4 [.slice none 0 0, .slice none 0 0, .slice none 0 0, .slice none 0 0] := (boxn_new w1.drew #[.slice none 0 0, .slice none 0 0, .slice none 0 0, .slice none 0 0] 34 4 rfl).below hb2 (by simp); have s0 : _ = some (Value.slice none 0 0) := (bx3.c 0 (by decide)).1; have g0 := (bx3.c 0 (by decide)).2; have s1 : _ = some (Value.slice none 0 0) := (bx3.c 1 (by decide)).1; have g1 := (bx3.c 1 (by decide)).2; have s2 : _ = some (Value.slice none 0 0) := (bx3.c 2 (by decide)).1; have g2 := (bx3.c 2 (by decide)).2; have s3 : _ = some (Value.slice none 0 0) := (bx3.c 3 (by decide)).1; have g3 := (bx3.c 3 (by decide)).2; have zbx3 := bx3.lt) | skip)))
      all_goals
        go_wp2_with fail
        go_meet
        case rel => first | exact ⟨_, ⟨ra0, rn0, rc0, ra1, rn1, rc1, ra2, rn2, rc2, ra3, rn3, rc3, ri, rl, rd, ro⟩, rfl, rfl, Nat.le_refl _, (((bx3.set 0 (by decide) (.slice ra0 rn0 rc0)).set 1 (by decide) (.slice ra1 rn1 rc1)).set 2 (by decide) (.slice ra2 rn2 rc2)).set 3 (by decide) (.slice ra3 rn3 rc3), (hO2'.four (b := w1.heap.size) (by simp) _ _ _ _).base (by simp), hd2, by (with_reducible repeat (first | exact Below.refl _ _ | exact hu2 | refine qD ?_ | refine qA ?_ _ | refine qS ?_ (by first | omega | (simp; done)) _)); done⟩ | exact ⟨_, ⟨ra0, rn0, rc0, ra1, rn1, rc1, ra2, rn2, rc2, ra3, rn3, rc3, ri, rl, rd, ro⟩, rfl, rfl, zu2, boxn_new w2 #[.slice ra0 rn0 rc0, .slice ra1 rn1 rc1, .slice ra2 rn2 rc2, .slice ra3 rn3 rc3] _ 4 rfl, (hO2'.below ((Below.refl _ _).alloc (Nat.le_refl _) _)).base (by first | omega | (simp; done) | (simp; omega)), hd2, by (with_reducible repeat (first | exact Below.refl _ _ | exact hu2 | refine qD ?_ | refine qA ?_ _ | refine qS ?_ (by first | omega | (simp; done)) _)); done⟩
    case rest =>
      obtain ⟨g, ⟨ra0, rn0, rc0, ra1, rn1, rc1, ra2, rn2, rc2, ra3, rn3, rc3, ri, rl, rd, ro⟩, rfl, rfl, hgw, bxg, hO, hd, bY⟩ := hcut
      have hgQ0 : g ≠ w.heap.size + 1 + 1 := by omega
      obtain ⟨Y, eY⟩ : ∃ Y, Y = wc := ⟨_, rfl⟩
      rw [← eY] at bxg hO bY ⊢
      clear eY KX HEnd
      simp only [SV.box] at bxg
      have bWY : Below W.heap.size W Y := hb1.trans (bY.mono zw1)
      have zY := bY.size
      obtain ⟨_, _, hNY, hwY⟩ := HS.out _ bWY
      have hqY := KQ.out _ bWY
      have HO : Hid (OwnStore Y w1.heap.size ⟨ra0, rn0, rc0, ra1, rn1, rc1, ra2, rn2, rc2, ra3, rn3, rc3, ri, rl, rd, ro⟩) := hO
      have HQC : Hid (w.heap.size + 1 + 1 < w1.heap.size) := by show _ < _; omega
      have HQ : Hid (BoxN Y (w.heap.size + 2) 7 [.slice none 0 0, .slice none 0 0, .slice none 0 0, .slice none 0 0, .slice none 0 0, .slice none 0 0, .slice none 0 0]) := hqY
      have HNt : Hid (∀ U, Below Y.heap.size Y U → Calls Try.prog 20 #[.slice na nn nc] U fun e w' => NotesNew U w' e nn ns) := fun U hU => freshNotes_any na nn nc ns U (St.IsRow.below hNY hU) hn24
      have x0 := (bxg.c 0 (by decide)).1
      have x1 := (bxg.c 1 (by decide)).1
      have x2 := (bxg.c 2 (by decide)).1
      have x3 := (bxg.c 3 (by decide)).1
      simp only [List.getD_cons_zero, List.getD_cons_succ] at x0 x1 x2 x3
      have zg := bxg.lt
      obtain ⟨_, _, _, e3, e4⟩ := KC.out _ bWY
      have zt : w.heap.size + 1 < Y.heap.size := by omega
      have KG : Hid (∀ U, Below Y.heap.size Y U → U.cell? ⟨g, 0, none⟩ = some (.slice ra0 rn0 rc0) ∧ U.cell? ⟨g, 1, none⟩ = some (.slice ra1 rn1 rc1) ∧ U.cell? ⟨g, 2, none⟩ = some (.slice ra2 rn2 rc2) ∧ U.cell? ⟨g, 3, none⟩ = some (.slice ra3 rn3 rc3) ∧ U.cell? ⟨w.heap.size + 1, 0, none⟩ = some (.int .i64 t1) ∧ U.cell? ⟨w.heap.size + 1, 1, none⟩ = some (.int .i64 t2)) := fun U hU => ⟨(hU.cell (p := ⟨g, 0, none⟩) zg).trans x0, (hU.cell (p := ⟨g, 1, none⟩) zg).trans x1, (hU.cell (p := ⟨g, 2, none⟩) zg).trans x2, (hU.cell (p := ⟨g, 3, none⟩) zg).trans x3, (hU.cell (p := ⟨w.heap.size + 1, 0, none⟩) zt).trans e3, (hU.cell (p := ⟨w.heap.size + 1, 1, none⟩) zt).trans e4⟩
      have hgQ : g ≠ w.heap.size + 1 + 1 := hgQ0
      have PA : Hid (∀ (U : World) (o : Obj), U.cell? ⟨g, 0, none⟩ = some (.slice ra0 rn0 rc0) ∧ U.cell? ⟨g, 1, none⟩ = some (.slice ra1 rn1 rc1) ∧ U.cell? ⟨g, 2, none⟩ = some (.slice ra2 rn2 rc2) ∧ U.cell? ⟨g, 3, none⟩ = some (.slice ra3 rn3 rc3) ∧ U.cell? ⟨w.heap.size + 1, 0, none⟩ = some (.int .i64 t1) ∧ U.cell? ⟨w.heap.size + 1, 1, none⟩ = some (.int .i64 t2) → (U.alloc o).cell? ⟨g, 0, none⟩ = some (.slice ra0 rn0 rc0) ∧ (U.alloc o).cell? ⟨g, 1, none⟩ = some (.slice ra1 rn1 rc1) ∧ (U.alloc o).cell? ⟨g, 2, none⟩ = some (.slice ra2 rn2 rc2) ∧ (U.alloc o).cell? ⟨g, 3, none⟩ = some (.slice ra3 rn3 rc3) ∧ (U.alloc o).cell? ⟨w.heap.size + 1, 0, none⟩ = some (.int .i64 t1) ∧ (U.alloc o).cell? ⟨w.heap.size + 1, 1, none⟩ = some (.int .i64 t2)) := fun U o ⟨h0, h1, h2, h3, h4, h5⟩ => ⟨cellA h0 o, cellA h1 o, cellA h2 o, cellA h3 o, cellA h4 o, cellA h5 o⟩
      have PD : Hid (∀ U : World, U.cell? ⟨g, 0, none⟩ = some (.slice ra0 rn0 rc0) ∧ U.cell? ⟨g, 1, none⟩ = some (.slice ra1 rn1 rc1) ∧ U.cell? ⟨g, 2, none⟩ = some (.slice ra2 rn2 rc2) ∧ U.cell? ⟨g, 3, none⟩ = some (.slice ra3 rn3 rc3) ∧ U.cell? ⟨w.heap.size + 1, 0, none⟩ = some (.int .i64 t1) ∧ U.cell? ⟨w.heap.size + 1, 1, none⟩ = some (.int .i64 t2) → U.drew.cell? ⟨g, 0, none⟩ = some (.slice ra0 rn0 rc0) ∧ U.drew.cell? ⟨g, 1, none⟩ = some (.slice ra1 rn1 rc1) ∧ U.drew.cell? ⟨g, 2, none⟩ = some (.slice ra2 rn2 rc2) ∧ U.drew.cell? ⟨g, 3, none⟩ = some (.slice ra3 rn3 rc3) ∧ U.drew.cell? ⟨w.heap.size + 1, 0, none⟩ = some (.int .i64 t1) ∧ U.drew.cell? ⟨w.heap.size + 1, 1, none⟩ = some (.int .i64 t2)) := fun U ⟨h0, h1, h2, h3, h4, h5⟩ => ⟨cellD h0, cellD h1, cellD h2, cellD h3, cellD h4, cellD h5⟩
      have PS7 : Hid (∀ (U : World) (i : Nat) (v : Value), U.cell? ⟨g, 0, none⟩ = some (.slice ra0 rn0 rc0) ∧ U.cell? ⟨g, 1, none⟩ = some (.slice ra1 rn1 rc1) ∧ U.cell? ⟨g, 2, none⟩ = some (.slice ra2 rn2 rc2) ∧ U.cell? ⟨g, 3, none⟩ = some (.slice ra3 rn3 rc3) ∧ U.cell? ⟨w.heap.size + 1, 0, none⟩ = some (.int .i64 t1) ∧ U.cell? ⟨w.heap.size + 1, 1, none⟩ = some (.int .i64 t2) → (U.setCell ⟨w.heap.size + 1 + 1, i, none⟩ v).cell? ⟨g, 0, none⟩ = some (.slice ra0 rn0 rc0) ∧ (U.setCell ⟨w.heap.size + 1 + 1, i, none⟩ v).cell? ⟨g, 1, none⟩ = some (.slice ra1 rn1 rc1) ∧ (U.setCell ⟨w.heap.size + 1 + 1, i, none⟩ v).cell? ⟨g, 2, none⟩ = some (.slice ra2 rn2 rc2) ∧ (U.setCell ⟨w.heap.size + 1 + 1, i, none⟩ v).cell? ⟨g, 3, none⟩ = some (.slice ra3 rn3 rc3) ∧ (U.setCell ⟨w.heap.size + 1 + 1, i, none⟩ v).cell? ⟨w.heap.size + 1, 0, none⟩ = some (.int .i64 t1) ∧ (U.setCell ⟨w.heap.size + 1 + 1, i, none⟩ v).cell? ⟨w.heap.size + 1, 1, none⟩ = some (.int .i64 t2)) := fun U i v ⟨h0, h1, h2, h3, h4, h5⟩ => ⟨cellS h0 hgQ i v, cellS h1 hgQ i v, cellS h2 hgQ i v, cellS h3 hgQ i v, cellS h4 (by omega) i v, cellS h5 (by omega) i v⟩
      have KQc : Hid (∀ U, Below Y.heap.size Y U → BoxN U (w.heap.size + 2) 7 [.slice none 0 0, .slice none 0 0, .slice none 0 0, .slice none 0 0, .slice none 0 0, .slice none 0 0, .slice none 0 0]) := fun U hU => HQ.out.below hU HQ.out.lt
      clear x0 x1 x2 x3 zg e3 e4 bxg hO hqY
      go_upto_region 7 with (fail)
      go_cut [15] (fun s15 wc => s15 = .int .i64 0 ∧ ∃ v : AnsV, (BoxN wc (w.heap.size + 2) 7 v.cells ∧ IsAns wc v ∧ v.far w1.heap.size) ∧ v.data = TD ∧ Below w.heap.size w wc)
      case first =>
        go_region_held3 (fun U => U.cell? ⟨g, 0, none⟩ = some (.slice ra0 rn0 rc0) ∧ U.cell? ⟨g, 1, none⟩ = some (.slice ra1 rn1 rc1) ∧ U.cell? ⟨g, 2, none⟩ = some (.slice ra2 rn2 rc2) ∧ U.cell? ⟨g, 3, none⟩ = some (.slice ra3 rn3 rc3) ∧ U.cell? ⟨w.heap.size + 1, 0, none⟩ = some (.int .i64 t1) ∧ U.cell? ⟨w.heap.size + 1, 1, none⟩ = some (.int .i64 t2))
          (((with_reducible repeat (first | refine PS7.out _ _ _ ?_ | (refine KG.out _ ?_; (repeat (first | exact Below.refl _ _ | exact hu5 | exact hu1 | refine qD ?_ | refine qA ?_ _)); done) | refine PA.out _ _ ?_ | refine PD.out _ ?_)); done))
          (first
            | (go_at_call 20; refine (HNt.out _ (by (with_reducible repeat (first | exact Below.refl _ _ | refine qD ?_ | refine qA ?_ _)); done)).mono ?_; rintro e u1 ⟨na1, nc1, rfl, own1, hbn⟩; have hu1 : Below Y.heap.size Y u1 := qT (by (with_reducible repeat (first | exact Below.refl _ _ | refine qD ?_ | refine qA ?_ _)); done) hbn; have zu1 := hu1.size; have zun := hbn.size)
            | (refine St.step_append_row EN (by rfl) (.tmp 50) (.tmp 54) (by rfl) _ (.slice na1 nn nc1) nn ns (by rfl) (own_below own1 (by (with_reducible repeat (first | exact Below.refl _ _ | refine qD ?_ | refine qA ?_ _)); done)) _ 1 1 [(⟨t1, t2, yes, false⟩ : NV)] (by rfl) (by (with_reducible repeat (first | (refine isOneQ ?_ rfl rfl; (first | rfl | (simp; done))) | refine rowA ?_ _ | refine rowD ?_ | refine St.IsRow.below ?_ hbn)); done) (by unfold maxLen; omega) (by omega) (by simp at zun ⊢; omega) ?_; intro a5 c5 u5 own5 gr5 at5; have hu5 : Below Y.heap.size Y u5 := (show Below Y.heap.size Y _ by (with_reducible repeat (first | exact Below.refl _ _ | exact hu1 | refine qD ?_ | refine qA ?_ _)); done).grown gr5 (show Below Y.heap.size Y _ by (with_reducible repeat (first | exact Below.refl _ _ | exact hu1 | refine qD ?_ | refine qA ?_ _)); done).size (fun q hq => by have := (own1.lt q hq).1; simp at this; omega); have zu5 := hu5.size; have hn5 := (own_isRow ncells_len own5 (by have := hN.1; simp; omega)).1; have hn5b := (own_isRow ncells_len own5 (by have := hN.1; simp; omega)).2; have qz := KQc.out _ hu5; have s0 : _ = some (Value.slice none 0 0) := (qz.c 0 (by decide)).1; have g0 := (qz.c 0 (by decide)).2; have s1 : _ = some (Value.slice none 0 0) := (qz.c 1 (by decide)).1; have g1 := (qz.c 1 (by decide)).2; have s2 : _ = some (Value.slice none 0 0) := (qz.c 2 (by decide)).1; have g2 := (qz.c 2 (by decide)).2; have s3 : _ = some (Value.slice none 0 0) := (qz.c 3 (by decide)).1; have g3 := (qz.c 3 (by decide)).2; have s4 : _ = some (Value.slice none 0 0) := (qz.c 4 (by decide)).1; have g4 := (qz.c 4 (by decide)).2; have s5 : _ = some (Value.slice none 0 0) := (qz.c 5 (by decide)).1; have g5 := (qz.c 5 (by decide)).2; have s6 : _ = some (Value.slice none 0 0) := (qz.c 6 (by decide)).1; have g6 := (qz.c 6 (by decide)).2; have zqz := qz.lt))
        all_goals
          go_wp2_with fail
          go_meet
          case rel =>
            first
              | ((with_reducible refine ⟨rfl, ⟨⟨ra0, rn0, rc0, ra1, rn1, rc1, ra2, rn2, rc2, ra3, rn3, rc3, ri, rl, rd, ro⟩, none, 0, 0, some ⟨_, 0, none⟩, 1, 1, a5, nn + 1, c5, [], [⟨6, t1, t2, 0, 0, 0, yes⟩], ns ++ [⟨t1, t2, yes, false⟩]⟩, force_fin2 (Z := u5) (Q := w.heap.size + 1 + 1) (r := ⟨ra0, rn0, rc0, ra1, rn1, rc1, ra2, rn2, rc2, ra3, rn3, rc3, ri, rl, rd, ro⟩) (rec := ⟨6, t1, t2, 0, 0, 0, yes⟩) HO.out zY HQC.out HQ.out hu5 ?_ ?_ ?_ hn5 ?_, ?_, ?_⟩); (· rfl); (· rfl); (· rfl); (· exact (fun b off e => by have := (hn5b b off e).1; simp at this; omega)))
              | ((with_reducible refine ⟨rfl, ⟨⟨ra0, rn0, rc0, ra1, rn1, rc1, ra2, rn2, rc2, ra3, rn3, rc3, ri, rl, rd, ro⟩, none, 0, 0, some ⟨_, 0, none⟩, 1, 1, a5, nn + 1, c5, [], [⟨6, t1, t2, 0, 0, 0, yes⟩], ns ++ [⟨t1, t2, yes, false⟩]⟩, force_fin (Z := u5) (Q := w.heap.size + 1 + 1) (r := ⟨ra0, rn0, rc0, ra1, rn1, rc1, ra2, rn2, rc2, ra3, rn3, rc3, ri, rl, rd, ro⟩) (rec := ⟨6, t1, t2, 0, 0, 0, yes⟩) HO.out zY HQC.out HQ.out hu5 ?_ ?_ hn5 ?_, ?_, ?_⟩); (· ((repeat (first | (with_reducible refine isOneQ ?_ rfl rfl; (first | rfl | (simp; done))) | with_reducible refine rowA ?_ _ | with_reducible refine rowD ?_ | with_reducible refine St.IsRow.below ?_ hbn | ((with_reducible refine row_grown_at ?_ gr5 ?_); rotate_left; (· (intro e; have := own1.lt _ e; first | omega | (simp at this; done) | (simp at this; omega)))))); done)); (· (first | omega | (simp; omega))); (· exact (fun b off e => by have := (hn5b b off e).1; simp at this; omega)))
            · rw [HTD.out, ← hd]; rfl
            · have hq := (HS.out _ (bWY.trans (hu5.mono bWY.size))).2.2.2
              (with_reducible repeat (first | exact hq | refine qA ?_ _ | refine qD ?_ | refine qS ?_ (by omega) _)); done
      case rest =>
        obtain ⟨rfl, ⟨⟨va0, vn0, vc0, va1, vn1, vc1, va2, vn2, vc2, va3, vn3, vc3, vi, vl, vd, vo⟩, va4, vn4, vc4, va5, vn5, vc5, va6, vn6, vc6, vms, vrs, vns⟩, ⟨bxF, hIF, hfF⟩, hdF, hbF⟩ := hcut
        obtain ⟨X, eX⟩ : ∃ X, X = wc := ⟨_, rfl⟩
        rw [← eX] at bxF hIF hbF ⊢
        clear eX
        simp only [AnsV.cells] at bxF
        have k0 := (bxF.c 0 (by decide)).1
        have k1 := (bxF.c 1 (by decide)).1
        have k2 := (bxF.c 2 (by decide)).1
        have k3 := (bxF.c 3 (by decide)).1
        have k4 := (bxF.c 4 (by decide)).1
        have k5 := (bxF.c 5 (by decide)).1
        have k6 := (bxF.c 6 (by decide)).1
        simp only [List.getD_cons_zero, List.getD_cons_succ] at k0 k1 k2 k3 k4 k5 k6
        go_wp2
        refine bodyPost_ret (v := .tuple #[.agg #[.slice va0 vn0 vc0, .slice va1 vn1 vc1, .slice va2 vn2 vc2, .slice va3 vn3 vc3, .slice va4 vn4 vc4, .slice va5 vn5 vc5, .slice va6 vn6 vc6], .int .i64 0]) (by simp [results, Try.results7, go_sem, k0, k1, k2, k3, k4, k5, k6]) rfl ⟨_, rfl, hIF, hdF, hbF, hfF.mono (by omega)⟩
  · have qb := KQ.out _ hb1
    have hwE := (HS.out _ hb1).2.2.2
    have HN0 : Hid (TD = AD.nil) := by show _ = _; rw [HD.out, if_neg hE]
    have zQ : w.heap.size + 2 < w1.heap.size := by omega
    have hE2 : (E == 0) = false := by simp [hE]
    have k0 := (qb.c 0 (by decide)).1
    have h0 := (qb.c 0 (by decide)).2
    have k1 := (qb.c 1 (by decide)).1
    have h1 := (qb.c 1 (by decide)).2
    have k2 := (qb.c 2 (by decide)).1
    have h2 := (qb.c 2 (by decide)).2
    have k3 := (qb.c 3 (by decide)).1
    have h3 := (qb.c 3 (by decide)).2
    have k4 := (qb.c 4 (by decide)).1
    have h4 := (qb.c 4 (by decide)).2
    have k5 := (qb.c 5 (by decide)).1
    have h5 := (qb.c 5 (by decide)).2
    have k6 := (qb.c 6 (by decide)).1
    have h6 := (qb.c 6 (by decide)).2
    simp only [List.getD_cons_zero, List.getD_cons_succ] at k0 k1 k2 k3 k4 k5 k6
    clear HD hok hok2
    go_wp2
    refine bodyPost_ret (v := .tuple #[.agg #[.slice none 0 0, .slice none 0 0, .slice none 0 0, .slice none 0 0, .slice none 0 0, .slice none 0 0, .slice none 0 0], .int .i64 E]) (by simp [results, Try.results7, go_sem, k0, k1, k2, k3, k4, k5, k6]) rfl ⟨AnsV.nil, rfl, isAns_nil _, by rw [HN0.out]; rfl, ?_, AnsV.far_nil _⟩
    exact hwE.grown (grown7 w1 (w.heap.size + 2) _ _ _ _ _ _ _) hwE.size (fun q hq => by simp at hq; omega)

end Go.Proofs.Ytifdjlhgcbkamaa.Pt
/- The contract of the document's askFault. -/
namespace Go.Proofs.Ytifdjlhgcbkamaa.St
open Go.ChangeShapes Go.WideShapes Go.ChangeAt Go.RowKit
set_option linter.unusedVariables false

def askErr (s : SV) (t : Int × Int) (key : Int) : Int := if storeOK s then (if txOK t && inR key 0 7 then 0 else 2) else 9

set_option maxHeartbeats 1000000 in
theorem askFault_any (s : SV) (t : Int × Int) (key : Int) (w : World) (h : IsStore w s) :
    Calls Try.prog 47 #[s.val, .agg #[.int .i64 t.1, .int .i64 t.2], .int .i64 key] w fun e w' => e = .returned (.int .i64 (askErr s t key)) ∧ Below w.heap.size w w' := by
  have hM := fun w' h1 => storeMay_any s w' h1
  have hT := fun w' => plainTxn_any t w'
  have eR : Hid (askErr s t key = if storeOK s then (if txOK t && inR key 0 7 then 0 else 2) else 9) := rfl
  obtain ⟨R, e0⟩ : ∃ R, R = askErr s t key := ⟨_, rfl⟩
  obtain ⟨S, e1⟩ : ∃ R, R = storeOK s := ⟨_, rfl⟩
  obtain ⟨T, e2⟩ : ∃ R, R = txOK t := ⟨_, rfl⟩
  obtain ⟨K, e3⟩ : ∃ R, R = inR key 0 7 := ⟨_, rfl⟩
  rw [← e0, ← e1, ← e2, ← e3] at eR
  rw [← e1] at hM
  rw [← e2] at hT
  rw [← e0]
  replace e3 := e3.symm
  clear e0 e1 e2
  have hh := h
  obtain ⟨ia, il, ic, la, ll, lc, da, dl, dc, oa, ol, oc, items, locks, doubts, over⟩ := s
  obtain ⟨ts, tn⟩ := t
  simp only [SV.val] at *
  obtain ⟨W, hW⟩ : ∃ W : World, W = (w.alloc (.cells #[.slice ia il ic, .slice la ll lc, .slice da dl dc, .slice oa ol oc] 34)).alloc (.cells #[.int .i64 ts, .int .i64 tn] 28) := ⟨_, rfl⟩
  have hB : Below w.heap.size w W := by rw [hW]; exact ((Below.refl _ _).alloc (Nat.le_refl _) _).alloc (by simp) _
  have zW : W.heap.size = w.heap.size + 2 := by rw [hW]; simp
  have z1 : w.heap.size + 1 < W.heap.size := by omega
  clear zW
  have c0 : W.cell? ⟨w.heap.size, 0, none⟩ = some (.slice ia il ic) := by rw [hW]; go_simp
  have c1 : W.cell? ⟨w.heap.size, 1, none⟩ = some (.slice la ll lc) := by rw [hW]; go_simp
  have c2 : W.cell? ⟨w.heap.size, 2, none⟩ = some (.slice da dl dc) := by rw [hW]; go_simp
  have c3 : W.cell? ⟨w.heap.size, 3, none⟩ = some (.slice oa ol oc) := by rw [hW]; go_simp
  have d0 : W.cell? ⟨w.heap.size + 1, 0, none⟩ = some (.int .i64 ts) := by rw [hW]; go_simp
  have d1 : W.cell? ⟨w.heap.size + 1, 1, none⟩ = some (.int .i64 tn) := by rw [hW]; go_simp
  have hSW := hh.below hB
  go_enter Try.func47, Try.ntmps47
  go_upto_region 1 with (fail)
  rw [← hW]
  clear hW
  cases S <;> cases T <;> cases K
  all_goals
    go_wp2_with (first
      | (go_at_call 46; refine (hM _ hSW).mono ?_; rintro e w1 ⟨rfl, hb1⟩; have hw1 := hB.trans (hb1.mono hB.size); have x0 := (hb1.cell (p := ⟨w.heap.size + 1, 0, none⟩) z1).trans d0; have x1 := (hb1.cell (p := ⟨w.heap.size + 1, 1, none⟩) z1).trans d1)
      | (go_at_call 75; refine (hT _).mono ?_; rintro e w2 ⟨rfl, hb2⟩; have hw2 := hw1.trans (hb2.mono hw1.size))
      | (go_at_call 45; refine (in_any _ _ _ _).mono ?_; rintro e u ⟨rfl, hu⟩; rw [hu, e3]; clear hu))
    go_ret
    exact ⟨by rw [eR.out]; rfl, by first | exact hw2 | exact hw1⟩

end Go.Proofs.Ytifdjlhgcbkamaa.St
