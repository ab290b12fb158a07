/- Texts of this claim, one behind the other. -/
import Derived.Test.YtgohpgollpjlnaaDoorM4ShowHidden
import Derived.Test.YtgohpgollpjlnaaDoorM5ShowHidden
import Derived.Deep.RegionHeld3
import Derived.Deep.RegionWith
import Derived.Deep.Cut
import Derived.Lib.QuietBelow
/- The contract of store.hold: a lock where its transaction has one on that key, else behind all; a doubt, if there is none; in a store of the caller's own. -/
namespace Go.Proofs.YtgohpgollpjlnaaDoor.St
open Go.ChangeShapes Go.WideShapes Go.ChangeAt Go.RowKit
set_option linter.unusedVariables false

def holdL (l : List LkV) (k : LkV) : List LkV := if 0 ≤ idxI (byT k.t k.key) l then l.set (idxI (byT k.t k.key) l).toNat k else l ++ [k]
def holdD (l : List DbV) (t : Int × Int) : List DbV := if l.any (dbT t) then l else l ++ [⟨t, 0⟩]

set_option maxRecDepth 100000 in
set_option maxHeartbeats 8000000 in
theorem hold_any (s : SV) (k : LkV) (C : Nat) (w : World) (h : OwnStore w C s) (hC : C ≤ w.heap.size) (h2 : s.ll ≤ 100) (h3 : s.dl ≤ 100) :
    Calls Tryd.prog 62 #[s.val, k.val] w fun e w' => ∃ r : SV, e = .returned r.val ∧ r.data = ⟨s.items, holdL s.locks k, holdD s.doubts k.t, s.over⟩ ∧ OwnStore w' C r ∧ Below C w w' := by
  obtain ⟨i2, E2⟩ := lkElem
  obtain ⟨i3, E3⟩ := dbElem
  have hBy := fun w' => by_any k.t k.key w'
  have hDo := fun w' => doubtOf_any k.t w'
  have hIx := fun fn cps w' h1 h2 => indexLock_any fn cps (byT k.t k.key) s.la s.ll s.lc s.locks w' h1 h2
  have hCn := fun fn cps w' h1 h2 => containsDoubt_any fn cps (dbT k.t) s.da s.dl s.dc s.doubts w' h1 h2
  obtain ⟨i, e1⟩ : ∃ R, R = idxI (byT k.t k.key) s.locks := ⟨_, rfl⟩
  obtain ⟨B, e2⟩ : ∃ R, R = s.doubts.any (dbT k.t) := ⟨_, rfl⟩
  have hi := idxI_lt (p := byT k.t k.key) (l := s.locks)
  rw [h.isStore.locks.1] at hi
  have HLD : Hid (holdL s.locks k = if 0 ≤ i then s.locks.set i.toNat k else s.locks ++ [k]) := by rw [e1]; rfl
  have HDD : Hid (holdD s.doubts k.t = if B then s.doubts else s.doubts ++ [⟨k.t, 0⟩]) := by rw [e2]; rfl
  rw [← e1] at hIx hi
  rw [← e2] at hCn
  obtain ⟨XL, eXL⟩ : ∃ R, R = holdL s.locks k := ⟨_, rfl⟩
  obtain ⟨XD, eXD⟩ : ∃ R, R = holdD s.doubts k.t := ⟨_, rfl⟩
  rw [← eXL] at HLD ⊢
  rw [← eXD] at HDD ⊢
  clear e1 e2 eXL eXD
  have HOW : Hid (OwnStore w C s) := h
  have HS0 := h.isStore
  clear h
  obtain ⟨ia, il, ic, la, ll, lc, da, dl, dc, oa, ol, oc, items, locks, doubts, over⟩ := s
  obtain ⟨⟨ts, tn⟩, key, write, value, ask⟩ := k
  simp only [SV.val, LkV.val] at *
  obtain ⟨W, hW⟩ : ∃ W : World, W = ((w.alloc (.cells #[.slice ia il ic, .slice la ll lc, .slice da dl dc, .slice oa ol oc] 55)).alloc (.cells #[.int .i64 ts, .int .i64 tn, .int .i64 key, .bool write, .int .i64 value, .int .i64 ask] 111)).alloc (.cells #[.slice none 0 0, .slice none 0 0, .slice none 0 0, .slice none 0 0] 55) := ⟨_, rfl⟩
  have hB : Below w.heap.size w W := by rw [hW]; exact (((Below.refl _ _).alloc (Nat.le_refl _) _).alloc (by simp) _).alloc (by simp; omega) _
  have zW : W.heap.size = w.heap.size + 3 := by rw [hW]; simp
  have b0 : BoxN W w.heap.size 4 [.slice ia il ic, .slice la ll lc, .slice da dl dc, .slice oa ol oc] := by
    have q := boxn_new w #[.slice ia il ic, .slice la ll lc, .slice da dl dc, .slice oa ol oc] 55 4 rfl
    rw [hW]
    refine q.below (B := w.heap.size + 1) (((Below.refl _ _).alloc (by simp) _).alloc (by simp) _) (by omega)
  have b1 : BoxN W (w.heap.size + 1) 6 [.int .i64 ts, .int .i64 tn, .int .i64 key, .bool write, .int .i64 value, .int .i64 ask] := by
    have q := boxn_new (w.alloc (.cells #[.slice ia il ic, .slice la ll lc, .slice da dl dc, .slice oa ol oc] 55)) #[.int .i64 ts, .int .i64 tn, .int .i64 key, .bool write, .int .i64 value, .int .i64 ask] 111 6 rfl
    rw [hW]
    have q2 := q.below (B := w.heap.size + 2) ((Below.refl _ _).alloc (o := .cells #[.slice none 0 0, .slice none 0 0, .slice none 0 0, .slice none 0 0] 55) (by simp)) (by simp)
    simpa using q2
  have b2 : BoxN W (w.heap.size + 1 + 1) 4 [.slice none 0 0, .slice none 0 0, .slice none 0 0, .slice none 0 0] := by
    have q := boxn_new ((w.alloc (.cells #[.slice ia il ic, .slice la ll lc, .slice da dl dc, .slice oa ol oc] 55)).alloc (.cells #[.int .i64 ts, .int .i64 tn, .int .i64 key, .bool write, .int .i64 value, .int .i64 ask] 111)) #[.slice none 0 0, .slice none 0 0, .slice none 0 0, .slice none 0 0] 55 4 rfl
    rw [hW]
    simpa using q
  have hM0 : Made w W C w.heap.size ⟨ia, il, ic, la, ll, lc, da, dl, dc, oa, ol, oc, items, locks, doubts, over⟩ := Made.new HOW.out (Below.refl _ _) hB (Nat.le_refl _) b0 hC
  have f1 : Off ⟨ia, il, ic, la, ll, lc, da, dl, dc, oa, ol, oc, items, locks, doubts, over⟩ (w.heap.size + 1) := Off.of_lt HOW.out (by omega)
  have f2 : Off ⟨ia, il, ic, la, ll, lc, da, dl, dc, oa, ol, oc, items, locks, doubts, over⟩ (w.heap.size + 1 + 1) := Off.of_lt HOW.out (by omega)
  have hLW := (hM0.own.isStore).locks
  simp only [] at hLW
  have HM : Hid (∀ U, Below W.heap.size W U → Made w U C w.heap.size ⟨ia, il, ic, la, ll, lc, da, dl, dc, oa, ol, oc, items, locks, doubts, over⟩ ∧ BoxN U (w.heap.size + 1) 6 [.int .i64 ts, .int .i64 tn, .int .i64 key, .bool write, .int .i64 value, .int .i64 ask] ∧ BoxN U (w.heap.size + 1 + 1) 4 [.slice none 0 0, .slice none 0 0, .slice none 0 0, .slice none 0 0]) := fun U hU => ⟨hM0.below hU, b1.below hU b1.lt, b2.below hU b2.lt⟩
  have HK1 : Hid (∀ U, Below W.heap.size W U → U.cell? ⟨w.heap.size, 1, none⟩ = some (.slice la ll lc) ∧ U.cell? ⟨w.heap.size + 1, 0, none⟩ = some (.int .i64 ts) ∧ U.cell? ⟨w.heap.size + 1, 1, none⟩ = some (.int .i64 tn) ∧ U.cell? ⟨w.heap.size + 1, 2, none⟩ = some (.int .i64 key)) := fun U hU => by
    obtain ⟨m1, m2, _⟩ := HM.out U hU
    exact ⟨m1.cells.2.2.1, (m2.c 0 (by decide)).1, (m2.c 1 (by decide)).1, (m2.c 2 (by decide)).1⟩
  clear b0 b1 b2 zW HS0
  go_enter Tryd.func62, Tryd.ntmps62
  go_upto_region 1 with (fail)
  rw [← hW]
  clear hW hM0
  have hD : Below W.heap.size W W.drew := (Below.refl _ _).drew
  go_region_held3 (fun U => U.cell? ⟨w.heap.size, 1, none⟩ = some (.slice la ll lc) ∧ U.cell? ⟨w.heap.size + 1, 0, none⟩ = some (.int .i64 ts) ∧ U.cell? ⟨w.heap.size + 1, 1, none⟩ = some (.int .i64 tn) ∧ U.cell? ⟨w.heap.size + 1, 2, none⟩ = some (.int .i64 key))
    (first | exact HK1.out _ hb3 | exact HK1.out _ hb2 | exact HK1.out _ hD | exact HK1.out _ (Below.refl _ _))
    (first
      | ((go_at_call 60; refine (hBy _).mono ?_; rintro e w2 ⟨bb, bc, rfl, hAs, hb2'⟩; have hb2 : Below W.heap.size W w2 := hD.trans (hb2'.mono hD.size); have hTT := hLW.below hb2))
      | ((go_at_call 59; refine (hIx _ _ _ hTT hAs).mono ?_; rintro e w3 ⟨rfl, hb3'⟩; have hb3 : Below W.heap.size W w3 := hb2.trans (hb3'.mono hb2.size))))

  obtain ⟨hM, bk, br⟩ := HM.out _ hb3
  obtain ⟨mz, x0, x1, x2, x3, g0, g1, g2, g3⟩ := hM.cells
  simp only [] at x0 x1 x2 x3
  have k0 := (bk.c 0 (by decide)).1
  have k1 := (bk.c 1 (by decide)).1
  have k2 := (bk.c 2 (by decide)).1
  have k3 := (bk.c 3 (by decide)).1
  have k4 := (bk.c 4 (by decide)).1
  have k5 := (bk.c 5 (by decide)).1
  simp only [List.getD_cons_zero, List.getD_cons_succ] at k0 k1 k2 k3 k4 k5
  have hsz := hM.sz
  have bkl := bk.lt
  have brl := br.lt
  by_cases h0 : 0 ≤ i
  · obtain ⟨j, rfl⟩ : ∃ j : Nat, i = (j : Int) := ⟨i.toNat, by omega⟩
    have hj : j < ll := by omega
    have hj' : (j : Int) < (ll : Int) := by omega
    obtain ⟨g, off, rfl, _, _⟩ := hM.own.isStore.locks.2.2.2.2 (by show 0 < ll; omega)
    obtain ⟨rfl, hCg, hgz, hgm, hcl, hM1⟩ := hM.one_locks (g := g) (off := off) rfl hj ⟨(ts, tn), key, write, value, ask⟩
    simp only [] at hcl
    obtain ⟨u0, e0⟩ := Option.isSome_iff_exists.1 (hcl 0 (by decide)).2.1
    have z0 := (hcl 0 (by decide)).1
    obtain ⟨u1, e1⟩ := Option.isSome_iff_exists.1 (hcl 1 (by decide)).2.1
    have z1 := (hcl 1 (by decide)).1
    obtain ⟨u2, e2⟩ := Option.isSome_iff_exists.1 (hcl 2 (by decide)).2.1
    have z2 := (hcl 2 (by decide)).1
    obtain ⟨u3, e3⟩ := Option.isSome_iff_exists.1 (hcl 3 (by decide)).2.1
    have z3 := (hcl 3 (by decide)).1
    obtain ⟨u4, e4⟩ := Option.isSome_iff_exists.1 (hcl 4 (by decide)).2.1
    have z4 := (hcl 4 (by decide)).1
    obtain ⟨u5, e5⟩ := Option.isSome_iff_exists.1 (hcl 5 (by decide)).2.1
    have z5 := (hcl 5 (by decide)).1
    simp only [Nat.add_zero] at e0 z0
    clear hcl
    obtain ⟨V, hV⟩ : ∃ V : World, V = ((((((w3.setCell ⟨g, j * 6, none⟩ (.int .i64 ts)).setCell ⟨g, j * 6 + 1, none⟩ (.int .i64 tn)).setCell ⟨g, j * 6 + 2, none⟩ (.int .i64 key)).setCell ⟨g, j * 6 + 3, none⟩ (.bool write)).setCell ⟨g, j * 6 + 4, none⟩ (.int .i64 value)).setCell ⟨g, j * 6 + 5, none⟩ (.int .i64 ask)) := ⟨_, rfl⟩
    have hM1' : Made w V C w.heap.size ⟨ia, il, ic, some ⟨g, 0, none⟩, ll, lc, da, dl, dc, oa, ol, oc, items, locks.set j ⟨(ts, tn), key, write, value, ask⟩, doubts, over⟩ := by rw [hV]; exact hM1
    have gr : w3.grownBy V (some g) := by rw [hV]; exact grown_setCells g (LkV.cells ⟨(ts, tn), key, write, value, ask⟩) (j * 6) w3
    have bk1 : BoxN V (w.heap.size + 1) 6 [.int .i64 ts, .int .i64 tn, .int .i64 key, .bool write, .int .i64 value, .int .i64 ask] := bk.grown gr (fun e => f1.l (by simpa [Value.ownBlock] using e.symm))
    have br1 : BoxN V (w.heap.size + 1 + 1) 4 [.slice none 0 0, .slice none 0 0, .slice none 0 0, .slice none 0 0] := br.grown gr (fun e => f2.l (by simpa [Value.ownBlock] using e.symm))
    have f1' : Off ⟨ia, il, ic, some ⟨g, 0, none⟩, ll, lc, da, dl, dc, oa, ol, oc, items, locks.set j ⟨(ts, tn), key, write, value, ask⟩, doubts, over⟩ (w.heap.size + 1) := ⟨f1.i, f1.l, f1.d, f1.o⟩
    have f2' : Off ⟨ia, il, ic, some ⟨g, 0, none⟩, ll, lc, da, dl, dc, oa, ol, oc, items, locks.set j ⟨(ts, tn), key, write, value, ask⟩, doubts, over⟩ (w.heap.size + 1 + 1) := ⟨f2.i, f2.l, f2.d, f2.o⟩
    have HX : Hid (XL = locks.set j ⟨(ts, tn), key, write, value, ask⟩) := by show _ = _; rw [HLD.out, if_pos (by omega)]; simp
    go_upto_region 5 with (fail)
    rw [← hV]
    clear hV hM1 gr e0 e1 e2 e3 e4 e5 z0 z1 z2 z3 z4 z5 k0 k1 k2 k3 k4 k5 x0 x1 x2 x3 g0 g1 g2 g3 mz bk br f1 f2 hM hb3 hLW
    have hDV := hM1'.own.isStore.doubts
    simp only [] at hDV
    have HM2 : Hid (∀ U, Below V.heap.size V U → Made w U C w.heap.size ⟨ia, il, ic, (some ⟨g, 0, none⟩), ll, lc, da, dl, dc, oa, ol, oc, items, locks.set j ⟨(ts, tn), key, write, value, ask⟩, doubts, over⟩ ∧ BoxN U (w.heap.size + 1) 6 [.int .i64 ts, .int .i64 tn, .int .i64 key, .bool write, .int .i64 value, .int .i64 ask] ∧ BoxN U (w.heap.size + 1 + 1) 4 [.slice none 0 0, .slice none 0 0, .slice none 0 0, .slice none 0 0]) := fun U hU => ⟨hM1'.below hU, bk1.below hU bk1.lt, br1.below hU br1.lt⟩
    have HK2 : Hid (∀ U, Below V.heap.size V U → U.cell? ⟨w.heap.size, 2, none⟩ = some (.slice da dl dc) ∧ U.cell? ⟨w.heap.size + 1, 0, none⟩ = some (.int .i64 ts) ∧ U.cell? ⟨w.heap.size + 1, 1, none⟩ = some (.int .i64 tn)) := fun U hU => by
      obtain ⟨m1, m2, _⟩ := HM2.out U hU
      exact ⟨m1.cells.2.2.2.1, (m2.c 0 (by decide)).1, (m2.c 1 (by decide)).1⟩
    have hD2 : Below V.heap.size V V.drew := (Below.refl _ _).drew
    clear hM1' bk1 br1
    go_region_held3 (fun U => U.cell? ⟨w.heap.size, 2, none⟩ = some (.slice da dl dc) ∧ U.cell? ⟨w.heap.size + 1, 0, none⟩ = some (.int .i64 ts) ∧ U.cell? ⟨w.heap.size + 1, 1, none⟩ = some (.int .i64 tn)) (first | exact HK2.out _ hb5 | exact HK2.out _ hb4 | exact HK2.out _ hD2 | exact HK2.out _ (Below.refl _ _)) (first | ((go_at_call 71; refine (hDo _).mono ?_; rintro e w4 ⟨bd, rfl, hAd, hb4'⟩; have hb4 : Below V.heap.size V w4 := hD2.trans (hb4'.mono hD2.size); have hTD := hDV.below hb4)) | ((go_at_call 97; refine (hCn _ _ _ hTD hAd).mono ?_; rintro e w5 ⟨rfl, hb5'⟩; have hb5 : Below V.heap.size V w5 := hb4.trans (hb5'.mono hb4.size))))
    obtain ⟨hM, bk, br⟩ := HM2.out _ hb5
    obtain ⟨mz, x0, x1, x2, x3, g0, g1, g2, g3⟩ := hM.cells
    simp only [] at x0 x1 x2 x3
    cases B with
    | true =>
      have r0 := (br.c 0 (by decide)).1
      have y0 := (br.c 0 (by decide)).2
      have r1 := (br.c 1 (by decide)).1
      have y1 := (br.c 1 (by decide)).2
      have r2 := (br.c 2 (by decide)).1
      have y2 := (br.c 2 (by decide)).2
      have r3 := (br.c 3 (by decide)).1
      have y3 := (br.c 3 (by decide)).2
      simp only [List.getD_cons_zero, List.getD_cons_succ] at r0 r1 r2 r3
      have rz := br.lt
      go_wp2
      refine bodyPost_ret (v := .agg #[.slice ia il ic, .slice (some ⟨g, 0, none⟩) ll lc, .slice da dl dc, .slice oa ol oc]) (by simp [results, Tryd.results62, go_sem, r0, r1, r2, r3]) rfl ?_
      exact ⟨⟨ia, il, ic, (some ⟨g, 0, none⟩), ll, lc, da, dl, dc, oa, ol, oc, items, locks.set j ⟨(ts, tn), key, write, value, ask⟩, doubts, over⟩, rfl, by simp only [SV.data]; rw [HX.out, HDD.out]; rfl, f2'.four hM.own (.slice ia il ic) (.slice (some ⟨g, 0, none⟩) ll lc) (.slice da dl dc) (.slice oa ol oc), below_four hM.bel (by omega) (.slice ia il ic) (.slice (some ⟨g, 0, none⟩) ll lc) (.slice da dl dc) (.slice oa ol oc)⟩
    | false =>
      have k0 := (bk.c 0 (by decide)).1
      have k1 := (bk.c 1 (by decide)).1
      simp only [List.getD_cons_zero, List.getD_cons_succ] at k0 k1
      have bkl2 := bk.lt
      have hsz2 := hM.sz
      go_upto_region 7 with (at_builtin; go_loud (refine wpList_append_row E3 (by rfl) _ _ (by rfl) C (.slice da dl dc) dl doubts (by rfl) (own_below hM.own.doubts ((Below.refl _ _).alloc (Nat.le_refl _) _)) _ 1 1 [⟨(ts, tn), 0⟩] (by rfl) (isOne _ _ _ _ rfl rfl) (by unfold maxLen; omega) (by omega) (by simp; omega) ?_; intro a6 c6 w6 own6 gr6 at6; obtain ⟨cl6, fz6, hM6⟩ := hM.put_doubts ((Below.refl _ _).alloc (Nat.le_refl _) _) gr6 own6 at6; simp only [] at cl6))
      have br6 := ((br.below ((Below.refl _ _).alloc (o := .cells #[.int .i64 ts, .int .i64 tn, .int .i64 0] 60) (Nat.le_refl _)) br.lt).grown gr6 (fun e => f2'.d e.symm)).far (k := 2) (v := .slice a6 (dl + 1) c6) (c := w.heap.size) (by omega)
      have f6 : Off ⟨ia, il, ic, (some ⟨g, 0, none⟩), ll, lc, a6, dl + 1, c6, oa, ol, oc, items, locks.set j ⟨(ts, tn), key, write, value, ask⟩, doubts ++ [⟨(ts, tn), 0⟩], over⟩ (w.heap.size + 1 + 1) := f2'.put_doubts at6 (by have := br.lt; simp; omega)
      obtain ⟨V6, hV6⟩ : ∃ V6 : World, V6 = w6.setCell ⟨w.heap.size, 2, none⟩ (.slice a6 (dl + 1) c6) := ⟨_, rfl⟩
      rw [← hV6] at hM6 br6 ⊢
      clear hV6 x0 x1 x2 x3 g0 g1 g2 g3 mz k0 k1
      obtain ⟨mz, x0, x1, x2, x3, g0, g1, g2, g3⟩ := hM6.cells
      simp only [] at x0 x1 x2 x3
      have r0 := (br6.c 0 (by decide)).1
      have y0 := (br6.c 0 (by decide)).2
      have r1 := (br6.c 1 (by decide)).1
      have y1 := (br6.c 1 (by decide)).2
      have r2 := (br6.c 2 (by decide)).1
      have y2 := (br6.c 2 (by decide)).2
      have r3 := (br6.c 3 (by decide)).1
      have y3 := (br6.c 3 (by decide)).2
      simp only [List.getD_cons_zero, List.getD_cons_succ] at r0 r1 r2 r3
      have rz := br6.lt
      go_wp2
      refine bodyPost_ret (v := .agg #[.slice ia il ic, .slice (some ⟨g, 0, none⟩) ll lc, .slice a6 (dl + 1) c6, .slice oa ol oc]) (by simp [results, Tryd.results62, go_sem, r0, r1, r2, r3]) rfl ?_
      exact ⟨⟨ia, il, ic, (some ⟨g, 0, none⟩), ll, lc, a6, dl + 1, c6, oa, ol, oc, items, locks.set j ⟨(ts, tn), key, write, value, ask⟩, doubts ++ [⟨(ts, tn), 0⟩], over⟩, rfl, by simp only [SV.data]; rw [HX.out, HDD.out]; rfl, f6.four hM6.own (.slice ia il ic) (.slice (some ⟨g, 0, none⟩) ll lc) (.slice a6 (dl + 1) c6) (.slice oa ol oc), below_four hM6.bel (by omega) (.slice ia il ic) (.slice (some ⟨g, 0, none⟩) ll lc) (.slice a6 (dl + 1) c6) (.slice oa ol oc)⟩
  · have h0' : i < 0 := by omega
    have HX : Hid (XL = locks ++ [⟨(ts, tn), key, write, value, ask⟩]) := by show _ = _; rw [HLD.out, if_neg (by omega)]
    go_upto_region 5 with (at_builtin; go_loud (refine wpList_append_row E2 (by rfl) _ _ (by rfl) C (.slice la ll lc) ll locks (by rfl) (own_below hM.own.locks ((Below.refl _ _).alloc (Nat.le_refl _) _)) _ 1 1 [⟨(ts, tn), key, write, value, ask⟩] (by rfl) (isOne _ _ _ _ rfl rfl) (by unfold maxLen; omega) (by omega) (by simp; omega) ?_; intro a5 c5 w5 own5 gr5 at5; obtain ⟨cl5, fz5, hM1'⟩ := hM.put_locks ((Below.refl _ _).alloc (Nat.le_refl _) _) gr5 own5 at5; simp only [] at cl5))
    have bk1 := ((bk.below ((Below.refl _ _).alloc (o := .cells #[.int .i64 ts, .int .i64 tn, .int .i64 key, .bool write, .int .i64 value, .int .i64 ask] 111) (Nat.le_refl _)) bk.lt).grown gr5 (fun e => f1.l e.symm)).far (k := 1) (v := .slice a5 (ll + 1) c5) (c := w.heap.size) (by omega)
    have br1 := ((br.below ((Below.refl _ _).alloc (o := .cells #[.int .i64 ts, .int .i64 tn, .int .i64 key, .bool write, .int .i64 value, .int .i64 ask] 111) (Nat.le_refl _)) br.lt).grown gr5 (fun e => f2.l e.symm)).far (k := 1) (v := .slice a5 (ll + 1) c5) (c := w.heap.size) (by omega)
    have f1' : Off ⟨ia, il, ic, a5, ll + 1, c5, da, dl, dc, oa, ol, oc, items, locks ++ [⟨(ts, tn), key, write, value, ask⟩], doubts, over⟩ (w.heap.size + 1) := f1.put_locks at5 (by simp; omega)
    have f2' : Off ⟨ia, il, ic, a5, ll + 1, c5, da, dl, dc, oa, ol, oc, items, locks ++ [⟨(ts, tn), key, write, value, ask⟩], doubts, over⟩ (w.heap.size + 1 + 1) := f2.put_locks at5 (by simp; omega)
    obtain ⟨V, hV⟩ : ∃ V : World, V = w5.setCell ⟨w.heap.size, 1, none⟩ (.slice a5 (ll + 1) c5) := ⟨_, rfl⟩
    rw [← hV] at hM1' bk1 br1 ⊢
    clear hV cl5 fz5 own5 gr5 at5 k0 k1 k2 k3 k4 k5 x0 x1 x2 x3 g0 g1 g2 g3 mz bk br f1 f2 hM hb3 hLW
    clear w5
    have hDV := hM1'.own.isStore.doubts
    simp only [] at hDV
    have HM2 : Hid (∀ U, Below V.heap.size V U → Made w U C w.heap.size ⟨ia, il, ic, a5, (ll + 1), c5, da, dl, dc, oa, ol, oc, items, (locks ++ [⟨(ts, tn), key, write, value, ask⟩]), doubts, over⟩ ∧ BoxN U (w.heap.size + 1) 6 [.int .i64 ts, .int .i64 tn, .int .i64 key, .bool write, .int .i64 value, .int .i64 ask] ∧ BoxN U (w.heap.size + 1 + 1) 4 [.slice none 0 0, .slice none 0 0, .slice none 0 0, .slice none 0 0]) := fun U hU => ⟨hM1'.below hU, bk1.below hU bk1.lt, br1.below hU br1.lt⟩
    have HK2 : Hid (∀ U, Below V.heap.size V U → U.cell? ⟨w.heap.size, 2, none⟩ = some (.slice da dl dc) ∧ U.cell? ⟨w.heap.size + 1, 0, none⟩ = some (.int .i64 ts) ∧ U.cell? ⟨w.heap.size + 1, 1, none⟩ = some (.int .i64 tn)) := fun U hU => by
      obtain ⟨m1, m2, _⟩ := HM2.out U hU
      exact ⟨m1.cells.2.2.2.1, (m2.c 0 (by decide)).1, (m2.c 1 (by decide)).1⟩
    have hD2 : Below V.heap.size V V.drew := (Below.refl _ _).drew
    clear hM1' bk1 br1
    go_region_held3 (fun U => U.cell? ⟨w.heap.size, 2, none⟩ = some (.slice da dl dc) ∧ U.cell? ⟨w.heap.size + 1, 0, none⟩ = some (.int .i64 ts) ∧ U.cell? ⟨w.heap.size + 1, 1, none⟩ = some (.int .i64 tn)) (first | exact HK2.out _ hb5 | exact HK2.out _ hb4 | exact HK2.out _ hD2 | exact HK2.out _ (Below.refl _ _)) (first | ((go_at_call 71; refine (hDo _).mono ?_; rintro e w4 ⟨bd, rfl, hAd, hb4'⟩; have hb4 : Below V.heap.size V w4 := hD2.trans (hb4'.mono hD2.size); have hTD := hDV.below hb4)) | ((go_at_call 97; refine (hCn _ _ _ hTD hAd).mono ?_; rintro e w5 ⟨rfl, hb5'⟩; have hb5 : Below V.heap.size V w5 := hb4.trans (hb5'.mono hb4.size))))
    obtain ⟨hM, bk, br⟩ := HM2.out _ hb5
    obtain ⟨mz, x0, x1, x2, x3, g0, g1, g2, g3⟩ := hM.cells
    simp only [] at x0 x1 x2 x3
    cases B with
    | true =>
      have r0 := (br.c 0 (by decide)).1
      have y0 := (br.c 0 (by decide)).2
      have r1 := (br.c 1 (by decide)).1
      have y1 := (br.c 1 (by decide)).2
      have r2 := (br.c 2 (by decide)).1
      have y2 := (br.c 2 (by decide)).2
      have r3 := (br.c 3 (by decide)).1
      have y3 := (br.c 3 (by decide)).2
      simp only [List.getD_cons_zero, List.getD_cons_succ] at r0 r1 r2 r3
      have rz := br.lt
      go_wp2
      refine bodyPost_ret (v := .agg #[.slice ia il ic, .slice a5 (ll + 1) c5, .slice da dl dc, .slice oa ol oc]) (by simp [results, Tryd.results62, go_sem, r0, r1, r2, r3]) rfl ?_
      exact ⟨⟨ia, il, ic, a5, (ll + 1), c5, da, dl, dc, oa, ol, oc, items, (locks ++ [⟨(ts, tn), key, write, value, ask⟩]), doubts, over⟩, rfl, by simp only [SV.data]; rw [HX.out, HDD.out]; rfl, f2'.four hM.own (.slice ia il ic) (.slice a5 (ll + 1) c5) (.slice da dl dc) (.slice oa ol oc), below_four hM.bel (by omega) (.slice ia il ic) (.slice a5 (ll + 1) c5) (.slice da dl dc) (.slice oa ol oc)⟩
    | false =>
      have k0 := (bk.c 0 (by decide)).1
      have k1 := (bk.c 1 (by decide)).1
      simp only [List.getD_cons_zero, List.getD_cons_succ] at k0 k1
      have bkl2 := bk.lt
      have hsz2 := hM.sz
      go_upto_region 7 with (at_builtin; go_loud (refine wpList_append_row E3 (by rfl) _ _ (by rfl) C (.slice da dl dc) dl doubts (by rfl) (own_below hM.own.doubts ((Below.refl _ _).alloc (Nat.le_refl _) _)) _ 1 1 [⟨(ts, tn), 0⟩] (by rfl) (isOne _ _ _ _ rfl rfl) (by unfold maxLen; omega) (by omega) (by simp; omega) ?_; intro a6 c6 w6 own6 gr6 at6; obtain ⟨cl6, fz6, hM6⟩ := hM.put_doubts ((Below.refl _ _).alloc (Nat.le_refl _) _) gr6 own6 at6; simp only [] at cl6))
      have br6 := ((br.below ((Below.refl _ _).alloc (o := .cells #[.int .i64 ts, .int .i64 tn, .int .i64 0] 60) (Nat.le_refl _)) br.lt).grown gr6 (fun e => f2'.d e.symm)).far (k := 2) (v := .slice a6 (dl + 1) c6) (c := w.heap.size) (by omega)
      have f6 : Off ⟨ia, il, ic, a5, (ll + 1), c5, a6, dl + 1, c6, oa, ol, oc, items, (locks ++ [⟨(ts, tn), key, write, value, ask⟩]), doubts ++ [⟨(ts, tn), 0⟩], over⟩ (w.heap.size + 1 + 1) := f2'.put_doubts at6 (by have := br.lt; simp; omega)
      obtain ⟨V6, hV6⟩ : ∃ V6 : World, V6 = w6.setCell ⟨w.heap.size, 2, none⟩ (.slice a6 (dl + 1) c6) := ⟨_, rfl⟩
      rw [← hV6] at hM6 br6 ⊢
      clear hV6 x0 x1 x2 x3 g0 g1 g2 g3 mz k0 k1
      obtain ⟨mz, x0, x1, x2, x3, g0, g1, g2, g3⟩ := hM6.cells
      simp only [] at x0 x1 x2 x3
      have r0 := (br6.c 0 (by decide)).1
      have y0 := (br6.c 0 (by decide)).2
      have r1 := (br6.c 1 (by decide)).1
      have y1 := (br6.c 1 (by decide)).2
      have r2 := (br6.c 2 (by decide)).1
      have y2 := (br6.c 2 (by decide)).2
      have r3 := (br6.c 3 (by decide)).1
      have y3 := (br6.c 3 (by decide)).2
      simp only [List.getD_cons_zero, List.getD_cons_succ] at r0 r1 r2 r3
      have rz := br6.lt
      go_wp2
      refine bodyPost_ret (v := .agg #[.slice ia il ic, .slice a5 (ll + 1) c5, .slice a6 (dl + 1) c6, .slice oa ol oc]) (by simp [results, Tryd.results62, go_sem, r0, r1, r2, r3]) rfl ?_
      exact ⟨⟨ia, il, ic, a5, (ll + 1), c5, a6, dl + 1, c6, oa, ol, oc, items, (locks ++ [⟨(ts, tn), key, write, value, ask⟩]), doubts ++ [⟨(ts, tn), 0⟩], over⟩, rfl, by simp only [SV.data]; rw [HX.out, HDD.out]; rfl, f6.four hM6.own (.slice ia il ic) (.slice a5 (ll + 1) c5) (.slice a6 (dl + 1) c6) (.slice oa ol oc), below_four hM6.bel (by omega) (.slice ia il ic) (.slice a5 (ll + 1) c5) (.slice a6 (dl + 1) c6) (.slice oa ol oc)⟩
end Go.Proofs.YtgohpgollpjlnaaDoor.St
/- Contracts of store.against, and of the function that it hands back. -/
namespace Go.Proofs.YtgohpgollpjlnaaDoor.St
open Go.ChangeShapes Go.WideShapes Go.ChangeAt Go.RowKit
set_option linter.unusedVariables false

set_option maxHeartbeats 2000000 in
theorem against_asks (b : Nat) (k : LkV) (w : World) (c0 : w.cell? ⟨b, 0, none⟩ = some (.int .i64 k.t.1)) (c1 : w.cell? ⟨b, 1, none⟩ = some (.int .i64 k.t.2)) (c2 : w.cell? ⟨b, 2, none⟩ = some (.int .i64 k.key)) (c3 : w.cell? ⟨b, 3, none⟩ = some (.bool k.write)) (z : b < w.heap.size) : Asks 128 #[.pointer (some ⟨b, 0, none⟩)] LkV.val (against k) w := by
  refine ⟨enters_of Tryd.func128 (by kernel_rfl) rfl, fun x w' hb => ?_⟩
  rw [← hb.cell (p := ⟨b, 0, none⟩) z] at c0
  rw [← hb.cell (p := ⟨b, 1, none⟩) z] at c1
  rw [← hb.cell (p := ⟨b, 2, none⟩) z] at c2
  rw [← hb.cell (p := ⟨b, 3, none⟩) z] at c3
  have y := Nat.lt_of_lt_of_le z hb.size
  obtain ⟨⟨ts, tn⟩, ky, wt, vl, ak⟩ := k
  obtain ⟨⟨site, num⟩, key, write, value, ask⟩ := x
  simp only [LkV.val] at *
  have hA : ∀ o, Below w'.heap.size w' (w'.alloc o) := fun o => (Below.refl _ _).alloc (Nat.le_refl _) _
  show Calls Tryd.prog 128 #[_, .pointer (some ⟨b, 0, none⟩)] w' _
  go_enter Tryd.func128, Tryd.ntmps128
  go_wp2
  all_goals go_ret
  all_goals exact ⟨ret_bool (by simp_all [against]), hA _⟩
theorem against_any (k : LkV) (w : World) :
    Calls Tryd.prog 112 #[k.val] w fun e w' => ∃ b : Nat, e = .returned (.func (.func 128) #[] #[.pointer (some ⟨b, 0, none⟩)]) ∧ Asks 128 #[.pointer (some ⟨b, 0, none⟩)] LkV.val (against k) w' ∧ Below w.heap.size w w' := by
  obtain ⟨⟨site, num⟩, key, write, value, ask⟩ := k
  simp only [LkV.val]
  obtain ⟨W, hW⟩ : ∃ W : World, W = w.alloc (.cells #[.int .i64 site, .int .i64 num, .int .i64 key, .bool write, .int .i64 value, .int .i64 ask] 111) := ⟨_, rfl⟩
  have hB : Below w.heap.size w W := by rw [hW]; exact (Below.refl _ _).alloc (Nat.le_refl _) _
  have zW : w.heap.size < W.heap.size := by rw [hW]; simp
  have c0 : W.cell? ⟨w.heap.size, 0, none⟩ = some (.int .i64 site) := by rw [hW]; go_simp
  have c1 : W.cell? ⟨w.heap.size, 1, none⟩ = some (.int .i64 num) := by rw [hW]; go_simp
  have c2 : W.cell? ⟨w.heap.size, 2, none⟩ = some (.int .i64 key) := by rw [hW]; go_simp
  have c3 : W.cell? ⟨w.heap.size, 3, none⟩ = some (.bool write) := by rw [hW]; go_simp
  have hq := against_asks w.heap.size ⟨(site, num), key, write, value, ask⟩ W c0 c1 c2 c3 zW
  go_enter Tryd.func112, Tryd.ntmps112
  go_wp2
  rw [← hW]
  go_ret
  exact ⟨_, rfl, hq, hB⟩
end Go.Proofs.YtgohpgollpjlnaaDoor.St
/- Contracts of store.lockMayBe and locksMayBe. -/
namespace Go.Proofs.YtgohpgollpjlnaaDoor.St
open Go.ChangeShapes Go.WideShapes Go.ChangeAt Go.RowKit
set_option linter.unusedVariables false

set_option maxHeartbeats 2000000 in
theorem lockMayBe_any (k : LkV) (w : World) :
    Calls Tryd.prog 111 #[k.val] w fun e w' => e = .returned (.bool (lockOK k)) ∧ Below w.heap.size w w' := by
  obtain ⟨⟨site, num⟩, key, write, value, ask⟩ := k
  simp only [LkV.val]
  obtain ⟨W, hW⟩ : ∃ W : World, W = w.alloc (.cells #[.int .i64 site, .int .i64 num, .int .i64 key, .bool write, .int .i64 value, .int .i64 ask] 111) := ⟨_, rfl⟩
  have hB : Below w.heap.size w W := by rw [hW]; exact (Below.refl _ _).alloc (Nat.le_refl _) _
  have zW : w.heap.size < W.heap.size := by rw [hW]; simp
  have c0 : W.cell? ⟨w.heap.size, 0, none⟩ = some (.int .i64 site) := by rw [hW]; go_simp
  have c1 : W.cell? ⟨w.heap.size, 1, none⟩ = some (.int .i64 num) := by rw [hW]; go_simp
  have c2 : W.cell? ⟨w.heap.size, 2, none⟩ = some (.int .i64 key) := by rw [hW]; go_simp
  have c3 : W.cell? ⟨w.heap.size, 3, none⟩ = some (.bool write) := by rw [hW]; go_simp
  have c4 : W.cell? ⟨w.heap.size, 4, none⟩ = some (.int .i64 value) := by rw [hW]; go_simp
  have c5 : W.cell? ⟨w.heap.size, 5, none⟩ = some (.int .i64 ask) := by rw [hW]; go_simp
  have hK : Hid (∀ V : World, Below W.heap.size W V → V.cell? ⟨w.heap.size, 2, none⟩ = some (.int .i64 key) ∧ V.cell? ⟨w.heap.size, 3, none⟩ = some (.bool write) ∧ V.cell? ⟨w.heap.size, 4, none⟩ = some (.int .i64 value) ∧ V.cell? ⟨w.heap.size, 5, none⟩ = some (.int .i64 ask)) := fun V hV =>
    ⟨(hV.cell (p := ⟨w.heap.size, 2, none⟩) zW).trans c2, (hV.cell (p := ⟨w.heap.size, 3, none⟩) zW).trans c3, (hV.cell (p := ⟨w.heap.size, 4, none⟩) zW).trans c4, (hV.cell (p := ⟨w.heap.size, 5, none⟩) zW).trans c5⟩
  have hT := fun w' => isTxn_any (site, num) w'
  simp only at hT
  have e0 : Hid (lockOK ⟨(site, num), key, write, value, ask⟩ = (txOK (site, num) && inR key 0 7 && inR value 0 1073741824 && inR ask 0 1048576 && (write || (decide (value = 0) && decide (ask = 0))))) := rfl
  obtain ⟨L, eL⟩ : ∃ L, L = lockOK ⟨(site, num), key, write, value, ask⟩ := ⟨_, rfl⟩
  rw [← eL] at e0 ⊢
  clear eL
  obtain ⟨T, eT⟩ : ∃ T, T = txOK (site, num) := ⟨_, rfl⟩
  rw [← eT] at hT e0
  clear eT
  go_enter Tryd.func111, Tryd.ntmps111
  go_upto_region 1 with (fail)
  rw [← hW]
  clear hW
  cases T with
  | false =>
    go_wp2_with (go_at_call 73; refine (hT _).mono ?_; rintro e w1 ⟨rfl, hb1⟩; obtain ⟨k2, k3, k4, k5⟩ := hK.out _ hb1)
    go_ret
    exact ⟨by rw [e0.out]; rfl, hB.trans (hb1.mono hB.size)⟩
  | true =>
    cases h2 : inR key 0 7 with
    | false =>
      go_wp2_with (first | (go_at_call 73; refine (hT _).mono ?_; rintro e w1 ⟨rfl, hb1⟩; obtain ⟨k2, k3, k4, k5⟩ := hK.out _ hb1) | (go_at_call 91; refine (key_any _ _).mono ?_; rintro e u ⟨rfl, hu⟩; rw [hu, h2]; clear hu))
      go_ret
      exact ⟨by rw [e0.out, h2]; rfl, hB.trans (hb1.mono hB.size)⟩
    | true =>
      cases h3 : inR value 0 1073741824 with
      | false =>
        go_wp2_with (first | (go_at_call 73; refine (hT _).mono ?_; rintro e w1 ⟨rfl, hb1⟩; obtain ⟨k2, k3, k4, k5⟩ := hK.out _ hb1) | (go_at_call 91; refine (key_any _ _).mono ?_; rintro e u ⟨rfl, hu⟩; rw [hu, h2]; clear hu) | (go_at_call 64; refine (value_any _ _).mono ?_; rintro e u ⟨rfl, hu⟩; rw [hu, h3]; clear hu))
        go_ret
        exact ⟨by rw [e0.out, h2, h3]; rfl, hB.trans (hb1.mono hB.size)⟩
      | true =>
        cases h4 : inR ask 0 1048576 with
        | false =>
          go_wp2_with (first | (go_at_call 73; refine (hT _).mono ?_; rintro e w1 ⟨rfl, hb1⟩; obtain ⟨k2, k3, k4, k5⟩ := hK.out _ hb1) | (go_at_call 91; refine (key_any _ _).mono ?_; rintro e u ⟨rfl, hu⟩; rw [hu, h2]; clear hu) | (go_at_call 64; refine (value_any _ _).mono ?_; rintro e u ⟨rfl, hu⟩; rw [hu, h3]; clear hu) | (go_at_call 65; refine (isAsk_any _ _).mono ?_; rintro e u ⟨rfl, hu⟩; rw [hu, h4]; clear hu))
          go_ret
          exact ⟨by rw [e0.out, h2, h3, h4]; rfl, hB.trans (hb1.mono hB.size)⟩
        | true =>
          go_wp2_with (first | (go_at_call 73; refine (hT _).mono ?_; rintro e w1 ⟨rfl, hb1⟩; obtain ⟨k2, k3, k4, k5⟩ := hK.out _ hb1) | (go_at_call 91; refine (key_any _ _).mono ?_; rintro e u ⟨rfl, hu⟩; rw [hu, h2]; clear hu) | (go_at_call 64; refine (value_any _ _).mono ?_; rintro e u ⟨rfl, hu⟩; rw [hu, h3]; clear hu) | (go_at_call 65; refine (isAsk_any _ _).mono ?_; rintro e u ⟨rfl, hu⟩; rw [hu, h4]; clear hu))
          all_goals go_ret
          all_goals (refine ⟨ret_bool ?_, hB.trans (hb1.mono hB.size)⟩; rw [e0.out, h2, h3, h4]; first | (simp_all; done) | (simp_all; rfl))

theorem locksGo_at {xs : List LkV} {k : Nat} (hk : k < xs.length) (h : locksGo [] xs = locksGo (xs.take k) (xs.drop k)) :
    locksGo [] xs = (lockOK (xs.getD k default) && !((xs.take k).any (against (xs.getD k default))) && locksGo (xs.take (k + 1)) (xs.drop (k + 1))) := by
  rw [h, drop_at hk, take_at hk]
  rfl

set_option maxHeartbeats 4000000 in
theorem locksMayBe_any (a : Option Addr) (len cap : Nat) (xs : List LkV) (w : World) (h : IsLocks w a len cap xs) :
    Calls Tryd.prog 82 #[.slice a len cap] w fun e w' => e = .returned (.bool (locksOK xs)) ∧ Below w.heap.size w w' := by
  have hh := h
  obtain ⟨hlen, hcap, hmax, _, hmem⟩ := h
  have e0 : Hid (locksOK xs = (decide (len ≤ 24) && locksGo [] xs)) := by show _ = _; rw [← hlen]; rfl
  have HL : Hid (xs.length = len) := hlen
  clear hlen
  unfold maxLen at hmax
  by_cases h24 : len ≤ 24
  · have h24' : (len : Int) ≤ 24 := by omega
    go_enter Tryd.func82, Tryd.ntmps82
    go_wp2
    go_loopw [10] (fun s10 wr => ∃ (k : Nat), k ≤ len ∧ s10 = .int .i64 k ∧ Hid (locksGo [] xs = locksGo (xs.take k) (xs.drop k)) ∧ Below w.heap.size w wr) (fun s10 _ => len - (intOf s10).toNat)
    case atStart => exact ⟨0, Nat.zero_le _, rfl, by show _ = _; simp, Below.refl _ _⟩
    case round =>
      obtain ⟨k, hk, rfl, hat, hb⟩ := hrel
      by_cases hlt : k < len
      · have hlt' : (k : Int) < (len : Int) := by omega
        obtain ⟨b, off, rfl, zb, hc⟩ := hmem (by omega)
        have hcells := hc k hlt
        have hn : Hid (locksGo [] xs = (lockOK (xs.getD k default) && !((xs.take k).any (against (xs.getD k default))) && locksGo (xs.take (k + 1)) (xs.drop (k + 1)))) := locksGo_at (by have := HL.out; omega) hat.out
        clear hat hc hmem
        obtain ⟨x, ex⟩ : ∃ x, x = xs.getD k default := ⟨_, rfl⟩
        rw [← ex] at hcells hn
        clear ex
        have hLk := fun w' => lockMayBe_any x w'
        have hAg := fun w' => against_any x w'
        have hCn := fun fn cps w' h1 h2 => containsLock_any fn cps (against x) (some ⟨b, off, none⟩) k cap (xs.take k) w' h1 h2
        obtain ⟨⟨site, num⟩, key, write, value, ask⟩ := x
        have a0 := hcells 0 (by decide)
        have a1 := hcells 1 (by decide)
        have a2 := hcells 2 (by decide)
        have a3 := hcells 3 (by decide)
        have a4 := hcells 4 (by decide)
        have a5 := hcells 5 (by decide)
        simp [LkV.cells] at a0 a1 a2 a3 a4 a5
        rw [← hb.cell (p := ⟨b, off + k * 6, none⟩) zb] at a0
        rw [← hb.cell (p := ⟨b, off + k * 6 + 1, none⟩) zb] at a1
        rw [← hb.cell (p := ⟨b, off + k * 6 + 2, none⟩) zb] at a2
        rw [← hb.cell (p := ⟨b, off + k * 6 + 3, none⟩) zb] at a3
        rw [← hb.cell (p := ⟨b, off + k * 6 + 4, none⟩) zb] at a4
        rw [← hb.cell (p := ⟨b, off + k * 6 + 5, none⟩) zb] at a5
        clear hcells
        obtain ⟨V, hV⟩ : ∃ V : World, V = wr.alloc (.cells #[.int .i64 site, .int .i64 num, .int .i64 key, .bool write, .int .i64 value, .int .i64 ask] 111) := ⟨_, rfl⟩
        have bV : Below w.heap.size w V := by rw [hV]; exact hb.alloc hb.size _
        have zV : wr.heap.size < V.heap.size := by rw [hV]; simp
        have c0 : V.cell? ⟨wr.heap.size, 0, none⟩ = some (.int .i64 site) := by rw [hV]; go_simp
        have c1 : V.cell? ⟨wr.heap.size, 1, none⟩ = some (.int .i64 num) := by rw [hV]; go_simp
        have c2 : V.cell? ⟨wr.heap.size, 2, none⟩ = some (.int .i64 key) := by rw [hV]; go_simp
        have c3 : V.cell? ⟨wr.heap.size, 3, none⟩ = some (.bool write) := by rw [hV]; go_simp
        have c4 : V.cell? ⟨wr.heap.size, 4, none⟩ = some (.int .i64 value) := by rw [hV]; go_simp
        have c5 : V.cell? ⟨wr.heap.size, 5, none⟩ = some (.int .i64 ask) := by rw [hV]; go_simp
        have KC : Hid (∀ U : World, Below V.heap.size V U → U.cell? ⟨wr.heap.size, 0, none⟩ = some (.int .i64 site) ∧ U.cell? ⟨wr.heap.size, 1, none⟩ = some (.int .i64 num) ∧ U.cell? ⟨wr.heap.size, 2, none⟩ = some (.int .i64 key) ∧ U.cell? ⟨wr.heap.size, 3, none⟩ = some (.bool write) ∧ U.cell? ⟨wr.heap.size, 4, none⟩ = some (.int .i64 value) ∧ U.cell? ⟨wr.heap.size, 5, none⟩ = some (.int .i64 ask)) := fun U hU =>
          ⟨(hU.cell (p := ⟨wr.heap.size, 0, none⟩) zV).trans c0, (hU.cell (p := ⟨wr.heap.size, 1, none⟩) zV).trans c1, (hU.cell (p := ⟨wr.heap.size, 2, none⟩) zV).trans c2, (hU.cell (p := ⟨wr.heap.size, 3, none⟩) zV).trans c3, (hU.cell (p := ⟨wr.heap.size, 4, none⟩) zV).trans c4, (hU.cell (p := ⟨wr.heap.size, 5, none⟩) zV).trans c5⟩
        have hTk : ∀ U : World, Below V.heap.size V U → IsLocks U (some ⟨b, off, none⟩) k cap (xs.take k) := fun U hU => (hh.take k (by omega)).below (bV.trans (hU.mono bV.size))
        have HT : Hid (∀ U : World, Below V.heap.size V U → IsLocks U (some ⟨b, off, none⟩) k cap (xs.take k)) := hTk
        clear hTk
        simp only [LkV.val] at hLk hAg
        obtain ⟨L, eL⟩ : ∃ L, L = lockOK ⟨(site, num), key, write, value, ask⟩ := ⟨_, rfl⟩
        obtain ⟨C, eC⟩ : ∃ C, C = (xs.take k).any (against ⟨(site, num), key, write, value, ask⟩) := ⟨_, rfl⟩
        rw [← eL] at hn hLk
        rw [← eC] at hn hCn
        clear eL eC
        have hkc : (k : Int) ≤ (cap : Int) := by omega
        go_upto_region 6 with (fail)
        rw [← hV]
        clear hV a0 a1 a2 a3 a4 a5
        have hD : Below V.heap.size V V.drew := (Below.refl _ _).drew
        cases L with
        | false =>
          have r0 := fun d os => cell_regrown c0 d os
          have r1 := fun d os => cell_regrown c1 d os
          have r2 := fun d os => cell_regrown c2 d os
          have r3 := fun d os => cell_regrown c3 d os
          have r4 := fun d os => cell_regrown c4 d os
          have r5 := fun d os => cell_regrown c5 d os
          refine wp_region_quiet_below (by kernel_rfl) (by kernel_rfl) ?_
          repeat (go_big_quiet_step ((exact Calls.regrown_of (hLk _))))
          refine wpQuiet_nil ?_
          intro _ hw'
          obtain ⟨⟨dq, osq⟩, hw''⟩ := hw'
          subst hw''
          go_wp2
          go_ret
          exact ⟨by rw [e0.out, hn.out]; simp, bV.trans ((below_regrown V dq osq).mono bV.size)⟩
        | true =>
          go_region_held3 (fun U => U.cell? ⟨wr.heap.size, 0, none⟩ = some (.int .i64 site) ∧ U.cell? ⟨wr.heap.size, 1, none⟩ = some (.int .i64 num) ∧ U.cell? ⟨wr.heap.size, 2, none⟩ = some (.int .i64 key) ∧ U.cell? ⟨wr.heap.size, 3, none⟩ = some (.bool write) ∧ U.cell? ⟨wr.heap.size, 4, none⟩ = some (.int .i64 value) ∧ U.cell? ⟨wr.heap.size, 5, none⟩ = some (.int .i64 ask))
            (first | exact KC.out _ hb3 | exact KC.out _ hb2 | exact KC.out _ hb1 | exact KC.out _ hD | exact KC.out _ (Below.refl _ _))
            (first
              | ((go_at_call 111; refine (hLk _).mono ?_; rintro e w1 ⟨rfl, hb1'⟩; have hb1 : Below V.heap.size V w1 := hD.trans (hb1'.mono hD.size)))
              | ((go_at_call 112; refine (hAg _).mono ?_; rintro e w2 ⟨bb, rfl, hAs, hb2'⟩; have hb2 : Below V.heap.size V w2 := hb1.trans (hb2'.mono hb1.size); have hTT := HT.out _ hb2))
              | ((go_at_call 95; refine (hCn _ _ _ hTT hAs).mono ?_; rintro e w3 ⟨rfl, hb3'⟩; have hb3 : Below V.heap.size V w3 := hb2.trans (hb3'.mono hb2.size))))
          all_goals
            have hbF := bV.trans (hb3.mono bV.size)
            cases C with
            | true =>
              go_wp2
              go_ret
              exact ⟨by rw [e0.out, hn.out]; simp, hbF⟩
            | false =>
              go_wp2
              go_roundw
              case rel => exact ⟨k + 1, by omega, by go_num, by show _ = _; rw [hn.out]; simp, hbF⟩
              case measure => simp [intOf]; omega
      · have hfin : locksGo [] xs = true := by
          rw [hat.out, List.drop_eq_nil_of_le (by have := HL.out; omega)]
          rfl
        go_wp2
        go_ret
        exact ⟨by rw [e0.out, hfin]; simp [h24], hb⟩
  · have h24' : (24 : Int) < (len : Int) := by omega
    go_enter Tryd.func82, Tryd.ntmps82
    go_wp2
    go_ret
    exact ⟨by rw [e0.out]; simp [h24], Below.refl _ _⟩
end Go.Proofs.YtgohpgollpjlnaaDoor.St
