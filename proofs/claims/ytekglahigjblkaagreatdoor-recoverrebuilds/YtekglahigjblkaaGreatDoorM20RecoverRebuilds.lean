/- Texts of this claim, one behind the other. -/
import Derived.Test.YtekglahigjblkaaGreatDoorM12RecoverRebuilds
import Derived.Test.YtekglahigjblkaaGreatDoorM19RecoverRebuilds
import Derived.Test.YtekglahigjblkaaGreatDoorM16RecoverRebuilds
import Derived.Deep.RegionHeld3
import Derived.Deep.RegionWith
import Derived.Test.YtekglahigjblkaaGreatDoorM13RecoverRebuilds
import Derived.Deep.Cut
/- The contract of store.hold: a lock where its transaction has one on that key, else behind all; a doubt, if there is none; in a store of the caller's own. -/
namespace Go.Proofs.YtekglahigjblkaaGreatDoor.St
open Go.ChangeShapes Go.WideShapes Go.ChangeAt Go.RowKit
set_option linter.unusedVariables false

def holdL (l : List LkV) (k : LkV) : List LkV := if 0 ≤ idxI (byT k.t k.key) l then l.set (idxI (byT k.t k.key) l).toNat k else l ++ [k]
def holdD (l : List DbV) (t : Int × Int) : List DbV := if l.any (dbT t) then l else l ++ [⟨t, 0⟩]

set_option maxRecDepth 100000 in
set_option maxHeartbeats 8000000 in
theorem hold_any (s : SV) (k : LkV) (C : Nat) (w : World) (h : OwnStore w C s) (hC : C ≤ w.heap.size) (h2 : s.ll ≤ 100) (h3 : s.dl ≤ 100) :
    Calls Tryz.prog 66 #[s.val, k.val] w fun e w' => ∃ r : SV, e = .returned r.val ∧ r.data = ⟨s.items, holdL s.locks k, holdD s.doubts k.t, s.over⟩ ∧ OwnStore w' C r ∧ Below C w w' := by
  obtain ⟨i2, E2⟩ := lkElem
  obtain ⟨i3, E3⟩ := dbElem
  have hBy := fun w' => by_any k.t k.key w'
  have hDo := fun w' => doubtOf_any k.t w'
  have hIx := fun fn cps w' h1 h2 => indexLock_any fn cps (byT k.t k.key) s.la s.ll s.lc s.locks w' h1 h2
  have hCn := fun fn cps w' h1 h2 => containsDoubt_any fn cps (dbT k.t) s.da s.dl s.dc s.doubts w' h1 h2
  obtain ⟨i, e1⟩ : ∃ R, R = idxI (byT k.t k.key) s.locks := ⟨_, rfl⟩
  obtain ⟨B, e2⟩ : ∃ R, R = s.doubts.any (dbT k.t) := ⟨_, rfl⟩
  have hi := idxI_lt (p := byT k.t k.key) (l := s.locks)
  rw [h.isStore.locks.1] at hi
  have HLD : Hid (holdL s.locks k = if 0 ≤ i then s.locks.set i.toNat k else s.locks ++ [k]) := by rw [e1]; rfl
  have HDD : Hid (holdD s.doubts k.t = if B then s.doubts else s.doubts ++ [⟨k.t, 0⟩]) := by rw [e2]; rfl
  rw [← e1] at hIx hi
  rw [← e2] at hCn
  obtain ⟨XL, eXL⟩ : ∃ R, R = holdL s.locks k := ⟨_, rfl⟩
  obtain ⟨XD, eXD⟩ : ∃ R, R = holdD s.doubts k.t := ⟨_, rfl⟩
  rw [← eXL] at HLD ⊢
  rw [← eXD] at HDD ⊢
  clear e1 e2 eXL eXD
  have HOW : Hid (OwnStore w C s) := h
  have HS0 := h.isStore
  clear h
  obtain ⟨ia, il, ic, la, ll, lc, da, dl, dc, oa, ol, oc, items, locks, doubts, over⟩ := s
  obtain ⟨⟨ts, tn⟩, key, write, value, ask⟩ := k
  simp only [SV.val, LkV.val] at *
  obtain ⟨W, hW⟩ : ∃ W : World, W = ((w.alloc (.cells #[.slice ia il ic, .slice la ll lc, .slice da dl dc, .slice oa ol oc] 31)).alloc (.cells #[.int .i64 ts, .int .i64 tn, .int .i64 key, .bool write, .int .i64 value, .int .i64 ask] 70)).alloc (.cells #[.slice none 0 0, .slice none 0 0, .slice none 0 0, .slice none 0 0] 31) := ⟨_, rfl⟩
  have hB : Below w.heap.size w W := by rw [hW]; exact (((Below.refl _ _).alloc (Nat.le_refl _) _).alloc (by simp) _).alloc (by simp; omega) _
  have zW : W.heap.size = w.heap.size + 3 := by rw [hW]; simp
  have b0 : BoxN W w.heap.size 4 [.slice ia il ic, .slice la ll lc, .slice da dl dc, .slice oa ol oc] := by
    have q := boxn_new w #[.slice ia il ic, .slice la ll lc, .slice da dl dc, .slice oa ol oc] 31 4 rfl
    rw [hW]
    refine q.below (B := w.heap.size + 1) (((Below.refl _ _).alloc (by simp) _).alloc (by simp) _) (by omega)
  have b1 : BoxN W (w.heap.size + 1) 6 [.int .i64 ts, .int .i64 tn, .int .i64 key, .bool write, .int .i64 value, .int .i64 ask] := by
    have q := boxn_new (w.alloc (.cells #[.slice ia il ic, .slice la ll lc, .slice da dl dc, .slice oa ol oc] 31)) #[.int .i64 ts, .int .i64 tn, .int .i64 key, .bool write, .int .i64 value, .int .i64 ask] 70 6 rfl
    rw [hW]
    have q2 := q.below (B := w.heap.size + 2) ((Below.refl _ _).alloc (o := .cells #[.slice none 0 0, .slice none 0 0, .slice none 0 0, .slice none 0 0] 31) (by simp)) (by simp)
    simpa using q2
  have b2 : BoxN W (w.heap.size + 1 + 1) 4 [.slice none 0 0, .slice none 0 0, .slice none 0 0, .slice none 0 0] := by
    have q := boxn_new ((w.alloc (.cells #[.slice ia il ic, .slice la ll lc, .slice da dl dc, .slice oa ol oc] 31)).alloc (.cells #[.int .i64 ts, .int .i64 tn, .int .i64 key, .bool write, .int .i64 value, .int .i64 ask] 70)) #[.slice none 0 0, .slice none 0 0, .slice none 0 0, .slice none 0 0] 31 4 rfl
    rw [hW]
    simpa using q
  have hM0 : Made w W C w.heap.size ⟨ia, il, ic, la, ll, lc, da, dl, dc, oa, ol, oc, items, locks, doubts, over⟩ := Made.new HOW.out (Below.refl _ _) hB (Nat.le_refl _) b0 hC
  have f1 : Off ⟨ia, il, ic, la, ll, lc, da, dl, dc, oa, ol, oc, items, locks, doubts, over⟩ (w.heap.size + 1) := Off.of_lt HOW.out (by omega)
  have f2 : Off ⟨ia, il, ic, la, ll, lc, da, dl, dc, oa, ol, oc, items, locks, doubts, over⟩ (w.heap.size + 1 + 1) := Off.of_lt HOW.out (by omega)
  have hLW := (hM0.own.isStore).locks
  simp only [] at hLW
  have HM : Hid (∀ U, Below W.heap.size W U → Made w U C w.heap.size ⟨ia, il, ic, la, ll, lc, da, dl, dc, oa, ol, oc, items, locks, doubts, over⟩ ∧ BoxN U (w.heap.size + 1) 6 [.int .i64 ts, .int .i64 tn, .int .i64 key, .bool write, .int .i64 value, .int .i64 ask] ∧ BoxN U (w.heap.size + 1 + 1) 4 [.slice none 0 0, .slice none 0 0, .slice none 0 0, .slice none 0 0]) := fun U hU => ⟨hM0.below hU, b1.below hU b1.lt, b2.below hU b2.lt⟩
  have HK1 : Hid (∀ U, Below W.heap.size W U → U.cell? ⟨w.heap.size, 1, none⟩ = some (.slice la ll lc) ∧ U.cell? ⟨w.heap.size + 1, 0, none⟩ = some (.int .i64 ts) ∧ U.cell? ⟨w.heap.size + 1, 1, none⟩ = some (.int .i64 tn) ∧ U.cell? ⟨w.heap.size + 1, 2, none⟩ = some (.int .i64 key)) := fun U hU => by
    obtain ⟨m1, m2, _⟩ := HM.out U hU
    exact ⟨m1.cells.2.2.1, (m2.c 0 (by decide)).1, (m2.c 1 (by decide)).1, (m2.c 2 (by decide)).1⟩
  clear b0 b1 b2 zW HS0
  go_enter Tryz.func66, Tryz.ntmps66
  go_upto_region 1 with (fail)
  rw [← hW]
  clear hW hM0
  have hD : Below W.heap.size W W.drew := (Below.refl _ _).drew
  go_region_held3 (fun U => U.cell? ⟨w.heap.size, 1, none⟩ = some (.slice la ll lc) ∧ U.cell? ⟨w.heap.size + 1, 0, none⟩ = some (.int .i64 ts) ∧ U.cell? ⟨w.heap.size + 1, 1, none⟩ = some (.int .i64 tn) ∧ U.cell? ⟨w.heap.size + 1, 2, none⟩ = some (.int .i64 key))
    (first | exact HK1.out _ hb3 | exact HK1.out _ hb2 | exact HK1.out _ hD | exact HK1.out _ (Below.refl _ _))
    (first
      | ((go_at_call 80; refine (hBy _).mono ?_; rintro e w2 ⟨bb, bc, rfl, hAs, hb2'⟩; have hb2 : Below W.heap.size W w2 := hD.trans (hb2'.mono hD.size); have hTT := hLW.below hb2))
      | ((go_at_call 79; refine (hIx _ _ _ hTT hAs).mono ?_; rintro e w3 ⟨rfl, hb3'⟩; have hb3 : Below W.heap.size W w3 := hb2.trans (hb3'.mono hb2.size))))

  obtain ⟨hM, bk, br⟩ := HM.out _ hb3
  obtain ⟨mz, x0, x1, x2, x3, g0, g1, g2, g3⟩ := hM.cells
  simp only [] at x0 x1 x2 x3
  have k0 := (bk.c 0 (by decide)).1
  have k1 := (bk.c 1 (by decide)).1
  have k2 := (bk.c 2 (by decide)).1
  have k3 := (bk.c 3 (by decide)).1
  have k4 := (bk.c 4 (by decide)).1
  have k5 := (bk.c 5 (by decide)).1
  simp only [List.getD_cons_zero, List.getD_cons_succ] at k0 k1 k2 k3 k4 k5
  have hsz := hM.sz
  have bkl := bk.lt
  have brl := br.lt
  by_cases h0 : 0 ≤ i
  · obtain ⟨j, rfl⟩ : ∃ j : Nat, i = (j : Int) := ⟨i.toNat, by omega⟩
    have hj : j < ll := by omega
    have hj' : (j : Int) < (ll : Int) := by omega
    obtain ⟨g, off, rfl, _, _⟩ := hM.own.isStore.locks.2.2.2.2 (by show 0 < ll; omega)
    obtain ⟨rfl, hCg, hgz, hgm, hcl, hM1⟩ := hM.one_locks (g := g) (off := off) rfl hj ⟨(ts, tn), key, write, value, ask⟩
    simp only [] at hcl
    obtain ⟨u0, e0⟩ := Option.isSome_iff_exists.1 (hcl 0 (by decide)).2.1
    have z0 := (hcl 0 (by decide)).1
    obtain ⟨u1, e1⟩ := Option.isSome_iff_exists.1 (hcl 1 (by decide)).2.1
    have z1 := (hcl 1 (by decide)).1
    obtain ⟨u2, e2⟩ := Option.isSome_iff_exists.1 (hcl 2 (by decide)).2.1
    have z2 := (hcl 2 (by decide)).1
    obtain ⟨u3, e3⟩ := Option.isSome_iff_exists.1 (hcl 3 (by decide)).2.1
    have z3 := (hcl 3 (by decide)).1
    obtain ⟨u4, e4⟩ := Option.isSome_iff_exists.1 (hcl 4 (by decide)).2.1
    have z4 := (hcl 4 (by decide)).1
    obtain ⟨u5, e5⟩ := Option.isSome_iff_exists.1 (hcl 5 (by decide)).2.1
    have z5 := (hcl 5 (by decide)).1
    simp only [Nat.add_zero] at e0 z0
    clear hcl
    obtain ⟨V, hV⟩ : ∃ V : World, V = ((((((w3.setCell ⟨g, j * 6, none⟩ (.int .i64 ts)).setCell ⟨g, j * 6 + 1, none⟩ (.int .i64 tn)).setCell ⟨g, j * 6 + 2, none⟩ (.int .i64 key)).setCell ⟨g, j * 6 + 3, none⟩ (.bool write)).setCell ⟨g, j * 6 + 4, none⟩ (.int .i64 value)).setCell ⟨g, j * 6 + 5, none⟩ (.int .i64 ask)) := ⟨_, rfl⟩
    have hM1' : Made w V C w.heap.size ⟨ia, il, ic, some ⟨g, 0, none⟩, ll, lc, da, dl, dc, oa, ol, oc, items, locks.set j ⟨(ts, tn), key, write, value, ask⟩, doubts, over⟩ := by rw [hV]; exact hM1
    have gr : w3.grownBy V (some g) := by rw [hV]; exact grown_setCells g (LkV.cells ⟨(ts, tn), key, write, value, ask⟩) (j * 6) w3
    have bk1 : BoxN V (w.heap.size + 1) 6 [.int .i64 ts, .int .i64 tn, .int .i64 key, .bool write, .int .i64 value, .int .i64 ask] := bk.grown gr (fun e => f1.l (by simpa [Value.ownBlock] using e.symm))
    have br1 : BoxN V (w.heap.size + 1 + 1) 4 [.slice none 0 0, .slice none 0 0, .slice none 0 0, .slice none 0 0] := br.grown gr (fun e => f2.l (by simpa [Value.ownBlock] using e.symm))
    have f1' : Off ⟨ia, il, ic, some ⟨g, 0, none⟩, ll, lc, da, dl, dc, oa, ol, oc, items, locks.set j ⟨(ts, tn), key, write, value, ask⟩, doubts, over⟩ (w.heap.size + 1) := ⟨f1.i, f1.l, f1.d, f1.o⟩
    have f2' : Off ⟨ia, il, ic, some ⟨g, 0, none⟩, ll, lc, da, dl, dc, oa, ol, oc, items, locks.set j ⟨(ts, tn), key, write, value, ask⟩, doubts, over⟩ (w.heap.size + 1 + 1) := ⟨f2.i, f2.l, f2.d, f2.o⟩
    have HX : Hid (XL = locks.set j ⟨(ts, tn), key, write, value, ask⟩) := by show _ = _; rw [HLD.out, if_pos (by omega)]; simp
    go_upto_region 5 with (fail)
    rw [← hV]
    clear hV hM1 gr e0 e1 e2 e3 e4 e5 z0 z1 z2 z3 z4 z5 k0 k1 k2 k3 k4 k5 x0 x1 x2 x3 g0 g1 g2 g3 mz bk br f1 f2 hM hb3 hLW
    have hDV := hM1'.own.isStore.doubts
    simp only [] at hDV
    have HM2 : Hid (∀ U, Below V.heap.size V U → Made w U C w.heap.size ⟨ia, il, ic, (some ⟨g, 0, none⟩), ll, lc, da, dl, dc, oa, ol, oc, items, locks.set j ⟨(ts, tn), key, write, value, ask⟩, doubts, over⟩ ∧ BoxN U (w.heap.size + 1) 6 [.int .i64 ts, .int .i64 tn, .int .i64 key, .bool write, .int .i64 value, .int .i64 ask] ∧ BoxN U (w.heap.size + 1 + 1) 4 [.slice none 0 0, .slice none 0 0, .slice none 0 0, .slice none 0 0]) := fun U hU => ⟨hM1'.below hU, bk1.below hU bk1.lt, br1.below hU br1.lt⟩
    have HK2 : Hid (∀ U, Below V.heap.size V U → U.cell? ⟨w.heap.size, 2, none⟩ = some (.slice da dl dc) ∧ U.cell? ⟨w.heap.size + 1, 0, none⟩ = some (.int .i64 ts) ∧ U.cell? ⟨w.heap.size + 1, 1, none⟩ = some (.int .i64 tn)) := fun U hU => by
      obtain ⟨m1, m2, _⟩ := HM2.out U hU
      exact ⟨m1.cells.2.2.2.1, (m2.c 0 (by decide)).1, (m2.c 1 (by decide)).1⟩
    have hD2 : Below V.heap.size V V.drew := (Below.refl _ _).drew
    clear hM1' bk1 br1
    go_region_held3 (fun U => U.cell? ⟨w.heap.size, 2, none⟩ = some (.slice da dl dc) ∧ U.cell? ⟨w.heap.size + 1, 0, none⟩ = some (.int .i64 ts) ∧ U.cell? ⟨w.heap.size + 1, 1, none⟩ = some (.int .i64 tn)) (first | exact HK2.out _ hb5 | exact HK2.out _ hb4 | exact HK2.out _ hD2 | exact HK2.out _ (Below.refl _ _)) (first | ((go_at_call 74; refine (hDo _).mono ?_; rintro e w4 ⟨bd, rfl, hAd, hb4'⟩; have hb4 : Below V.heap.size V w4 := hD2.trans (hb4'.mono hD2.size); have hTD := hDV.below hb4)) | ((go_at_call 84; refine (hCn _ _ _ hTD hAd).mono ?_; rintro e w5 ⟨rfl, hb5'⟩; have hb5 : Below V.heap.size V w5 := hb4.trans (hb5'.mono hb4.size))))
    obtain ⟨hM, bk, br⟩ := HM2.out _ hb5
    obtain ⟨mz, x0, x1, x2, x3, g0, g1, g2, g3⟩ := hM.cells
    simp only [] at x0 x1 x2 x3
    cases B with
    | true =>
      have r0 := (br.c 0 (by decide)).1
      have y0 := (br.c 0 (by decide)).2
      have r1 := (br.c 1 (by decide)).1
      have y1 := (br.c 1 (by decide)).2
      have r2 := (br.c 2 (by decide)).1
      have y2 := (br.c 2 (by decide)).2
      have r3 := (br.c 3 (by decide)).1
      have y3 := (br.c 3 (by decide)).2
      simp only [List.getD_cons_zero, List.getD_cons_succ] at r0 r1 r2 r3
      have rz := br.lt
      go_wp2
      refine bodyPost_ret (v := .agg #[.slice ia il ic, .slice (some ⟨g, 0, none⟩) ll lc, .slice da dl dc, .slice oa ol oc]) (by simp [results, Tryz.results66, go_sem, r0, r1, r2, r3]) rfl ?_
      exact ⟨⟨ia, il, ic, (some ⟨g, 0, none⟩), ll, lc, da, dl, dc, oa, ol, oc, items, locks.set j ⟨(ts, tn), key, write, value, ask⟩, doubts, over⟩, rfl, by simp only [SV.data]; rw [HX.out, HDD.out]; rfl, f2'.four hM.own (.slice ia il ic) (.slice (some ⟨g, 0, none⟩) ll lc) (.slice da dl dc) (.slice oa ol oc), below_four hM.bel (by omega) (.slice ia il ic) (.slice (some ⟨g, 0, none⟩) ll lc) (.slice da dl dc) (.slice oa ol oc)⟩
    | false =>
      have k0 := (bk.c 0 (by decide)).1
      have k1 := (bk.c 1 (by decide)).1
      simp only [List.getD_cons_zero, List.getD_cons_succ] at k0 k1
      have bkl2 := bk.lt
      have hsz2 := hM.sz
      go_upto_region 7 with (at_builtin; go_loud (refine wpList_append_row E3 (by rfl) _ _ (by rfl) C (.slice da dl dc) dl doubts (by rfl) (own_below hM.own.doubts ((Below.refl _ _).alloc (Nat.le_refl _) _)) _ 1 1 [⟨(ts, tn), 0⟩] (by rfl) (isOne _ _ _ _ rfl rfl) (by unfold maxLen; omega) (by omega) (by simp; omega) ?_; intro a6 c6 w6 own6 gr6 at6; obtain ⟨cl6, fz6, hM6⟩ := hM.put_doubts ((Below.refl _ _).alloc (Nat.le_refl _) _) gr6 own6 at6; simp only [] at cl6))
      have br6 := ((br.below ((Below.refl _ _).alloc (o := .cells #[.int .i64 ts, .int .i64 tn, .int .i64 0] 72) (Nat.le_refl _)) br.lt).grown gr6 (fun e => f2'.d e.symm)).far (k := 2) (v := .slice a6 (dl + 1) c6) (c := w.heap.size) (by omega)
      have f6 : Off ⟨ia, il, ic, (some ⟨g, 0, none⟩), ll, lc, a6, dl + 1, c6, oa, ol, oc, items, locks.set j ⟨(ts, tn), key, write, value, ask⟩, doubts ++ [⟨(ts, tn), 0⟩], over⟩ (w.heap.size + 1 + 1) := f2'.put_doubts at6 (by have := br.lt; simp; omega)
      obtain ⟨V6, hV6⟩ : ∃ V6 : World, V6 = w6.setCell ⟨w.heap.size, 2, none⟩ (.slice a6 (dl + 1) c6) := ⟨_, rfl⟩
      rw [← hV6] at hM6 br6 ⊢
      clear hV6 x0 x1 x2 x3 g0 g1 g2 g3 mz k0 k1
      obtain ⟨mz, x0, x1, x2, x3, g0, g1, g2, g3⟩ := hM6.cells
      simp only [] at x0 x1 x2 x3
      have r0 := (br6.c 0 (by decide)).1
      have y0 := (br6.c 0 (by decide)).2
      have r1 := (br6.c 1 (by decide)).1
      have y1 := (br6.c 1 (by decide)).2
      have r2 := (br6.c 2 (by decide)).1
      have y2 := (br6.c 2 (by decide)).2
      have r3 := (br6.c 3 (by decide)).1
      have y3 := (br6.c 3 (by decide)).2
      simp only [List.getD_cons_zero, List.getD_cons_succ] at r0 r1 r2 r3
      have rz := br6.lt
      go_wp2
      refine bodyPost_ret (v := .agg #[.slice ia il ic, .slice (some ⟨g, 0, none⟩) ll lc, .slice a6 (dl + 1) c6, .slice oa ol oc]) (by simp [results, Tryz.results66, go_sem, r0, r1, r2, r3]) rfl ?_
      exact ⟨⟨ia, il, ic, (some ⟨g, 0, none⟩), ll, lc, a6, dl + 1, c6, oa, ol, oc, items, locks.set j ⟨(ts, tn), key, write, value, ask⟩, doubts ++ [⟨(ts, tn), 0⟩], over⟩, rfl, by simp only [SV.data]; rw [HX.out, HDD.out]; rfl, f6.four hM6.own (.slice ia il ic) (.slice (some ⟨g, 0, none⟩) ll lc) (.slice a6 (dl + 1) c6) (.slice oa ol oc), below_four hM6.bel (by omega) (.slice ia il ic) (.slice (some ⟨g, 0, none⟩) ll lc) (.slice a6 (dl + 1) c6) (.slice oa ol oc)⟩
  · have h0' : i < 0 := by omega
    have HX : Hid (XL = locks ++ [⟨(ts, tn), key, write, value, ask⟩]) := by show _ = _; rw [HLD.out, if_neg (by omega)]
    go_upto_region 5 with (at_builtin; go_loud (refine wpList_append_row E2 (by rfl) _ _ (by rfl) C (.slice la ll lc) ll locks (by rfl) (own_below hM.own.locks ((Below.refl _ _).alloc (Nat.le_refl _) _)) _ 1 1 [⟨(ts, tn), key, write, value, ask⟩] (by rfl) (isOne _ _ _ _ rfl rfl) (by unfold maxLen; omega) (by omega) (by simp; omega) ?_; intro a5 c5 w5 own5 gr5 at5; obtain ⟨cl5, fz5, hM1'⟩ := hM.put_locks ((Below.refl _ _).alloc (Nat.le_refl _) _) gr5 own5 at5; simp only [] at cl5))
    have bk1 := ((bk.below ((Below.refl _ _).alloc (o := .cells #[.int .i64 ts, .int .i64 tn, .int .i64 key, .bool write, .int .i64 value, .int .i64 ask] 70) (Nat.le_refl _)) bk.lt).grown gr5 (fun e => f1.l e.symm)).far (k := 1) (v := .slice a5 (ll + 1) c5) (c := w.heap.size) (by omega)
    have br1 := ((br.below ((Below.refl _ _).alloc (o := .cells #[.int .i64 ts, .int .i64 tn, .int .i64 key, .bool write, .int .i64 value, .int .i64 ask] 70) (Nat.le_refl _)) br.lt).grown gr5 (fun e => f2.l e.symm)).far (k := 1) (v := .slice a5 (ll + 1) c5) (c := w.heap.size) (by omega)
    have f1' : Off ⟨ia, il, ic, a5, ll + 1, c5, da, dl, dc, oa, ol, oc, items, locks ++ [⟨(ts, tn), key, write, value, ask⟩], doubts, over⟩ (w.heap.size + 1) := f1.put_locks at5 (by simp; omega)
    have f2' : Off ⟨ia, il, ic, a5, ll + 1, c5, da, dl, dc, oa, ol, oc, items, locks ++ [⟨(ts, tn), key, write, value, ask⟩], doubts, over⟩ (w.heap.size + 1 + 1) := f2.put_locks at5 (by simp; omega)
    obtain ⟨V, hV⟩ : ∃ V : World, V = w5.setCell ⟨w.heap.size, 1, none⟩ (.slice a5 (ll + 1) c5) := ⟨_, rfl⟩
    rw [← hV] at hM1' bk1 br1 ⊢
    clear hV cl5 fz5 own5 gr5 at5 k0 k1 k2 k3 k4 k5 x0 x1 x2 x3 g0 g1 g2 g3 mz bk br f1 f2 hM hb3 hLW
    clear w5
    have hDV := hM1'.own.isStore.doubts
    simp only [] at hDV
    have HM2 : Hid (∀ U, Below V.heap.size V U → Made w U C w.heap.size ⟨ia, il, ic, a5, (ll + 1), c5, da, dl, dc, oa, ol, oc, items, (locks ++ [⟨(ts, tn), key, write, value, ask⟩]), doubts, over⟩ ∧ BoxN U (w.heap.size + 1) 6 [.int .i64 ts, .int .i64 tn, .int .i64 key, .bool write, .int .i64 value, .int .i64 ask] ∧ BoxN U (w.heap.size + 1 + 1) 4 [.slice none 0 0, .slice none 0 0, .slice none 0 0, .slice none 0 0]) := fun U hU => ⟨hM1'.below hU, bk1.below hU bk1.lt, br1.below hU br1.lt⟩
    have HK2 : Hid (∀ U, Below V.heap.size V U → U.cell? ⟨w.heap.size, 2, none⟩ = some (.slice da dl dc) ∧ U.cell? ⟨w.heap.size + 1, 0, none⟩ = some (.int .i64 ts) ∧ U.cell? ⟨w.heap.size + 1, 1, none⟩ = some (.int .i64 tn)) := fun U hU => by
      obtain ⟨m1, m2, _⟩ := HM2.out U hU
      exact ⟨m1.cells.2.2.2.1, (m2.c 0 (by decide)).1, (m2.c 1 (by decide)).1⟩
    have hD2 : Below V.heap.size V V.drew := (Below.refl _ _).drew
    clear hM1' bk1 br1
    go_region_held3 (fun U => U.cell? ⟨w.heap.size, 2, none⟩ = some (.slice da dl dc) ∧ U.cell? ⟨w.heap.size + 1, 0, none⟩ = some (.int .i64 ts) ∧ U.cell? ⟨w.heap.size + 1, 1, none⟩ = some (.int .i64 tn)) (first | exact HK2.out _ hb5 | exact HK2.out _ hb4 | exact HK2.out _ hD2 | exact HK2.out _ (Below.refl _ _)) (first | ((go_at_call 74; refine (hDo _).mono ?_; rintro e w4 ⟨bd, rfl, hAd, hb4'⟩; have hb4 : Below V.heap.size V w4 := hD2.trans (hb4'.mono hD2.size); have hTD := hDV.below hb4)) | ((go_at_call 84; refine (hCn _ _ _ hTD hAd).mono ?_; rintro e w5 ⟨rfl, hb5'⟩; have hb5 : Below V.heap.size V w5 := hb4.trans (hb5'.mono hb4.size))))
    obtain ⟨hM, bk, br⟩ := HM2.out _ hb5
    obtain ⟨mz, x0, x1, x2, x3, g0, g1, g2, g3⟩ := hM.cells
    simp only [] at x0 x1 x2 x3
    cases B with
    | true =>
      have r0 := (br.c 0 (by decide)).1
      have y0 := (br.c 0 (by decide)).2
      have r1 := (br.c 1 (by decide)).1
      have y1 := (br.c 1 (by decide)).2
      have r2 := (br.c 2 (by decide)).1
      have y2 := (br.c 2 (by decide)).2
      have r3 := (br.c 3 (by decide)).1
      have y3 := (br.c 3 (by decide)).2
      simp only [List.getD_cons_zero, List.getD_cons_succ] at r0 r1 r2 r3
      have rz := br.lt
      go_wp2
      refine bodyPost_ret (v := .agg #[.slice ia il ic, .slice a5 (ll + 1) c5, .slice da dl dc, .slice oa ol oc]) (by simp [results, Tryz.results66, go_sem, r0, r1, r2, r3]) rfl ?_
      exact ⟨⟨ia, il, ic, a5, (ll + 1), c5, da, dl, dc, oa, ol, oc, items, (locks ++ [⟨(ts, tn), key, write, value, ask⟩]), doubts, over⟩, rfl, by simp only [SV.data]; rw [HX.out, HDD.out]; rfl, f2'.four hM.own (.slice ia il ic) (.slice a5 (ll + 1) c5) (.slice da dl dc) (.slice oa ol oc), below_four hM.bel (by omega) (.slice ia il ic) (.slice a5 (ll + 1) c5) (.slice da dl dc) (.slice oa ol oc)⟩
    | false =>
      have k0 := (bk.c 0 (by decide)).1
      have k1 := (bk.c 1 (by decide)).1
      simp only [List.getD_cons_zero, List.getD_cons_succ] at k0 k1
      have bkl2 := bk.lt
      have hsz2 := hM.sz
      go_upto_region 7 with (at_builtin; go_loud (refine wpList_append_row E3 (by rfl) _ _ (by rfl) C (.slice da dl dc) dl doubts (by rfl) (own_below hM.own.doubts ((Below.refl _ _).alloc (Nat.le_refl _) _)) _ 1 1 [⟨(ts, tn), 0⟩] (by rfl) (isOne _ _ _ _ rfl rfl) (by unfold maxLen; omega) (by omega) (by simp; omega) ?_; intro a6 c6 w6 own6 gr6 at6; obtain ⟨cl6, fz6, hM6⟩ := hM.put_doubts ((Below.refl _ _).alloc (Nat.le_refl _) _) gr6 own6 at6; simp only [] at cl6))
      have br6 := ((br.below ((Below.refl _ _).alloc (o := .cells #[.int .i64 ts, .int .i64 tn, .int .i64 0] 72) (Nat.le_refl _)) br.lt).grown gr6 (fun e => f2'.d e.symm)).far (k := 2) (v := .slice a6 (dl + 1) c6) (c := w.heap.size) (by omega)
      have f6 : Off ⟨ia, il, ic, a5, (ll + 1), c5, a6, dl + 1, c6, oa, ol, oc, items, (locks ++ [⟨(ts, tn), key, write, value, ask⟩]), doubts ++ [⟨(ts, tn), 0⟩], over⟩ (w.heap.size + 1 + 1) := f2'.put_doubts at6 (by have := br.lt; simp; omega)
      obtain ⟨V6, hV6⟩ : ∃ V6 : World, V6 = w6.setCell ⟨w.heap.size, 2, none⟩ (.slice a6 (dl + 1) c6) := ⟨_, rfl⟩
      rw [← hV6] at hM6 br6 ⊢
      clear hV6 x0 x1 x2 x3 g0 g1 g2 g3 mz k0 k1
      obtain ⟨mz, x0, x1, x2, x3, g0, g1, g2, g3⟩ := hM6.cells
      simp only [] at x0 x1 x2 x3
      have r0 := (br6.c 0 (by decide)).1
      have y0 := (br6.c 0 (by decide)).2
      have r1 := (br6.c 1 (by decide)).1
      have y1 := (br6.c 1 (by decide)).2
      have r2 := (br6.c 2 (by decide)).1
      have y2 := (br6.c 2 (by decide)).2
      have r3 := (br6.c 3 (by decide)).1
      have y3 := (br6.c 3 (by decide)).2
      simp only [List.getD_cons_zero, List.getD_cons_succ] at r0 r1 r2 r3
      have rz := br6.lt
      go_wp2
      refine bodyPost_ret (v := .agg #[.slice ia il ic, .slice a5 (ll + 1) c5, .slice a6 (dl + 1) c6, .slice oa ol oc]) (by simp [results, Tryz.results66, go_sem, r0, r1, r2, r3]) rfl ?_
      exact ⟨⟨ia, il, ic, a5, (ll + 1), c5, a6, dl + 1, c6, oa, ol, oc, items, (locks ++ [⟨(ts, tn), key, write, value, ask⟩]), doubts ++ [⟨(ts, tn), 0⟩], over⟩, rfl, by simp only [SV.data]; rw [HX.out, HDD.out]; rfl, f6.four hM6.own (.slice ia il ic) (.slice a5 (ll + 1) c5) (.slice a6 (dl + 1) c6) (.slice oa ol oc), below_four hM6.bel (by omega) (.slice ia il ic) (.slice a5 (ll + 1) c5) (.slice a6 (dl + 1) c6) (.slice oa ol oc)⟩
end Go.Proofs.YtekglahigjblkaaGreatDoor.St
/- The contract of store.item: the first item of a key; one that was never written has the value 0, and the version 0. -/
namespace Go.Proofs.YtekglahigjblkaaGreatDoor.St
open Go.ChangeShapes Go.WideShapes Go.ChangeAt Go.RowKit
set_option linter.unusedVariables false

def kyT (ky : Int) (x : ItV) : Bool := decide (x.key = ky)
def itemAt (l : List ItV) (ky : Int) : ItV := if idxI (kyT ky) l < 0 then ⟨ky, 0, 0⟩ else l.getD (idxI (kyT ky) l).toNat default

theorem item1_asks (b : Nat) (ky : Int) (w : World) (c0 : w.cell? ⟨b, 0, none⟩ = some (.int .i64 ky)) (z : b < w.heap.size) : Asks 97 #[.pointer (some ⟨b, 0, none⟩)] ItV.val (kyT ky) w := by
  refine ⟨enters_of Tryz.func97 (by kernel_rfl) rfl, fun x w' hb => ?_⟩
  rw [← hb.cell (p := ⟨b, 0, none⟩) z] at c0
  have y := Nat.lt_of_lt_of_le z hb.size
  obtain ⟨key, value, version⟩ := x
  simp only [ItV.val] at *
  have hA : ∀ o, Below w'.heap.size w' (w'.alloc o) := fun o => (Below.refl _ _).alloc (Nat.le_refl _) _
  show Calls Tryz.prog 97 #[_, .pointer (some ⟨b, 0, none⟩)] w' _
  go_enter Tryz.func97, Tryz.ntmps97
  go_wp2
  all_goals go_ret
  all_goals exact ⟨ret_bool (by first | (simp_all [kyT]; done) | (simp_all [kyT]; rfl)), hA _⟩

set_option maxHeartbeats 1000000 in
theorem item_any (s : SV) (ky : Int) (w : World) (h : IsItems w s.ia s.il s.ic s.items) :
    Calls Tryz.prog 83 #[s.val, .int .i64 ky] w fun e w' => e = .returned (itemAt s.items ky).val ∧ Below w.heap.size w w' := by
  obtain ⟨ia, il, ic, la, ll, lc, da, dl, dc, oa, ol, oc, items, locks, doubts, over⟩ := s
  simp only [SV.val] at *
  have hI := fun fn cps w' h1 h2 => indexItem_any fn cps (kyT ky) ia il ic items w' h1 h2
  have hlt := idxI_lt (p := kyT ky) (l := items)
  have eR : Hid (itemAt items ky = if idxI (kyT ky) items < 0 then ⟨ky, 0, 0⟩ else items.getD (idxI (kyT ky) items).toNat default) := rfl
  obtain ⟨R, e0⟩ : ∃ R, R = itemAt items ky := ⟨_, rfl⟩
  obtain ⟨J, e1⟩ : ∃ J, J = idxI (kyT ky) items := ⟨_, rfl⟩
  rw [← e0, ← e1] at eR
  rw [← e1] at hI hlt
  rw [← e0]
  clear e0 e1
  obtain ⟨rk, rv, rn⟩ := R
  simp only [ItV.val]
  obtain ⟨W, hW⟩ : ∃ W : World, W = ((w.alloc (.cells #[.slice ia il ic, .slice la ll lc, .slice da dl dc, .slice oa ol oc] 31)).alloc (.cells #[.int .i64 ky] 3)).alloc (.cells #[.int .i64 0, .int .i64 0, .int .i64 0] 68) := ⟨_, rfl⟩
  have hB : Below w.heap.size w W := by rw [hW]; exact (((Below.refl _ _).alloc (Nat.le_refl _) _).alloc (by simp) _).alloc (by simp; omega) _
  have zW : W.heap.size = w.heap.size + 3 := by rw [hW]; simp
  have c0 : W.cell? ⟨w.heap.size, 0, none⟩ = some (.slice ia il ic) := by rw [hW]; go_simp
  have ck : W.cell? ⟨w.heap.size + 1, 0, none⟩ = some (.int .i64 ky) := by rw [hW]; go_simp
  have r0 : W.cell? ⟨w.heap.size + 2, 0, none⟩ = some (.int .i64 0) := by rw [hW]; go_simp
  have r1 : W.cell? ⟨w.heap.size + 2, 1, none⟩ = some (.int .i64 0) := by rw [hW]; go_simp
  have r2 : W.cell? ⟨w.heap.size + 2, 2, none⟩ = some (.int .i64 0) := by rw [hW]; go_simp
  have f0 : W.frozen? ⟨w.heap.size + 2, 0, none⟩ = false := by rw [hW]; go_simp
  have f1 : W.frozen? ⟨w.heap.size + 2, 1, none⟩ = false := by rw [hW]; go_simp
  have f2 : W.frozen? ⟨w.heap.size + 2, 2, none⟩ = false := by rw [hW]; go_simp
  have z0 : w.heap.size < W.heap.size := by omega
  have z1 : w.heap.size + 1 < W.heap.size := by omega
  have z2 : w.heap.size + 2 < W.heap.size := by omega
  have hX := h.below hB
  have hAs := item1_asks (w.heap.size + 1) ky W ck z1
  clear zW
  go_enter Tryz.func83, Tryz.ntmps83
  go_upto_region 1 with (fail)
  rw [← hW]
  clear hW
  go_upto_region 2 with (go_at_call 87; refine (hI _ _ _ hX hAs).mono ?_; rintro e w1 ⟨rfl, hb1⟩)
  have d0 := (hb1.cell (p := ⟨w.heap.size, 0, none⟩) z0).trans c0
  have dk := (hb1.cell (p := ⟨w.heap.size + 1, 0, none⟩) z1).trans ck
  have s0 := (hb1.cell (p := ⟨w.heap.size + 2, 0, none⟩) z2).trans r0
  have s1 := (hb1.cell (p := ⟨w.heap.size + 2, 1, none⟩) z2).trans r1
  have s2 := (hb1.cell (p := ⟨w.heap.size + 2, 2, none⟩) z2).trans r2
  have g0 := (hb1.frozen (p := ⟨w.heap.size + 2, 0, none⟩) z2).trans f0
  have g1 := (hb1.frozen (p := ⟨w.heap.size + 2, 1, none⟩) z2).trans f1
  have g2 := (hb1.frozen (p := ⟨w.heap.size + 2, 2, none⟩) z2).trans f2
  have hw1 := hB.trans (hb1.mono hB.size)
  have hfin : ∀ x y z, Below w.heap.size w (((w1.setCell ⟨w.heap.size + 2, 0, none⟩ x).setCell ⟨w.heap.size + 2, 1, none⟩ y).setCell ⟨w.heap.size + 2, 2, none⟩ z) := fun x y z =>
    ((hw1.setCell (by simp) _).setCell (by simp) _).setCell (by simp) _
  by_cases hJ : J < 0
  · have hR := eR.out
    rw [if_pos hJ] at hR
    clear eR
    obtain ⟨rfl, rfl, rfl⟩ := ItV.mk.inj hR
    go_wp2
    refine bodyPost_ret (v := .agg #[.int .i64 _, .int .i64 0, .int .i64 0]) (by simp [results, Tryz.results83, go_sem, s0, s1, s2]) rfl ⟨rfl, hfin _ _ _⟩
  · have hR := eR.out
    rw [if_neg hJ] at hR
    obtain ⟨j, rfl⟩ : ∃ j : Nat, J = j := ⟨J.toNat, by omega⟩
    have hjl : j < items.length := by omega
    obtain ⟨xl, _, hmax, _, xm⟩ := h
    unfold maxLen at hmax
    obtain ⟨b, off, rfl, zb, hc⟩ := xm (by omega)
    have hcells := hc j (by omega)
    have hji : (j : Int) < (il : Int) := by omega
    simp only [Int.toNat_natCast] at hR
    rw [← hR] at hcells
    clear hR eR xl hc
    have a0 := hcells 0 (by decide)
    have a1 := hcells 1 (by decide)
    have a2 := hcells 2 (by decide)
    simp [ItV.cells] at a0 a1 a2
    rw [← hw1.cell (p := ⟨b, off + j * 3, none⟩) zb] at a0
    rw [← hw1.cell (p := ⟨b, off + j * 3 + 1, none⟩) zb] at a1
    rw [← hw1.cell (p := ⟨b, off + j * 3 + 2, none⟩) zb] at a2
    have hJ' : ¬ (j : Int) < 0 := by omega
    go_wp2
    refine bodyPost_ret (v := .agg #[.int .i64 rk, .int .i64 rv, .int .i64 rn]) (by simp [results, Tryz.results83, go_sem, s0, s1, s2]) rfl ⟨rfl, hfin _ _ _⟩
end Go.Proofs.YtekglahigjblkaaGreatDoor.St
/- Contracts of store.byOthers, and of the function that it hands back. -/
namespace Go.Proofs.YtekglahigjblkaaGreatDoor.St
open Go.ChangeShapes Go.WideShapes Go.ChangeAt Go.RowKit
set_option linter.unusedVariables false

def othT (t : Int × Int) (ky : Int) (k : LkV) : Bool := !(decide (k.t = t)) && decide (k.key = ky)
set_option maxHeartbeats 1000000 in
theorem byOthers_asks (b0 : Nat) (b1 : Nat) (t : Int × Int) (ky : Int) (w : World) (c00 : w.cell? ⟨b0, 0, none⟩ = some (.int .i64 t.1)) (c01 : w.cell? ⟨b0, 1, none⟩ = some (.int .i64 t.2)) (z0 : b0 < w.heap.size) (c10 : w.cell? ⟨b1, 0, none⟩ = some (.int .i64 ky)) (z1 : b1 < w.heap.size) : Asks 96 #[.pointer (some ⟨b0, 0, none⟩), .pointer (some ⟨b1, 0, none⟩)] LkV.val (othT t ky) w := by
  refine ⟨enters_of Tryz.func96 (by kernel_rfl) rfl, fun x w' hb => ?_⟩
  rw [← hb.cell (p := ⟨b0, 0, none⟩) z0] at c00
  rw [← hb.cell (p := ⟨b0, 1, none⟩) z0] at c01
  have y0 := Nat.lt_of_lt_of_le z0 hb.size
  rw [← hb.cell (p := ⟨b1, 0, none⟩) z1] at c10
  have y1 := Nat.lt_of_lt_of_le z1 hb.size
  obtain ⟨ts, tn⟩ := t
  obtain ⟨⟨site, num⟩, key, write, value, ask⟩ := x
  simp only [LkV.val] at *
  have hA : ∀ o, Below w'.heap.size w' (w'.alloc o) := fun o => (Below.refl _ _).alloc (Nat.le_refl _) _
  show Calls Tryz.prog 96 #[_, .pointer (some ⟨b0, 0, none⟩), .pointer (some ⟨b1, 0, none⟩)] w' _
  go_enter Tryz.func96, Tryz.ntmps96
  go_wp2
  all_goals go_ret
  all_goals exact ⟨ret_bool (by first | (simp_all [othT]; done) | (simp_all [othT]; rfl)), hA _⟩
theorem byOthers_any (t : Int × Int) (ky : Int) (w : World) :
    Calls Tryz.prog 82 #[.agg #[.int .i64 t.1, .int .i64 t.2], .int .i64 ky] w fun e w' => ∃ b0 b1 : Nat, e = .returned (.func (.func 96) #[] #[.pointer (some ⟨b0, 0, none⟩), .pointer (some ⟨b1, 0, none⟩)]) ∧ Asks 96 #[.pointer (some ⟨b0, 0, none⟩), .pointer (some ⟨b1, 0, none⟩)] LkV.val (othT t ky) w' ∧ Below w.heap.size w w' := by
  obtain ⟨ts, tn⟩ := t
  simp only
  obtain ⟨W, hW⟩ : ∃ W : World, W = ((w.alloc (.cells #[.int .i64 ts, .int .i64 tn] 51)).alloc (.cells #[.int .i64 ky] 3)) := ⟨_, rfl⟩
  have hB : Below w.heap.size w W := by rw [hW]; exact (((Below.refl _ _).alloc (Nat.le_refl _) _).alloc (by simp) _)
  have zW : W.heap.size = w.heap.size + 2 := by rw [hW]; simp
  have c00 : W.cell? ⟨w.heap.size, 0, none⟩ = some (.int .i64 ts) := by rw [hW]; go_simp
  have c01 : W.cell? ⟨w.heap.size, 1, none⟩ = some (.int .i64 tn) := by rw [hW]; go_simp
  have c10 : W.cell? ⟨w.heap.size + 1, 0, none⟩ = some (.int .i64 ky) := by rw [hW]; go_simp
  have hq := byOthers_asks w.heap.size (w.heap.size + 1) (ts, tn) ky W c00 c01 (by omega) c10 (by omega)
  go_enter Tryz.func82, Tryz.ntmps82
  go_wp2
  rw [← hW]
  go_ret
  exact ⟨_, _, rfl, hq, hB⟩
end Go.Proofs.YtekglahigjblkaaGreatDoor.St
