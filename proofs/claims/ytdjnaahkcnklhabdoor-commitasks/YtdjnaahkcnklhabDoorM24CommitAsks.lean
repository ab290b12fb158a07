/- Texts of this claim, one behind the other. -/
import Derived.Test.YtdjnaahkcnklhabDoorM23CommitAsks
import Derived.Test.YtdjnaahkcnklhabDoorM8CommitAsks
import Derived.Test.YtdjnaahkcnklhabDoorM5CommitAsks
import Derived.Deep.QuietTactic
import Derived.BigQuiet
import Derived.BigRegion
import Derived.LoopTactic
import Derived.RegionTactic
import Derived.Deep.RegionWith
import Derived.Deep.RegionHeld3
import Derived.WalkSmall
import Derived.Deep.Cut
/- The clerk's doubts. -/
namespace Go.Proofs.YtdjnaahkcnklhabDoor.Co
open Go.ChangeShapes Go.WideShapes Go.ChangeAt Go.RowKit
open Go.Proofs.YtdjnaahkcnklhabDoor.St (BoxN boxn_new own_below grown_setCell IsRow Elem flat flat_append own_isRow idxI idxI_lt)
set_option linter.unusedVariables false

def Tn.told (t : Tn) (C : Cx) (n : Int) (yes : Bool) (site : Int) : Tn := { t with ms := t.ms ++ [decM C.me n yes site] }
def Tn.doubted (t : Tn) (C : Cx) (i : Nat) (m : MV) : Tn := if (decide ((t.js.getD i default).state = 3) && (t.js.getD i default).asked.any fun y => m.frm == y) = true then t.told C (t.js.getD i default).n true m.frm else t
theorem send_dec {w : World} {B q : Nat} {v : CkV} {ix : List (Nat × Nat)} {more : List Rw} (X : World) (h : Clerk w X B q v ix more) (hr : RecsIn v.rs more) (ls : List (Int × Int)) (n : Int) (yes : Bool) (site : Int) (hm : v.ml ≤ 1000000) :
    Calls Tryd.prog 49 #[.pointer (some ⟨q, 0, none⟩), .int .i64 n, .int .i64 site, .agg #[.int .i64 4, .int .i64 0, .int .i64 0, .int .i64 0, .int .i64 0, .int .i64 0, .int .i64 0, .int .i64 0, .int .i64 0, .int .i64 0, .bool yes, .int .i64 0]] X fun e X' => e = .returned (.tuple #[]) ∧ DoneIs w X' B q v (v.tn.told (v.cx ls) n yes site) (.returned (.tuple #[])) := by
  refine (send_any X h n site ⟨4, 0, 0, 0, 0, 0, 0, 0, 0, 0, yes, 0⟩ (fitM1 hm)).mono ?_
  rintro e u ⟨rfl, a5, c5, h5⟩
  exact ⟨rfl, rfl, _, ix, more, h5, hr, rfl, rfl, rfl, rfl, rfl, rfl, rfl, rfl⟩
set_option maxRecDepth 100000 in
set_option maxHeartbeats 8000000 in
theorem doubtsNone_done {w : World} {B q : Nat} {v : CkV} {ix : List (Nat × Nat)} {more : List Rw} (X : World) (h : Clerk w X B q v ix more) (hr : RecsIn v.rs more) (ls : List (Int × Int)) (m : MV) (hm : v.ml ≤ 1000000) :
    Calls Tryd.prog 29 #[.pointer (some ⟨q, 0, none⟩), .pointer none, m.val] X fun e X' => DoneIs w X' B q v (v.tn.told (v.cx ls) m.num false m.frm) e := by
  obtain ⟨kind, frm, dst, site, num, label, key, value, version, ask, yes, code⟩ := m
  simp only [MV.val]
  obtain ⟨W, hW⟩ : ∃ W : World, W = X.alloc (.cells #[.int .i64 kind, .int .i64 frm, .int .i64 dst, .int .i64 site, .int .i64 num, .int .i64 label, .int .i64 key, .int .i64 value, .int .i64 version, .int .i64 ask, .bool yes, .int .i64 code] 46) := ⟨_, rfl⟩
  have bW : Below X.heap.size X W := by rw [hW]; exact (Below.refl _ _).alloc (Nat.le_refl _) _
  have mb : BoxN W X.heap.size 12 [.int .i64 kind, .int .i64 frm, .int .i64 dst, .int .i64 site, .int .i64 num, .int .i64 label, .int .i64 key, .int .i64 value, .int .i64 version, .int .i64 ask, .bool yes, .int .i64 code] := by rw [hW]; exact boxn_new X #[.int .i64 kind, .int .i64 frm, .int .i64 dst, .int .i64 site, .int .i64 num, .int .i64 label, .int .i64 key, .int .i64 value, .int .i64 version, .int .i64 ask, .bool yes, .int .i64 code] 46 12 rfl
  have b1 : W.cell? ⟨X.heap.size, 1, none⟩ = some (.int .i64 frm) := (mb.c 1 (by decide)).1
  have b4 : W.cell? ⟨X.heap.size, 4, none⟩ = some (.int .i64 num) := (mb.c 4 (by decide)).1
  have zm := mb.lt
  have HS := send_dec W (h.below bW) hr ls num false frm hm
  have HS2 : Hid (Calls Tryd.prog 49 #[.pointer (some ⟨q, 0, none⟩), .int .i64 num, .int .i64 frm, .agg #[.int .i64 4, .int .i64 0, .int .i64 0, .int .i64 0, .int .i64 0, .int .i64 0, .int .i64 0, .int .i64 0, .int .i64 0, .int .i64 0, .bool false, .int .i64 0]] W fun e X' => e = .returned (.tuple #[]) ∧ DoneIs w X' B q v (v.tn.told (v.cx ls) num false frm) (.returned (.tuple #[]))) := HS
  clear HS mb h hr
  go_enter Tryd.func29, Tryd.ntmps29
  go_upto_region 1 with (fail)
  rw [← hW]
  clear hW
  go_wp2_with (go_at_call 49; refine HS2.out.mono ?_; rintro e w9 ⟨rfl, h9⟩)
  exact bodyPost_ret (v := .tuple #[]) (by simp [results, Tryd.results29, go_sem]) rfl h9
set_option maxRecDepth 100000 in
set_option maxHeartbeats 8000000 in
theorem doubts_done {w : World} {B q : Nat} {v : CkV} {ix : List (Nat × Nat)} {more : List Rw} (X : World) (h : Clerk w X B q v ix more) (hr : RecsIn v.rs more) (ls : List (Int × Int)) {i g : Nat} (hi : i < v.jl) (eg : v.ja = some ⟨g, 0, none⟩) (m : MV) (hm : v.ml ≤ 1000000) :
    Calls Tryd.prog 29 #[.pointer (some ⟨q, 0, none⟩), .pointer (some ⟨g, i * 6, none⟩), m.val] X fun e X' => DoneIs w X' B q v (v.tn.doubted (v.cx ls) i m) e := by
  obtain ⟨kind, frm, dst, site, num, label, key, value, version, ask, yes, code⟩ := m
  simp only [MV.val]
  obtain ⟨W, hW⟩ : ∃ W : World, W = X.alloc (.cells #[.int .i64 kind, .int .i64 frm, .int .i64 dst, .int .i64 site, .int .i64 num, .int .i64 label, .int .i64 key, .int .i64 value, .int .i64 version, .int .i64 ask, .bool yes, .int .i64 code] 46) := ⟨_, rfl⟩
  have bW : Below X.heap.size X W := by rw [hW]; exact (Below.refl _ _).alloc (Nat.le_refl _) _
  have mb : BoxN W X.heap.size 12 [.int .i64 kind, .int .i64 frm, .int .i64 dst, .int .i64 site, .int .i64 num, .int .i64 label, .int .i64 key, .int .i64 value, .int .i64 version, .int .i64 ask, .bool yes, .int .i64 code] := by rw [hW]; exact boxn_new X #[.int .i64 kind, .int .i64 frm, .int .i64 dst, .int .i64 site, .int .i64 num, .int .i64 label, .int .i64 key, .int .i64 value, .int .i64 version, .int .i64 ask, .bool yes, .int .i64 code] 46 12 rfl
  have hCW := h.below bW
  have HC : Hid (Clerk w W B q v ix more) := hCW
  have HBj : Hid (v.tn.js.getD i default = (v.js.getD i default).bare) := getD_bare _ _
  obtain ⟨g2, eg2, -, zg, -, hcj, -⟩ := hCW.jobAt hi
  obtain rfl := ptrEq eg eg2
  clear eg2
  have hos := hCW.isSites hi
  have HCt : Hid (∀ U, Below W.heap.size W U → Calls Tryd.prog 57 #[.slice (v.js.getD i default).aa (v.js.getD i default).al (v.js.getD i default).ac, .int .i64 frm] U fun e w' => e = .returned (.bool ((v.js.getD i default).asked.any fun y => frm == y)) ∧ Below U.heap.size U w') := fun U hU => contInt_any frm _ _ _ _ U (hos.below hU)
  obtain ⟨J, eJ⟩ : ∃ J, J = v.js.getD i default := ⟨_, rfl⟩
  rw [← eJ] at HCt hcj HBj
  obtain ⟨jn, st, ta, tl, tc, aa, al, ac, asks, age, tasks, asked⟩ := J
  simp only [] at HCt
  obtain ⟨A, eA⟩ : ∃ A, A = asked.any fun y => frm == y := ⟨_, rfl⟩
  rw [← eA] at HCt
  have HDb : Hid (v.tn.doubted (v.cx ls) i ⟨kind, frm, dst, site, num, label, key, value, version, ask, yes, code⟩ = if (decide (st = 3) && A) = true then v.tn.told (v.cx ls) jn true frm else v.tn) := by
    show _ = _
    unfold Tn.doubted
    rw [HBj.out, eA]
    rfl
  have c0 := hcj 0 (by decide)
  have c1 := hcj 1 (by decide)
  have c3 := hcj 3 (by decide)
  simp only [JbV.cells, List.getElem?_cons_zero, List.getElem?_cons_succ, Nat.add_zero] at c0 c1 c3
  have b1 : W.cell? ⟨X.heap.size, 1, none⟩ = some (.int .i64 frm) := (mb.c 1 (by decide)).1
  have zm := mb.lt
  have HSame : Hid (∀ U, Below W.heap.size W U → v.tn.doubted (v.cx ls) i ⟨kind, frm, dst, site, num, label, key, value, version, ask, yes, code⟩ = v.tn → DoneIs w U B q v (v.tn.doubted (v.cx ls) i ⟨kind, frm, dst, site, num, label, key, value, version, ask, yes, code⟩) (.returned (.tuple #[]))) := fun U hU e => ⟨rfl, v, ix, more, HC.out.below hU, hr, e.symm, rfl, rfl, rfl, rfl, rfl, rfl, rfl⟩
  have KC : Hid (∀ U, Below W.heap.size W U → U.cell? ⟨g, i * 6, none⟩ = some (.int .i64 jn) ∧ U.cell? ⟨X.heap.size, 1, none⟩ = some (.int .i64 frm)) := fun U hU => ⟨(hU.cell (p := ⟨g, i * 6, none⟩) zg).trans c0, (hU.cell (p := ⟨X.heap.size, 1, none⟩) zm).trans b1⟩
  have HS : Hid (∀ U, Below W.heap.size W U → Calls Tryd.prog 49 #[.pointer (some ⟨q, 0, none⟩), .int .i64 jn, .int .i64 frm, .agg #[.int .i64 4, .int .i64 0, .int .i64 0, .int .i64 0, .int .i64 0, .int .i64 0, .int .i64 0, .int .i64 0, .int .i64 0, .int .i64 0, .bool true, .int .i64 0]] U fun e X' => e = .returned (.tuple #[]) ∧ DoneIs w X' B q v (v.tn.told (v.cx ls) jn true frm) (.returned (.tuple #[]))) := fun U hU => send_dec U (HC.out.below hU) hr ls jn true frm hm
  clear eJ eA hCW hos h mb hcj
  by_cases hst : st = 3
  · subst hst
    cases A with
    | false =>
      have HA : Hid (v.tn.doubted (v.cx ls) i ⟨kind, frm, dst, site, num, label, key, value, version, ask, yes, code⟩ = v.tn) := by show _ = _; rw [HDb.out]; rfl
      go_enter Tryd.func29, Tryd.ntmps29
      go_upto_region 1 with (fail)
      rw [← hW]
      clear hW
      go_upto_region 3 with (fail)
      have qc1 := fun d os => cell_regrown c1 d os
      have qc3 := fun d os => cell_regrown c3 d os
      have qb1 := fun d os => cell_regrown b1 d os
      refine wp_region_quiet_below (by kernel_rfl) (by kernel_rfl) ?_
      repeat (go_big_quiet_step ((exact Calls.regrown_of (HCt.out _ (below_regrown _ _ _)))))
      refine wpQuiet_nil ?_
      intro _ hw'
      obtain ⟨⟨dq, osq⟩, hw''⟩ := hw'
      subst hw''
      have bQ := below_regrown W dq osq
      obtain ⟨Z, eZ⟩ : ∃ Z, Z = Go.Sort.grow (Go.redrawn W dq) osq := ⟨_, rfl⟩
      rw [← eZ] at bQ ⊢
      clear eZ qc1 qc3 qb1 c1 c3 b1
      have hF := HSame.out Z bQ HA.out
      go_wp2
      exact bodyPost_end (v := .tuple #[]) (by simp [results, Tryd.results29, go_sem]) rfl hF
    | true =>
      have HA : Hid (v.tn.doubted (v.cx ls) i ⟨kind, frm, dst, site, num, label, key, value, version, ask, yes, code⟩ = v.tn.told (v.cx ls) jn true frm) := by show _ = _; rw [HDb.out]; rfl
      go_enter Tryd.func29, Tryd.ntmps29
      go_upto_region 1 with (fail)
      rw [← hW]
      clear hW
      go_upto_region 3 with (fail)
      have qc1 := fun d os => cell_regrown c1 d os
      have qc3 := fun d os => cell_regrown c3 d os
      have qb1 := fun d os => cell_regrown b1 d os
      refine wp_region_quiet_below (by kernel_rfl) (by kernel_rfl) ?_
      repeat (go_big_quiet_step ((exact Calls.regrown_of (HCt.out _ (below_regrown _ _ _)))))
      refine wpQuiet_nil ?_
      intro _ hw'
      obtain ⟨⟨dq, osq⟩, hw''⟩ := hw'
      subst hw''
      have bQ := below_regrown W dq osq
      obtain ⟨Z, eZ⟩ : ∃ Z, Z = Go.Sort.grow (Go.redrawn W dq) osq := ⟨_, rfl⟩
      rw [← eZ] at bQ ⊢
      clear eZ qc1 qc3 qb1 c1 c3 b1
      obtain ⟨D, eD⟩ : ∃ D : World → Prop, D = fun u => DoneIs w u B q v (v.tn.told (v.cx ls) jn true frm) (.returned (.tuple #[])) := ⟨_, rfl⟩
      have HD : Hid (∀ u, D u → DoneIs w u B q v (v.tn.told (v.cx ls) jn true frm) (.returned (.tuple #[]))) := fun u hu => by rw [eD] at hu; exact hu
      have HS2 : Hid (∀ U, Below Z.heap.size Z U → Calls Tryd.prog 49 #[.pointer (some ⟨q, 0, none⟩), .int .i64 jn, .int .i64 frm, .agg #[.int .i64 4, .int .i64 0, .int .i64 0, .int .i64 0, .int .i64 0, .int .i64 0, .int .i64 0, .int .i64 0, .int .i64 0, .int .i64 0, .bool true, .int .i64 0]] U fun e X' => e = .returned (.tuple #[]) ∧ D X') := fun U hU => by
        refine (HS.out U (nT bQ hU)).mono ?_
        rintro e u ⟨rfl, hu⟩
        exact ⟨rfl, by rw [eD]; exact hu⟩
      have KC2 : Hid (∀ U, Below Z.heap.size Z U → U.cell? ⟨g, i * 6, none⟩ = some (.int .i64 jn) ∧ U.cell? ⟨X.heap.size, 1, none⟩ = some (.int .i64 frm)) := fun U hU => KC.out U (nT bQ hU)
      clear eD HS KC
      go_upto_region 4 with (fail)
      refine wp_region_inv (by kernel_rfl) [30, 31, 32, 33, 34, 35, 36, 37, 38] (fun L T u => True ∧ (L 0 = true → T 30 = .pointer (some ⟨q, 0, none⟩)) ∧ (L 1 = true → T 31 = .pointer (some ⟨g, i * 6, none⟩)) ∧ (L 2 = true → T 32 = .pointer (some ⟨g, i * 6, none⟩)) ∧ (L 3 = true → T 33 = .pointer (some ⟨g, i * 6, none⟩)) ∧ (L 4 = true → T 34 = .int .i64 jn) ∧ (L 5 = true → T 35 = .pointer (some ⟨X.heap.size, 1, none⟩)) ∧ (L 6 = true → T 36 = .int .i64 frm) ∧ (L 7 = true → T 37 = .agg #[.int .i64 4, .int .i64 0, .int .i64 0, .int .i64 0, .int .i64 0, .int .i64 0, .int .i64 0, .int .i64 0, .int .i64 0, .int .i64 0, .bool true, .int .i64 0]) ∧ (L 8 = false → Below Z.heap.size Z u) ∧ (L 8 = true → D u)) (by decide) (by kernel_rfl) (by kernel_rfl) ?_ ?_ ?_
      · exact ⟨trivial, nofun, nofun, nofun, nofun, nofun, nofun, nofun, nofun, fun _ => (Below.refl _ _).drew, nofun⟩
      · refine ⟨?_, ?_, ?_, ?_, ?_, ?_, ?_, ?_, ?_, trivial⟩
        · rintro L T u hd hk hcl ⟨hb, p0, p1, p2, p3, p4, p5, p6, p7, c1, c2⟩ K hK
          simp only [fr, Act.put, List.setIfInBounds_toArray, List.set_cons_zero, List.set_cons_succ, updO] at hK ⊢
          simp [Region.binds] at hd
          rw [if_pos (by rfl)]
          simp only [Oper.wpv]
          go_simp
          exact hK _ _ ⟨hb, fun _ => rfl, p1, p2, p3, p4, p5, p6, p7, c1, c2⟩
        · rintro L T u hd hk hcl ⟨hb, p0, p1, p2, p3, p4, p5, p6, p7, c1, c2⟩ K hK
          simp only [fr, Act.put, List.setIfInBounds_toArray, List.set_cons_zero, List.set_cons_succ, updO] at hK ⊢
          simp [Region.binds] at hd
          rw [if_pos (by rfl)]
          simp only [Oper.wpv]
          go_simp
          exact hK _ _ ⟨hb, p0, fun _ => rfl, p2, p3, p4, p5, p6, p7, c1, c2⟩
        · rintro L T u hd hk hcl ⟨hb, p0, p1, p2, p3, p4, p5, p6, p7, c1, c2⟩ K hK
          simp only [fr, Act.put, List.setIfInBounds_toArray, List.set_cons_zero, List.set_cons_succ, updO] at hK ⊢
          simp [Region.binds] at hd
          have g1 := p1 (by simp [hd])
          rw [if_pos (by rfl)]
          simp only [Oper.wpv]
          go_simp
          exact hK _ _ ⟨hb, p0, p1, fun _ => rfl, p3, p4, p5, p6, p7, c1, c2⟩
        · rintro L T u hd hk hcl ⟨hb, p0, p1, p2, p3, p4, p5, p6, p7, c1, c2⟩ K hK
          simp only [fr, Act.put, List.setIfInBounds_toArray, List.set_cons_zero, List.set_cons_succ, updO] at hK ⊢
          simp [Region.binds] at hd
          have g2 := p2 (by simp [hd])
          rw [if_pos (by rfl)]
          simp only [Oper.wpv]
          go_simp
          exact hK _ _ ⟨hb, p0, p1, p2, fun _ => rfl, p4, p5, p6, p7, c1, c2⟩
        · rintro L T u hd hk hcl ⟨hb, p0, p1, p2, p3, p4, p5, p6, p7, c1, c2⟩ K hK
          simp only [fr, Act.put, List.setIfInBounds_toArray, List.set_cons_zero, List.set_cons_succ, updO] at hK ⊢
          simp [Region.binds] at hd
          have g3 := p3 (by simp [hd])
          have k8 := hcl 8 _ rfl
          simp [Region.binds] at k8
          have hE : L 8 = false := by cases h : L 8 with | false => rfl | true => have a8 := k8 h; simp [hk] at a8
          obtain ⟨xn, xf⟩ := KC2.out u (c1 hE)
          rw [if_pos (by rfl)]
          simp only [Oper.wpv]
          go_simp
          exact hK _ _ ⟨hb, p0, p1, p2, p3, fun _ => rfl, p5, p6, p7, c1, c2⟩
        · rintro L T u hd hk hcl ⟨hb, p0, p1, p2, p3, p4, p5, p6, p7, c1, c2⟩ K hK
          simp only [fr, Act.put, List.setIfInBounds_toArray, List.set_cons_zero, List.set_cons_succ, updO] at hK ⊢
          simp [Region.binds] at hd
          rw [if_pos (by rfl)]
          simp only [Oper.wpv]
          go_simp
          exact hK _ _ ⟨hb, p0, p1, p2, p3, p4, fun _ => rfl, p6, p7, c1, c2⟩
        · rintro L T u hd hk hcl ⟨hb, p0, p1, p2, p3, p4, p5, p6, p7, c1, c2⟩ K hK
          simp only [fr, Act.put, List.setIfInBounds_toArray, List.set_cons_zero, List.set_cons_succ, updO] at hK ⊢
          simp [Region.binds] at hd
          have g5 := p5 (by simp [hd])
          have k8 := hcl 8 _ rfl
          simp [Region.binds] at k8
          have hE : L 8 = false := by cases h : L 8 with | false => rfl | true => have a8 := k8 h; simp [hk] at a8
          obtain ⟨xn, xf⟩ := KC2.out u (c1 hE)
          rw [if_pos (by rfl)]
          simp only [Oper.wpv]
          go_simp
          exact hK _ _ ⟨hb, p0, p1, p2, p3, p4, p5, fun _ => rfl, p7, c1, c2⟩
        · rintro L T u hd hk hcl ⟨hb, p0, p1, p2, p3, p4, p5, p6, p7, c1, c2⟩ K hK
          simp only [fr, Act.put, List.setIfInBounds_toArray, List.set_cons_zero, List.set_cons_succ, updO] at hK ⊢
          simp [Region.binds] at hd
          rw [if_pos (by rfl)]
          simp only [Oper.wpv]
          go_simp
          exact hK _ _ ⟨hb, p0, p1, p2, p3, p4, p5, p6, fun _ => rfl, c1, c2⟩
        · rintro L T u hd hk hcl ⟨hb, p0, p1, p2, p3, p4, p5, p6, p7, c1, c2⟩ K hK
          simp only [fr, Act.put, List.setIfInBounds_toArray, List.set_cons_zero, List.set_cons_succ, updO] at hK ⊢
          simp [Region.binds] at hd
          have g0 := p0 (by simp [hd])
          have g4 := p4 (by simp [hd])
          have g6 := p6 (by simp [hd])
          have g7 := p7 (by simp [hd])
          have hE : L 8 = false := hk
          rw [if_pos (by rfl)]
          simp only [Oper.wpv]
          go_simp
          refine (HS2.out _ (c1 hE)).mono ?_
          rintro e u1 ⟨rfl, hg⟩
          exact hK _ _ ⟨hb, p0, p1, p2, p3, p4, p5, p6, p7, fun h => Bool.noConfusion (show true = false from h), fun _ => hg⟩
      · rintro L T u hl ⟨hb, p0, p1, p2, p3, p4, p5, p6, p7, c1, c2⟩
        simp only [fr, Act.put, List.setIfInBounds_toArray, List.set_cons_zero, List.set_cons_succ]
        have hH := HD.out _ (c2 (hl 8 (by decide)))
        clear p0 p1 p2 p3 p4 p5 p6 p7 c1 c2
        rw [← HA.out] at hH
        exact bodyPost_end (v := .tuple #[]) (by simp [results, Tryd.results29, go_sem]) rfl hH
  · have hst' : (st == 3) = false := by simpa using hst
    have HA : Hid (v.tn.doubted (v.cx ls) i ⟨kind, frm, dst, site, num, label, key, value, version, ask, yes, code⟩ = v.tn) := by show _ = _; rw [HDb.out]; simp [hst]
    clear hst
    go_enter Tryd.func29, Tryd.ntmps29
    go_upto_region 1 with (fail)
    rw [← hW]
    clear hW
    go_upto_region 3 with (fail)
    have qc1 := fun d os => cell_regrown c1 d os
    have qc3 := fun d os => cell_regrown c3 d os
    have qb1 := fun d os => cell_regrown b1 d os
    refine wp_region_quiet_below (by kernel_rfl) (by kernel_rfl) ?_
    repeat (go_big_quiet_step ((exact Calls.regrown_of (HCt.out _ (below_regrown _ _ _)))))
    refine wpQuiet_nil ?_
    intro _ hw'
    obtain ⟨⟨dq, osq⟩, hw''⟩ := hw'
    subst hw''
    have bQ := below_regrown W dq osq
    obtain ⟨Z, eZ⟩ : ∃ Z, Z = Go.Sort.grow (Go.redrawn W dq) osq := ⟨_, rfl⟩
    rw [← eZ] at bQ ⊢
    clear eZ qc1 qc3 qb1 c1 c3 b1
    have hF := HSame.out Z bQ HA.out
    go_wp2
    exact bodyPost_end (v := .tuple #[]) (by simp [results, Tryd.results29, go_sem]) rfl hF
end Go.Proofs.YtdjnaahkcnklhabDoor.Co
/- Contracts of the small functions of bounds and wire: Site, Txn, Label, isCode, truth. -/
namespace Go.Proofs.YtdjnaahkcnklhabDoor
open Go.ChangeShapes Go.WideShapes Go.ChangeAt Go.RowKit

theorem wrap_i64 {n : Int} (h1 : -9223372036854775808 ≤ n) (h2 : n ≤ 9223372036854775807) : IntKind.i64.wrap n = n := by
  simp [IntKind.wrap, IntKind.bits, IntKind.signed]; omega

theorem site_any (s p : Int) (a : Option Addr) (len cap : Nat) (n : Int) (w : World) (hs : 1 ≤ s ∧ s ≤ 4) :
    Calls Tryd.prog 40 #[.agg #[.int .i64 s, .slice a len cap, .int .i64 p], .int .i64 n] w fun e w' => e = .returned (.bool (inR n 0 (s - 1))) ∧ Below w.heap.size w w' := by
  have hA : Below w.heap.size w (w.alloc (.cells #[.int .i64 s, .slice a len cap, .int .i64 p] 25)) := (Below.refl _ _).alloc (Nat.le_refl _) _
  obtain ⟨h1, h2⟩ := hs
  go_enter Tryd.func40, Tryd.ntmps40
  go_wp2_with (go_at_call 18; refine (within_any _ _ _ _).mono ?_; rintro e w1 ⟨rfl, hu1⟩; rw [hu1]; clear hu1)
  go_ret
  exact ⟨rfl, hA⟩

theorem place_any (s p : Int) (a : Option Addr) (len cap : Nat) (l : Int) (w : World) (hl : len ≤ 6) :
    Calls Tryd.prog 39 #[.agg #[.int .i64 s, .slice a len cap, .int .i64 p], .int .i64 l] w fun e w' => e = .returned (.bool (plc l len)) ∧ Below w.heap.size w w' := by
  have hA : Below w.heap.size w (w.alloc (.cells #[.int .i64 s, .slice a len cap, .int .i64 p] 25)) := (Below.refl _ _).alloc (Nat.le_refl _) _
  have h2 : (len : Int) ≤ 6 := by omega
  have e : plc l len = inR l 0 ((len : Int) - 1) := by unfold plc inR; rw [Bool.eq_iff_iff]; simp; omega
  rw [e]
  clear e
  go_enter Tryd.func39, Tryd.ntmps39
  go_wp2_with (go_at_call 18; refine (within_any _ _ _ _).mono ?_; rintro e w1 ⟨rfl, hu1⟩; rw [hu1]; clear hu1)
  go_ret
  exact ⟨rfl, hA⟩

theorem txn_any (site num s : Int) (w : World) (hs : 1 ≤ s ∧ s ≤ 4) :
    Calls Tryd.prog 78 #[.agg #[.int .i64 site, .int .i64 num], .int .i64 s] w fun e w' => e = .returned (.bool (txnOK s site num)) ∧ Below w.heap.size w w' := by
  have hA : Below w.heap.size w (w.alloc (.cells #[.int .i64 site, .int .i64 num] 44)) := (Below.refl _ _).alloc (Nat.le_refl _) _
  obtain ⟨h1, h2⟩ := hs
  unfold txnOK
  cases hr : inR site 0 (s - 1) with
  | false =>
    go_enter Tryd.func78, Tryd.ntmps78
    go_wp2_with (go_at_call 18; refine (within_any _ _ _ _).mono ?_; rintro e w1 ⟨rfl, hu1⟩; rw [hu1]; clear hu1)
    go_ret
    exact ⟨rfl, hA⟩
  | true =>
    go_enter Tryd.func78, Tryd.ntmps78
    go_wp2_with (go_at_call 18; refine (within_any _ _ _ _).mono ?_; rintro e w1 ⟨rfl, hu1⟩; rw [hu1]; clear hu1)
    go_ret
    exact ⟨by simp, hA⟩

theorem isCode_any (n : Int) (w : World) :
    Calls Tryd.prog 90 #[.int .i64 n] w fun e w' => e = .returned (.bool (isCd n)) ∧ w' = w := by
  go_enter Tryd.func90, Tryd.ntmps90
  go_wp2
  all_goals go_ret
  all_goals exact ⟨ret_bool (by unfold isCd; simp [*]), rfl⟩

theorem truth_any (b : Bool) (w : World) :
    Calls Tryd.prog 89 #[.bool b] w fun e w' => e = .returned (.int .i64 (bit b)) ∧ w' = w := by
  cases b
  all_goals
    go_enter Tryd.func89, Tryd.ntmps89
    go_wp2
    go_ret
    exact ⟨rfl, rfl⟩
end Go.Proofs.YtdjnaahkcnklhabDoor
/- The contract of wire's messageParts: parts of a message as eight numbers. -/
namespace Go.Proofs.YtdjnaahkcnklhabDoor
open Go.ChangeShapes Go.WideShapes Go.ChangeAt Go.RowKit

theorem idxP0 (v0 v1 v2 v3 v4 v5 v6 v7 : Int) (w : World) : (Instr.index 125 (.agg #[.int .i64 v0, .int .i64 v1, .int .i64 v2, .int .i64 v3, .int .i64 v4, .int .i64 v5, .int .i64 v6, .int .i64 v7]) (.int .i64 0)).run Tryd.prog w = .ok (.int .i64 v0) w := by kernel_rfl
theorem idxP1 (v0 v1 v2 v3 v4 v5 v6 v7 : Int) (w : World) : (Instr.index 125 (.agg #[.int .i64 v0, .int .i64 v1, .int .i64 v2, .int .i64 v3, .int .i64 v4, .int .i64 v5, .int .i64 v6, .int .i64 v7]) (.int .i64 1)).run Tryd.prog w = .ok (.int .i64 v1) w := by kernel_rfl
theorem idxP2 (v0 v1 v2 v3 v4 v5 v6 v7 : Int) (w : World) : (Instr.index 125 (.agg #[.int .i64 v0, .int .i64 v1, .int .i64 v2, .int .i64 v3, .int .i64 v4, .int .i64 v5, .int .i64 v6, .int .i64 v7]) (.int .i64 2)).run Tryd.prog w = .ok (.int .i64 v2) w := by kernel_rfl
theorem idxP3 (v0 v1 v2 v3 v4 v5 v6 v7 : Int) (w : World) : (Instr.index 125 (.agg #[.int .i64 v0, .int .i64 v1, .int .i64 v2, .int .i64 v3, .int .i64 v4, .int .i64 v5, .int .i64 v6, .int .i64 v7]) (.int .i64 3)).run Tryd.prog w = .ok (.int .i64 v3) w := by kernel_rfl
theorem idxP4 (v0 v1 v2 v3 v4 v5 v6 v7 : Int) (w : World) : (Instr.index 125 (.agg #[.int .i64 v0, .int .i64 v1, .int .i64 v2, .int .i64 v3, .int .i64 v4, .int .i64 v5, .int .i64 v6, .int .i64 v7]) (.int .i64 4)).run Tryd.prog w = .ok (.int .i64 v4) w := by kernel_rfl
theorem idxP5 (v0 v1 v2 v3 v4 v5 v6 v7 : Int) (w : World) : (Instr.index 125 (.agg #[.int .i64 v0, .int .i64 v1, .int .i64 v2, .int .i64 v3, .int .i64 v4, .int .i64 v5, .int .i64 v6, .int .i64 v7]) (.int .i64 5)).run Tryd.prog w = .ok (.int .i64 v5) w := by kernel_rfl
theorem idxP6 (v0 v1 v2 v3 v4 v5 v6 v7 : Int) (w : World) : (Instr.index 125 (.agg #[.int .i64 v0, .int .i64 v1, .int .i64 v2, .int .i64 v3, .int .i64 v4, .int .i64 v5, .int .i64 v6, .int .i64 v7]) (.int .i64 6)).run Tryd.prog w = .ok (.int .i64 v6) w := by kernel_rfl
theorem idxP7 (v0 v1 v2 v3 v4 v5 v6 v7 : Int) (w : World) : (Instr.index 125 (.agg #[.int .i64 v0, .int .i64 v1, .int .i64 v2, .int .i64 v3, .int .i64 v4, .int .i64 v5, .int .i64 v6, .int .i64 v7]) (.int .i64 7)).run Tryd.prog w = .ok (.int .i64 v7) w := by kernel_rfl
theorem idxA0 (v0 v1 v2 v3 v4 v5 v6 v7 : Int) (w : World) : (Instr.index 124 (.agg #[.int .i64 v0, .int .i64 v1, .int .i64 v2, .int .i64 v3, .int .i64 v4, .int .i64 v5, .int .i64 v6, .int .i64 v7]) (.int .i64 0)).run Tryd.prog w = .ok (.int .i64 v0) w := by kernel_rfl
theorem idxA1 (v0 v1 v2 v3 v4 v5 v6 v7 : Int) (w : World) : (Instr.index 124 (.agg #[.int .i64 v0, .int .i64 v1, .int .i64 v2, .int .i64 v3, .int .i64 v4, .int .i64 v5, .int .i64 v6, .int .i64 v7]) (.int .i64 1)).run Tryd.prog w = .ok (.int .i64 v1) w := by kernel_rfl
theorem idxA2 (v0 v1 v2 v3 v4 v5 v6 v7 : Int) (w : World) : (Instr.index 124 (.agg #[.int .i64 v0, .int .i64 v1, .int .i64 v2, .int .i64 v3, .int .i64 v4, .int .i64 v5, .int .i64 v6, .int .i64 v7]) (.int .i64 2)).run Tryd.prog w = .ok (.int .i64 v2) w := by kernel_rfl
theorem idxA3 (v0 v1 v2 v3 v4 v5 v6 v7 : Int) (w : World) : (Instr.index 124 (.agg #[.int .i64 v0, .int .i64 v1, .int .i64 v2, .int .i64 v3, .int .i64 v4, .int .i64 v5, .int .i64 v6, .int .i64 v7]) (.int .i64 3)).run Tryd.prog w = .ok (.int .i64 v3) w := by kernel_rfl
theorem idxA4 (v0 v1 v2 v3 v4 v5 v6 v7 : Int) (w : World) : (Instr.index 124 (.agg #[.int .i64 v0, .int .i64 v1, .int .i64 v2, .int .i64 v3, .int .i64 v4, .int .i64 v5, .int .i64 v6, .int .i64 v7]) (.int .i64 4)).run Tryd.prog w = .ok (.int .i64 v4) w := by kernel_rfl
theorem idxA5 (v0 v1 v2 v3 v4 v5 v6 v7 : Int) (w : World) : (Instr.index 124 (.agg #[.int .i64 v0, .int .i64 v1, .int .i64 v2, .int .i64 v3, .int .i64 v4, .int .i64 v5, .int .i64 v6, .int .i64 v7]) (.int .i64 5)).run Tryd.prog w = .ok (.int .i64 v5) w := by kernel_rfl
theorem idxA6 (v0 v1 v2 v3 v4 v5 v6 v7 : Int) (w : World) : (Instr.index 124 (.agg #[.int .i64 v0, .int .i64 v1, .int .i64 v2, .int .i64 v3, .int .i64 v4, .int .i64 v5, .int .i64 v6, .int .i64 v7]) (.int .i64 6)).run Tryd.prog w = .ok (.int .i64 v6) w := by kernel_rfl
theorem idxA7 (v0 v1 v2 v3 v4 v5 v6 v7 : Int) (w : World) : (Instr.index 124 (.agg #[.int .i64 v0, .int .i64 v1, .int .i64 v2, .int .i64 v3, .int .i64 v4, .int .i64 v5, .int .i64 v6, .int .i64 v7]) (.int .i64 7)).run Tryd.prog w = .ok (.int .i64 v7) w := by kernel_rfl

theorem messageParts_any (m : MV) (w : World) :
    Calls Tryd.prog 77 #[m.val] w fun e w' => e = .returned (.agg #[.int .i64 m.label, .int .i64 m.key, .int .i64 m.value, .int .i64 m.version, .int .i64 m.ask, .int .i64 (bit m.yes), .int .i64 m.code, .int .i64 0]) ∧ Below w.heap.size w w' := by
  obtain ⟨kind, frm, dst, site, num, label, key, value, version, ask, yes, code⟩ := m
  simp only [MV.val]
  obtain ⟨W, hW⟩ : ∃ W : World, W = (w.alloc (.cells #[.int .i64 kind, .int .i64 frm, .int .i64 dst, .int .i64 site, .int .i64 num, .int .i64 label, .int .i64 key, .int .i64 value, .int .i64 version, .int .i64 ask, .bool yes, .int .i64 code] 46)).alloc (.cells #[.int .i64 0, .int .i64 0, .int .i64 0, .int .i64 0, .int .i64 0, .int .i64 0, .int .i64 0, .int .i64 0] 125) := ⟨_, rfl⟩
  have d4 : W.cell? ⟨w.heap.size, 5, none⟩ = some (.int .i64 label) := by rw [hW]; go_simp
  have d5 : W.cell? ⟨w.heap.size, 6, none⟩ = some (.int .i64 key) := by rw [hW]; go_simp
  have d6 : W.cell? ⟨w.heap.size, 7, none⟩ = some (.int .i64 value) := by rw [hW]; go_simp
  have d7 : W.cell? ⟨w.heap.size, 8, none⟩ = some (.int .i64 version) := by rw [hW]; go_simp
  have d8 : W.cell? ⟨w.heap.size, 9, none⟩ = some (.int .i64 ask) := by rw [hW]; go_simp
  have d9 : W.cell? ⟨w.heap.size, 10, none⟩ = some (.bool yes) := by rw [hW]; go_simp
  have d10 : W.cell? ⟨w.heap.size, 11, none⟩ = some (.int .i64 code) := by rw [hW]; go_simp
  go_enter Tryd.func77, Tryd.ntmps77
  go_wp2
  rw [← hW]
  go_region_held3 (fun w' => w'.cell? ⟨w.heap.size, 5, none⟩ = some (.int .i64 label) ∧ w'.cell? ⟨w.heap.size, 6, none⟩ = some (.int .i64 key) ∧ w'.cell? ⟨w.heap.size, 7, none⟩ = some (.int .i64 value) ∧ w'.cell? ⟨w.heap.size, 8, none⟩ = some (.int .i64 version) ∧ w'.cell? ⟨w.heap.size, 9, none⟩ = some (.int .i64 ask) ∧ w'.cell? ⟨w.heap.size, 10, none⟩ = some (.bool yes) ∧ w'.cell? ⟨w.heap.size, 11, none⟩ = some (.int .i64 code))
     (go_keep)
     ((go_at_call 89; refine (truth_any _ _).mono ?_; rintro e u1 ⟨rfl, rfl⟩))
  all_goals
    go_wp2
    refine bodyPost_ret (v := .agg #[.int .i64 label, .int .i64 key, .int .i64 value, .int .i64 version, .int .i64 ask, .int .i64 (bit yes), .int .i64 code, .int .i64 0]) (by simp [results, Tryd.results77, go_sem]) rfl ⟨rfl, ?_⟩
    exact (((Below.refl _ _).alloc (Nat.le_refl _) _).alloc (by simp) _).drew

set_option maxRecDepth 100000 in
set_option maxHeartbeats 1000000 in
/-- Whether all that is not 0 is among what there is. -/
theorem hasAll_any (h0 h1 h2 h3 h4 h5 h6 h7 : Bool) (p0 p1 p2 p3 p4 p5 p6 p7 : Int) (w : World) :
    Calls Tryd.prog 80 #[.agg #[.bool h0, .bool h1, .bool h2, .bool h3, .bool h4, .bool h5, .bool h6, .bool h7], .agg #[.int .i64 p0, .int .i64 p1, .int .i64 p2, .int .i64 p3, .int .i64 p4, .int .i64 p5, .int .i64 p6, .int .i64 p7]] w
      fun e w' => e = .returned (.bool (hasAll [h0, h1, h2, h3, h4, h5, h6, h7] [p0, p1, p2, p3, p4, p5, p6, p7])) ∧ Below w.heap.size w w' := by
  obtain ⟨W, hW⟩ : ∃ W : World, W = (w.alloc (.cells #[.bool h0, .bool h1, .bool h2, .bool h3, .bool h4, .bool h5, .bool h6, .bool h7] 131)).alloc (.cells #[.int .i64 p0, .int .i64 p1, .int .i64 p2, .int .i64 p3, .int .i64 p4, .int .i64 p5, .int .i64 p6, .int .i64 p7] 125) := ⟨_, rfl⟩
  have hB : Below w.heap.size w W := by rw [hW]; exact ((Below.refl _ _).alloc (Nat.le_refl _) _).alloc (by simp) _
  have b0 : W.cell? ⟨w.heap.size, 0, none⟩ = some (.bool h0) := by rw [hW]; go_simp
  have b1 : W.cell? ⟨w.heap.size, 1, none⟩ = some (.bool h1) := by rw [hW]; go_simp
  have b2 : W.cell? ⟨w.heap.size, 2, none⟩ = some (.bool h2) := by rw [hW]; go_simp
  have b3 : W.cell? ⟨w.heap.size, 3, none⟩ = some (.bool h3) := by rw [hW]; go_simp
  have b4 : W.cell? ⟨w.heap.size, 4, none⟩ = some (.bool h4) := by rw [hW]; go_simp
  have b5 : W.cell? ⟨w.heap.size, 5, none⟩ = some (.bool h5) := by rw [hW]; go_simp
  have b6 : W.cell? ⟨w.heap.size, 6, none⟩ = some (.bool h6) := by rw [hW]; go_simp
  have b7 : W.cell? ⟨w.heap.size, 7, none⟩ = some (.bool h7) := by rw [hW]; go_simp
  obtain ⟨hs, ehs⟩ : ∃ hs, hs = [h0, h1, h2, h3, h4, h5, h6, h7] := ⟨_, rfl⟩
  obtain ⟨ps, eps⟩ : ∃ ps, ps = [p0, p1, p2, p3, p4, p5, p6, p7] := ⟨_, rfl⟩
  rw [← ehs, ← eps]
  have EH : Hid (hs = [h0, h1, h2, h3, h4, h5, h6, h7]) := ehs
  have EP : Hid (ps = [p0, p1, p2, p3, p4, p5, p6, p7]) := eps
  clear ehs eps
  go_enter Tryd.func80, Tryd.ntmps80
  go_wp2
  rw [← hW]
  clear hW
  go_loopw [8] (fun i wr => ∃ k : Nat, k ≤ 8 ∧ i = .int .i64 k ∧ Hid (hasAll hs ps = hasAll (hs.drop k) (ps.drop k)) ∧ wr = W) (fun i _ => 8 - (intOf i).toNat)
  case atStart => exact ⟨0, by omega, rfl, rfl, rfl⟩
  case round =>
    obtain ⟨k, hk, rfl, hat, rfl⟩ := hrel
    rcases (by omega : k = 0 ∨ k = 1 ∨ k = 2 ∨ k = 3 ∨ k = 4 ∨ k = 5 ∨ k = 6 ∨ k = 7 ∨ k = 8) with rfl | rfl | rfl | rfl | rfl | rfl | rfl | rfl | rfl
    · have hx := idxP0 p0 p1 p2 p3 p4 p5 p6 p7
      by_cases e : p0 = 0
      · subst e
        have hn : Hid (hasAll hs ps = hasAll (hs.drop 1) (ps.drop 1)) := by show hasAll hs ps = _; rw [hat.out, EH.out, EP.out]; simp [hasAll]
        clear hat
        go_wp2
        go_roundw
        case rel => exact ⟨1, by omega, by go_num, hn, by first | rfl | trivial⟩
        case measure => simp [intOf]
      · cases hb : h0 with
        | true =>
          have hn : Hid (hasAll hs ps = hasAll (hs.drop 1) (ps.drop 1)) := by show hasAll hs ps = _; rw [hat.out, EH.out, EP.out]; simp [hasAll, hb]
          rw [hb] at b0
          clear hat
          go_wp2
          go_roundw
          case rel => exact ⟨1, by omega, by go_num, hn, by first | rfl | trivial⟩
          case measure => simp [intOf]
        | false =>
          have hf : Hid (hasAll hs ps = false) := by show hasAll hs ps = _; rw [hat.out, EH.out, EP.out]; simp [hasAll, e, hb]
          rw [hb] at b0
          clear hat
          go_wp2
          go_ret
          exact ⟨ret_bool hf.out.symm, hB⟩
    · have hx := idxP1 p0 p1 p2 p3 p4 p5 p6 p7
      by_cases e : p1 = 0
      · subst e
        have hn : Hid (hasAll hs ps = hasAll (hs.drop 2) (ps.drop 2)) := by show hasAll hs ps = _; rw [hat.out, EH.out, EP.out]; simp [hasAll]
        clear hat
        go_wp2
        go_roundw
        case rel => exact ⟨2, by omega, by go_num, hn, by first | rfl | trivial⟩
        case measure => simp [intOf]
      · cases hb : h1 with
        | true =>
          have hn : Hid (hasAll hs ps = hasAll (hs.drop 2) (ps.drop 2)) := by show hasAll hs ps = _; rw [hat.out, EH.out, EP.out]; simp [hasAll, hb]
          rw [hb] at b1
          clear hat
          go_wp2
          go_roundw
          case rel => exact ⟨2, by omega, by go_num, hn, by first | rfl | trivial⟩
          case measure => simp [intOf]
        | false =>
          have hf : Hid (hasAll hs ps = false) := by show hasAll hs ps = _; rw [hat.out, EH.out, EP.out]; simp [hasAll, e, hb]
          rw [hb] at b1
          clear hat
          go_wp2
          go_ret
          exact ⟨ret_bool hf.out.symm, hB⟩
    · have hx := idxP2 p0 p1 p2 p3 p4 p5 p6 p7
      by_cases e : p2 = 0
      · subst e
        have hn : Hid (hasAll hs ps = hasAll (hs.drop 3) (ps.drop 3)) := by show hasAll hs ps = _; rw [hat.out, EH.out, EP.out]; simp [hasAll]
        clear hat
        go_wp2
        go_roundw
        case rel => exact ⟨3, by omega, by go_num, hn, by first | rfl | trivial⟩
        case measure => simp [intOf]
      · cases hb : h2 with
        | true =>
          have hn : Hid (hasAll hs ps = hasAll (hs.drop 3) (ps.drop 3)) := by show hasAll hs ps = _; rw [hat.out, EH.out, EP.out]; simp [hasAll, hb]
          rw [hb] at b2
          clear hat
          go_wp2
          go_roundw
          case rel => exact ⟨3, by omega, by go_num, hn, by first | rfl | trivial⟩
          case measure => simp [intOf]
        | false =>
          have hf : Hid (hasAll hs ps = false) := by show hasAll hs ps = _; rw [hat.out, EH.out, EP.out]; simp [hasAll, e, hb]
          rw [hb] at b2
          clear hat
          go_wp2
          go_ret
          exact ⟨ret_bool hf.out.symm, hB⟩
    · have hx := idxP3 p0 p1 p2 p3 p4 p5 p6 p7
      by_cases e : p3 = 0
      · subst e
        have hn : Hid (hasAll hs ps = hasAll (hs.drop 4) (ps.drop 4)) := by show hasAll hs ps = _; rw [hat.out, EH.out, EP.out]; simp [hasAll]
        clear hat
        go_wp2
        go_roundw
        case rel => exact ⟨4, by omega, by go_num, hn, by first | rfl | trivial⟩
        case measure => simp [intOf]
      · cases hb : h3 with
        | true =>
          have hn : Hid (hasAll hs ps = hasAll (hs.drop 4) (ps.drop 4)) := by show hasAll hs ps = _; rw [hat.out, EH.out, EP.out]; simp [hasAll, hb]
          rw [hb] at b3
          clear hat
          go_wp2
          go_roundw
          case rel => exact ⟨4, by omega, by go_num, hn, by first | rfl | trivial⟩
          case measure => simp [intOf]
        | false =>
          have hf : Hid (hasAll hs ps = false) := by show hasAll hs ps = _; rw [hat.out, EH.out, EP.out]; simp [hasAll, e, hb]
          rw [hb] at b3
          clear hat
          go_wp2
          go_ret
          exact ⟨ret_bool hf.out.symm, hB⟩
    · have hx := idxP4 p0 p1 p2 p3 p4 p5 p6 p7
      by_cases e : p4 = 0
      · subst e
        have hn : Hid (hasAll hs ps = hasAll (hs.drop 5) (ps.drop 5)) := by show hasAll hs ps = _; rw [hat.out, EH.out, EP.out]; simp [hasAll]
        clear hat
        go_wp2
        go_roundw
        case rel => exact ⟨5, by omega, by go_num, hn, by first | rfl | trivial⟩
        case measure => simp [intOf]
      · cases hb : h4 with
        | true =>
          have hn : Hid (hasAll hs ps = hasAll (hs.drop 5) (ps.drop 5)) := by show hasAll hs ps = _; rw [hat.out, EH.out, EP.out]; simp [hasAll, hb]
          rw [hb] at b4
          clear hat
          go_wp2
          go_roundw
          case rel => exact ⟨5, by omega, by go_num, hn, by first | rfl | trivial⟩
          case measure => simp [intOf]
        | false =>
          have hf : Hid (hasAll hs ps = false) := by show hasAll hs ps = _; rw [hat.out, EH.out, EP.out]; simp [hasAll, e, hb]
          rw [hb] at b4
          clear hat
          go_wp2
          go_ret
          exact ⟨ret_bool hf.out.symm, hB⟩
    · have hx := idxP5 p0 p1 p2 p3 p4 p5 p6 p7
      by_cases e : p5 = 0
      · subst e
        have hn : Hid (hasAll hs ps = hasAll (hs.drop 6) (ps.drop 6)) := by show hasAll hs ps = _; rw [hat.out, EH.out, EP.out]; simp [hasAll]
        clear hat
        go_wp2
        go_roundw
        case rel => exact ⟨6, by omega, by go_num, hn, by first | rfl | trivial⟩
        case measure => simp [intOf]
      · cases hb : h5 with
        | true =>
          have hn : Hid (hasAll hs ps = hasAll (hs.drop 6) (ps.drop 6)) := by show hasAll hs ps = _; rw [hat.out, EH.out, EP.out]; simp [hasAll, hb]
          rw [hb] at b5
          clear hat
          go_wp2
          go_roundw
          case rel => exact ⟨6, by omega, by go_num, hn, by first | rfl | trivial⟩
          case measure => simp [intOf]
        | false =>
          have hf : Hid (hasAll hs ps = false) := by show hasAll hs ps = _; rw [hat.out, EH.out, EP.out]; simp [hasAll, e, hb]
          rw [hb] at b5
          clear hat
          go_wp2
          go_ret
          exact ⟨ret_bool hf.out.symm, hB⟩
    · have hx := idxP6 p0 p1 p2 p3 p4 p5 p6 p7
      by_cases e : p6 = 0
      · subst e
        have hn : Hid (hasAll hs ps = hasAll (hs.drop 7) (ps.drop 7)) := by show hasAll hs ps = _; rw [hat.out, EH.out, EP.out]; simp [hasAll]
        clear hat
        go_wp2
        go_roundw
        case rel => exact ⟨7, by omega, by go_num, hn, by first | rfl | trivial⟩
        case measure => simp [intOf]
      · cases hb : h6 with
        | true =>
          have hn : Hid (hasAll hs ps = hasAll (hs.drop 7) (ps.drop 7)) := by show hasAll hs ps = _; rw [hat.out, EH.out, EP.out]; simp [hasAll, hb]
          rw [hb] at b6
          clear hat
          go_wp2
          go_roundw
          case rel => exact ⟨7, by omega, by go_num, hn, by first | rfl | trivial⟩
          case measure => simp [intOf]
        | false =>
          have hf : Hid (hasAll hs ps = false) := by show hasAll hs ps = _; rw [hat.out, EH.out, EP.out]; simp [hasAll, e, hb]
          rw [hb] at b6
          clear hat
          go_wp2
          go_ret
          exact ⟨ret_bool hf.out.symm, hB⟩
    · have hx := idxP7 p0 p1 p2 p3 p4 p5 p6 p7
      by_cases e : p7 = 0
      · subst e
        have hn : Hid (hasAll hs ps = hasAll (hs.drop 8) (ps.drop 8)) := by show hasAll hs ps = _; rw [hat.out, EH.out, EP.out]; simp [hasAll]
        clear hat
        go_wp2
        go_roundw
        case rel => exact ⟨8, by omega, by go_num, hn, by first | rfl | trivial⟩
        case measure => simp [intOf]
      · cases hb : h7 with
        | true =>
          have hn : Hid (hasAll hs ps = hasAll (hs.drop 8) (ps.drop 8)) := by show hasAll hs ps = _; rw [hat.out, EH.out, EP.out]; simp [hasAll, hb]
          rw [hb] at b7
          clear hat
          go_wp2
          go_roundw
          case rel => exact ⟨8, by omega, by go_num, hn, by first | rfl | trivial⟩
          case measure => simp [intOf]
        | false =>
          have hf : Hid (hasAll hs ps = false) := by show hasAll hs ps = _; rw [hat.out, EH.out, EP.out]; simp [hasAll, e, hb]
          rw [hb] at b7
          clear hat
          go_wp2
          go_ret
          exact ⟨ret_bool hf.out.symm, hB⟩
    · go_wp2
      go_ret
      exact ⟨ret_bool (by rw [hat.out, EH.out, EP.out]; rfl), hB⟩

/-- The table of tops, as the program lays it. -/
def TopsAt (w : World) : Prop := w.cell? ⟨1, 0, none⟩ = some (.int .i64 5) ∧ w.cell? ⟨1, 1, none⟩ = some (.int .i64 7) ∧ w.cell? ⟨1, 2, none⟩ = some (.int .i64 1073741824) ∧ w.cell? ⟨1, 3, none⟩ = some (.int .i64 1048576) ∧ w.cell? ⟨1, 4, none⟩ = some (.int .i64 1048576) ∧ w.cell? ⟨1, 5, none⟩ = some (.int .i64 1) ∧ w.cell? ⟨1, 6, none⟩ = some (.int .i64 11) ∧ w.cell? ⟨1, 7, none⟩ = some (.int .i64 4)
theorem TopsAt.below {w w' : World} {B : Nat} (h : TopsAt w) (hb : Below B w w') (hB : 1 < B) : TopsAt w' := by
  unfold TopsAt at h ⊢
  simp only [fun i => hb.cell (p := ⟨1, i, none⟩) hB]
  exact h

set_option maxRecDepth 100000 in
set_option maxHeartbeats 1000000 in
theorem inBoundsW_any (s p : Int) (a : Option Addr) (len cap : Nat) (p0 p1 p2 p3 p4 p5 p6 p7 : Int) (w : World) (hl : len ≤ 6) (ht : TopsAt w) (hg : 1 < w.heap.size) :
    Calls Tryd.prog 79 #[.agg #[.int .i64 s, .slice a len cap, .int .i64 p], .agg #[.int .i64 p0, .int .i64 p1, .int .i64 p2, .int .i64 p3, .int .i64 p4, .int .i64 p5, .int .i64 p6, .int .i64 p7]] w
      fun e w' => e = .returned (.bool (partsOK len [p0, p1, p2, p3, p4, p5, p6, p7])) ∧ Below w.heap.size w w' := by
  obtain ⟨W, hW⟩ : ∃ W : World, W = (w.alloc (.cells #[.int .i64 s, .slice a len cap, .int .i64 p] 25)).alloc (.cells #[.int .i64 p0, .int .i64 p1, .int .i64 p2, .int .i64 p3, .int .i64 p4, .int .i64 p5, .int .i64 p6, .int .i64 p7] 125) := ⟨_, rfl⟩
  have hB : Below w.heap.size w W := by rw [hW]; exact ((Below.refl _ _).alloc (Nat.le_refl _) _).alloc (by simp) _
  have zW : W.heap.size = w.heap.size + 2 := by rw [hW]; simp
  have d0 : W.cell? ⟨w.heap.size, 0, none⟩ = some (.int .i64 s) := by rw [hW]; go_simp
  have d1 : W.cell? ⟨w.heap.size, 1, none⟩ = some (.slice a len cap) := by rw [hW]; go_simp
  have d2 : W.cell? ⟨w.heap.size, 2, none⟩ = some (.int .i64 p) := by rw [hW]; go_simp

  have b0 : W.cell? ⟨w.heap.size + 1, 0, none⟩ = some (.int .i64 p0) := by rw [hW]; go_simp
  have b1 : W.cell? ⟨w.heap.size + 1, 1, none⟩ = some (.int .i64 p1) := by rw [hW]; go_simp
  have b2 : W.cell? ⟨w.heap.size + 1, 2, none⟩ = some (.int .i64 p2) := by rw [hW]; go_simp
  have b3 : W.cell? ⟨w.heap.size + 1, 3, none⟩ = some (.int .i64 p3) := by rw [hW]; go_simp
  have b4 : W.cell? ⟨w.heap.size + 1, 4, none⟩ = some (.int .i64 p4) := by rw [hW]; go_simp
  have b5 : W.cell? ⟨w.heap.size + 1, 5, none⟩ = some (.int .i64 p5) := by rw [hW]; go_simp
  have b6 : W.cell? ⟨w.heap.size + 1, 6, none⟩ = some (.int .i64 p6) := by rw [hW]; go_simp
  have b7 : W.cell? ⟨w.heap.size + 1, 7, none⟩ = some (.int .i64 p7) := by rw [hW]; go_simp
  obtain ⟨t0, t1, t2, t3, t4, t5, t6, t7⟩ := (ht.below hB hg : TopsAt W)
  obtain ⟨qs, eqs⟩ : ∃ qs, qs = [p0, p1, p2, p3, p4, p5, p6, p7] := ⟨_, rfl⟩
  rw [← eqs]
  have EP : Hid (qs = [p0, p1, p2, p3, p4, p5, p6, p7]) := eqs
  clear eqs
  go_enter Tryd.func79, Tryd.ntmps79
  go_upto_region 1 with (fail)
  rw [← hW]
  clear hW
  go_wp2
  go_loopw [8] (fun i wr => ∃ k : Nat, k ≤ 8 ∧ i = .int .i64 k ∧ Hid (inTops topL qs = inTops (topL.drop k) (qs.drop k)) ∧ wr = W) (fun i _ => 8 - (intOf i).toNat)
  case atStart => exact ⟨0, by omega, rfl, rfl, rfl⟩
  case round =>
    obtain ⟨k, hk, rfl, hat, rfl⟩ := hrel
    rcases (by omega : k = 0 ∨ k = 1 ∨ k = 2 ∨ k = 3 ∨ k = 4 ∨ k = 5 ∨ k = 6 ∨ k = 7 ∨ k = 8) with rfl | rfl | rfl | rfl | rfl | rfl | rfl | rfl | rfl
    · have hx := idxA0 5 7 1073741824 1048576 1048576 1 11 4
      cases e : inR p0 0 5 with
      | true =>
        have hn : Hid (inTops topL qs = inTops (topL.drop 1) (qs.drop 1)) := by show inTops topL qs = _; rw [hat.out, EP.out]; simp [inTops, topL, e]
        clear hat
        go_wp2_with (go_at_call 18; refine (within_any _ _ _ _).mono ?_; rintro e u1 ⟨rfl, hu1⟩; rw [hu1]; clear hu1)
        go_roundw
        case rel => exact ⟨1, by omega, by go_num, hn, by first | rfl | trivial⟩
        case measure => simp [intOf]
      | false =>
        have hf : Hid (partsOK len qs = false) := by show partsOK len qs = _; unfold partsOK; rw [hat.out, EP.out]; simp [inTops, topL, e]
        clear hat
        go_wp2_with (go_at_call 18; refine (within_any _ _ _ _).mono ?_; rintro e u1 ⟨rfl, hu1⟩; rw [hu1]; clear hu1)
        go_ret
        exact ⟨ret_bool hf.out.symm, hB⟩
    · have hx := idxA1 5 7 1073741824 1048576 1048576 1 11 4
      cases e : inR p1 0 7 with
      | true =>
        have hn : Hid (inTops topL qs = inTops (topL.drop 2) (qs.drop 2)) := by show inTops topL qs = _; rw [hat.out, EP.out]; simp [inTops, topL, e]
        clear hat
        go_wp2_with (go_at_call 18; refine (within_any _ _ _ _).mono ?_; rintro e u1 ⟨rfl, hu1⟩; rw [hu1]; clear hu1)
        go_roundw
        case rel => exact ⟨2, by omega, by go_num, hn, by first | rfl | trivial⟩
        case measure => simp [intOf]
      | false =>
        have hf : Hid (partsOK len qs = false) := by show partsOK len qs = _; unfold partsOK; rw [hat.out, EP.out]; simp [inTops, topL, e]
        clear hat
        go_wp2_with (go_at_call 18; refine (within_any _ _ _ _).mono ?_; rintro e u1 ⟨rfl, hu1⟩; rw [hu1]; clear hu1)
        go_ret
        exact ⟨ret_bool hf.out.symm, hB⟩
    · have hx := idxA2 5 7 1073741824 1048576 1048576 1 11 4
      cases e : inR p2 0 1073741824 with
      | true =>
        have hn : Hid (inTops topL qs = inTops (topL.drop 3) (qs.drop 3)) := by show inTops topL qs = _; rw [hat.out, EP.out]; simp [inTops, topL, e]
        clear hat
        go_wp2_with (go_at_call 18; refine (within_any _ _ _ _).mono ?_; rintro e u1 ⟨rfl, hu1⟩; rw [hu1]; clear hu1)
        go_roundw
        case rel => exact ⟨3, by omega, by go_num, hn, by first | rfl | trivial⟩
        case measure => simp [intOf]
      | false =>
        have hf : Hid (partsOK len qs = false) := by show partsOK len qs = _; unfold partsOK; rw [hat.out, EP.out]; simp [inTops, topL, e]
        clear hat
        go_wp2_with (go_at_call 18; refine (within_any _ _ _ _).mono ?_; rintro e u1 ⟨rfl, hu1⟩; rw [hu1]; clear hu1)
        go_ret
        exact ⟨ret_bool hf.out.symm, hB⟩
    · have hx := idxA3 5 7 1073741824 1048576 1048576 1 11 4
      cases e : inR p3 0 1048576 with
      | true =>
        have hn : Hid (inTops topL qs = inTops (topL.drop 4) (qs.drop 4)) := by show inTops topL qs = _; rw [hat.out, EP.out]; simp [inTops, topL, e]
        clear hat
        go_wp2_with (go_at_call 18; refine (within_any _ _ _ _).mono ?_; rintro e u1 ⟨rfl, hu1⟩; rw [hu1]; clear hu1)
        go_roundw
        case rel => exact ⟨4, by omega, by go_num, hn, by first | rfl | trivial⟩
        case measure => simp [intOf]
      | false =>
        have hf : Hid (partsOK len qs = false) := by show partsOK len qs = _; unfold partsOK; rw [hat.out, EP.out]; simp [inTops, topL, e]
        clear hat
        go_wp2_with (go_at_call 18; refine (within_any _ _ _ _).mono ?_; rintro e u1 ⟨rfl, hu1⟩; rw [hu1]; clear hu1)
        go_ret
        exact ⟨ret_bool hf.out.symm, hB⟩
    · have hx := idxA4 5 7 1073741824 1048576 1048576 1 11 4
      cases e : inR p4 0 1048576 with
      | true =>
        have hn : Hid (inTops topL qs = inTops (topL.drop 5) (qs.drop 5)) := by show inTops topL qs = _; rw [hat.out, EP.out]; simp [inTops, topL, e]
        clear hat
        go_wp2_with (go_at_call 18; refine (within_any _ _ _ _).mono ?_; rintro e u1 ⟨rfl, hu1⟩; rw [hu1]; clear hu1)
        go_roundw
        case rel => exact ⟨5, by omega, by go_num, hn, by first | rfl | trivial⟩
        case measure => simp [intOf]
      | false =>
        have hf : Hid (partsOK len qs = false) := by show partsOK len qs = _; unfold partsOK; rw [hat.out, EP.out]; simp [inTops, topL, e]
        clear hat
        go_wp2_with (go_at_call 18; refine (within_any _ _ _ _).mono ?_; rintro e u1 ⟨rfl, hu1⟩; rw [hu1]; clear hu1)
        go_ret
        exact ⟨ret_bool hf.out.symm, hB⟩
    · have hx := idxA5 5 7 1073741824 1048576 1048576 1 11 4
      cases e : inR p5 0 1 with
      | true =>
        have hn : Hid (inTops topL qs = inTops (topL.drop 6) (qs.drop 6)) := by show inTops topL qs = _; rw [hat.out, EP.out]; simp [inTops, topL, e]
        clear hat
        go_wp2_with (go_at_call 18; refine (within_any _ _ _ _).mono ?_; rintro e u1 ⟨rfl, hu1⟩; rw [hu1]; clear hu1)
        go_roundw
        case rel => exact ⟨6, by omega, by go_num, hn, by first | rfl | trivial⟩
        case measure => simp [intOf]
      | false =>
        have hf : Hid (partsOK len qs = false) := by show partsOK len qs = _; unfold partsOK; rw [hat.out, EP.out]; simp [inTops, topL, e]
        clear hat
        go_wp2_with (go_at_call 18; refine (within_any _ _ _ _).mono ?_; rintro e u1 ⟨rfl, hu1⟩; rw [hu1]; clear hu1)
        go_ret
        exact ⟨ret_bool hf.out.symm, hB⟩
    · have hx := idxA6 5 7 1073741824 1048576 1048576 1 11 4
      cases e : inR p6 0 11 with
      | true =>
        have hn : Hid (inTops topL qs = inTops (topL.drop 7) (qs.drop 7)) := by show inTops topL qs = _; rw [hat.out, EP.out]; simp [inTops, topL, e]
        clear hat
        go_wp2_with (go_at_call 18; refine (within_any _ _ _ _).mono ?_; rintro e u1 ⟨rfl, hu1⟩; rw [hu1]; clear hu1)
        go_roundw
        case rel => exact ⟨7, by omega, by go_num, hn, by first | rfl | trivial⟩
        case measure => simp [intOf]
      | false =>
        have hf : Hid (partsOK len qs = false) := by show partsOK len qs = _; unfold partsOK; rw [hat.out, EP.out]; simp [inTops, topL, e]
        clear hat
        go_wp2_with (go_at_call 18; refine (within_any _ _ _ _).mono ?_; rintro e u1 ⟨rfl, hu1⟩; rw [hu1]; clear hu1)
        go_ret
        exact ⟨ret_bool hf.out.symm, hB⟩
    · have hx := idxA7 5 7 1073741824 1048576 1048576 1 11 4
      cases e : inR p7 0 4 with
      | true =>
        have hn : Hid (inTops topL qs = inTops (topL.drop 8) (qs.drop 8)) := by show inTops topL qs = _; rw [hat.out, EP.out]; simp [inTops, topL, e]
        clear hat
        go_wp2_with (go_at_call 18; refine (within_any _ _ _ _).mono ?_; rintro e u1 ⟨rfl, hu1⟩; rw [hu1]; clear hu1)
        go_roundw
        case rel => exact ⟨8, by omega, by go_num, hn, by first | rfl | trivial⟩
        case measure => simp [intOf]
      | false =>
        have hf : Hid (partsOK len qs = false) := by show partsOK len qs = _; unfold partsOK; rw [hat.out, EP.out]; simp [inTops, topL, e]
        clear hat
        go_wp2_with (go_at_call 18; refine (within_any _ _ _ _).mono ?_; rintro e u1 ⟨rfl, hu1⟩; rw [hu1]; clear hu1)
        go_ret
        exact ⟨ret_bool hf.out.symm, hB⟩
    · have hT : inTops topL qs = true := by rw [hat.out, EP.out]; rfl
      have hP : Hid (partsOK len qs = (plc p0 len && isCd p6)) := by show partsOK len qs = _; unfold partsOK; rw [hT, EP.out]; simp
      clear hat hT
      cases e : plc p0 len with
      | true =>
        go_wp2_with (first
          | (go_at_call 39; refine (place_any s p a len cap p0 _ hl).mono ?_; rintro e u1 ⟨rfl, hu1⟩; obtain ⟨hc1, hf1⟩ := bcell hu1)
          | (go_at_call 90; refine (isCode_any _ _).mono ?_; rintro e u2 ⟨rfl, hu2⟩; rw [hu2]; clear hu2))
        go_ret
        exact ⟨ret_bool (by rw [hP.out, e]; simp), hB.trans (hu1.mono hB.size)⟩
      | false =>
        go_wp2_with (go_at_call 39; refine (place_any s p a len cap p0 _ hl).mono ?_; rintro e u1 ⟨rfl, hu1⟩)
        go_ret
        exact ⟨ret_bool (by rw [hP.out, e]; simp), hB.trans (hu1.mono hB.size)⟩
end Go.Proofs.YtdjnaahkcnklhabDoor
