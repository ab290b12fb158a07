/- Texts of this claim, one behind the other. -/
import Derived.Test.YtdjnaahkcnklhabDoorM19CommitAsks
import Derived.Test.YtdjnaahkcnklhabDoorM17CommitAsks
import Derived.Test.YtdjnaahkcnklhabDoorM16CommitAsks
import Derived.Test.YtdjnaahkcnklhabDoorM18CommitAsks
/- The clerk's get: a read is put behind a job's tasks, and the key's home is asked. -/
namespace Go.Proofs.YtdjnaahkcnklhabDoor.Co
open Go.ChangeShapes Go.WideShapes Go.ChangeAt Go.RowKit
open Go.Proofs.YtdjnaahkcnklhabDoor.St (BoxN boxn_new own_below grown_setCell IsRow Elem flat flat_append own_isRow)
set_option linter.unusedVariables false

/-- The clerk behind a task that was put, and the message that asks for it. -/
def askV (v : CkV) (i : Nat) (t : TkV) (a5 : Option Addr) (c5 : Nat) (ma : Option Addr) (mc : Nat) (m : MV) : CkV := { v with js := v.js.set i (addJob (v.js.getD i default) a5 c5 t), ma := ma, ml := v.ml + 1, mc := mc, ms := v.ms ++ [m] }
def AskIs (w X' : World) (B q : Nat) (v : CkV) (i : Nat) (t : TkV) (m : MV) (ix : List (Nat × Nat)) (e : Ending) : Prop := e = .returned (.tuple #[]) ∧ ∃ (a5 : Option Addr) (c5 : Nat) (ma : Option Addr) (mc : Nat) (more : List Rw), Clerk w X' B q (askV v i t a5 c5 ma mc m) ix more
def getM (s : Int) (ls : List (Int × Int)) (p me : Int) (x : ClV) (j : JbV) : MV := ⟨1, me, homeNum s ls p x.key, me, j.n, x.label, x.key, 0, 0, j.asks + 1, false, 0⟩
set_option maxRecDepth 100000 in
set_option maxHeartbeats 4000000 in
theorem get_any {w : World} {B q : Nat} {v : CkV} {ix : List (Nat × Nat)} {more : List Rw} (X : World) (h : Clerk w X B q v ix more) (ls : List (Int × Int)) {i g : Nat} (hi : i < v.jl) (eg : v.ja = some ⟨g, 0, none⟩) (x : ClV) (h0 : 0 ≤ (v.js.getD i default).asks) (h1 : (v.js.getD i default).asks ≤ 1048576) (hn : ((v.js.getD i default).tl + 1) * 56 ≤ 140737488355328) (hm : (v.ml + 1) * 96 ≤ 140737488355328)
    (hL : ∀ (U : World) (u : CkV) (iy : List (Nat × Nat)) (m' : List Rw), Clerk w U B q u iy m' → IsLabs U v.a v.len v.cap ls) :
    Calls Tryd.prog 24 #[.pointer (some ⟨q, 0, none⟩), .pointer (some ⟨g, i * 6, none⟩), x.val] X fun e X' => AskIs w X' B q v i ⟨false, x.label, x.key, 0, 0, 0, false, false⟩ (getM v.s ls v.p v.me x (v.js.getD i default)) ix e := by
  obtain ⟨kind, n, label, key, value⟩ := x
  obtain ⟨W, hW⟩ : ∃ W : World, W = X.alloc (.cells #[.int .i64 kind, .int .i64 n, .int .i64 label, .int .i64 key, .int .i64 value] 39) := ⟨_, rfl⟩
  have bW : Below X.heap.size X W := by rw [hW]; exact (Below.refl _ _).alloc (Nat.le_refl _) _
  have zW : X.heap.size < W.heap.size := by rw [hW]; simp
  have x2 : W.cell? ⟨X.heap.size, 2, none⟩ = some (.int .i64 label) := by rw [hW]; go_simp
  have x3 : W.cell? ⟨X.heap.size, 3, none⟩ = some (.int .i64 key) := by rw [hW]; go_simp
  have hCW : Clerk w W B q v ix (more ++ [⟨39, 5, .slice (some ⟨X.heap.size, 0, none⟩) 1 1, 1, [.int .i64 kind, .int .i64 n, .int .i64 label, .int .i64 key, .int .i64 value]⟩]) := h.add bW (by rw [hW]; exact box_row X _ _ 5 rfl)
  have hi' : i < v.js.length := by have := h.lens.1; omega
  have HAdd : Hid (Calls Tryd.prog 48 #[.pointer (some ⟨g, i * 6, none⟩), .agg #[.bool false, .int .i64 label, .int .i64 key, .int .i64 0, .int .i64 0, .int .i64 0, .bool false, .bool false]] W fun e X' => AddIs w X' B q v i ⟨false, label, key, 0, 0, 0, false, false⟩ ix (more ++ [⟨39, 5, .slice (some ⟨X.heap.size, 0, none⟩) 1 1, 1, [.int .i64 kind, .int .i64 n, .int .i64 label, .int .i64 key, .int .i64 value]⟩]) e) := add_any W hCW hi eg ⟨false, label, key, 0, 0, 0, false, false⟩ h0 h1 hn
  obtain ⟨A, eA⟩ : ∃ A, A = (v.js.getD i default).asks + 1 := ⟨_, rfl⟩
  have HAdd2 : Hid (Calls Tryd.prog 48 #[.pointer (some ⟨g, i * 6, none⟩), .agg #[.bool false, .int .i64 label, .int .i64 key, .int .i64 0, .int .i64 0, .int .i64 0, .bool false, .bool false]] W fun e X' => e = .returned (.int .i64 A) ∧ AddIs w X' B q v i ⟨false, label, key, 0, 0, 0, false, false⟩ ix (more ++ [⟨39, 5, .slice (some ⟨X.heap.size, 0, none⟩) 1 1, 1, [.int .i64 kind, .int .i64 n, .int .i64 label, .int .i64 key, .int .i64 value]⟩]) (.returned (.int .i64 A))) := by
    refine HAdd.out.mono ?_
    rintro e u ⟨rfl, hu⟩
    exact ⟨by rw [eA], by rw [eA], hu⟩
  have HEA : Hid (A = (v.js.getD i default).asks + 1) := eA
  clear eA HAdd
  have HKM : Hid (∀ (k y : Nat), ix[i]? = some (k, y) → k < more.length) := fun k y e => by
    obtain ⟨z, ez, e1, _⟩ := h.jobs.at hi'
    rw [ez] at e
    obtain rfl := Option.some.inj e
    exact (List.getElem?_eq_some_iff.1 e1).1
  have Hm : Hid ((v.ml + 1) * 96 ≤ 140737488355328) := hm
  have HL : Hid (∀ (U : World) (u : CkV) (iy : List (Nat × Nat)) (m' : List Rw), Clerk w U B q u iy m' → IsLabs U v.a v.len v.cap ls) := hL
  clear hn hm h0 h1 h hCW hL
  simp only [ClV.val]
  go_enter Tryd.func24, Tryd.ntmps24
  go_upto_region 1 with (fail)
  rw [← hW]
  clear hW
  go_upto_region 2 with (go_at_call 48; refine HAdd2.out.mono ?_; rintro e Y ⟨rfl, _, a5, c5, kx, rx, ⟨ky, hky⟩, hC⟩)
  have hkm := HKM.out kx ky hky
  have eb : ((more ++ [(⟨39, 5, .slice (some ⟨X.heap.size, 0, none⟩) 1 1, 1, [.int .i64 kind, .int .i64 n, .int .i64 label, .int .i64 key, .int .i64 value]⟩ : Rw)]).set kx rx)[more.length]? = some (⟨39, 5, .slice (some ⟨X.heap.size, 0, none⟩) 1 1, 1, [.int .i64 kind, .int .i64 n, .int .i64 label, .int .i64 key, .int .i64 value]⟩ : Rw) := by
    rw [List.getElem?_set_ne (by omega)]
    simp
  have ob := hC.held.own.own _ _ (more_get eb)
  have y2 : Y.cell? ⟨X.heap.size, 2, none⟩ = some (.int .i64 label) := (own_at ob (j := 2) (by show 2 < 1 * 5; decide)).1
  have y3 : Y.cell? ⟨X.heap.size, 3, none⟩ = some (.int .i64 key) := (own_at ob (j := 3) (by show 3 < 1 * 5; decide)).1
  have zb : X.heap.size < Y.heap.size := (own_at ob (j := 2) (by show 2 < 1 * 5; decide)).2
  obtain ⟨g2, eg2, _, zgY, _, hcY, _⟩ := hC.jobAt (i := i) hi
  have e3 : g = g2 := by
    have e4 : v.ja = some ⟨g2, 0, none⟩ := eg2
    rw [eg] at e4
    simpa using e4
  subst e3
  have yn : Y.cell? ⟨g, i * 6, none⟩ = some (.int .i64 (v.js.getD i default).n) := by
    have := hcY 0 (by decide)
    simp only [] at this
    rw [set_getD _ _ _ hi'] at this
    exact this
  have KC : Hid (∀ U, Below Y.heap.size Y U → U.cell? ⟨g, i * 6, none⟩ = some (.int .i64 (v.js.getD i default).n) ∧ U.cell? ⟨X.heap.size, 2, none⟩ = some (.int .i64 label) ∧ U.cell? ⟨X.heap.size, 3, none⟩ = some (.int .i64 key)) := fun U hU => ⟨(hU.cell (p := ⟨g, i * 6, none⟩) zgY).trans yn, (hU.cell (p := ⟨X.heap.size, 2, none⟩) zb).trans y2, (hU.cell (p := ⟨X.heap.size, 3, none⟩) zb).trans y3⟩
  have HH : Hid (∀ U, Below Y.heap.size Y U → Calls Tryd.prog 50 #[.pointer (some ⟨q, 0, none⟩), .int .i64 key] U fun e U' => e = .returned (.int .i64 (homeNum v.s ls v.p key)) ∧ Below U.heap.size U U') := fun U hU => clerkHome_any U (hC.below hU) ls (HL.out _ _ _ _ (hC.below hU)) key
  obtain ⟨H, eH⟩ : ∃ H, H = homeNum v.s ls v.p key := ⟨_, rfl⟩
  obtain ⟨JN, eJN⟩ : ∃ JN, JN = (v.js.getD i default).n := ⟨_, rfl⟩
  have HS : Hid (∀ U, Below Y.heap.size Y U → Calls Tryd.prog 49 #[.pointer (some ⟨q, 0, none⟩), .int .i64 JN, .int .i64 H, .agg #[.int .i64 1, .int .i64 0, .int .i64 0, .int .i64 0, .int .i64 0, .int .i64 label, .int .i64 key, .int .i64 0, .int .i64 0, .int .i64 A, .bool false, .int .i64 0]] U fun e U' => AskIs w U' B q v i ⟨false, label, key, 0, 0, 0, false, false⟩ (getM v.s ls v.p v.me ⟨kind, n, label, key, value⟩ (v.js.getD i default)) ix e) := fun U hU => by
    have := send_any U (hC.below hU) JN H ⟨1, 0, 0, 0, 0, label, key, 0, 0, A, false, 0⟩ Hm.out
    simp only [MV.val] at this
    refine this.mono ?_
    rintro e u ⟨rfl, m5, k5, h5⟩
    refine ⟨rfl, a5, c5, m5, k5, (more ++ [(⟨39, 5, .slice (some ⟨X.heap.size, 0, none⟩) 1 1, 1, [.int .i64 kind, .int .i64 n, .int .i64 label, .int .i64 key, .int .i64 value]⟩ : Rw)]).set kx rx, ?_⟩
    rw [HEA.out, eH, eJN] at h5
    exact h5
  rw [← eJN] at KC
  rw [← eH] at HH
  obtain ⟨D, eD⟩ : ∃ D : World → Prop, D = fun u => AskIs w u B q v i ⟨false, label, key, 0, 0, 0, false, false⟩ (getM v.s ls v.p v.me ⟨kind, n, label, key, value⟩ (v.js.getD i default)) ix (.returned (.tuple #[])) := ⟨_, rfl⟩
  have HD : Hid (∀ u, D u → AskIs w u B q v i ⟨false, label, key, 0, 0, 0, false, false⟩ (getM v.s ls v.p v.me ⟨kind, n, label, key, value⟩ (v.js.getD i default)) ix (.returned (.tuple #[]))) := fun u hu => by rw [eD] at hu; exact hu
  have HS2 : Hid (∀ U, Below Y.heap.size Y U → Calls Tryd.prog 49 #[.pointer (some ⟨q, 0, none⟩), .int .i64 JN, .int .i64 H, .agg #[.int .i64 1, .int .i64 0, .int .i64 0, .int .i64 0, .int .i64 0, .int .i64 label, .int .i64 key, .int .i64 0, .int .i64 0, .int .i64 A, .bool false, .int .i64 0]] U fun e U' => e = .returned (.tuple #[]) ∧ D U') := fun U hU => by
    refine (HS.out U hU).mono ?_
    rintro e u ⟨rfl, hu⟩
    exact ⟨rfl, by rw [eD]; exact ⟨rfl, hu⟩⟩
  clear HS eD eH eJN hC yn y2 y3 hcY ob x2 x3
  refine wp_region_inv (by kernel_rfl) [14, 15, 16, 17, 18, 19, 20, 21, 22, 23, 24, 25, 26, 27, 28, 29] (fun L T u => True ∧ (L 0 = true → T 14 = .pointer (some ⟨q, 0, none⟩)) ∧ (L 1 = true → T 15 = .pointer (some ⟨g, i * 6, none⟩)) ∧ (L 2 = true → T 16 = .pointer (some ⟨g, i * 6, none⟩)) ∧ (L 3 = true → T 17 = .pointer (some ⟨g, i * 6, none⟩)) ∧ (L 4 = true → T 18 = .int .i64 JN) ∧ (L 5 = true → T 19 = .pointer (some ⟨q, 0, none⟩)) ∧ (L 6 = true → T 20 = .pointer (some ⟨X.heap.size, 3, none⟩)) ∧ (L 7 = true → T 21 = .int .i64 key) ∧ (L 8 = true → T 22 = .int .i64 H) ∧ (L 9 = true → T 23 = .pointer (some ⟨X.heap.size, 2, none⟩)) ∧ (L 10 = true → T 24 = .int .i64 label) ∧ (L 11 = true → T 25 = .pointer (some ⟨X.heap.size, 3, none⟩)) ∧ (L 12 = true → T 26 = .int .i64 key) ∧ (L 13 = true → T 27 = .int .i64 A) ∧ (L 14 = true → T 28 = .agg #[.int .i64 1, .int .i64 0, .int .i64 0, .int .i64 0, .int .i64 0, .int .i64 label, .int .i64 key, .int .i64 0, .int .i64 0, .int .i64 A, .bool false, .int .i64 0]) ∧ (L 15 = false → Below Y.heap.size Y u) ∧ (L 15 = true → D u)) (by decide) (by kernel_rfl) (by kernel_rfl) ?_ ?_ ?_
  · exact ⟨trivial, nofun, nofun, nofun, nofun, nofun, nofun, nofun, nofun, nofun, nofun, nofun, nofun, nofun, nofun, nofun, fun _ => (Below.refl _ _).drew, nofun⟩
  · refine ⟨?_, ?_, ?_, ?_, ?_, ?_, ?_, ?_, ?_, ?_, ?_, ?_, ?_, ?_, ?_, ?_, trivial⟩
    · rintro L T u hd hk hcl ⟨hb, p0, p1, p2, p3, p4, p5, p6, p7, p8, p9, p10, p11, p12, p13, p14, c1, c2⟩ K hK
      simp only [fr, Act.put, List.setIfInBounds_toArray, List.set_cons_zero, List.set_cons_succ, updO] at hK ⊢
      simp [Region.binds] at hd
      rw [if_pos (by rfl)]
      simp only [Oper.wpv]
      go_simp
      exact hK _ _ ⟨hb, fun _ => rfl, p1, p2, p3, p4, p5, p6, p7, p8, p9, p10, p11, p12, p13, p14, c1, c2⟩
    · rintro L T u hd hk hcl ⟨hb, p0, p1, p2, p3, p4, p5, p6, p7, p8, p9, p10, p11, p12, p13, p14, c1, c2⟩ K hK
      simp only [fr, Act.put, List.setIfInBounds_toArray, List.set_cons_zero, List.set_cons_succ, updO] at hK ⊢
      simp [Region.binds] at hd
      rw [if_pos (by rfl)]
      simp only [Oper.wpv]
      go_simp
      exact hK _ _ ⟨hb, p0, fun _ => rfl, p2, p3, p4, p5, p6, p7, p8, p9, p10, p11, p12, p13, p14, c1, c2⟩
    · rintro L T u hd hk hcl ⟨hb, p0, p1, p2, p3, p4, p5, p6, p7, p8, p9, p10, p11, p12, p13, p14, c1, c2⟩ K hK
      simp only [fr, Act.put, List.setIfInBounds_toArray, List.set_cons_zero, List.set_cons_succ, updO] at hK ⊢
      simp [Region.binds] at hd
      have g1 := p1 (by simp [hd])
      rw [if_pos (by rfl)]
      simp only [Oper.wpv]
      go_simp
      exact hK _ _ ⟨hb, p0, p1, fun _ => rfl, p3, p4, p5, p6, p7, p8, p9, p10, p11, p12, p13, p14, c1, c2⟩
    · rintro L T u hd hk hcl ⟨hb, p0, p1, p2, p3, p4, p5, p6, p7, p8, p9, p10, p11, p12, p13, p14, c1, c2⟩ K hK
      simp only [fr, Act.put, List.setIfInBounds_toArray, List.set_cons_zero, List.set_cons_succ, updO] at hK ⊢
      simp [Region.binds] at hd
      have g2 := p2 (by simp [hd])
      rw [if_pos (by rfl)]
      simp only [Oper.wpv]
      go_simp
      exact hK _ _ ⟨hb, p0, p1, p2, fun _ => rfl, p4, p5, p6, p7, p8, p9, p10, p11, p12, p13, p14, c1, c2⟩
    · rintro L T u hd hk hcl ⟨hb, p0, p1, p2, p3, p4, p5, p6, p7, p8, p9, p10, p11, p12, p13, p14, c1, c2⟩ K hK
      simp only [fr, Act.put, List.setIfInBounds_toArray, List.set_cons_zero, List.set_cons_succ, updO] at hK ⊢
      simp [Region.binds] at hd
      have g3 := p3 (by simp [hd])
      have k15 := hcl 15 _ rfl
      simp [Region.binds] at k15
      have h15 : L 15 = false := by cases h : L 15 with | false => rfl | true => have := k15 h; simp [hk] at this
      obtain ⟨xn, xl, xk⟩ := KC.out u (c1 h15)
      rw [if_pos (by rfl)]
      simp only [Oper.wpv]
      go_simp
      exact hK _ _ ⟨hb, p0, p1, p2, p3, fun _ => rfl, p5, p6, p7, p8, p9, p10, p11, p12, p13, p14, c1, c2⟩
    · rintro L T u hd hk hcl ⟨hb, p0, p1, p2, p3, p4, p5, p6, p7, p8, p9, p10, p11, p12, p13, p14, c1, c2⟩ K hK
      simp only [fr, Act.put, List.setIfInBounds_toArray, List.set_cons_zero, List.set_cons_succ, updO] at hK ⊢
      simp [Region.binds] at hd
      rw [if_pos (by rfl)]
      simp only [Oper.wpv]
      go_simp
      exact hK _ _ ⟨hb, p0, p1, p2, p3, p4, fun _ => rfl, p6, p7, p8, p9, p10, p11, p12, p13, p14, c1, c2⟩
    · rintro L T u hd hk hcl ⟨hb, p0, p1, p2, p3, p4, p5, p6, p7, p8, p9, p10, p11, p12, p13, p14, c1, c2⟩ K hK
      simp only [fr, Act.put, List.setIfInBounds_toArray, List.set_cons_zero, List.set_cons_succ, updO] at hK ⊢
      simp [Region.binds] at hd
      rw [if_pos (by rfl)]
      simp only [Oper.wpv]
      go_simp
      exact hK _ _ ⟨hb, p0, p1, p2, p3, p4, p5, fun _ => rfl, p7, p8, p9, p10, p11, p12, p13, p14, c1, c2⟩
    · rintro L T u hd hk hcl ⟨hb, p0, p1, p2, p3, p4, p5, p6, p7, p8, p9, p10, p11, p12, p13, p14, c1, c2⟩ K hK
      simp only [fr, Act.put, List.setIfInBounds_toArray, List.set_cons_zero, List.set_cons_succ, updO] at hK ⊢
      simp [Region.binds] at hd
      have g6 := p6 (by simp [hd])
      have k15 := hcl 15 _ rfl
      simp [Region.binds] at k15
      have k8 := hcl 8 _ rfl
      simp [Region.binds] at k8
      have h15 : L 15 = false := by cases h : L 15 with | false => rfl | true => have a := k15 h; have b := k8 (by simp [a]); simp [hk] at b
      obtain ⟨xn, xl, xk⟩ := KC.out u (c1 h15)
      rw [if_pos (by rfl)]
      simp only [Oper.wpv]
      go_simp
      exact hK _ _ ⟨hb, p0, p1, p2, p3, p4, p5, p6, fun _ => rfl, p8, p9, p10, p11, p12, p13, p14, c1, c2⟩
    · rintro L T u hd hk hcl ⟨hb, p0, p1, p2, p3, p4, p5, p6, p7, p8, p9, p10, p11, p12, p13, p14, c1, c2⟩ K hK
      simp only [fr, Act.put, List.setIfInBounds_toArray, List.set_cons_zero, List.set_cons_succ, updO] at hK ⊢
      simp [Region.binds] at hd
      have g5 := p5 (by simp [hd])
      have g7 := p7 (by simp [hd])
      have k15 := hcl 15 _ rfl
      simp [Region.binds] at k15
      have h15 : L 15 = false := by cases h : L 15 with | false => rfl | true => have := k15 h; simp [hk] at this
      rw [if_pos (by rfl)]
      simp only [Oper.wpv]
      go_simp
      refine (HH.out _ (c1 h15)).mono ?_
      rintro e u1 ⟨rfl, hg⟩
      exact hK _ _ ⟨hb, p0, p1, p2, p3, p4, p5, p6, p7, fun _ => rfl, p9, p10, p11, p12, p13, p14, fun _ => nT (c1 h15) hg, fun h => absurd (show L 15 = true from h) (by simp [h15])⟩
    · rintro L T u hd hk hcl ⟨hb, p0, p1, p2, p3, p4, p5, p6, p7, p8, p9, p10, p11, p12, p13, p14, c1, c2⟩ K hK
      simp only [fr, Act.put, List.setIfInBounds_toArray, List.set_cons_zero, List.set_cons_succ, updO] at hK ⊢
      simp [Region.binds] at hd
      rw [if_pos (by rfl)]
      simp only [Oper.wpv]
      go_simp
      exact hK _ _ ⟨hb, p0, p1, p2, p3, p4, p5, p6, p7, p8, fun _ => rfl, p10, p11, p12, p13, p14, c1, c2⟩
    · rintro L T u hd hk hcl ⟨hb, p0, p1, p2, p3, p4, p5, p6, p7, p8, p9, p10, p11, p12, p13, p14, c1, c2⟩ K hK
      simp only [fr, Act.put, List.setIfInBounds_toArray, List.set_cons_zero, List.set_cons_succ, updO] at hK ⊢
      simp [Region.binds] at hd
      have g9 := p9 (by simp [hd])
      have k15 := hcl 15 _ rfl
      simp [Region.binds] at k15
      have k14 := hcl 14 _ rfl
      simp [Region.binds] at k14
      have h15 : L 15 = false := by cases h : L 15 with | false => rfl | true => have a := k15 h; have b := k14 (by simp [a]); simp [hk] at b
      obtain ⟨xn, xl, xk⟩ := KC.out u (c1 h15)
      rw [if_pos (by rfl)]
      simp only [Oper.wpv]
      go_simp
      exact hK _ _ ⟨hb, p0, p1, p2, p3, p4, p5, p6, p7, p8, p9, fun _ => rfl, p11, p12, p13, p14, c1, c2⟩
    · rintro L T u hd hk hcl ⟨hb, p0, p1, p2, p3, p4, p5, p6, p7, p8, p9, p10, p11, p12, p13, p14, c1, c2⟩ K hK
      simp only [fr, Act.put, List.setIfInBounds_toArray, List.set_cons_zero, List.set_cons_succ, updO] at hK ⊢
      simp [Region.binds] at hd
      rw [if_pos (by rfl)]
      simp only [Oper.wpv]
      go_simp
      exact hK _ _ ⟨hb, p0, p1, p2, p3, p4, p5, p6, p7, p8, p9, p10, fun _ => rfl, p12, p13, p14, c1, c2⟩
    · rintro L T u hd hk hcl ⟨hb, p0, p1, p2, p3, p4, p5, p6, p7, p8, p9, p10, p11, p12, p13, p14, c1, c2⟩ K hK
      simp only [fr, Act.put, List.setIfInBounds_toArray, List.set_cons_zero, List.set_cons_succ, updO] at hK ⊢
      simp [Region.binds] at hd
      have g11 := p11 (by simp [hd])
      have k15 := hcl 15 _ rfl
      simp [Region.binds] at k15
      have k14 := hcl 14 _ rfl
      simp [Region.binds] at k14
      have h15 : L 15 = false := by cases h : L 15 with | false => rfl | true => have a := k15 h; have b := k14 (by simp [a]); simp [hk] at b
      obtain ⟨xn, xl, xk⟩ := KC.out u (c1 h15)
      rw [if_pos (by rfl)]
      simp only [Oper.wpv]
      go_simp
      exact hK _ _ ⟨hb, p0, p1, p2, p3, p4, p5, p6, p7, p8, p9, p10, p11, fun _ => rfl, p13, p14, c1, c2⟩
    · rintro L T u hd hk hcl ⟨hb, p0, p1, p2, p3, p4, p5, p6, p7, p8, p9, p10, p11, p12, p13, p14, c1, c2⟩ K hK
      simp only [fr, Act.put, List.setIfInBounds_toArray, List.set_cons_zero, List.set_cons_succ, updO] at hK ⊢
      simp [Region.binds] at hd
      rw [if_pos (by rfl)]
      simp only [Oper.wpv]
      go_simp
      exact hK _ _ ⟨hb, p0, p1, p2, p3, p4, p5, p6, p7, p8, p9, p10, p11, p12, fun _ => rfl, p14, c1, c2⟩
    · rintro L T u hd hk hcl ⟨hb, p0, p1, p2, p3, p4, p5, p6, p7, p8, p9, p10, p11, p12, p13, p14, c1, c2⟩ K hK
      simp only [fr, Act.put, List.setIfInBounds_toArray, List.set_cons_zero, List.set_cons_succ, updO] at hK ⊢
      simp [Region.binds] at hd
      have g10 := p10 (by simp [hd])
      have g12 := p12 (by simp [hd])
      have g13 := p13 (by simp [hd])
      rw [if_pos (by rfl)]
      simp only [Oper.wpv]
      go_simp
      exact hK _ _ ⟨hb, p0, p1, p2, p3, p4, p5, p6, p7, p8, p9, p10, p11, p12, p13, fun _ => rfl, c1, c2⟩
    · rintro L T u hd hk hcl ⟨hb, p0, p1, p2, p3, p4, p5, p6, p7, p8, p9, p10, p11, p12, p13, p14, c1, c2⟩ K hK
      simp only [fr, Act.put, List.setIfInBounds_toArray, List.set_cons_zero, List.set_cons_succ, updO] at hK ⊢
      simp [Region.binds] at hd
      have g0 := p0 (by simp [hd])
      have g4 := p4 (by simp [hd])
      have g8 := p8 (by simp [hd])
      have g14 := p14 (by simp [hd])
      rw [if_pos (by rfl)]
      simp only [Oper.wpv]
      go_simp
      refine (HS2.out _ (c1 hk)).mono ?_
      rintro e u1 ⟨rfl, hg⟩
      exact hK _ _ ⟨hb, p0, p1, p2, p3, p4, p5, p6, p7, p8, p9, p10, p11, p12, p13, p14, fun h => Bool.noConfusion (show true = false from h), fun _ => hg⟩
  · rintro L T u hl ⟨hb, p0, p1, p2, p3, p4, p5, p6, p7, p8, p9, p10, p11, p12, p13, p14, c1, c2⟩
    simp only [fr, Act.put, List.setIfInBounds_toArray, List.set_cons_zero, List.set_cons_succ]
    have hH := c2 (hl 15 (by decide))
    clear p0 p1 p2 p3 p4 p5 p6 p7 p8 p9 p10 p11 p12 p13 p14 c1 c2
    exact bodyPost_end (v := .tuple #[]) (by simp [results, Tryd.results24, go_sem]) rfl (HD.out _ hH)
end Go.Proofs.YtdjnaahkcnklhabDoor.Co
/- The clerk's put: a write is put behind a job's tasks, and the key's home is asked. -/
namespace Go.Proofs.YtdjnaahkcnklhabDoor.Co
open Go.ChangeShapes Go.WideShapes Go.ChangeAt Go.RowKit
open Go.Proofs.YtdjnaahkcnklhabDoor.St (BoxN boxn_new own_below grown_setCell IsRow Elem flat flat_append own_isRow)
set_option linter.unusedVariables false

def putM (s : Int) (ls : List (Int × Int)) (p me : Int) (x : ClV) (j : JbV) : MV := ⟨2, me, homeNum s ls p x.key, me, j.n, 0, x.key, x.value, 0, j.asks + 1, false, 0⟩
set_option maxRecDepth 100000 in
set_option maxHeartbeats 4000000 in
theorem put_any {w : World} {B q : Nat} {v : CkV} {ix : List (Nat × Nat)} {more : List Rw} (X : World) (h : Clerk w X B q v ix more) (ls : List (Int × Int)) {i g : Nat} (hi : i < v.jl) (eg : v.ja = some ⟨g, 0, none⟩) (x : ClV) (h0 : 0 ≤ (v.js.getD i default).asks) (h1 : (v.js.getD i default).asks ≤ 1048576) (hn : ((v.js.getD i default).tl + 1) * 56 ≤ 140737488355328) (hm : (v.ml + 1) * 96 ≤ 140737488355328)
    (hL : ∀ (U : World) (u : CkV) (iy : List (Nat × Nat)) (m' : List Rw), Clerk w U B q u iy m' → IsLabs U v.a v.len v.cap ls) :
    Calls Tryd.prog 25 #[.pointer (some ⟨q, 0, none⟩), .pointer (some ⟨g, i * 6, none⟩), x.val] X fun e X' => AskIs w X' B q v i ⟨true, v.l, x.key, x.value, 0, 0, false, false⟩ (putM v.s ls v.p v.me x (v.js.getD i default)) ix e := by
  obtain ⟨kind, n, label, key, value⟩ := x
  obtain ⟨W, hW⟩ : ∃ W : World, W = X.alloc (.cells #[.int .i64 kind, .int .i64 n, .int .i64 label, .int .i64 key, .int .i64 value] 39) := ⟨_, rfl⟩
  have bW : Below X.heap.size X W := by rw [hW]; exact (Below.refl _ _).alloc (Nat.le_refl _) _
  have zW : X.heap.size < W.heap.size := by rw [hW]; simp
  have x3 : W.cell? ⟨X.heap.size, 3, none⟩ = some (.int .i64 key) := by rw [hW]; go_simp
  have x4 : W.cell? ⟨X.heap.size, 4, none⟩ = some (.int .i64 value) := by rw [hW]; go_simp
  have hCW : Clerk w W B q v ix (more ++ [⟨39, 5, .slice (some ⟨X.heap.size, 0, none⟩) 1 1, 1, [.int .i64 kind, .int .i64 n, .int .i64 label, .int .i64 key, .int .i64 value]⟩]) := h.add bW (by rw [hW]; exact box_row X _ _ 5 rfl)
  have hi' : i < v.js.length := by have := h.lens.1; omega
  obtain ⟨L1, eL1⟩ : ∃ L1, L1 = v.l := ⟨_, rfl⟩
  have zq := hCW.held.box.lt
  have c3 : W.cell? ⟨q, 3, none⟩ = some (.int .i64 L1) := by rw [eL1]; exact (hCW.held.box.c 3 (by decide)).1
  obtain ⟨A, eA⟩ : ∃ A, A = (v.js.getD i default).asks + 1 := ⟨_, rfl⟩
  obtain ⟨D, eD⟩ : ∃ D : World → Prop, D = fun u => AddIs w u B q v i ⟨true, L1, key, value, 0, 0, false, false⟩ ix (more ++ [⟨39, 5, .slice (some ⟨X.heap.size, 0, none⟩) 1 1, 1, [.int .i64 kind, .int .i64 n, .int .i64 label, .int .i64 key, .int .i64 value]⟩]) (.returned (.int .i64 A)) := ⟨_, rfl⟩
  have HAdd : Hid (∀ U, Below W.heap.size W U → Calls Tryd.prog 48 #[.pointer (some ⟨g, i * 6, none⟩), .agg #[.bool true, .int .i64 L1, .int .i64 key, .int .i64 value, .int .i64 0, .int .i64 0, .bool false, .bool false]] U fun e X' => e = .returned (.int .i64 A) ∧ D X') := fun U hU => by
    have := add_any U (hCW.below hU) hi eg ⟨true, L1, key, value, 0, 0, false, false⟩ h0 h1 hn
    refine this.mono ?_
    rintro e u ⟨rfl, hu⟩
    refine ⟨by rw [eA], ?_⟩
    rw [eD]
    exact ⟨by rw [eA], hu⟩
  have HD : Hid (∀ u, D u → AddIs w u B q v i ⟨true, L1, key, value, 0, 0, false, false⟩ ix (more ++ [⟨39, 5, .slice (some ⟨X.heap.size, 0, none⟩) 1 1, 1, [.int .i64 kind, .int .i64 n, .int .i64 label, .int .i64 key, .int .i64 value]⟩]) (.returned (.int .i64 A))) := fun u hu => by rw [eD] at hu; exact hu
  have HEA : Hid (A = (v.js.getD i default).asks + 1) := eA
  have HEL : Hid (L1 = v.l) := eL1
  have HKM : Hid (∀ (k y : Nat), ix[i]? = some (k, y) → k < more.length) := fun k y e => by
    obtain ⟨z, ez, e1, _⟩ := h.jobs.at hi'
    rw [ez] at e
    obtain rfl := Option.some.inj e
    exact (List.getElem?_eq_some_iff.1 e1).1
  have Hm : Hid ((v.ml + 1) * 96 ≤ 140737488355328) := hm
  have HL : Hid (∀ (U : World) (u : CkV) (iy : List (Nat × Nat)) (m' : List Rw), Clerk w U B q u iy m' → IsLabs U v.a v.len v.cap ls) := hL
  have KC : Hid (∀ U, Below W.heap.size W U → U.cell? ⟨q, 3, none⟩ = some (.int .i64 L1) ∧ U.cell? ⟨X.heap.size, 3, none⟩ = some (.int .i64 key) ∧ U.cell? ⟨X.heap.size, 4, none⟩ = some (.int .i64 value)) := fun U hU => ⟨(hU.cell (p := ⟨q, 3, none⟩) zq).trans c3, (hU.cell (p := ⟨X.heap.size, 3, none⟩) zW).trans x3, (hU.cell (p := ⟨X.heap.size, 4, none⟩) zW).trans x4⟩
  rw [← eL1]
  clear hn hm h0 h1 h hCW hL eA eL1 eD x3 x4 c3
  simp only [ClV.val]
  go_enter Tryd.func25, Tryd.ntmps25
  go_upto_region 1 with (fail)
  rw [← hW]
  clear hW
  refine wp_region_inv (by kernel_rfl) [7, 8, 9, 10, 11, 12, 13, 14, 15, 16, 17, 6] (fun L T u => True ∧ (L 0 = true → T 7 = .pointer (some ⟨g, i * 6, none⟩)) ∧ (L 1 = true → T 8 = .pointer (some ⟨q, 0, none⟩)) ∧ (L 2 = true → T 9 = .pointer (some ⟨q, 0, none⟩)) ∧ (L 3 = true → T 10 = .pointer (some ⟨q, 3, none⟩)) ∧ (L 4 = true → T 11 = .int .i64 L1) ∧ (L 5 = true → T 12 = .pointer (some ⟨X.heap.size, 3, none⟩)) ∧ (L 6 = true → T 13 = .int .i64 key) ∧ (L 7 = true → T 14 = .pointer (some ⟨X.heap.size, 4, none⟩)) ∧ (L 8 = true → T 15 = .int .i64 value) ∧ (L 9 = true → T 16 = .agg #[.bool true, .int .i64 L1, .int .i64 key, .int .i64 value, .int .i64 0, .int .i64 0, .bool false, .bool false]) ∧ (L 10 = true → T 17 = .int .i64 A) ∧ (L 11 = true → T 6 = .int .i64 A) ∧ (L 10 = false → Below W.heap.size W u) ∧ (L 10 = true → D u)) (by decide) (by kernel_rfl) (by kernel_rfl) ?_ ?_ ?_
  · exact ⟨trivial, nofun, nofun, nofun, nofun, nofun, nofun, nofun, nofun, nofun, nofun, nofun, nofun, fun _ => (Below.refl _ _).drew, nofun⟩
  · refine ⟨?_, ?_, ?_, ?_, ?_, ?_, ?_, ?_, ?_, ?_, ?_, ?_, trivial⟩
    · rintro L T u hd hk hcl ⟨hb, p0, p1, p2, p3, p4, p5, p6, p7, p8, p9, p10, p11, c1, c2⟩ K hK
      simp only [fr, Act.put, List.setIfInBounds_toArray, List.set_cons_zero, List.set_cons_succ, updO] at hK ⊢
      simp [Region.binds] at hd
      rw [if_pos (by rfl)]
      simp only [Oper.wpv]
      go_simp
      exact hK _ _ ⟨hb, fun _ => rfl, p1, p2, p3, p4, p5, p6, p7, p8, p9, p10, p11, c1, c2⟩
    · rintro L T u hd hk hcl ⟨hb, p0, p1, p2, p3, p4, p5, p6, p7, p8, p9, p10, p11, c1, c2⟩ K hK
      simp only [fr, Act.put, List.setIfInBounds_toArray, List.set_cons_zero, List.set_cons_succ, updO] at hK ⊢
      simp [Region.binds] at hd
      rw [if_pos (by rfl)]
      simp only [Oper.wpv]
      go_simp
      exact hK _ _ ⟨hb, p0, fun _ => rfl, p2, p3, p4, p5, p6, p7, p8, p9, p10, p11, c1, c2⟩
    · rintro L T u hd hk hcl ⟨hb, p0, p1, p2, p3, p4, p5, p6, p7, p8, p9, p10, p11, c1, c2⟩ K hK
      simp only [fr, Act.put, List.setIfInBounds_toArray, List.set_cons_zero, List.set_cons_succ, updO] at hK ⊢
      simp [Region.binds] at hd
      have g1 := p1 (by simp [hd])
      rw [if_pos (by rfl)]
      simp only [Oper.wpv]
      go_simp
      exact hK _ _ ⟨hb, p0, p1, fun _ => rfl, p3, p4, p5, p6, p7, p8, p9, p10, p11, c1, c2⟩
    · rintro L T u hd hk hcl ⟨hb, p0, p1, p2, p3, p4, p5, p6, p7, p8, p9, p10, p11, c1, c2⟩ K hK
      simp only [fr, Act.put, List.setIfInBounds_toArray, List.set_cons_zero, List.set_cons_succ, updO] at hK ⊢
      simp [Region.binds] at hd
      have g2 := p2 (by simp [hd])
      rw [if_pos (by rfl)]
      simp only [Oper.wpv]
      go_simp
      exact hK _ _ ⟨hb, p0, p1, p2, fun _ => rfl, p4, p5, p6, p7, p8, p9, p10, p11, c1, c2⟩
    · rintro L T u hd hk hcl ⟨hb, p0, p1, p2, p3, p4, p5, p6, p7, p8, p9, p10, p11, c1, c2⟩ K hK
      simp only [fr, Act.put, List.setIfInBounds_toArray, List.set_cons_zero, List.set_cons_succ, updO] at hK ⊢
      simp [Region.binds] at hd
      have g3 := p3 (by simp [hd])
      have k10 := hcl 10 _ rfl
      simp [Region.binds] at k10
      have k9 := hcl 9 _ rfl
      simp [Region.binds] at k9
      have hE : L 10 = false := by cases h : L 10 with | false => rfl | true => have a10 := k10 h; have a9 := k9 (by simp [a10]); simp [hk] at a9
      obtain ⟨xl, xk, xv⟩ := KC.out u (c1 hE)
      rw [if_pos (by rfl)]
      simp only [Oper.wpv]
      go_simp
      exact hK _ _ ⟨hb, p0, p1, p2, p3, fun _ => rfl, p5, p6, p7, p8, p9, p10, p11, c1, c2⟩
    · rintro L T u hd hk hcl ⟨hb, p0, p1, p2, p3, p4, p5, p6, p7, p8, p9, p10, p11, c1, c2⟩ K hK
      simp only [fr, Act.put, List.setIfInBounds_toArray, List.set_cons_zero, List.set_cons_succ, updO] at hK ⊢
      simp [Region.binds] at hd
      rw [if_pos (by rfl)]
      simp only [Oper.wpv]
      go_simp
      exact hK _ _ ⟨hb, p0, p1, p2, p3, p4, fun _ => rfl, p6, p7, p8, p9, p10, p11, c1, c2⟩
    · rintro L T u hd hk hcl ⟨hb, p0, p1, p2, p3, p4, p5, p6, p7, p8, p9, p10, p11, c1, c2⟩ K hK
      simp only [fr, Act.put, List.setIfInBounds_toArray, List.set_cons_zero, List.set_cons_succ, updO] at hK ⊢
      simp [Region.binds] at hd
      have g5 := p5 (by simp [hd])
      have k10 := hcl 10 _ rfl
      simp [Region.binds] at k10
      have k9 := hcl 9 _ rfl
      simp [Region.binds] at k9
      have hE : L 10 = false := by cases h : L 10 with | false => rfl | true => have a10 := k10 h; have a9 := k9 (by simp [a10]); simp [hk] at a9
      obtain ⟨xl, xk, xv⟩ := KC.out u (c1 hE)
      rw [if_pos (by rfl)]
      simp only [Oper.wpv]
      go_simp
      exact hK _ _ ⟨hb, p0, p1, p2, p3, p4, p5, fun _ => rfl, p7, p8, p9, p10, p11, c1, c2⟩
    · rintro L T u hd hk hcl ⟨hb, p0, p1, p2, p3, p4, p5, p6, p7, p8, p9, p10, p11, c1, c2⟩ K hK
      simp only [fr, Act.put, List.setIfInBounds_toArray, List.set_cons_zero, List.set_cons_succ, updO] at hK ⊢
      simp [Region.binds] at hd
      rw [if_pos (by rfl)]
      simp only [Oper.wpv]
      go_simp
      exact hK _ _ ⟨hb, p0, p1, p2, p3, p4, p5, p6, fun _ => rfl, p8, p9, p10, p11, c1, c2⟩
    · rintro L T u hd hk hcl ⟨hb, p0, p1, p2, p3, p4, p5, p6, p7, p8, p9, p10, p11, c1, c2⟩ K hK
      simp only [fr, Act.put, List.setIfInBounds_toArray, List.set_cons_zero, List.set_cons_succ, updO] at hK ⊢
      simp [Region.binds] at hd
      have g7 := p7 (by simp [hd])
      have k10 := hcl 10 _ rfl
      simp [Region.binds] at k10
      have k9 := hcl 9 _ rfl
      simp [Region.binds] at k9
      have hE : L 10 = false := by cases h : L 10 with | false => rfl | true => have a10 := k10 h; have a9 := k9 (by simp [a10]); simp [hk] at a9
      obtain ⟨xl, xk, xv⟩ := KC.out u (c1 hE)
      rw [if_pos (by rfl)]
      simp only [Oper.wpv]
      go_simp
      exact hK _ _ ⟨hb, p0, p1, p2, p3, p4, p5, p6, p7, fun _ => rfl, p9, p10, p11, c1, c2⟩
    · rintro L T u hd hk hcl ⟨hb, p0, p1, p2, p3, p4, p5, p6, p7, p8, p9, p10, p11, c1, c2⟩ K hK
      simp only [fr, Act.put, List.setIfInBounds_toArray, List.set_cons_zero, List.set_cons_succ, updO] at hK ⊢
      simp [Region.binds] at hd
      have g4 := p4 (by simp [hd])
      have g6 := p6 (by simp [hd])
      have g8 := p8 (by simp [hd])
      rw [if_pos (by rfl)]
      simp only [Oper.wpv]
      go_simp
      exact hK _ _ ⟨hb, p0, p1, p2, p3, p4, p5, p6, p7, p8, fun _ => rfl, p10, p11, c1, c2⟩
    · rintro L T u hd hk hcl ⟨hb, p0, p1, p2, p3, p4, p5, p6, p7, p8, p9, p10, p11, c1, c2⟩ K hK
      simp only [fr, Act.put, List.setIfInBounds_toArray, List.set_cons_zero, List.set_cons_succ, updO] at hK ⊢
      simp [Region.binds] at hd
      have g0 := p0 (by simp [hd])
      have g9 := p9 (by simp [hd])
      have hE : L 10 = false := hk
      rw [if_pos (by rfl)]
      simp only [Oper.wpv]
      go_simp
      refine (HAdd.out _ (c1 hE)).mono ?_
      rintro e u1 ⟨rfl, hg⟩
      exact hK _ _ ⟨hb, p0, p1, p2, p3, p4, p5, p6, p7, p8, p9, fun _ => rfl, p11, fun h => Bool.noConfusion (show true = false from h), fun _ => hg⟩
    · rintro L T u hd hk hcl ⟨hb, p0, p1, p2, p3, p4, p5, p6, p7, p8, p9, p10, p11, c1, c2⟩ K hK
      simp only [fr, Act.put, List.setIfInBounds_toArray, List.set_cons_zero, List.set_cons_succ, updO] at hK ⊢
      simp [Region.binds] at hd
      have g10 := p10 (by simp [hd])
      rw [if_pos (by rfl)]
      simp only [Oper.wpv]
      go_simp
      exact hK _ _ ⟨hb, p0, p1, p2, p3, p4, p5, p6, p7, p8, p9, p10, fun _ => rfl, c1, c2⟩
  · rintro L T u hl ⟨hb, p0, p1, p2, p3, p4, p5, p6, p7, p8, p9, p10, p11, c1, c2⟩
    simp only [fr, Act.put, List.setIfInBounds_toArray, List.set_cons_zero, List.set_cons_succ]
    have hH := HD.out _ (c2 (hl 10 (by decide)))
    have h6 := p11 (hl 11 (by decide))
    clear p0 p1 p2 p3 p4 p5 p6 p7 p8 p9 p10 p11 c1 c2 HD HAdd KC
    obtain ⟨_, a5, c5, kx, rx, ⟨ky, hky⟩, hC⟩ := hH
    rw [h6]
    obtain ⟨Y, eY⟩ : ∃ Y : World, Y = u := ⟨_, rfl⟩
    rw [← eY] at hC ⊢
    clear eY u h6 D
    have hkm := HKM.out kx ky hky
    have eb : ((more ++ [(⟨39, 5, .slice (some ⟨X.heap.size, 0, none⟩) 1 1, 1, [.int .i64 kind, .int .i64 n, .int .i64 label, .int .i64 key, .int .i64 value]⟩ : Rw)]).set kx rx)[more.length]? = some (⟨39, 5, .slice (some ⟨X.heap.size, 0, none⟩) 1 1, 1, [.int .i64 kind, .int .i64 n, .int .i64 label, .int .i64 key, .int .i64 value]⟩ : Rw) := by
      rw [List.getElem?_set_ne (by omega)]
      simp
    have ob := hC.held.own.own _ _ (more_get eb)
    have y3 : Y.cell? ⟨X.heap.size, 3, none⟩ = some (.int .i64 key) := (own_at ob (j := 3) (by show 3 < 1 * 5; decide)).1
    have y4 : Y.cell? ⟨X.heap.size, 4, none⟩ = some (.int .i64 value) := (own_at ob (j := 4) (by show 4 < 1 * 5; decide)).1
    have zb : X.heap.size < Y.heap.size := (own_at ob (j := 2) (by show 2 < 1 * 5; decide)).2
    obtain ⟨g2, eg2, _, zgY, _, hcY, _⟩ := hC.jobAt (i := i) hi
    have e3 : g = g2 := by
      have e4 : v.ja = some ⟨g2, 0, none⟩ := eg2
      rw [eg] at e4
      simpa using e4
    subst e3
    have yn : Y.cell? ⟨g, i * 6, none⟩ = some (.int .i64 (v.js.getD i default).n) := by
      have := hcY 0 (by decide)
      simp only [] at this
      rw [set_getD _ _ _ hi'] at this
      exact this
    have KC : Hid (∀ U, Below Y.heap.size Y U → U.cell? ⟨g, i * 6, none⟩ = some (.int .i64 (v.js.getD i default).n) ∧ U.cell? ⟨X.heap.size, 3, none⟩ = some (.int .i64 key) ∧ U.cell? ⟨X.heap.size, 4, none⟩ = some (.int .i64 value)) := fun U hU => ⟨(hU.cell (p := ⟨g, i * 6, none⟩) zgY).trans yn, (hU.cell (p := ⟨X.heap.size, 3, none⟩) zb).trans y3, (hU.cell (p := ⟨X.heap.size, 4, none⟩) zb).trans y4⟩
    have HH : Hid (∀ U, Below Y.heap.size Y U → Calls Tryd.prog 50 #[.pointer (some ⟨q, 0, none⟩), .int .i64 key] U fun e U' => e = .returned (.int .i64 (homeNum v.s ls v.p key)) ∧ Below U.heap.size U U') := fun U hU => clerkHome_any U (hC.below hU) ls (HL.out _ _ _ _ (hC.below hU)) key
    obtain ⟨H, eH⟩ : ∃ H, H = homeNum v.s ls v.p key := ⟨_, rfl⟩
    obtain ⟨JN, eJN⟩ : ∃ JN, JN = (v.js.getD i default).n := ⟨_, rfl⟩
    obtain ⟨D, eD⟩ : ∃ D : World → Prop, D = fun u => AskIs w u B q v i ⟨true, L1, key, value, 0, 0, false, false⟩ (putM v.s ls v.p v.me ⟨kind, n, label, key, value⟩ (v.js.getD i default)) ix (.returned (.tuple #[])) := ⟨_, rfl⟩
    have HD : Hid (∀ u, D u → AskIs w u B q v i ⟨true, L1, key, value, 0, 0, false, false⟩ (putM v.s ls v.p v.me ⟨kind, n, label, key, value⟩ (v.js.getD i default)) ix (.returned (.tuple #[]))) := fun u hu => by rw [eD] at hu; exact hu
    have HS2 : Hid (∀ U, Below Y.heap.size Y U → Calls Tryd.prog 49 #[.pointer (some ⟨q, 0, none⟩), .int .i64 JN, .int .i64 H, .agg #[.int .i64 2, .int .i64 0, .int .i64 0, .int .i64 0, .int .i64 0, .int .i64 0, .int .i64 key, .int .i64 value, .int .i64 0, .int .i64 A, .bool false, .int .i64 0]] U fun e U' => e = .returned (.tuple #[]) ∧ D U') := fun U hU => by
      have := send_any U (hC.below hU) JN H ⟨2, 0, 0, 0, 0, 0, key, value, 0, A, false, 0⟩ Hm.out
      simp only [MV.val] at this
      refine this.mono ?_
      rintro e u ⟨rfl, m5, k5, h5⟩
      refine ⟨rfl, ?_⟩
      rw [eD]
      refine ⟨rfl, a5, c5, m5, k5, (more ++ [(⟨39, 5, .slice (some ⟨X.heap.size, 0, none⟩) 1 1, 1, [.int .i64 kind, .int .i64 n, .int .i64 label, .int .i64 key, .int .i64 value]⟩ : Rw)]).set kx rx, ?_⟩
      rw [HEA.out, eH, eJN] at h5
      exact h5
    rw [← eJN] at KC
    rw [← eH] at HH
    clear eD eH eJN hC yn y3 y4 hcY ob
    go_upto_region 2 with (fail)
    refine wp_region_inv (by kernel_rfl) [18, 19, 20, 21, 22, 23, 24, 25, 26, 27, 28, 29, 30, 31, 32, 33] (fun L T u => True ∧ (L 0 = true → T 18 = .pointer (some ⟨q, 0, none⟩)) ∧ (L 1 = true → T 19 = .pointer (some ⟨g, i * 6, none⟩)) ∧ (L 2 = true → T 20 = .pointer (some ⟨g, i * 6, none⟩)) ∧ (L 3 = true → T 21 = .pointer (some ⟨g, i * 6, none⟩)) ∧ (L 4 = true → T 22 = .int .i64 JN) ∧ (L 5 = true → T 23 = .pointer (some ⟨q, 0, none⟩)) ∧ (L 6 = true → T 24 = .pointer (some ⟨X.heap.size, 3, none⟩)) ∧ (L 7 = true → T 25 = .int .i64 key) ∧ (L 8 = true → T 26 = .int .i64 H) ∧ (L 9 = true → T 27 = .pointer (some ⟨X.heap.size, 3, none⟩)) ∧ (L 10 = true → T 28 = .int .i64 key) ∧ (L 11 = true → T 29 = .pointer (some ⟨X.heap.size, 4, none⟩)) ∧ (L 12 = true → T 30 = .int .i64 value) ∧ (L 13 = true → T 31 = .int .i64 A) ∧ (L 14 = true → T 32 = .agg #[.int .i64 2, .int .i64 0, .int .i64 0, .int .i64 0, .int .i64 0, .int .i64 0, .int .i64 key, .int .i64 value, .int .i64 0, .int .i64 A, .bool false, .int .i64 0]) ∧ (L 15 = false → Below Y.heap.size Y u) ∧ (L 15 = true → D u)) (by decide) (by kernel_rfl) (by kernel_rfl) ?_ ?_ ?_
    · exact ⟨trivial, nofun, nofun, nofun, nofun, nofun, nofun, nofun, nofun, nofun, nofun, nofun, nofun, nofun, nofun, nofun, fun _ => (Below.refl _ _).drew, nofun⟩
    · refine ⟨?_, ?_, ?_, ?_, ?_, ?_, ?_, ?_, ?_, ?_, ?_, ?_, ?_, ?_, ?_, ?_, trivial⟩
      · rintro L T u hd hk hcl ⟨hb, p0, p1, p2, p3, p4, p5, p6, p7, p8, p9, p10, p11, p12, p13, p14, c1, c2⟩ K hK
        simp only [fr, Act.put, List.setIfInBounds_toArray, List.set_cons_zero, List.set_cons_succ, updO] at hK ⊢
        simp [Region.binds] at hd
        rw [if_pos (by rfl)]
        simp only [Oper.wpv]
        go_simp
        exact hK _ _ ⟨hb, fun _ => rfl, p1, p2, p3, p4, p5, p6, p7, p8, p9, p10, p11, p12, p13, p14, c1, c2⟩
      · rintro L T u hd hk hcl ⟨hb, p0, p1, p2, p3, p4, p5, p6, p7, p8, p9, p10, p11, p12, p13, p14, c1, c2⟩ K hK
        simp only [fr, Act.put, List.setIfInBounds_toArray, List.set_cons_zero, List.set_cons_succ, updO] at hK ⊢
        simp [Region.binds] at hd
        rw [if_pos (by rfl)]
        simp only [Oper.wpv]
        go_simp
        exact hK _ _ ⟨hb, p0, fun _ => rfl, p2, p3, p4, p5, p6, p7, p8, p9, p10, p11, p12, p13, p14, c1, c2⟩
      · rintro L T u hd hk hcl ⟨hb, p0, p1, p2, p3, p4, p5, p6, p7, p8, p9, p10, p11, p12, p13, p14, c1, c2⟩ K hK
        simp only [fr, Act.put, List.setIfInBounds_toArray, List.set_cons_zero, List.set_cons_succ, updO] at hK ⊢
        simp [Region.binds] at hd
        have g1 := p1 (by simp [hd])
        rw [if_pos (by rfl)]
        simp only [Oper.wpv]
        go_simp
        exact hK _ _ ⟨hb, p0, p1, fun _ => rfl, p3, p4, p5, p6, p7, p8, p9, p10, p11, p12, p13, p14, c1, c2⟩
      · rintro L T u hd hk hcl ⟨hb, p0, p1, p2, p3, p4, p5, p6, p7, p8, p9, p10, p11, p12, p13, p14, c1, c2⟩ K hK
        simp only [fr, Act.put, List.setIfInBounds_toArray, List.set_cons_zero, List.set_cons_succ, updO] at hK ⊢
        simp [Region.binds] at hd
        have g2 := p2 (by simp [hd])
        rw [if_pos (by rfl)]
        simp only [Oper.wpv]
        go_simp
        exact hK _ _ ⟨hb, p0, p1, p2, fun _ => rfl, p4, p5, p6, p7, p8, p9, p10, p11, p12, p13, p14, c1, c2⟩
      · rintro L T u hd hk hcl ⟨hb, p0, p1, p2, p3, p4, p5, p6, p7, p8, p9, p10, p11, p12, p13, p14, c1, c2⟩ K hK
        simp only [fr, Act.put, List.setIfInBounds_toArray, List.set_cons_zero, List.set_cons_succ, updO] at hK ⊢
        simp [Region.binds] at hd
        have g3 := p3 (by simp [hd])
        have k15 := hcl 15 _ rfl
        simp [Region.binds] at k15
        have hE : L 15 = false := by cases h : L 15 with | false => rfl | true => have a15 := k15 h; simp [hk] at a15
        obtain ⟨xn, xk, xv⟩ := KC.out u (c1 hE)
        rw [if_pos (by rfl)]
        simp only [Oper.wpv]
        go_simp
        exact hK _ _ ⟨hb, p0, p1, p2, p3, fun _ => rfl, p5, p6, p7, p8, p9, p10, p11, p12, p13, p14, c1, c2⟩
      · rintro L T u hd hk hcl ⟨hb, p0, p1, p2, p3, p4, p5, p6, p7, p8, p9, p10, p11, p12, p13, p14, c1, c2⟩ K hK
        simp only [fr, Act.put, List.setIfInBounds_toArray, List.set_cons_zero, List.set_cons_succ, updO] at hK ⊢
        simp [Region.binds] at hd
        rw [if_pos (by rfl)]
        simp only [Oper.wpv]
        go_simp
        exact hK _ _ ⟨hb, p0, p1, p2, p3, p4, fun _ => rfl, p6, p7, p8, p9, p10, p11, p12, p13, p14, c1, c2⟩
      · rintro L T u hd hk hcl ⟨hb, p0, p1, p2, p3, p4, p5, p6, p7, p8, p9, p10, p11, p12, p13, p14, c1, c2⟩ K hK
        simp only [fr, Act.put, List.setIfInBounds_toArray, List.set_cons_zero, List.set_cons_succ, updO] at hK ⊢
        simp [Region.binds] at hd
        rw [if_pos (by rfl)]
        simp only [Oper.wpv]
        go_simp
        exact hK _ _ ⟨hb, p0, p1, p2, p3, p4, p5, fun _ => rfl, p7, p8, p9, p10, p11, p12, p13, p14, c1, c2⟩
      · rintro L T u hd hk hcl ⟨hb, p0, p1, p2, p3, p4, p5, p6, p7, p8, p9, p10, p11, p12, p13, p14, c1, c2⟩ K hK
        simp only [fr, Act.put, List.setIfInBounds_toArray, List.set_cons_zero, List.set_cons_succ, updO] at hK ⊢
        simp [Region.binds] at hd
        have g6 := p6 (by simp [hd])
        have k15 := hcl 15 _ rfl
        simp [Region.binds] at k15
        have k8 := hcl 8 _ rfl
        simp [Region.binds] at k8
        have hE : L 15 = false := by cases h : L 15 with | false => rfl | true => have a15 := k15 h; have a8 := k8 (by simp [a15]); simp [hk] at a8
        obtain ⟨xn, xk, xv⟩ := KC.out u (c1 hE)
        rw [if_pos (by rfl)]
        simp only [Oper.wpv]
        go_simp
        exact hK _ _ ⟨hb, p0, p1, p2, p3, p4, p5, p6, fun _ => rfl, p8, p9, p10, p11, p12, p13, p14, c1, c2⟩
      · rintro L T u hd hk hcl ⟨hb, p0, p1, p2, p3, p4, p5, p6, p7, p8, p9, p10, p11, p12, p13, p14, c1, c2⟩ K hK
        simp only [fr, Act.put, List.setIfInBounds_toArray, List.set_cons_zero, List.set_cons_succ, updO] at hK ⊢
        simp [Region.binds] at hd
        have g5 := p5 (by simp [hd])
        have g7 := p7 (by simp [hd])
        have k15 := hcl 15 _ rfl
        simp [Region.binds] at k15
        have hE : L 15 = false := by cases h : L 15 with | false => rfl | true => have a15 := k15 h; simp [hk] at a15
        rw [if_pos (by rfl)]
        simp only [Oper.wpv]
        go_simp
        refine (HH.out _ (c1 hE)).mono ?_
        rintro e u1 ⟨rfl, hg⟩
        exact hK _ _ ⟨hb, p0, p1, p2, p3, p4, p5, p6, p7, fun _ => rfl, p9, p10, p11, p12, p13, p14, fun _ => nT (c1 hE) hg, fun h => absurd (show L 15 = true from h) (by simp [hE])⟩
      · rintro L T u hd hk hcl ⟨hb, p0, p1, p2, p3, p4, p5, p6, p7, p8, p9, p10, p11, p12, p13, p14, c1, c2⟩ K hK
        simp only [fr, Act.put, List.setIfInBounds_toArray, List.set_cons_zero, List.set_cons_succ, updO] at hK ⊢
        simp [Region.binds] at hd
        rw [if_pos (by rfl)]
        simp only [Oper.wpv]
        go_simp
        exact hK _ _ ⟨hb, p0, p1, p2, p3, p4, p5, p6, p7, p8, fun _ => rfl, p10, p11, p12, p13, p14, c1, c2⟩
      · rintro L T u hd hk hcl ⟨hb, p0, p1, p2, p3, p4, p5, p6, p7, p8, p9, p10, p11, p12, p13, p14, c1, c2⟩ K hK
        simp only [fr, Act.put, List.setIfInBounds_toArray, List.set_cons_zero, List.set_cons_succ, updO] at hK ⊢
        simp [Region.binds] at hd
        have g9 := p9 (by simp [hd])
        have k15 := hcl 15 _ rfl
        simp [Region.binds] at k15
        have k14 := hcl 14 _ rfl
        simp [Region.binds] at k14
        have hE : L 15 = false := by cases h : L 15 with | false => rfl | true => have a15 := k15 h; have a14 := k14 (by simp [a15]); simp [hk] at a14
        obtain ⟨xn, xk, xv⟩ := KC.out u (c1 hE)
        rw [if_pos (by rfl)]
        simp only [Oper.wpv]
        go_simp
        exact hK _ _ ⟨hb, p0, p1, p2, p3, p4, p5, p6, p7, p8, p9, fun _ => rfl, p11, p12, p13, p14, c1, c2⟩
      · rintro L T u hd hk hcl ⟨hb, p0, p1, p2, p3, p4, p5, p6, p7, p8, p9, p10, p11, p12, p13, p14, c1, c2⟩ K hK
        simp only [fr, Act.put, List.setIfInBounds_toArray, List.set_cons_zero, List.set_cons_succ, updO] at hK ⊢
        simp [Region.binds] at hd
        rw [if_pos (by rfl)]
        simp only [Oper.wpv]
        go_simp
        exact hK _ _ ⟨hb, p0, p1, p2, p3, p4, p5, p6, p7, p8, p9, p10, fun _ => rfl, p12, p13, p14, c1, c2⟩
      · rintro L T u hd hk hcl ⟨hb, p0, p1, p2, p3, p4, p5, p6, p7, p8, p9, p10, p11, p12, p13, p14, c1, c2⟩ K hK
        simp only [fr, Act.put, List.setIfInBounds_toArray, List.set_cons_zero, List.set_cons_succ, updO] at hK ⊢
        simp [Region.binds] at hd
        have g11 := p11 (by simp [hd])
        have k15 := hcl 15 _ rfl
        simp [Region.binds] at k15
        have k14 := hcl 14 _ rfl
        simp [Region.binds] at k14
        have hE : L 15 = false := by cases h : L 15 with | false => rfl | true => have a15 := k15 h; have a14 := k14 (by simp [a15]); simp [hk] at a14
        obtain ⟨xn, xk, xv⟩ := KC.out u (c1 hE)
        rw [if_pos (by rfl)]
        simp only [Oper.wpv]
        go_simp
        exact hK _ _ ⟨hb, p0, p1, p2, p3, p4, p5, p6, p7, p8, p9, p10, p11, fun _ => rfl, p13, p14, c1, c2⟩
      · rintro L T u hd hk hcl ⟨hb, p0, p1, p2, p3, p4, p5, p6, p7, p8, p9, p10, p11, p12, p13, p14, c1, c2⟩ K hK
        simp only [fr, Act.put, List.setIfInBounds_toArray, List.set_cons_zero, List.set_cons_succ, updO] at hK ⊢
        simp [Region.binds] at hd
        rw [if_pos (by rfl)]
        simp only [Oper.wpv]
        go_simp
        exact hK _ _ ⟨hb, p0, p1, p2, p3, p4, p5, p6, p7, p8, p9, p10, p11, p12, fun _ => rfl, p14, c1, c2⟩
      · rintro L T u hd hk hcl ⟨hb, p0, p1, p2, p3, p4, p5, p6, p7, p8, p9, p10, p11, p12, p13, p14, c1, c2⟩ K hK
        simp only [fr, Act.put, List.setIfInBounds_toArray, List.set_cons_zero, List.set_cons_succ, updO] at hK ⊢
        simp [Region.binds] at hd
        have g10 := p10 (by simp [hd])
        have g12 := p12 (by simp [hd])
        have g13 := p13 (by simp [hd])
        rw [if_pos (by rfl)]
        simp only [Oper.wpv]
        go_simp
        exact hK _ _ ⟨hb, p0, p1, p2, p3, p4, p5, p6, p7, p8, p9, p10, p11, p12, p13, fun _ => rfl, c1, c2⟩
      · rintro L T u hd hk hcl ⟨hb, p0, p1, p2, p3, p4, p5, p6, p7, p8, p9, p10, p11, p12, p13, p14, c1, c2⟩ K hK
        simp only [fr, Act.put, List.setIfInBounds_toArray, List.set_cons_zero, List.set_cons_succ, updO] at hK ⊢
        simp [Region.binds] at hd
        have g0 := p0 (by simp [hd])
        have g4 := p4 (by simp [hd])
        have g8 := p8 (by simp [hd])
        have g14 := p14 (by simp [hd])
        have hE : L 15 = false := hk
        rw [if_pos (by rfl)]
        simp only [Oper.wpv]
        go_simp
        refine (HS2.out _ (c1 hE)).mono ?_
        rintro e u1 ⟨rfl, hg⟩
        exact hK _ _ ⟨hb, p0, p1, p2, p3, p4, p5, p6, p7, p8, p9, p10, p11, p12, p13, p14, fun h => Bool.noConfusion (show true = false from h), fun _ => hg⟩
    · rintro L T u hl ⟨hb, p0, p1, p2, p3, p4, p5, p6, p7, p8, p9, p10, p11, p12, p13, p14, c1, c2⟩
      simp only [fr, Act.put, List.setIfInBounds_toArray, List.set_cons_zero, List.set_cons_succ]
      have hH := c2 (hl 15 (by decide))
      clear p0 p1 p2 p3 p4 p5 p6 p7 p8 p9 p10 p11 p12 p13 p14 c1 c2
      exact bodyPost_end (v := .tuple #[]) (by simp [results, Tryd.results25, go_sem]) rfl (HD.out _ hH)
end Go.Proofs.YtdjnaahkcnklhabDoor.Co
/- coord on plain data: what a clerk's turn becomes. -/
namespace Go.Proofs.YtdjnaahkcnklhabDoor.Co
open Go.ChangeShapes Go.WideShapes Go.ChangeAt Go.RowKit
open Go.Proofs.YtdjnaahkcnklhabDoor.St (BoxN boxn_new own_below grown_setCell IsRow Elem flat flat_append own_isRow idxI idxI_lt)
open Go.Proofs.YtdjnaahkcnklhabDoor.Se (seesB)
set_option linter.unusedVariables false

/-- A label's clerk at a site. -/
structure Cx where
  s : Int
  ls : List (Int × Int)
  p : Int
  l : Int
  me : Int
/-- A turn, as plain data (its jobs and records are bare). -/
structure Tn where
  next : Int
  js : List JbV
  ms : List MV
  rs : List RcV
  ps : List RpV
  sure : Int
  com : Int
def RcV.bare (r : RcV) : RcV := { r with sa := none, sl := 0, sc := 0 }
def CkV.tn (v : CkV) : Tn := ⟨v.next, v.js.map JbV.bare, v.ms, v.rs.map RcV.bare, v.ps, v.sure, v.com⟩
def CkV.cx (v : CkV) (ls : List (Int × Int)) : Cx := ⟨v.s, ls, v.p, v.l, v.me⟩
def Cx.hands (C : Cx) (ts : List TkV) : List Int := handsOf C.s C.ls C.p C.l ts
def Cx.home (C : Cx) (key : Int) : Int := homeNum C.s C.ls C.p key
def Cx.sees (C : Cx) (place : Int) : Bool := seesB C.s C.ls C.p C.l place
def Tn.rep (t : Tn) (C : Cx) (kind n key value code : Int) : Tn := { t with ps := t.ps ++ [⟨C.me, kind, n, key, value, code⟩] }
def Tn.ended (t : Tn) (C : Cx) (n : Int) (ts : List TkV) : Tn := { t with ms := t.ms ++ (C.hands ts).map (decM C.me n false), js := kept n t.js }
def Tn.begun (t : Tn) (C : Cx) (room : Int) : Tn := if (decide (6 ≤ t.js.length) || decide (1048576 < t.next) || decide (room < 600)) = true then t.rep C 1 0 0 0 8 else { t with next := t.next + 1, js := t.js ++ [newJob t.next], rs := t.rs ++ [⟨5, C.me, t.next, 0, 0, 0, false, none, 0, 0, []⟩], ps := t.ps ++ [⟨C.me, 1, t.next, 0, 0, 0⟩] }
def askJob (j : JbV) (t : TkV) : JbV := { j with asks := j.asks + 1, age := 0, tasks := j.tasks ++ [{ t with ask := j.asks + 1 }] }
def Tn.asked (t : Tn) (i : Nat) (tk : TkV) (m : MV) : Tn := { t with js := t.js.set i (askJob (t.js.getD i default) tk), ms := t.ms ++ [m] }
def teltJob (j : JbV) (H : List Int) : JbV := { j with state := 3, age := 0, asked := H }
def Tn.comm (t : Tn) (C : Cx) (i : Nat) : Tn :=
  if C.hands (t.js.getD i default).tasks = [] then { t with com := (t.js.getD i default).n, ps := t.ps ++ [⟨C.me, 4, (t.js.getD i default).n, 0, 0, 0⟩], js := kept (t.js.getD i default).n t.js }
  else { t with com := (t.js.getD i default).n, ps := t.ps ++ [⟨C.me, 4, (t.js.getD i default).n, 0, 0, 0⟩], rs := t.rs ++ (if ((t.js.getD i default).tasks.any fun t => t.write) = true then [⟨3, C.me, (t.js.getD i default).n, 0, 0, 0, false, none, 0, 0, C.hands (t.js.getD i default).tasks⟩] else []), js := t.js.set i (teltJob (t.js.getD i default) (C.hands (t.js.getD i default).tasks)), ms := t.ms ++ (C.hands (t.js.getD i default).tasks).map (decM C.me (t.js.getD i default).n true) }
def Tn.check (t : Tn) (C : Cx) (i : Nat) : Tn :=
  if allSure (t.js.getD i default).tasks = true then Tn.comm { t with sure := (t.js.getD i default).n } C i
  else { t with sure := (t.js.getD i default).n, js := t.js.set i { t.js.getD i default with state := 2, age := 0 }, ms := t.ms ++ chkMs C.s C.ls C.p C.me (t.js.getD i default).n (t.js.getD i default).tasks }
/-- What a call for a job is refused with. -/
def askErr (C : Cx) (x : ClV) (j : JbV) : Int :=
  if j.state = 1 then (if waitB j = true then 14 else if (x.kind == 2 || x.kind == 3) = true then (if (inR x.key 0 7 && inR x.value 0 1073741824) = true then (if (x.kind == 2 && !C.sees x.label) = true then 10 else if (decide (10 ≤ j.tasks.length) || decide (1048576 ≤ j.asks)) = true then 8 else 0) else 2) else 0) else 13
def Tn.call (t : Tn) (C : Cx) (room : Int) (x : ClV) : Tn :=
  if x.kind = 1 then t.begun C room
  else if idxI (isN x.n) t.js = -1 then t.rep C x.kind x.n x.key 0 6
  else if askErr C x (t.js.getD (idxI (isN x.n) t.js).toNat default) ≠ 0 then t.rep C x.kind x.n x.key 0 (askErr C x (t.js.getD (idxI (isN x.n) t.js).toNat default))
  else if x.kind = 2 then t.asked (idxI (isN x.n) t.js).toNat ⟨false, x.label, x.key, 0, 0, 0, false, false⟩ ⟨1, C.me, C.home x.key, C.me, (t.js.getD (idxI (isN x.n) t.js).toNat default).n, x.label, x.key, 0, 0, (t.js.getD (idxI (isN x.n) t.js).toNat default).asks + 1, false, 0⟩
  else if x.kind = 3 then t.asked (idxI (isN x.n) t.js).toNat ⟨true, C.l, x.key, x.value, 0, 0, false, false⟩ ⟨2, C.me, C.home x.key, C.me, (t.js.getD (idxI (isN x.n) t.js).toNat default).n, 0, x.key, x.value, 0, (t.js.getD (idxI (isN x.n) t.js).toNat default).asks + 1, false, 0⟩
  else if x.kind = 4 then t.check C (idxI (isN x.n) t.js).toNat
  else (t.ended C (t.js.getD (idxI (isN x.n) t.js).toNat default).n (t.js.getD (idxI (isN x.n) t.js).toNat default).tasks).rep C 5 x.n 0 0 0
/-- A desk at the beginning of a turn. -/
def tn0 (next : Int) (js : List JbV) : Tn := ⟨next, js.map JbV.bare, [], [], [], 0, 0⟩

theorem bare_bare (j : JbV) : j.bare.bare = j.bare := rfl
theorem getD_bare (js : List JbV) (i : Nat) : (js.map JbV.bare).getD i default = (js.getD i default).bare := by
  by_cases h : i < js.length
  · simp [List.getD, h]
  · simp [List.getD, h]
    rfl
theorem idx_bare (n : Int) (js : List JbV) : idxI (isN n) (js.map JbV.bare) = idxI (isN n) js := by
  unfold idxI
  rw [List.findIdx?_map]
  rfl
theorem kept_bare (n : Int) (js : List JbV) : (kept n js).map JbV.bare = kept n (js.map JbV.bare) := by
  unfold kept keep
  induction js with
  | nil => rfl
  | cons a l ih =>
    have e : isN n a.bare = isN n a := rfl
    cases h : isN n a <;> simp [List.filter, h, e] at ih ⊢ <;> exact ih
theorem set_bare (js : List JbV) (i : Nat) (j : JbV) : (js.set i j).map JbV.bare = (js.map JbV.bare).set i j.bare := by rw [List.map_set]
theorem tn_rep (v : CkV) (ls : List (Int × Int)) (pa : Option Addr) (pc : Nat) (kind n key value code : Int) : (refusedV v pa pc ⟨v.me, kind, n, key, value, code⟩).tn = v.tn.rep (v.cx ls) kind n key value code := rfl
theorem tn_begun (v : CkV) (ls : List (Int × Int)) (room : Int) (hl : v.js.length = v.jl) (ja : Option Addr) (jc : Nat) (ra : Option Addr) (rc : Nat) (pa : Option Addr) (pc : Nat) : (fullB v room = true → v.tn.begun (v.cx ls) room = (refusedV v pa pc ⟨v.me, 1, 0, 0, 0, 8⟩).tn) ∧ (fullB v room = false → v.tn.begun (v.cx ls) room = (begunV v ja jc ra rc pa pc).tn) := by
  have e : (decide (6 ≤ v.tn.js.length) || decide (1048576 < v.tn.next) || decide (room < 600)) = fullB v room := by
    unfold fullB CkV.tn
    simp [hl]
  unfold Tn.begun
  rw [e]
  refine ⟨fun h => ?_, fun h => ?_⟩
  · rw [if_pos h]; rfl
  · rw [if_neg (by rw [h]; decide)]
    unfold begunV CkV.tn CkV.cx
    simp [newJob, JbV.bare, RcV.bare]
theorem tn_ask (v : CkV) (i : Nat) (hi : i < v.js.length) (t : TkV) (a5 : Option Addr) (c5 : Nat) (ma : Option Addr) (mc : Nat) (m : MV) : (askV v i t a5 c5 ma mc m).tn = v.tn.asked i t m := by
  unfold askV CkV.tn Tn.asked
  simp only [set_bare, getD_bare]
  rfl
theorem tn_end (v : CkV) (ls : List (Int × Int)) (ma : Option Addr) (mc : Nat) (n : Int) (ts : List TkV) : ({ toldV v ma mc n false (handsOf v.s ls v.p v.l ts) with jl := (kept n v.js).length, js := kept n v.js } : CkV).tn = v.tn.ended (v.cx ls) n ts := by
  unfold toldV CkV.tn Tn.ended
  simp only [kept_bare]
  rfl
theorem tn_gone (v : CkV) (ls : List (Int × Int)) (i : Nat) (pa : Option Addr) (pc : Nat) (h : handsOf v.s ls v.p v.l (v.js.getD i default).tasks = []) : (goneV v (v.js.getD i default).n pa pc).tn = v.tn.comm (v.cx ls) i := by
  unfold Tn.comm
  have e : v.tn.js.getD i default = (v.js.getD i default).bare := getD_bare _ _
  rw [if_pos (by rw [e]; exact h)]
  unfold goneV CkV.tn
  simp only [kept_bare, getD_bare]
  rfl
theorem tn_com (v : CkV) (ls : List (Int × Int)) (i : Nat) (pa : Option Addr) (pc : Nat) (ra : Option Addr) (rc : Nat) (ma : Option Addr) (mc : Nat) (aa : Option Addr) (ac : Nat) (sa : Option Addr) (sc : Nat) (h : handsOf v.s ls v.p v.l (v.js.getD i default).tasks ≠ []) : (comV v i (v.js.getD i default).n pa pc ra rc ma mc aa ac (if ((v.js.getD i default).tasks.any fun t => t.write) = true then [comRc v.me (v.js.getD i default).n sa sc (handsOf v.s ls v.p v.l (v.js.getD i default).tasks)] else []) (handsOf v.s ls v.p v.l (v.js.getD i default).tasks)).tn = v.tn.comm (v.cx ls) i := by
  have e : v.tn.js.getD i default = (v.js.getD i default).bare := getD_bare _ _
  have hn : ¬ (v.cx ls).hands (v.tn.js.getD i default).tasks = [] := by rw [e]; exact h
  unfold Tn.comm
  rw [if_neg hn, e]
  unfold comV CkV.tn
  simp only [set_bare, List.map_append]
  have e2 : (v.js.getD i default).bare.tasks = (v.js.getD i default).tasks := rfl
  rw [e2]
  cases ((v.js.getD i default).tasks.any fun t => t.write)
  · rfl
  · rfl
theorem tn_chk (v : CkV) (ls : List (Int × Int)) (i : Nat) (ma : Option Addr) (mc : Nat) (h : allSure (v.js.getD i default).tasks = false) : (chkV v i (v.js.getD i default).n ma mc (chkMs v.s ls v.p v.me (v.js.getD i default).n (v.js.getD i default).tasks)).tn = v.tn.check (v.cx ls) i := by
  unfold Tn.check
  have e : v.tn.js.getD i default = (v.js.getD i default).bare := getD_bare _ _
  rw [if_neg (by rw [e]; show ¬ allSure (v.js.getD i default).tasks = true; rw [h]; decide)]
  rw [e]
  unfold chkV CkV.tn
  simp only [set_bare]
  rfl
theorem tn_chkCom (v : CkV) (ls : List (Int × Int)) (i : Nat) (h : allSure (v.js.getD i default).tasks = true) : v.tn.check (v.cx ls) i = ({ v with sure := (v.js.getD i default).n } : CkV).tn.comm (v.cx ls) i := by
  unfold Tn.check
  have e : v.tn.js.getD i default = (v.js.getD i default).bare := getD_bare _ _
  rw [if_pos (by rw [e]; exact h)]
  rw [e]
  rfl
theorem ask_err (C : Cx) (x : ClV) (j : JbV) (h : j.tasks.length = j.tl) : callErr (C.sees x.label) x j = askErr C x j.bare := by
  unfold callErr askErr taskErr
  have e : waitB j.bare = waitB j := rfl
  have e1 : j.bare.state = j.state := rfl
  have e2 : j.bare.tasks = j.tasks := rfl
  have e3 : j.bare.asks = j.asks := rfl
  rw [e, e1, e2, e3, h]
/-- What a turn's lists are in memory: rows of the call's own. -/
def RecsIn (rs : List RcV) (more : List Rw) : Prop := ∀ r ∈ rs, (r.sa = none ∧ r.sl = 0 ∧ r.sc = 0 ∧ r.zs = []) ∨ ∃ k : Nat, more[k]? = some (siteRow r.sa r.sl r.sc r.zs)
structure Turned (w w' : World) (v : CkV) (ix : List (Nat × Nat)) (more : List Rw) : Prop where
  own : Own w' w.heap.size (v.rows ++ more)
  jobs : JobsIn v.js ix more
  recs : RecsIn v.rs more
  lens : v.js.length = v.jl ∧ v.ms.length = v.ml ∧ v.rs.length = v.rl ∧ v.ps.length = v.pl
  bel : Below w.heap.size w w'
def CkV.turn (v : CkV) : Value := .agg #[.int .i64 v.next, .slice v.ja v.jl v.jc, .slice v.ma v.ml v.mc, .slice v.ra v.rl v.rc, .slice v.pa v.pl v.pc, .int .i64 v.sure, .int .i64 v.com]
def TurnIs (w w' : World) (tv : Value) (t : Tn) : Prop := ∃ (v : CkV) (ix : List (Nat × Nat)) (more : List Rw), tv = v.turn ∧ Turned w w' v ix more ∧ v.tn = t
theorem recsIn_nil (more : List Rw) : RecsIn [] more := fun r hr => by cases hr
theorem rise_len {s : Int} : ∀ {l : List Int} {low : Int}, rise s low l = true → low ≤ s → (l.length : Int) ≤ s - low
  | [], low, _, h => by simp; omega
  | a :: l, low, h, hl => by
    simp only [rise, Bool.and_eq_true, inR, decide_eq_true_eq] at h
    have := rise_len (l := l) h.2 (by omega)
    simp only [List.length_cons]
    omega
theorem jbsGo_mem {s nl next : Int} : ∀ {l : List JbV} {low : Int}, jbsGo s nl next low l = true → ∀ j ∈ l, jbOK s nl j = true ∧ low ≤ j.n ∧ j.n ≤ next - 1
  | [], _, _, j, hj => by cases hj
  | a :: l, low, h, j, hj => by
    simp only [jbsGo, Bool.and_eq_true, inR, decide_eq_true_eq] at h
    cases hj with
    | head => exact ⟨h.1.2, h.1.1.1, h.1.1.2⟩
    | tail _ hj =>
      have := jbsGo_mem (l := l) h.2 j hj
      exact ⟨this.1, by omega, this.2.2⟩
theorem jbOK_fit {s nl : Int} {j : JbV} (h : jbOK s nl j = true) (hs : 0 ≤ s ∧ s ≤ 4) : j.tasks.length ≤ 10 ∧ j.asked.length ≤ 4 ∧ 0 ≤ j.asks ∧ j.asks ≤ 1048576 := by
  simp only [jbOK, tksOK, Bool.and_eq_true, inR, decide_eq_true_eq] at h
  have := rise_len h.1.1.2 hs.1
  refine ⟨h.2.1, by omega, h.1.1.1.2.1, h.1.1.1.2.2⟩
end Go.Proofs.YtdjnaahkcnklhabDoor.Co
