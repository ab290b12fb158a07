/- The walk of the law PartForces: at any config, stores and notes it returns true and leaves what was in memory. -/
import Derived.Test.YtifdjlhgcbkamaaM24PartForces
import Derived.Test.YtifdjlhgcbkamaaA23PartForces
import Derived.Test.YtifdjlhgcbkamaaA25PartForces
namespace Go.Proofs.Ytifdjlhgcbkamaa.Pt
open Go.ChangeShapes Go.WideShapes Go.ChangeAt Go.RowKit
open Go.Proofs.Ytifdjlhgcbkamaa.St (SV IsStore IsRow TxWf SLight BoxN boxn_new flat Elem own_isRow own_below)
set_option linter.unusedVariables false

theorem stInfo : (Try.prog.info? 34).map (fun i => (i.zero, i.size, i.bytes)) = some (some (.agg #[.slice none 0 0, .slice none 0 0, .slice none 0 0, .slice none 0 0]), 4, 96) := by kernel_rfl
theorem box_len (s : SV) : s.box.length = 4 := rfl
theorem box_one (s : SV) : ∀ u ∈ s.box, u.oneCell' = true := by
  intro u hu
  simp only [SV.box, List.mem_cons, List.not_mem_nil, or_false] at hu
  rcases hu with rfl | rfl | rfl | rfl <;> rfl
theorem stElem : ∃ i, Elem 4 SV.box 34 25 i (.agg #[.slice none 0 0, .slice none 0 0, .slice none 0 0, .slice none 0 0]) 96 := by
  obtain ⟨j0, hj, lj0, lj1, lj2⟩ := info_parts stInfo
  exact ⟨j0, box_len, by decide, box_one, Try.underlying25, hj, lj0, lj1, lj2, rfl⟩
theorem ans_box {u : World} {g B : Nat} {vs : List Value} (bx : BoxN u g 7 vs) {v : AnsV} (h : IsAns u v) (hf : v.far B) (hB : g < B) (v0 v1 v2 v3 v4 v5 v6 : Value) :
    BoxN (((((((u.setCell ⟨g, 0, none⟩ v0).setCell ⟨g, 1, none⟩ v1).setCell ⟨g, 2, none⟩ v2).setCell ⟨g, 3, none⟩ v3).setCell ⟨g, 4, none⟩ v4).setCell ⟨g, 5, none⟩ v5).setCell ⟨g, 6, none⟩ v6) g 7 [v0, v1, v2, v3, v4, v5, v6] ∧ IsAns (((((((u.setCell ⟨g, 0, none⟩ v0).setCell ⟨g, 1, none⟩ v1).setCell ⟨g, 2, none⟩ v2).setCell ⟨g, 3, none⟩ v3).setCell ⟨g, 4, none⟩ v4).setCell ⟨g, 5, none⟩ v5).setCell ⟨g, 6, none⟩ v6) v :=
  ⟨box7 bx v0 v1 v2 v3 v4 v5 v6, h.grown (grown7 u g v0 v1 v2 v3 v4 v5 v6) hf hB⟩

set_option maxRecDepth 100000 in
set_option maxHeartbeats 8000000 in
theorem partForces_walk (s : Int) (a : Option Addr) (len cap : Nat) (q : Int) (ls : List (Int × Int)) (l me : Int) (sa : Option Addr) (n sc : Nat) (ss : List SV) (na : Option Addr) (nn nc : Nat) (ns : List NV) (t : Int × Int) (yes : Bool) (w : World) (_ : (Lit.int .i64 s).wf = true) (h : IsLabs w a len cap ls) (_ : (Lit.int .i64 q).wf = true) (_ : (Lit.int .i64 l).wf = true) (_ : (Lit.int .i64 me).wf = true) (hS : IsStores w sa n sc ss) (hL : SSLight n ss) (hN : IsNotes w na nn nc ns) (hn24 : nn * 24 ≤ 140737488351232) (_ : TxWf t) :
    Calls Try.prog 3 #[.agg #[.int .i64 s, .slice a len cap, .int .i64 q], .int .i64 l, .int .i64 me, .slice sa n sc, .slice na nn nc, .agg #[.int .i64 t.1, .int .i64 t.2], .bool yes] w fun e w' => e = .returned (.bool true) ∧ Below w.heap.size w w' := by
  obtain ⟨iS, ES⟩ := stElem
  have hov : ∀ i, i < n → (ss.getD i default).ol * 16 ≤ 140737488351232 := fun i hi => (hL.2 i hi).over
  have hn96 := hL.1
  have HSl : Hid (ss.length = n) := hS.row.1
  have HNl : Hid (ns.length = nn) := hN.1
  have hDec := fun sa sc na nc w' h1 h2 h3 => force_any s q a len cap ls l me sa n sc ss na nn nc ns t yes w' h1 h2 h3 hn24 hov
  have hRef := fun w' h1 h2 h3 => forced_any s q a len cap ls l me sa n sc ss na nn nc ns t yes w' h1 h2 h3 hn24 hL
  obtain ⟨TD, eTD⟩ : ∃ x, x = forceD s ls q l me n ss nn ns t yes := ⟨_, rfl⟩
  obtain ⟨er, eE⟩ : ∃ x, x = forceErr s ls q l me n ss nn t := ⟨_, rfl⟩
  rw [← eTD, ← eE] at hDec hRef
  clear eTD eE
  obtain ⟨t1, t2⟩ := t
  simp only [] at hDec hRef ⊢
  obtain ⟨W, hW⟩ : ∃ W : World, W = (w.alloc (.cells #[.int .i64 s, .slice a len cap, .int .i64 q] 24)).alloc (.cells #[.int .i64 t1, .int .i64 t2] 28) := ⟨_, rfl⟩
  have hBw : Below w.heap.size w W := by rw [hW]; exact ((Below.refl _ _).alloc (Nat.le_refl _) _).alloc (by simp) _
  have z1 : w.heap.size + 1 < W.heap.size := by rw [hW]; simp
  have z0 : w.heap.size < W.heap.size := by omega
  have c0 : W.cell? ⟨w.heap.size, 0, none⟩ = some (.int .i64 s) := by rw [hW]; go_simp
  have c1 : W.cell? ⟨w.heap.size, 1, none⟩ = some (.slice a len cap) := by rw [hW]; go_simp
  have c2 : W.cell? ⟨w.heap.size, 2, none⟩ = some (.int .i64 q) := by rw [hW]; go_simp
  have c3 : W.cell? ⟨w.heap.size + 1, 0, none⟩ = some (.int .i64 t1) := by rw [hW]; go_simp
  have c4 : W.cell? ⟨w.heap.size + 1, 1, none⟩ = some (.int .i64 t2) := by rw [hW]; go_simp
  have KC : Hid (∀ U : World, Below W.heap.size W U → U.cell? ⟨w.heap.size, 0, none⟩ = some (.int .i64 s) ∧ U.cell? ⟨w.heap.size, 1, none⟩ = some (.slice a len cap) ∧ U.cell? ⟨w.heap.size, 2, none⟩ = some (.int .i64 q) ∧ U.cell? ⟨w.heap.size + 1, 0, none⟩ = some (.int .i64 t1) ∧ U.cell? ⟨w.heap.size + 1, 1, none⟩ = some (.int .i64 t2)) := fun U hU => ⟨(hU.cell (p := ⟨w.heap.size, 0, none⟩) z0).trans c0, (hU.cell (p := ⟨w.heap.size, 1, none⟩) z0).trans c1, (hU.cell (p := ⟨w.heap.size, 2, none⟩) z0).trans c2, (hU.cell (p := ⟨w.heap.size + 1, 0, none⟩) z1).trans c3, (hU.cell (p := ⟨w.heap.size + 1, 1, none⟩) z1).trans c4⟩
  have KB : Hid (∀ U : World, Below W.heap.size W U → Below w.heap.size w U) := fun U hU => hBw.trans (hU.mono hBw.size)
  have KL : Hid (∀ U : World, Below W.heap.size W U → IsLabs U a len cap ls) := fun U hU => h.below (KB.out U hU)
  have KS : Hid (∀ U : World, Below W.heap.size W U → IsStores U sa n sc ss) := fun U hU => hS.below (KB.out U hU)
  have KR : Hid (∀ U : World, Below W.heap.size W U → IsRow 4 SV.box U sa n sc ss) := fun U hU => (hS.below (KB.out U hU)).row
  have KN : Hid (∀ U : World, Below W.heap.size W U → IsNotes U na nn nc ns) := fun U hU => St.IsRow.below hN (KB.out U hU)
  have HNc : Hid (∀ U, Below W.heap.size W U → Calls Try.prog 8 #[.slice na nn nc] U fun e w' => NotesNew U w' e nn ns) := fun U hU => notesCopy_any na nn nc ns U (KN.out U hU) hn24
  go_enter Try.func3, Try.ntmps3
  go_upto_region 1 with (fail)
  rw [← hW]
  clear hW
  go_cut [15, 16] (fun s9 s10 wc => ∃ (g : Nat) (v : AnsV), s9 = .pointer (some ⟨g, 0, none⟩) ∧ s10 = .int .i64 er ∧ BoxN wc g 7 v.cells ∧ IsAns wc v ∧ v.data = TD ∧ Below W.heap.size W wc)
  case first =>
    clear c0 c1 c2 c3 c4 hRef
    refine wp_region_inv (by kernel_rfl) [20, 21, 22, 23, 24, 25, 26, 27, 28, 29, 19, 30, 31, 15, 16] (fun L T u => ∃ (a6 : Option Addr) (c6 : Nat) (a7 : Option Addr) (c7 : Nat) (v : AnsV) (lo : Nat) (A : Nat), Below W.heap.size W u ∧ (L 0 = true → T 20 = .agg #[.int .i64 s, .slice a len cap, .int .i64 q]) ∧ (L 1 = true → T 21 = .int .i64 l) ∧ (L 2 = true → T 22 = .int .i64 me) ∧ (L 3 = true → T 23 = .slice sa n sc) ∧ (L 4 = true → T 24 = .slice a6 n c6) ∧ (L 4 = true → L 9 = false → IsRow 4 SV.box u a6 n c6 ss) ∧ (L 5 = true → T 25 = .slice na nn nc) ∧ (L 6 = true → T 26 = .slice a7 nn c7) ∧ (L 6 = true → L 9 = false → IsNotes u a7 nn c7 ns) ∧ (L 7 = true → T 27 = .agg #[.int .i64 t1, .int .i64 t2]) ∧ (L 8 = true → T 28 = .bool yes) ∧ (L 9 = true → (T 29 = .tuple #[v.val, .int .i64 er] ∧ v.data = TD ∧ v.far lo)) ∧ (L 9 = true → IsAns u v) ∧ (L 10 = true → T 19 = .tuple #[v.val, .int .i64 er]) ∧ (L 11 = true → T 30 = .agg #[.slice v.st.ia v.st.il v.st.ic, .slice v.st.la v.st.ll v.st.lc, .slice v.st.da v.st.dl v.st.dc, .slice v.st.oa v.st.ol v.st.oc, .slice v.ma v.ml v.mc, .slice v.ra v.rl v.rc, .slice v.na v.nl v.nc]) ∧ (L 12 = true → T 31 = .int .i64 er) ∧ (L 13 = true → (T 15 = .pointer (some ⟨A, 0, none⟩) ∧ W.heap.size ≤ A ∧ A < u.heap.size)) ∧ (L 13 = true → L 14 = false → BoxN u A 7 [.slice none 0 0, .slice none 0 0, .slice none 0 0, .slice none 0 0, .slice none 0 0, .slice none 0 0, .slice none 0 0]) ∧ (L 14 = true → BoxN u A 7 v.cells) ∧ (L 15 = true → T 16 = .int .i64 er) ∧ (L 9 = true → L 13 = true → (A < lo ∨ ∃ u0 : World, IsAns u0 v ∧ Below u0.heap.size u0 u ∧ u0.heap.size ≤ A))) (by decide) (by kernel_rfl) (by kernel_rfl) ?_ ?_ ?_
    · exact ⟨none, 0, none, 0, AnsV.nil, 0, 0, (Below.refl _ _).drew, nofun, nofun, nofun, nofun, nofun, nofun, nofun, nofun, nofun, nofun, nofun, nofun, nofun, nofun, nofun, nofun, nofun, nofun, nofun, nofun, nofun⟩
    · refine ⟨?_, ?_, ?_, ?_, ?_, ?_, ?_, ?_, ?_, ?_, ?_, ?_, ?_, ?_, ?_, ?_, trivial⟩
      · rintro L T u hd hk hcl ⟨a6, c6, a7, c7, v, lo, A, hb, f0, f1, f2, f3, f4, f4w, f5, f6, f6w, f7, f8, f9, f9w, f10, f11, f12, f13, f13w, f14, f15, x913⟩ K hK
        simp only [fr, Act.put, List.setIfInBounds_toArray, List.set_cons_zero, List.set_cons_succ, updO] at hK ⊢
        simp [Region.binds] at hd
        obtain ⟨c0, c1, c2, c3, c4⟩ := KC.out u hb
        rw [if_pos (by rfl)]
        simp only [Oper.wpv]
        go_simp
        exact hK _ _ ⟨a6, c6, a7, c7, v, lo, A, hb, fun _ => rfl, f1, f2, f3, f4, f4w, f5, f6, f6w, f7, f8, f9, f9w, f10, f11, f12, f13, f13w, f14, f15, x913⟩
      · rintro L T u hd hk hcl ⟨a6, c6, a7, c7, v, lo, A, hb, f0, f1, f2, f3, f4, f4w, f5, f6, f6w, f7, f8, f9, f9w, f10, f11, f12, f13, f13w, f14, f15, x913⟩ K hK
        simp only [fr, Act.put, List.setIfInBounds_toArray, List.set_cons_zero, List.set_cons_succ, updO] at hK ⊢
        simp [Region.binds] at hd
        rw [if_pos (by rfl)]
        simp only [Oper.wpv]
        go_simp
        exact hK _ _ ⟨a6, c6, a7, c7, v, lo, A, hb, f0, fun _ => rfl, f2, f3, f4, f4w, f5, f6, f6w, f7, f8, f9, f9w, f10, f11, f12, f13, f13w, f14, f15, x913⟩
      · rintro L T u hd hk hcl ⟨a6, c6, a7, c7, v, lo, A, hb, f0, f1, f2, f3, f4, f4w, f5, f6, f6w, f7, f8, f9, f9w, f10, f11, f12, f13, f13w, f14, f15, x913⟩ K hK
        simp only [fr, Act.put, List.setIfInBounds_toArray, List.set_cons_zero, List.set_cons_succ, updO] at hK ⊢
        simp [Region.binds] at hd
        rw [if_pos (by rfl)]
        simp only [Oper.wpv]
        go_simp
        exact hK _ _ ⟨a6, c6, a7, c7, v, lo, A, hb, f0, f1, fun _ => rfl, f3, f4, f4w, f5, f6, f6w, f7, f8, f9, f9w, f10, f11, f12, f13, f13w, f14, f15, x913⟩
      · rintro L T u hd hk hcl ⟨a6, c6, a7, c7, v, lo, A, hb, f0, f1, f2, f3, f4, f4w, f5, f6, f6w, f7, f8, f9, f9w, f10, f11, f12, f13, f13w, f14, f15, x913⟩ K hK
        simp only [fr, Act.put, List.setIfInBounds_toArray, List.set_cons_zero, List.set_cons_succ, updO] at hK ⊢
        simp [Region.binds] at hd
        rw [if_pos (by rfl)]
        simp only [Oper.wpv]
        go_simp
        exact hK _ _ ⟨a6, c6, a7, c7, v, lo, A, hb, f0, f1, f2, fun _ => rfl, f4, f4w, f5, f6, f6w, f7, f8, f9, f9w, f10, f11, f12, f13, f13w, f14, f15, x913⟩
      · rintro L T u hd hk hcl ⟨a6, c6, a7, c7, v, lo, A, hb, f0, f1, f2, f3, f4, f4w, f5, f6, f6w, f7, f8, f9, f9w, f10, f11, f12, f13, f13w, f14, f15, x913⟩ K hK
        simp only [fr, Act.put, List.setIfInBounds_toArray, List.set_cons_zero, List.set_cons_succ, updO] at hK ⊢
        simp [Region.binds] at hd
        have g3 := f3 (by simp [hd])
        rw [if_pos (by rfl)]
        simp only [Oper.wpv]
        refine St.wpv_append_row ES (.const (.slice none 0 0)) (.tmp 23) (by rfl) W.heap.size (.slice none 0 0) 0 [] (by rfl) (World.ownsRow_nil _ _ _ _) sa n sc ss g3 (KR.out _ hb) (by unfold maxLen; omega) (by omega) hb.size ?_
        intro b6 d6 u1 own1 gr1 at1
        have hg := grownN gr1
        simp only [Nat.zero_add, List.nil_append] at own1 ⊢
        have hR1 := (own_isRow box_len own1 HSl.out).1
        exact hK _ _ ⟨b6, d6, a7, c7, v, lo, A, (nT hb hg), f0, f1, f2, f3, fun _ => rfl, fun _ _ => hR1, f5, f6, fun h0 h1 => St.IsRow.below (f6w h0 h1) hg, f7, f8, f9, fun h0 => (f9w h0).below hg, f10, f11, f12, fun h0 => ⟨(f13 h0).1, (f13 h0).2.1, Nat.lt_of_lt_of_le (f13 h0).2.2 hg.size⟩, fun h0 h1 => (f13w h0 h1).below hg (f13w h0 h1).lt, fun h0 => (f14 h0).below hg (f14 h0).lt, f15, fun h0 h1 => (x913 h0 h1).imp id (fun ⟨u0, i0, b0, s0⟩ => ⟨u0, i0, b0.trans (hg.mono b0.size), s0⟩)⟩
      · rintro L T u hd hk hcl ⟨a6, c6, a7, c7, v, lo, A, hb, f0, f1, f2, f3, f4, f4w, f5, f6, f6w, f7, f8, f9, f9w, f10, f11, f12, f13, f13w, f14, f15, x913⟩ K hK
        simp only [fr, Act.put, List.setIfInBounds_toArray, List.set_cons_zero, List.set_cons_succ, updO] at hK ⊢
        simp [Region.binds] at hd
        rw [if_pos (by rfl)]
        simp only [Oper.wpv]
        go_simp
        exact hK _ _ ⟨a6, c6, a7, c7, v, lo, A, hb, f0, f1, f2, f3, f4, f4w, fun _ => rfl, f6, f6w, f7, f8, f9, f9w, f10, f11, f12, f13, f13w, f14, f15, x913⟩
      · rintro L T u hd hk hcl ⟨a6, c6, a7, c7, v, lo, A, hb, f0, f1, f2, f3, f4, f4w, f5, f6, f6w, f7, f8, f9, f9w, f10, f11, f12, f13, f13w, f14, f15, x913⟩ K hK
        simp only [fr, Act.put, List.setIfInBounds_toArray, List.set_cons_zero, List.set_cons_succ, updO] at hK ⊢
        simp [Region.binds] at hd
        have g5 := f5 (by simp [hd])
        rw [if_pos (by rfl)]
        simp only [Oper.wpv]
        go_simp
        refine (HNc.out _ hb).mono ?_
        rintro e u2 ⟨na1, nc1, rfl, own2, hg⟩
        exact hK _ _ ⟨a6, c6, na1, nc1, v, lo, A, (nT hb hg), f0, f1, f2, f3, f4, fun h0 h1 => St.IsRow.below (f4w h0 h1) hg, f5, fun _ => rfl, fun _ _ => (own_isRow ncells_len own2 HNl.out).1, f7, f8, f9, fun h0 => (f9w h0).below hg, f10, f11, f12, fun h0 => ⟨(f13 h0).1, (f13 h0).2.1, Nat.lt_of_lt_of_le (f13 h0).2.2 hg.size⟩, fun h0 h1 => (f13w h0 h1).below hg (f13w h0 h1).lt, fun h0 => (f14 h0).below hg (f14 h0).lt, f15, fun h0 h1 => (x913 h0 h1).imp id (fun ⟨u0, i0, b0, s0⟩ => ⟨u0, i0, b0.trans (hg.mono b0.size), s0⟩)⟩
      · rintro L T u hd hk hcl ⟨a6, c6, a7, c7, v, lo, A, hb, f0, f1, f2, f3, f4, f4w, f5, f6, f6w, f7, f8, f9, f9w, f10, f11, f12, f13, f13w, f14, f15, x913⟩ K hK
        simp only [fr, Act.put, List.setIfInBounds_toArray, List.set_cons_zero, List.set_cons_succ, updO] at hK ⊢
        simp [Region.binds] at hd
        obtain ⟨c0, c1, c2, c3, c4⟩ := KC.out u hb
        rw [if_pos (by rfl)]
        simp only [Oper.wpv]
        go_simp
        exact hK _ _ ⟨a6, c6, a7, c7, v, lo, A, hb, f0, f1, f2, f3, f4, f4w, f5, f6, f6w, fun _ => rfl, f8, f9, f9w, f10, f11, f12, f13, f13w, f14, f15, x913⟩
      · rintro L T u hd hk hcl ⟨a6, c6, a7, c7, v, lo, A, hb, f0, f1, f2, f3, f4, f4w, f5, f6, f6w, f7, f8, f9, f9w, f10, f11, f12, f13, f13w, f14, f15, x913⟩ K hK
        simp only [fr, Act.put, List.setIfInBounds_toArray, List.set_cons_zero, List.set_cons_succ, updO] at hK ⊢
        simp [Region.binds] at hd
        rw [if_pos (by rfl)]
        simp only [Oper.wpv]
        go_simp
        exact hK _ _ ⟨a6, c6, a7, c7, v, lo, A, hb, f0, f1, f2, f3, f4, f4w, f5, f6, f6w, f7, fun _ => rfl, f9, f9w, f10, f11, f12, f13, f13w, f14, f15, x913⟩
      · rintro L T u hd hk hcl ⟨a6, c6, a7, c7, v, lo, A, hb, f0, f1, f2, f3, f4, f4w, f5, f6, f6w, f7, f8, f9, f9w, f10, f11, f12, f13, f13w, f14, f15, x913⟩ K hK
        simp only [fr, Act.put, List.setIfInBounds_toArray, List.set_cons_zero, List.set_cons_succ, updO] at hK ⊢
        simp [Region.binds] at hd
        have g0 := f0 (by simp [hd])
        have g1 := f1 (by simp [hd])
        have g2 := f2 (by simp [hd])
        have g4 := f4 (by simp [hd])
        have g6 := f6 (by simp [hd])
        have g7 := f7 (by simp [hd])
        have g8 := f8 (by simp [hd])
        have r4 := f4w (by simp [hd]) hk
        have r6 := f6w (by simp [hd]) hk
        have k10 := hcl 10 _ rfl
        simp [Region.binds] at k10
        have k11 := hcl 11 _ rfl
        simp [Region.binds] at k11
        have k12 := hcl 12 _ rfl
        simp [Region.binds] at k12
        have k14 := hcl 14 _ rfl
        simp [Region.binds] at k14
        have k15 := hcl 15 _ rfl
        simp [Region.binds] at k15
        rw [if_pos (by rfl)]
        simp only [Oper.wpv]
        go_simp
        refine (hDec a6 c6 a7 c7 _ (KL.out _ hb) ⟨r4, (KS.out _ hb).each⟩ r6).mono ?_
        rintro e u3 ⟨v3, rfl, hI3, hd3, hg, hf3⟩
        exact hK _ _ ⟨a6, c6, a7, c7, v3, u.heap.size, A, (nT hb hg), f0, f1, f2, f3, f4, fun _ h => Bool.noConfusion (show true = false from h), f5, f6, fun _ h => Bool.noConfusion (show true = false from h), f7, f8, fun _ => ⟨rfl, hd3, hf3⟩, fun _ => hI3, fun h => by have := k10 h; simp [hk] at this, fun h => by have := k10 (by simp [k11 h]); simp [hk] at this, fun h => by have := k10 (by simp [k12 h]); simp [hk] at this, fun h0 => ⟨(f13 h0).1, (f13 h0).2.1, Nat.lt_of_lt_of_le (f13 h0).2.2 hg.size⟩, fun h0 h1 => (f13w h0 h1).below hg (f13w h0 h1).lt, fun h => by have := k10 (by have := k11 (by simp [k14 h]); simp [this]); simp [hk] at this, fun h => by have := k10 (by have := k12 (by simp [k15 h]); simp [this]); simp [hk] at this, fun _ h => Or.inl (f13 h).2.2⟩
      · rintro L T u hd hk hcl ⟨a6, c6, a7, c7, v, lo, A, hb, f0, f1, f2, f3, f4, f4w, f5, f6, f6w, f7, f8, f9, f9w, f10, f11, f12, f13, f13w, f14, f15, x913⟩ K hK
        simp only [fr, Act.put, List.setIfInBounds_toArray, List.set_cons_zero, List.set_cons_succ, updO] at hK ⊢
        simp [Region.binds] at hd
        have g9 := (f9 (by simp [hd])).1
        rw [if_pos (by rfl)]
        simp only [Oper.wpv]
        go_simp
        exact hK _ _ ⟨a6, c6, a7, c7, v, lo, A, hb, f0, f1, f2, f3, f4, f4w, f5, f6, f6w, f7, f8, f9, f9w, fun _ => rfl, f11, f12, f13, f13w, f14, f15, x913⟩
      · rintro L T u hd hk hcl ⟨a6, c6, a7, c7, v, lo, A, hb, f0, f1, f2, f3, f4, f4w, f5, f6, f6w, f7, f8, f9, f9w, f10, f11, f12, f13, f13w, f14, f15, x913⟩ K hK
        simp only [fr, Act.put, List.setIfInBounds_toArray, List.set_cons_zero, List.set_cons_succ, updO] at hK ⊢
        simp [Region.binds] at hd
        have g10 := f10 (by simp [hd])
        rw [if_pos (by rfl)]
        simp only [Oper.wpv]
        go_simp
        exact hK _ _ ⟨a6, c6, a7, c7, v, lo, A, hb, f0, f1, f2, f3, f4, f4w, f5, f6, f6w, f7, f8, f9, f9w, f10, fun _ => rfl, f12, f13, f13w, f14, f15, x913⟩
      · rintro L T u hd hk hcl ⟨a6, c6, a7, c7, v, lo, A, hb, f0, f1, f2, f3, f4, f4w, f5, f6, f6w, f7, f8, f9, f9w, f10, f11, f12, f13, f13w, f14, f15, x913⟩ K hK
        simp only [fr, Act.put, List.setIfInBounds_toArray, List.set_cons_zero, List.set_cons_succ, updO] at hK ⊢
        simp [Region.binds] at hd
        have g10 := f10 (by simp [hd])
        rw [if_pos (by rfl)]
        simp only [Oper.wpv]
        go_simp
        exact hK _ _ ⟨a6, c6, a7, c7, v, lo, A, hb, f0, f1, f2, f3, f4, f4w, f5, f6, f6w, f7, f8, f9, f9w, f10, f11, fun _ => rfl, f13, f13w, f14, f15, x913⟩
      · rintro L T u hd hk hcl ⟨a6, c6, a7, c7, v, lo, A, hb, f0, f1, f2, f3, f4, f4w, f5, f6, f6w, f7, f8, f9, f9w, f10, f11, f12, f13, f13w, f14, f15, x913⟩ K hK
        simp only [fr, Act.put, List.setIfInBounds_toArray, List.set_cons_zero, List.set_cons_succ, updO] at hK ⊢
        simp [Region.binds] at hd
        have hg : Below u.heap.size u (u.alloc (.cells #[.slice none 0 0, .slice none 0 0, .slice none 0 0, .slice none 0 0, .slice none 0 0, .slice none 0 0, .slice none 0 0] 38)) := (Below.refl _ _).alloc (Nat.le_refl _) _
        have k14 := hcl 14 _ rfl
        simp [Region.binds] at k14
        rw [if_pos (by rfl)]
        simp only [Oper.wpv]
        go_simp
        exact hK _ _ ⟨a6, c6, a7, c7, v, lo, u.heap.size, (nT hb hg), f0, f1, f2, f3, f4, fun h0 h1 => St.IsRow.below (f4w h0 h1) hg, f5, f6, fun h0 h1 => St.IsRow.below (f6w h0 h1) hg, f7, f8, f9, fun h0 => (f9w h0).below hg, f10, f11, f12, fun _ => ⟨rfl, hb.size, by simp⟩, fun _ _ => boxn_new u #[.slice none 0 0, .slice none 0 0, .slice none 0 0, .slice none 0 0, .slice none 0 0, .slice none 0 0, .slice none 0 0] 38 7 rfl, fun h => by have := k14 h; simp [hk] at this, f15, fun h _ => Or.inr ⟨u, f9w h, hg, Nat.le_refl _⟩⟩
      · rintro L T u hd hk hcl ⟨a6, c6, a7, c7, v, lo, A, hb, f0, f1, f2, f3, f4, f4w, f5, f6, f6w, f7, f8, f9, f9w, f10, f11, f12, f13, f13w, f14, f15, x913⟩ K hK
        simp only [fr, Act.put, List.setIfInBounds_toArray, List.set_cons_zero, List.set_cons_succ, updO] at hK ⊢
        simp [Region.binds] at hd
        have g11 := f11 (by simp [hd])
        obtain ⟨g13, l0, l1⟩ := f13 (by simp [hd])
        have bx := f13w (by simp [hd]) hk
        have v0 : _ = some _ := (bx.c 0 (by decide)).1
        have y0 := (bx.c 0 (by decide)).2
        have v1 : _ = some _ := (bx.c 1 (by decide)).1
        have y1 := (bx.c 1 (by decide)).2
        have v2 : _ = some _ := (bx.c 2 (by decide)).1
        have y2 := (bx.c 2 (by decide)).2
        have v3 : _ = some _ := (bx.c 3 (by decide)).1
        have y3 := (bx.c 3 (by decide)).2
        have v4 : _ = some _ := (bx.c 4 (by decide)).1
        have y4 := (bx.c 4 (by decide)).2
        have v5 : _ = some _ := (bx.c 5 (by decide)).1
        have y5 := (bx.c 5 (by decide)).2
        have v6 : _ = some _ := (bx.c 6 (by decide)).1
        have y6 := (bx.c 6 (by decide)).2
        simp only [List.getD_cons_zero, List.getD_cons_succ] at v0 v1 v2 v3 v4 v5 v6
        have k10 := hcl 10 _ rfl
        simp [Region.binds] at k10
        have k11 := hcl 11 _ rfl
        simp [Region.binds] at k11
        have h9 : L 9 = true := by have := k10 (by simp [k11 (by simp [hd])]); simp [this]
        rw [if_pos (by rfl)]
        simp only [Oper.wpv]
        go_simp
        exact hK _ _ ⟨a6, c6, a7, c7, v, lo, A, (nS (nS (nS (nS (nS (nS (nS hb l0 _) l0 _) l0 _) l0 _) l0 _) l0 _) l0 _), f0, f1, f2, f3, f4, fun _ h => absurd (show L 9 = false from h) (by simp [h9]), f5, f6, fun _ h => absurd (show L 9 = false from h) (by simp [h9]), f7, f8, f9, fun h0 => (by rcases x913 h0 (by simp [hd]) with hlt | ⟨u0, i0, b0, s0⟩; exact (f9w h0).grown (grown7 u A _ _ _ _ _ _ _) (f9 h0).2.2 hlt; exact i0.below (nS (nS (nS (nS (nS (nS (nS b0 s0 _) s0 _) s0 _) s0 _) s0 _) s0 _) s0 _)), f10, f11, f12, fun h0 => ⟨(f13 h0).1, (f13 h0).2.1, by simpa using (f13 h0).2.2⟩, fun _ h => Bool.noConfusion (show true = false from h), fun _ => box7 bx _ _ _ _ _ _ _, f15, fun h0 h1 => (x913 h0 h1).imp id (fun ⟨u0, i0, b0, s0⟩ => ⟨u0, i0, nS (nS (nS (nS (nS (nS (nS b0 s0 _) s0 _) s0 _) s0 _) s0 _) s0 _) s0 _, s0⟩)⟩
      · rintro L T u hd hk hcl ⟨a6, c6, a7, c7, v, lo, A, hb, f0, f1, f2, f3, f4, f4w, f5, f6, f6w, f7, f8, f9, f9w, f10, f11, f12, f13, f13w, f14, f15, x913⟩ K hK
        simp only [fr, Act.put, List.setIfInBounds_toArray, List.set_cons_zero, List.set_cons_succ, updO] at hK ⊢
        simp [Region.binds] at hd
        have g12 := f12 (by simp [hd])
        rw [if_pos (by rfl)]
        simp only [Oper.wpv]
        go_simp
        exact hK _ _ ⟨a6, c6, a7, c7, v, lo, A, hb, f0, f1, f2, f3, f4, f4w, f5, f6, f6w, f7, f8, f9, f9w, f10, f11, f12, f13, f13w, f14, fun _ => rfl, x913⟩
    · rintro L T u hl ⟨a6, c6, a7, c7, v, lo, A, hb, f0, f1, f2, f3, f4, f4w, f5, f6, f6w, f7, f8, f9, f9w, f10, f11, f12, f13, f13w, f14, f15, x913⟩
      simp only [fr, Act.put, List.setIfInBounds_toArray, List.set_cons_zero, List.set_cons_succ]
      have g15 := (f13 (hl 13 (by decide))).1
      have g16 := f15 (hl 15 (by decide))
      have HE : Hid (T 15 = .pointer (some ⟨A, 0, none⟩) ∧ T 16 = .int .i64 er) := ⟨g15, g16⟩
      have bxF := f14 (hl 14 (by decide))
      have hAF := f9w (hl 9 (by decide))
      have hdF := (f9 (hl 9 (by decide))).2.1
      clear g15 g16 f0 f1 f2 f3 f4 f4w f5 f6 f6w f7 f8 f9 f9w f10 f11 f12 f13 f13w f14 f15 x913
      go_wp2_with fail
      go_meet
      case rel => exact ⟨A, v, HE.out.1, HE.out.2, bxF, hAF, hdF, hb⟩
  case rest =>
    obtain ⟨g, ⟨⟨ra0, rn0, rc0, ra1, rn1, rc1, ra2, rn2, rc2, ra3, rn3, rc3, ri, rl, rd, ro⟩, ra4, rn4, rc4, ra5, rn5, rc5, ra6, rn6, rc6, rms, rrs, rns⟩, rfl, rfl, bxF, hAF, hd, bF⟩ := hcut
    obtain ⟨X, eX⟩ : ∃ X, X = wc := ⟨_, rfl⟩
    rw [← eX] at bxF hAF bF ⊢
    simp only [AnsV.cells] at bxF
    clear eX c0 c1 c2 c3 c4 hDec
    have glt := bxF.lt
    obtain ⟨c0, c1, c2, c3, c4⟩ := KC.out _ bF
    have zX : w.heap.size + 1 < X.heap.size := Nat.lt_of_lt_of_le z1 bF.size
    have zX0 : w.heap.size < X.heap.size := by omega
    go_upto_region 3 with (go_at_call 9; refine (hRef _ (KL.out _ bF) (KS.out _ bF) (KN.out _ bF)).mono ?_; rintro e u4 ⟨⟨⟨ta0, tn0, tc0, ta1, tn1, tc1, ta2, tn2, tc2, ta3, tn3, tc3, ti, tl, td, t_o⟩, ta4, tn4, tc4, ta5, tn5, tc5, ta6, tn6, tc6, tms, trs, tns⟩, rfl, hI4, hd4, hb4, _⟩; simp only [AnsV.val])
    obtain ⟨Y, hY⟩ : ∃ Y : World, Y = u4.alloc (.cells #[.slice ta0 tn0 tc0, .slice ta1 tn1 tc1, .slice ta2 tn2 tc2, .slice ta3 tn3 tc3, .slice ta4 tn4 tc4, .slice ta5 tn5 tc5, .slice ta6 tn6 tc6] 38) := ⟨_, rfl⟩
    have bY4 : Below u4.heap.size u4 Y := by rw [hY]; exact (Below.refl _ _).alloc (Nat.le_refl _) _
    have bY : Below X.heap.size X Y := qT hb4 bY4
    have bxG : BoxN Y u4.heap.size 7 [.slice ta0 tn0 tc0, .slice ta1 tn1 tc1, .slice ta2 tn2 tc2, .slice ta3 tn3 tc3, .slice ta4 tn4 tc4, .slice ta5 tn5 tc5, .slice ta6 tn6 tc6] := by rw [hY]; exact boxn_new u4 #[.slice ta0 tn0 tc0, .slice ta1 tn1 tc1, .slice ta2 tn2 tc2, .slice ta3 tn3 tc3, .slice ta4 tn4 tc4, .slice ta5 tn5 tc5, .slice ta6 tn6 tc6] 38 7 rfl
    rw [← hY]
    clear hY
    have bxY := bxF.below bY bxF.lt
    clear c0 c1 c2 c3 c4 glt
    have gltY := bxY.lt
    have gltG := bxG.lt
    have hSm := sameAnswer_any ⟨⟨ra0, rn0, rc0, ra1, rn1, rc1, ra2, rn2, rc2, ra3, rn3, rc3, ri, rl, rd, ro⟩, ra4, rn4, rc4, ra5, rn5, rc5, ra6, rn6, rc6, rms, rrs, rns⟩ ⟨⟨ta0, tn0, tc0, ta1, tn1, tc1, ta2, tn2, tc2, ta3, tn3, tc3, ti, tl, td, t_o⟩, ta4, tn4, tc4, ta5, tn5, tc5, ta6, tn6, tc6, tms, trs, tns⟩ Y (hAF.below bY) (hI4.below bY4) (hd.trans hd4.symm)
    simp only [AnsV.val] at hSm
    have m0 := (bxY.c 0 (by decide)).1
    have n0 := (bxG.c 0 (by decide)).1
    have m1 := (bxY.c 1 (by decide)).1
    have n1 := (bxG.c 1 (by decide)).1
    have m2 := (bxY.c 2 (by decide)).1
    have n2 := (bxG.c 2 (by decide)).1
    have m3 := (bxY.c 3 (by decide)).1
    have n3 := (bxG.c 3 (by decide)).1
    have m4 := (bxY.c 4 (by decide)).1
    have n4 := (bxG.c 4 (by decide)).1
    have m5 := (bxY.c 5 (by decide)).1
    have n5 := (bxG.c 5 (by decide)).1
    have m6 := (bxY.c 6 (by decide)).1
    have n6 := (bxG.c 6 (by decide)).1
    simp only [List.getD_cons_zero, List.getD_cons_succ] at m0 n0 m1 n1 m2 n2 m3 n3 m4 n4 m5 n5 m6 n6
    go_wp2_with (go_at_call 10; refine hSm.mono ?_; rintro e u5 ⟨rfl, hb5⟩)
    go_ret
    exact ⟨by simp, KB.out _ (qT (qT bF bY) hb5)⟩
end Go.Proofs.Ytifdjlhgcbkamaa.Pt
