/- Texts of this claim, one behind the other. -/
import Derived.Test.YtekglahigjblkaaGreatDoorM32RecoverRebuilds
import Derived.Test.YtekglahigjblkaaGreatDoorA40RecoverRebuilds
import Derived.Test.YtekglahigjblkaaGreatDoorM25RecoverRebuilds
import Derived.Test.YtekglahigjblkaaGreatDoorM26RecoverRebuilds
import Derived.Lib.LaidTab
import Derived.OpenShut
/- The walk of the law RecoverRebuilds: it returns true and leaves what was in memory. -/
namespace Go.Proofs.YtekglahigjblkaaGreatDoor.Rb
open Go.ChangeShapes Go.WideShapes Go.ChangeAt Go.RowKit
open Go.Proofs.YtekglahigjblkaaGreatDoor.St Go.Proofs.YtekglahigjblkaaGreatDoor.Co Go.Proofs.YtekglahigjblkaaGreatDoor.Pt
set_option linter.unusedVariables false

theorem rcInfoQ : (Tryz.prog.info? 54).map (fun i => (i.zero, i.size, i.bytes)) = some (some (.agg #[.int .i64 0, .int .i64 0, .int .i64 0, .int .i64 0, .int .i64 0, .int .i64 0, .bool false, .slice none 0 0]), 8, 80) := by kernel_rfl
theorem rcElemQ : ∃ i, Elem 8 RcM.cells 54 25 i (.agg #[.int .i64 0, .int .i64 0, .int .i64 0, .int .i64 0, .int .i64 0, .int .i64 0, .bool false, .slice none 0 0]) 80 := by
  obtain ⟨i, h1, h2, h3, h4⟩ := info_parts rcInfoQ
  exact ⟨i, (fun x => rfl), by decide, (fun x u hu => by
    simp only [RcM.cells, List.mem_cons, List.not_mem_nil, or_false] at hu
    rcases hu with h | h | h | h | h | h | h | h <;> subst h <;> rfl), Tryz.underlying25, h1, h2, h3, h4, rfl⟩
theorem nQ {u v z : World} (h : Below u.heap.size u v) (k : Below v.heap.size v z) : Below u.heap.size u z := h.trans (k.mono h.size)
theorem grownNQ {u v : World} (h : u.grownBy v (Value.slice none 0 0).ownBlock) : Below u.heap.size u v := ⟨h.os, h.tape, h.output, h.size, fun i hi => h.block i hi (by simp [Value.ownBlock])⟩
set_option maxRecDepth 100000 in
set_option maxHeartbeats 8000000 in
theorem recoverRebuilds_walk (s : Int) (a : Option Addr) (len cap : Nat) (p : Int) (ls : List (Int × Int)) (me : Int) (ao : Option Addr) (n cp : Nat) (rs : List RcM) (w : World) (hs0 : (Lit.int .i64 s).wf = true) (hl : IsLabs w a len cap ls) (hp0 : (Lit.int .i64 p).wf = true) (hm0 : (Lit.int .i64 me).wf = true) (hr : RecsAt w ao n cp rs) (hn : n * 80 ≤ 140737488351232) (hHa : HasAt w 0 rHas) (hTo : TopsAt w) :
    Calls Tryz.prog 3 #[.agg #[.int .i64 s, .slice a len cap, .int .i64 p], .int .i64 me, .slice ao n cp] w fun e w' => e = .returned (.bool true) ∧ Below w.heap.size w w' := by
  clear hs0 hp0 hm0
  obtain ⟨iE, ER⟩ := rcElemQ
  have hn1 : n ≤ 1759218604441 := by omega
  obtain ⟨W, hW⟩ : ∃ W : World, W = w.alloc (.cells #[.int .i64 s, .slice a len cap, .int .i64 p] 24) := ⟨_, rfl⟩
  have oC : BoxN W w.heap.size 3 [.int .i64 s, .slice a len cap, .int .i64 p] := by rw [hW]; exact boxn_new w #[.int .i64 s, .slice a len cap, .int .i64 p] 24 3 rfl
  have bW : Below w.heap.size w W := by rw [hW]; exact (Below.refl _ _).alloc (Nat.le_refl _) _
  have hgT : 1 < w.heap.size := World.block_lt_of_cell? w _ hTo.1
  have hgM : 0 < w.heap.size := hHa.lt (by decide)
  have KV : Hid (∀ U, Below W.heap.size W U → IsLabs U a len cap ls ∧ RecsAt U ao n cp rs ∧ (HasAt U 0 rHas ∧ TopsAt U) ∧ Below w.heap.size w U) := fun U hU => by
    have h4 := bW.trans (hU.mono bW.size)
    exact ⟨hl.below h4, hr.below h4, ⟨hHa.below h4 hgM, hTo.below h4 hgT⟩, h4⟩
  have KC : Hid (∀ U, Below W.heap.size W U → U.cell? ⟨w.heap.size, 0, none⟩ = some (.int .i64 s) ∧ U.cell? ⟨w.heap.size, 1, none⟩ = some (.slice a len cap) ∧ U.cell? ⟨w.heap.size, 2, none⟩ = some (.int .i64 p) ∧ w.heap.size < U.heap.size) := fun U hU => by
    have h1 := oC.below hU oC.lt
    exact ⟨(h1.c 0 (by decide)).1, (h1.c 1 (by decide)).1, (h1.c 2 (by decide)).1, h1.lt⟩
  obtain ⟨P, eP⟩ : ∃ P, P = rs.map RcM.p := ⟨_, rfl⟩
  obtain ⟨E, eE⟩ : ∃ E, E = rbErr s ls p me P := ⟨_, rfl⟩
  obtain ⟨NX, eN⟩ : ∃ NX, NX = rqNext E me P := ⟨_, rfl⟩
  have HRb : Hid (∀ U b6 d6, Below W.heap.size W U → IsRow 8 RcM.cells U b6 n d6 rs → Calls Tryz.prog 4 #[.agg #[.int .i64 s, .slice a len cap, .int .i64 p], .int .i64 me, .slice b6 n d6] U fun e w' => ∃ q : Rq, e = .returned (.tuple #[.agg #[.slice q.s.ia q.s.il q.s.ic, .slice q.s.la q.s.ll q.s.lc, .slice q.s.da q.s.dl q.s.dc, .slice q.s.oa q.s.ol q.s.oc], .agg #[.int .i64 NX, .slice q.a q.js.length q.c], .slice q.na q.ns.length q.nc, .int .i64 E]) ∧ RqAt U.heap.size w' q ∧ RqOK q E me P ∧ Below U.heap.size U w') := fun U b6 d6 hU h6 => by
    obtain ⟨h1, h2, h3, h4⟩ := KV.out U hU
    rw [eN, eE, eP]
    refine (rebuild_any s p a len cap ls me b6 n d6 rs U h1 ⟨h6, h2.ints⟩ h3.1 h3.2 (by omega)).mono ?_
    intro e w' hq
    exact rebIs_q hq
  have HRf : Hid (∀ U, Below W.heap.size W U → Calls Tryz.prog 5 #[.agg #[.int .i64 s, .slice a len cap, .int .i64 p], .int .i64 me, .slice ao n cp] U fun e w' => ∃ q : Rq, e = .returned (.tuple #[.agg #[.slice q.s.ia q.s.il q.s.ic, .slice q.s.la q.s.ll q.s.lc, .slice q.s.da q.s.dl q.s.dc, .slice q.s.oa q.s.ol q.s.oc], .agg #[.int .i64 NX, .slice q.a q.js.length q.c], .slice q.na q.ns.length q.nc, .int .i64 E]) ∧ RqAt U.heap.size w' q ∧ RqOK q E me P ∧ Below U.heap.size U w') := fun U hU => by
    obtain ⟨h1, h2, h3, h4⟩ := KV.out U hU
    rw [eN, eE, eP]
    refine (rebuilt_any s p a len cap ls me ao n cp rs U h1 h2 (by omega)).mono ?_
    intro e w' hq
    exact rebIs_q hq
  have HSl : Hid (rs.length = n) := hr.row.1
  have KS : Hid (∀ U, Below W.heap.size W U → IsRow 8 RcM.cells U ao n cp rs) := fun U hU => (KV.out U hU).2.1.row
  have HF : Hid (∀ U, Below W.heap.size W U → Below w.heap.size w U) := fun U hU => (KV.out U hU).2.2.2
  have nT : ∀ {u v z : World}, Below u.heap.size u v → Below v.heap.size v z → Below u.heap.size u z := fun h k => h.trans (k.mono h.size)
  clear eP eE eN hl hr hHa hTo oC KV bW hgT hgM
  go_enter Tryz.func3, Tryz.ntmps3
  go_upto_region 1 with (fail)
  rw [← hW]
  clear hW
  refine wp_region_inv (by kernel_rfl) [16, 17, 18, 19, 20, 15, 21, 22, 23, 24, 7, 8, 9, 10] (fun L T u => ∃ (ra : Option Addr) (rc : Nat) (q1 : Rq) (A1 : Nat) (A2 : Nat), Below W.heap.size W u ∧ (L 0 = true → T 16 = .agg #[.int .i64 s, .slice a len cap, .int .i64 p]) ∧ (L 1 = true → T 17 = .int .i64 me) ∧ (L 2 = true → T 18 = .slice ao n cp) ∧ (L 3 = true → T 19 = .slice ra n rc) ∧ (L 4 = true → T 20 = .tuple #[.agg #[.slice q1.s.ia q1.s.il q1.s.ic, .slice q1.s.la q1.s.ll q1.s.lc, .slice q1.s.da q1.s.dl q1.s.dc, .slice q1.s.oa q1.s.ol q1.s.oc], .agg #[.int .i64 NX, .slice q1.a q1.js.length q1.c], .slice q1.na q1.ns.length q1.nc, .int .i64 E]) ∧ (L 5 = true → T 15 = .tuple #[.agg #[.slice q1.s.ia q1.s.il q1.s.ic, .slice q1.s.la q1.s.ll q1.s.lc, .slice q1.s.da q1.s.dl q1.s.dc, .slice q1.s.oa q1.s.ol q1.s.oc], .agg #[.int .i64 NX, .slice q1.a q1.js.length q1.c], .slice q1.na q1.ns.length q1.nc, .int .i64 E]) ∧ (L 6 = true → T 21 = .agg #[.slice q1.s.ia q1.s.il q1.s.ic, .slice q1.s.la q1.s.ll q1.s.lc, .slice q1.s.da q1.s.dl q1.s.dc, .slice q1.s.oa q1.s.ol q1.s.oc]) ∧ (L 7 = true → T 22 = .agg #[.int .i64 NX, .slice q1.a q1.js.length q1.c]) ∧ (L 8 = true → T 23 = .slice q1.na q1.ns.length q1.nc) ∧ (L 9 = true → T 24 = .int .i64 E) ∧ (L 14 = true → T 9 = .slice q1.na q1.ns.length q1.nc) ∧ (L 15 = true → T 10 = .int .i64 E) ∧ (L 4 = true → RqAt W.heap.size u q1) ∧ (L 4 = true → RqOK q1 E me P) ∧ (L 3 = true → L 4 = false → IsRow 8 RcM.cells u ra n rc rs) ∧ (L 10 = true → (T 7 = .pointer (some ⟨A1, 0, none⟩) ∧ W.heap.size ≤ A1 ∧ A1 < u.heap.size)) ∧ (L 10 = true → L 12 = false → BoxN u A1 4 [.slice none 0 0, .slice none 0 0, .slice none 0 0, .slice none 0 0]) ∧ (L 12 = true → BoxN u A1 4 [.slice q1.s.ia q1.s.il q1.s.ic, .slice q1.s.la q1.s.ll q1.s.lc, .slice q1.s.da q1.s.dl q1.s.dc, .slice q1.s.oa q1.s.ol q1.s.oc]) ∧ (L 4 = true → L 10 = true → FarQ A1 (q1.rows)) ∧ (L 11 = true → (T 8 = .pointer (some ⟨A2, 0, none⟩) ∧ W.heap.size ≤ A2 ∧ A2 < u.heap.size)) ∧ (L 11 = true → L 13 = false → BoxN u A2 2 [.int .i64 0, .slice none 0 0]) ∧ (L 13 = true → BoxN u A2 2 [.int .i64 NX, .slice q1.a q1.js.length q1.c]) ∧ (L 4 = true → L 11 = true → FarQ A2 (q1.rows)) ∧ (L 10 = true → L 11 = true → A1 ≠ A2)) (by decide) (by kernel_rfl) (by kernel_rfl) ?_ ?_ ?_
  · exact ⟨none, 0, default, 0, 0, (Below.refl _ _).drew, nofun, nofun, nofun, nofun, nofun, nofun, nofun, nofun, nofun, nofun, nofun, nofun, nofun, nofun, nofun, nofun, nofun, nofun, nofun, nofun, nofun, nofun, nofun, nofun⟩
  · refine ⟨?_, ?_, ?_, ?_, ?_, ?_, ?_, ?_, ?_, ?_, ?_, ?_, ?_, ?_, ?_, ?_, trivial⟩
    · rintro L T u hd hk hcl ⟨ra, rc, q1, A1, A2, hb, p0, p1, p2, p3, p4, p5, p6, p7, p8, p9, p14, p15, rq, ro, rw, pa10, bz10, bv10, fr10_rq, pa11, bz11, bv11, fr11_rq, ne10_11⟩ K hK
      simp only [fr, Act.put, List.setIfInBounds_toArray, List.set_cons_zero, List.set_cons_succ, updO] at hK ⊢
      simp [Region.binds] at hd
      obtain ⟨c0, c1, c2, zc⟩ := KC.out u hb
      rw [if_pos (by rfl)]
      simp only [Oper.wpv]
      go_simp
      exact hK _ _ ⟨ra, rc, q1, A1, A2, hb, fun _ => rfl, p1, p2, p3, p4, p5, p6, p7, p8, p9, p14, p15, rq, ro, rw, pa10, bz10, bv10, fr10_rq, pa11, bz11, bv11, fr11_rq, ne10_11⟩
    · rintro L T u hd hk hcl ⟨ra, rc, q1, A1, A2, hb, p0, p1, p2, p3, p4, p5, p6, p7, p8, p9, p14, p15, rq, ro, rw, pa10, bz10, bv10, fr10_rq, pa11, bz11, bv11, fr11_rq, ne10_11⟩ K hK
      simp only [fr, Act.put, List.setIfInBounds_toArray, List.set_cons_zero, List.set_cons_succ, updO] at hK ⊢
      simp [Region.binds] at hd
      rw [if_pos (by rfl)]
      simp only [Oper.wpv]
      go_simp
      exact hK _ _ ⟨ra, rc, q1, A1, A2, hb, p0, fun _ => rfl, p2, p3, p4, p5, p6, p7, p8, p9, p14, p15, rq, ro, rw, pa10, bz10, bv10, fr10_rq, pa11, bz11, bv11, fr11_rq, ne10_11⟩
    · rintro L T u hd hk hcl ⟨ra, rc, q1, A1, A2, hb, p0, p1, p2, p3, p4, p5, p6, p7, p8, p9, p14, p15, rq, ro, rw, pa10, bz10, bv10, fr10_rq, pa11, bz11, bv11, fr11_rq, ne10_11⟩ K hK
      simp only [fr, Act.put, List.setIfInBounds_toArray, List.set_cons_zero, List.set_cons_succ, updO] at hK ⊢
      simp [Region.binds] at hd
      rw [if_pos (by rfl)]
      simp only [Oper.wpv]
      go_simp
      exact hK _ _ ⟨ra, rc, q1, A1, A2, hb, p0, p1, fun _ => rfl, p3, p4, p5, p6, p7, p8, p9, p14, p15, rq, ro, rw, pa10, bz10, bv10, fr10_rq, pa11, bz11, bv11, fr11_rq, ne10_11⟩
    · rintro L T u hd hk hcl ⟨ra, rc, q1, A1, A2, hb, p0, p1, p2, p3, p4, p5, p6, p7, p8, p9, p14, p15, rq, ro, rw, pa10, bz10, bv10, fr10_rq, pa11, bz11, bv11, fr11_rq, ne10_11⟩ K hK
      simp only [fr, Act.put, List.setIfInBounds_toArray, List.set_cons_zero, List.set_cons_succ, updO] at hK ⊢
      simp [Region.binds] at hd
      have g2 := p2 (by simp [hd])
      have k4 := hcl 4 _ rfl
      simp [Region.binds] at k4
      have k5 := hcl 5 _ rfl
      simp [Region.binds] at k5
      have k6 := hcl 6 _ rfl
      simp [Region.binds] at k6
      have k7 := hcl 7 _ rfl
      simp [Region.binds] at k7
      have k8 := hcl 8 _ rfl
      simp [Region.binds] at k8
      have k9 := hcl 9 _ rfl
      simp [Region.binds] at k9
      have k12 := hcl 12 _ rfl
      simp [Region.binds] at k12
      have k13 := hcl 13 _ rfl
      simp [Region.binds] at k13
      have k14 := hcl 14 _ rfl
      simp [Region.binds] at k14
      have k15 := hcl 15 _ rfl
      simp [Region.binds] at k15
      rw [if_pos (by rfl)]
      simp only [Oper.wpv]
      refine St.wpv_append_row ER (.const (.slice none 0 0)) (.tmp 18) (by rfl) W.heap.size (.slice none 0 0) 0 [] (by rfl) (World.ownsRow_nil _ _ _ _) ao n cp rs g2 (KS.out _ hb) (by unfold maxLen; omega) (by omega) hb.size ?_
      intro b6 d6 u1 own1 gr1 at1
      have hg := grownNQ gr1
      simp only [Nat.zero_add, List.nil_append] at own1 ⊢
      have hR1 := (own_isRow (k := 8) (cells := RcM.cells) (fun x => rfl) own1 HSl.out).1
      exact hK _ _ ⟨b6, d6, q1, A1, A2, nT hb hg, p0, p1, p2, fun _ => rfl, fun h => absurd (show L 4 = true from h) (by intro hh; have a4 := k4 hh; simp [hk] at a4), fun h => absurd (show L 5 = true from h) (by intro hh; have a5 := k5 hh; have a4 := k4 (by simp [a5]); simp [hk] at a4), fun h => absurd (show L 6 = true from h) (by intro hh; have a6 := k6 hh; have a5 := k5 (by simp [a6]); have a4 := k4 (by simp [a5]); simp [hk] at a4), fun h => absurd (show L 7 = true from h) (by intro hh; have a7 := k7 hh; have a5 := k5 (by simp [a7]); have a4 := k4 (by simp [a5]); simp [hk] at a4), fun h => absurd (show L 8 = true from h) (by intro hh; have a8 := k8 hh; have a5 := k5 (by simp [a8]); have a4 := k4 (by simp [a5]); simp [hk] at a4), fun h => absurd (show L 9 = true from h) (by intro hh; have a9 := k9 hh; have a5 := k5 (by simp [a9]); have a4 := k4 (by simp [a5]); simp [hk] at a4), fun h => absurd (show L 14 = true from h) (by intro hh; have a14 := k14 hh; have a8 := k8 (by simp [a14]); have a5 := k5 (by simp [a8]); have a4 := k4 (by simp [a5]); simp [hk] at a4), fun h => absurd (show L 15 = true from h) (by intro hh; have a15 := k15 hh; have a9 := k9 (by simp [a15]); have a5 := k5 (by simp [a9]); have a4 := k4 (by simp [a5]); simp [hk] at a4), fun h => absurd (show L 4 = true from h) (by intro hh; have a4 := k4 hh; simp [hk] at a4), fun h => absurd (show L 4 = true from h) (by intro hh; have a4 := k4 hh; simp [hk] at a4), fun _ _ => hR1, fun h0 => ⟨(pa10 h0).1, (pa10 h0).2.1, Nat.lt_of_lt_of_le (pa10 h0).2.2 hg.size⟩, fun h0 h1 => (bz10 h0 h1).below hg (bz10 h0 h1).lt, fun h => absurd (show L 12 = true from h) (by intro hh; have a12 := k12 hh; have a6 := k6 (by simp [a12]); have a5 := k5 (by simp [a6]); have a4 := k4 (by simp [a5]); simp [hk] at a4), fun h _ => absurd (show L 4 = true from h) (by intro hh; have a4 := k4 hh; simp [hk] at a4), fun h0 => ⟨(pa11 h0).1, (pa11 h0).2.1, Nat.lt_of_lt_of_le (pa11 h0).2.2 hg.size⟩, fun h0 h1 => (bz11 h0 h1).below hg (bz11 h0 h1).lt, fun h => absurd (show L 13 = true from h) (by intro hh; have a13 := k13 hh; have a7 := k7 (by simp [a13]); have a5 := k5 (by simp [a7]); have a4 := k4 (by simp [a5]); simp [hk] at a4), fun h _ => absurd (show L 4 = true from h) (by intro hh; have a4 := k4 hh; simp [hk] at a4), ne10_11⟩
    · rintro L T u hd hk hcl ⟨ra, rc, q1, A1, A2, hb, p0, p1, p2, p3, p4, p5, p6, p7, p8, p9, p14, p15, rq, ro, rw, pa10, bz10, bv10, fr10_rq, pa11, bz11, bv11, fr11_rq, ne10_11⟩ K hK
      simp only [fr, Act.put, List.setIfInBounds_toArray, List.set_cons_zero, List.set_cons_succ, updO] at hK ⊢
      simp [Region.binds] at hd
      have g0 := p0 (by simp [hd])
      have g1 := p1 (by simp [hd])
      have g3 := p3 (by simp [hd])
      have k5 := hcl 5 _ rfl
      simp [Region.binds] at k5
      have k6 := hcl 6 _ rfl
      simp [Region.binds] at k6
      have k7 := hcl 7 _ rfl
      simp [Region.binds] at k7
      have k8 := hcl 8 _ rfl
      simp [Region.binds] at k8
      have k9 := hcl 9 _ rfl
      simp [Region.binds] at k9
      have k12 := hcl 12 _ rfl
      simp [Region.binds] at k12
      have k13 := hcl 13 _ rfl
      simp [Region.binds] at k13
      have k14 := hcl 14 _ rfl
      simp [Region.binds] at k14
      have k15 := hcl 15 _ rfl
      simp [Region.binds] at k15
      rw [if_pos (by rfl)]
      simp only [Oper.wpv]
      go_simp
      refine (HRb.out u ra rc hb (rw (by simp [hd]) hk)).mono ?_
      rintro e u1 ⟨q9, rfl, hA1, hO1, hg⟩
      exact hK _ _ ⟨ra, rc, q9, A1, A2, nT hb hg, p0, p1, p2, p3, fun _ => rfl, fun h => absurd (show L 5 = true from h) (by intro hh; have a5 := k5 hh; simp [hk] at a5), fun h => absurd (show L 6 = true from h) (by intro hh; have a6 := k6 hh; have a5 := k5 (by simp [a6]); simp [hk] at a5), fun h => absurd (show L 7 = true from h) (by intro hh; have a7 := k7 hh; have a5 := k5 (by simp [a7]); simp [hk] at a5), fun h => absurd (show L 8 = true from h) (by intro hh; have a8 := k8 hh; have a5 := k5 (by simp [a8]); simp [hk] at a5), fun h => absurd (show L 9 = true from h) (by intro hh; have a9 := k9 hh; have a5 := k5 (by simp [a9]); simp [hk] at a5), fun h => absurd (show L 14 = true from h) (by intro hh; have a14 := k14 hh; have a8 := k8 (by simp [a14]); have a5 := k5 (by simp [a8]); simp [hk] at a5), fun h => absurd (show L 15 = true from h) (by intro hh; have a15 := k15 hh; have a9 := k9 (by simp [a15]); have a5 := k5 (by simp [a9]); simp [hk] at a5), fun _ => hA1.base hb.size, fun _ => hO1, fun _ h => Bool.noConfusion (show true = false from h), fun h0 => ⟨(pa10 h0).1, (pa10 h0).2.1, Nat.lt_of_lt_of_le (pa10 h0).2.2 hg.size⟩, fun h0 h1 => (bz10 h0 h1).below hg (bz10 h0 h1).lt, fun h => absurd (show L 12 = true from h) (by intro hh; have a12 := k12 hh; have a6 := k6 (by simp [a12]); have a5 := k5 (by simp [a6]); simp [hk] at a5), fun _ h1 => (hA1).farOld ((pa10 (show L 10 = true from h1)).2.2), fun h0 => ⟨(pa11 h0).1, (pa11 h0).2.1, Nat.lt_of_lt_of_le (pa11 h0).2.2 hg.size⟩, fun h0 h1 => (bz11 h0 h1).below hg (bz11 h0 h1).lt, fun h => absurd (show L 13 = true from h) (by intro hh; have a13 := k13 hh; have a7 := k7 (by simp [a13]); have a5 := k5 (by simp [a7]); simp [hk] at a5), fun _ h1 => (hA1).farOld ((pa11 (show L 11 = true from h1)).2.2), ne10_11⟩
    · rintro L T u hd hk hcl ⟨ra, rc, q1, A1, A2, hb, p0, p1, p2, p3, p4, p5, p6, p7, p8, p9, p14, p15, rq, ro, rw, pa10, bz10, bv10, fr10_rq, pa11, bz11, bv11, fr11_rq, ne10_11⟩ K hK
      simp only [fr, Act.put, List.setIfInBounds_toArray, List.set_cons_zero, List.set_cons_succ, updO] at hK ⊢
      simp [Region.binds] at hd
      have g4 := p4 (by simp [hd])
      rw [if_pos (by rfl)]
      simp only [Oper.wpv]
      go_simp
      exact hK _ _ ⟨ra, rc, q1, A1, A2, hb, p0, p1, p2, p3, p4, fun _ => rfl, p6, p7, p8, p9, p14, p15, rq, ro, rw, pa10, bz10, bv10, fr10_rq, pa11, bz11, bv11, fr11_rq, ne10_11⟩
    · rintro L T u hd hk hcl ⟨ra, rc, q1, A1, A2, hb, p0, p1, p2, p3, p4, p5, p6, p7, p8, p9, p14, p15, rq, ro, rw, pa10, bz10, bv10, fr10_rq, pa11, bz11, bv11, fr11_rq, ne10_11⟩ K hK
      simp only [fr, Act.put, List.setIfInBounds_toArray, List.set_cons_zero, List.set_cons_succ, updO] at hK ⊢
      simp [Region.binds] at hd
      have g5 := p5 (by simp [hd])
      rw [if_pos (by rfl)]
      simp only [Oper.wpv]
      go_simp
      exact hK _ _ ⟨ra, rc, q1, A1, A2, hb, p0, p1, p2, p3, p4, p5, fun _ => rfl, p7, p8, p9, p14, p15, rq, ro, rw, pa10, bz10, bv10, fr10_rq, pa11, bz11, bv11, fr11_rq, ne10_11⟩
    · rintro L T u hd hk hcl ⟨ra, rc, q1, A1, A2, hb, p0, p1, p2, p3, p4, p5, p6, p7, p8, p9, p14, p15, rq, ro, rw, pa10, bz10, bv10, fr10_rq, pa11, bz11, bv11, fr11_rq, ne10_11⟩ K hK
      simp only [fr, Act.put, List.setIfInBounds_toArray, List.set_cons_zero, List.set_cons_succ, updO] at hK ⊢
      simp [Region.binds] at hd
      have g5 := p5 (by simp [hd])
      rw [if_pos (by rfl)]
      simp only [Oper.wpv]
      go_simp
      exact hK _ _ ⟨ra, rc, q1, A1, A2, hb, p0, p1, p2, p3, p4, p5, p6, fun _ => rfl, p8, p9, p14, p15, rq, ro, rw, pa10, bz10, bv10, fr10_rq, pa11, bz11, bv11, fr11_rq, ne10_11⟩
    · rintro L T u hd hk hcl ⟨ra, rc, q1, A1, A2, hb, p0, p1, p2, p3, p4, p5, p6, p7, p8, p9, p14, p15, rq, ro, rw, pa10, bz10, bv10, fr10_rq, pa11, bz11, bv11, fr11_rq, ne10_11⟩ K hK
      simp only [fr, Act.put, List.setIfInBounds_toArray, List.set_cons_zero, List.set_cons_succ, updO] at hK ⊢
      simp [Region.binds] at hd
      have g5 := p5 (by simp [hd])
      rw [if_pos (by rfl)]
      simp only [Oper.wpv]
      go_simp
      exact hK _ _ ⟨ra, rc, q1, A1, A2, hb, p0, p1, p2, p3, p4, p5, p6, p7, fun _ => rfl, p9, p14, p15, rq, ro, rw, pa10, bz10, bv10, fr10_rq, pa11, bz11, bv11, fr11_rq, ne10_11⟩
    · rintro L T u hd hk hcl ⟨ra, rc, q1, A1, A2, hb, p0, p1, p2, p3, p4, p5, p6, p7, p8, p9, p14, p15, rq, ro, rw, pa10, bz10, bv10, fr10_rq, pa11, bz11, bv11, fr11_rq, ne10_11⟩ K hK
      simp only [fr, Act.put, List.setIfInBounds_toArray, List.set_cons_zero, List.set_cons_succ, updO] at hK ⊢
      simp [Region.binds] at hd
      have g5 := p5 (by simp [hd])
      rw [if_pos (by rfl)]
      simp only [Oper.wpv]
      go_simp
      exact hK _ _ ⟨ra, rc, q1, A1, A2, hb, p0, p1, p2, p3, p4, p5, p6, p7, p8, fun _ => rfl, p14, p15, rq, ro, rw, pa10, bz10, bv10, fr10_rq, pa11, bz11, bv11, fr11_rq, ne10_11⟩
    · rintro L T u hd hk hcl ⟨ra, rc, q1, A1, A2, hb, p0, p1, p2, p3, p4, p5, p6, p7, p8, p9, p14, p15, rq, ro, rw, pa10, bz10, bv10, fr10_rq, pa11, bz11, bv11, fr11_rq, ne10_11⟩ K hK
      simp only [fr, Act.put, List.setIfInBounds_toArray, List.set_cons_zero, List.set_cons_succ, updO] at hK ⊢
      simp [Region.binds] at hd
      have kst := hcl 12 _ rfl
      simp [Region.binds] at kst
      rw [if_pos (by rfl)]
      simp only [Oper.wpv]
      go_simp
      have hg : Below u.heap.size u _ := (Below.refl u.heap.size u).alloc (Nat.le_refl _) (.cells #[.slice none 0 0, .slice none 0 0, .slice none 0 0, .slice none 0 0] 31)
      exact hK _ _ ⟨ra, rc, q1, u.heap.size, A2, nT hb hg, p0, p1, p2, p3, p4, p5, p6, p7, p8, p9, p14, p15, fun h0 => ((rq h0)).below hg, ro, fun h0 h1 => St.IsRow.below (rw h0 h1) hg, fun _ => ⟨rfl, hb.size, by simp⟩, fun _ _ => boxn_new u #[.slice none 0 0, .slice none 0 0, .slice none 0 0, .slice none 0 0] 31 4 rfl, fun h => absurd (show L 12 = true from h) (by intro hh; have := kst hh; simp [hk] at this), fun h0 _ => (rq (show L 4 = true from h0)).farNew, fun h0 => ⟨(pa11 h0).1, (pa11 h0).2.1, Nat.lt_of_lt_of_le (pa11 h0).2.2 hg.size⟩, fun h0 h1 => (bz11 h0 h1).below hg (bz11 h0 h1).lt, fun h0 => (bv11 h0).below hg (bv11 h0).lt, fr11_rq, fun _ h1 => Nat.ne_of_gt (pa11 (show L 11 = true from h1)).2.2⟩
    · rintro L T u hd hk hcl ⟨ra, rc, q1, A1, A2, hb, p0, p1, p2, p3, p4, p5, p6, p7, p8, p9, p14, p15, rq, ro, rw, pa10, bz10, bv10, fr10_rq, pa11, bz11, bv11, fr11_rq, ne10_11⟩ K hK
      simp only [fr, Act.put, List.setIfInBounds_toArray, List.set_cons_zero, List.set_cons_succ, updO] at hK ⊢
      simp [Region.binds] at hd
      have kst := hcl 13 _ rfl
      simp [Region.binds] at kst
      rw [if_pos (by rfl)]
      simp only [Oper.wpv]
      go_simp
      have hg : Below u.heap.size u _ := (Below.refl u.heap.size u).alloc (Nat.le_refl _) (.cells #[.int .i64 0, .slice none 0 0] 34)
      exact hK _ _ ⟨ra, rc, q1, A1, u.heap.size, nT hb hg, p0, p1, p2, p3, p4, p5, p6, p7, p8, p9, p14, p15, fun h0 => ((rq h0)).below hg, ro, fun h0 h1 => St.IsRow.below (rw h0 h1) hg, fun h0 => ⟨(pa10 h0).1, (pa10 h0).2.1, Nat.lt_of_lt_of_le (pa10 h0).2.2 hg.size⟩, fun h0 h1 => (bz10 h0 h1).below hg (bz10 h0 h1).lt, fun h0 => (bv10 h0).below hg (bv10 h0).lt, fr10_rq, fun _ => ⟨rfl, hb.size, by simp⟩, fun _ _ => boxn_new u #[.int .i64 0, .slice none 0 0] 34 2 rfl, fun h => absurd (show L 13 = true from h) (by intro hh; have := kst hh; simp [hk] at this), fun h0 _ => (rq (show L 4 = true from h0)).farNew, fun h0 _ => Nat.ne_of_lt (pa10 (show L 10 = true from h0)).2.2⟩
    · rintro L T u hd hk hcl ⟨ra, rc, q1, A1, A2, hb, p0, p1, p2, p3, p4, p5, p6, p7, p8, p9, p14, p15, rq, ro, rw, pa10, bz10, bv10, fr10_rq, pa11, bz11, bv11, fr11_rq, ne10_11⟩ K hK
      simp only [fr, Act.put, List.setIfInBounds_toArray, List.set_cons_zero, List.set_cons_succ, updO] at hK ⊢
      simp [Region.binds] at hd
      have g6 := p6 (by simp [hd])
      have g10 := pa10 (by simp [hd])
      have HK10 : L 10 = true := by simp [hd]
      obtain ⟨gA, gB, gC⟩ := pa10 HK10
      have bz := bz10 HK10 hk
      have z0 : u.cell? ⟨A1, 0, none⟩ = some (.slice none 0 0) := (bz.c 0 (by decide)).1
      have zf0 := (bz.c 0 (by decide)).2
      have z1 : u.cell? ⟨A1, 1, none⟩ = some (.slice none 0 0) := (bz.c 1 (by decide)).1
      have zf1 := (bz.c 1 (by decide)).2
      have z2 : u.cell? ⟨A1, 2, none⟩ = some (.slice none 0 0) := (bz.c 2 (by decide)).1
      have zf2 := (bz.c 2 (by decide)).2
      have z3 : u.cell? ⟨A1, 3, none⟩ = some (.slice none 0 0) := (bz.c 3 (by decide)).1
      have zf3 := (bz.c 3 (by decide)).2
      clear g10
      have kst11 := hcl 13 _ rfl
      simp [Region.binds] at kst11
      have k6 := hcl 6 _ rfl
      simp [Region.binds] at k6
      have k5 := hcl 5 _ rfl
      simp [Region.binds] at k5
      have a6 : L 6 = true := by simp [hd]
      have a5 : L 5 = true := by simp [k6 a6]
      have a4 : L 4 = true := by simp [k5 a5]
      have hup : L 4 = true := a4
      rw [if_pos (by rfl)]
      simp only [Oper.wpv]
      go_simp
      exact hK _ _ ⟨ra, rc, q1, A1, A2, ((((hb.setCell (p := ⟨A1, 0, none⟩) gB _).setCell (p := ⟨A1, 1, none⟩) gB _).setCell (p := ⟨A1, 2, none⟩) gB _).setCell (p := ⟨A1, 3, none⟩) gB _), p0, p1, p2, p3, p4, p5, p6, p7, p8, p9, p14, p15, fun h0 => RqAt.aside4 (rq h0) (fr10_rq h0 HK10) _ _ _ _, ro, fun h0 h1 => Bool.noConfusion (hup.symm.trans (show L 4 = false from h1)), fun h0 => ⟨(pa10 h0).1, (pa10 h0).2.1, by simpa using (pa10 h0).2.2⟩, fun h0 h1 => Bool.noConfusion (show true = false from h1), fun _ => ((((bz.set 0 (by decide) _).set 1 (by decide) _).set 2 (by decide) _).set 3 (by decide) _), fr10_rq, fun h0 => ⟨(pa11 h0).1, (pa11 h0).2.1, by simpa using (pa11 h0).2.2⟩, fun h0 h1 => (((((bz11 h0 h1).far ((ne10_11 HK10 (show L 11 = true from h0)).symm)).far ((ne10_11 HK10 (show L 11 = true from h0)).symm)).far ((ne10_11 HK10 (show L 11 = true from h0)).symm)).far ((ne10_11 HK10 (show L 11 = true from h0)).symm)), fun h0 => (((((bv11 h0).far ((ne10_11 HK10 (kst11 (show L 13 = true from h0)).1).symm)).far ((ne10_11 HK10 (kst11 (show L 13 = true from h0)).1).symm)).far ((ne10_11 HK10 (kst11 (show L 13 = true from h0)).1).symm)).far ((ne10_11 HK10 (kst11 (show L 13 = true from h0)).1).symm)), fr11_rq, ne10_11⟩
    · rintro L T u hd hk hcl ⟨ra, rc, q1, A1, A2, hb, p0, p1, p2, p3, p4, p5, p6, p7, p8, p9, p14, p15, rq, ro, rw, pa10, bz10, bv10, fr10_rq, pa11, bz11, bv11, fr11_rq, ne10_11⟩ K hK
      simp only [fr, Act.put, List.setIfInBounds_toArray, List.set_cons_zero, List.set_cons_succ, updO] at hK ⊢
      simp [Region.binds] at hd
      have g7 := p7 (by simp [hd])
      have g11 := pa11 (by simp [hd])
      have HK11 : L 11 = true := by simp [hd]
      obtain ⟨gA, gB, gC⟩ := pa11 HK11
      have bz := bz11 HK11 hk
      have z0 : u.cell? ⟨A2, 0, none⟩ = some (.int .i64 0) := (bz.c 0 (by decide)).1
      have zf0 := (bz.c 0 (by decide)).2
      have z1 : u.cell? ⟨A2, 1, none⟩ = some (.slice none 0 0) := (bz.c 1 (by decide)).1
      have zf1 := (bz.c 1 (by decide)).2
      clear g11
      have kst10 := hcl 12 _ rfl
      simp [Region.binds] at kst10
      have k7 := hcl 7 _ rfl
      simp [Region.binds] at k7
      have k5 := hcl 5 _ rfl
      simp [Region.binds] at k5
      have a7 : L 7 = true := by simp [hd]
      have a5 : L 5 = true := by simp [k7 a7]
      have a4 : L 4 = true := by simp [k5 a5]
      have hup : L 4 = true := a4
      rw [if_pos (by rfl)]
      simp only [Oper.wpv]
      go_simp
      exact hK _ _ ⟨ra, rc, q1, A1, A2, ((hb.setCell (p := ⟨A2, 0, none⟩) gB _).setCell (p := ⟨A2, 1, none⟩) gB _), p0, p1, p2, p3, p4, p5, p6, p7, p8, p9, p14, p15, fun h0 => RqAt.aside2 (rq h0) (fr11_rq h0 HK11) _ _, ro, fun h0 h1 => Bool.noConfusion (hup.symm.trans (show L 4 = false from h1)), fun h0 => ⟨(pa10 h0).1, (pa10 h0).2.1, by simpa using (pa10 h0).2.2⟩, fun h0 h1 => (((bz10 h0 h1).far ((ne10_11 (show L 10 = true from h0) HK11))).far ((ne10_11 (show L 10 = true from h0) HK11))), fun h0 => (((bv10 h0).far ((ne10_11 (kst10 (show L 12 = true from h0)).1 HK11))).far ((ne10_11 (kst10 (show L 12 = true from h0)).1 HK11))), fr10_rq, fun h0 => ⟨(pa11 h0).1, (pa11 h0).2.1, by simpa using (pa11 h0).2.2⟩, fun h0 h1 => Bool.noConfusion (show true = false from h1), fun _ => ((bz.set 0 (by decide) _).set 1 (by decide) _), fr11_rq, ne10_11⟩
    · rintro L T u hd hk hcl ⟨ra, rc, q1, A1, A2, hb, p0, p1, p2, p3, p4, p5, p6, p7, p8, p9, p14, p15, rq, ro, rw, pa10, bz10, bv10, fr10_rq, pa11, bz11, bv11, fr11_rq, ne10_11⟩ K hK
      simp only [fr, Act.put, List.setIfInBounds_toArray, List.set_cons_zero, List.set_cons_succ, updO] at hK ⊢
      simp [Region.binds] at hd
      have g8 := p8 (by simp [hd])
      rw [if_pos (by rfl)]
      simp only [Oper.wpv]
      go_simp
      exact hK _ _ ⟨ra, rc, q1, A1, A2, hb, p0, p1, p2, p3, p4, p5, p6, p7, p8, p9, fun _ => rfl, p15, rq, ro, rw, pa10, bz10, bv10, fr10_rq, pa11, bz11, bv11, fr11_rq, ne10_11⟩
    · rintro L T u hd hk hcl ⟨ra, rc, q1, A1, A2, hb, p0, p1, p2, p3, p4, p5, p6, p7, p8, p9, p14, p15, rq, ro, rw, pa10, bz10, bv10, fr10_rq, pa11, bz11, bv11, fr11_rq, ne10_11⟩ K hK
      simp only [fr, Act.put, List.setIfInBounds_toArray, List.set_cons_zero, List.set_cons_succ, updO] at hK ⊢
      simp [Region.binds] at hd
      have g9 := p9 (by simp [hd])
      rw [if_pos (by rfl)]
      simp only [Oper.wpv]
      go_simp
      exact hK _ _ ⟨ra, rc, q1, A1, A2, hb, p0, p1, p2, p3, p4, p5, p6, p7, p8, p9, p14, fun _ => rfl, rq, ro, rw, pa10, bz10, bv10, fr10_rq, pa11, bz11, bv11, fr11_rq, ne10_11⟩
  · rintro L T u hl ⟨ra, rc, q1, A1, A2, hb, p0, p1, p2, p3, p4, p5, p6, p7, p8, p9, p14, p15, rq, ro, rw, pa10, bz10, bv10, fr10_rq, pa11, bz11, bv11, fr11_rq, ne10_11⟩
    simp only [fr, Act.put, List.setIfInBounds_toArray, List.set_cons_zero, List.set_cons_succ]
    have h9 := p14 (hl 14 (by decide))
    have h10 := p15 (hl 15 (by decide))
    have hp1 := pa10 (hl 10 (by decide))
    have hp2 := pa11 (hl 11 (by decide))
    have hv1 := bv10 (hl 12 (by decide))
    have hv2 := bv11 (hl 13 (by decide))
    have hrq := rq (hl 4 (by decide))
    have hro := ro (hl 4 (by decide))
    clear p0 p1 p2 p3 p4 p5 p6 p7 p8 p9 p14 p15 rq ro rw pa10 bz10 bv10 fr10_rq pa11 bz11 bv11 fr11_rq ne10_11 hl HRb KS HSl ER
    rw [h9, h10, hp1.1, hp2.1]
    clear h9 h10 hp1 hp2
    obtain ⟨c0, c1, c2, zc⟩ := KC.out u hb
    have hRf := HRf.out u hb
    have K1 : Hid (∀ U, Below u.heap.size u U → BoxN U A1 4 [.slice q1.s.ia q1.s.il q1.s.ic, .slice q1.s.la q1.s.ll q1.s.lc, .slice q1.s.da q1.s.dl q1.s.dc, .slice q1.s.oa q1.s.ol q1.s.oc] ∧ BoxN U A2 2 [.int .i64 NX, .slice q1.a q1.js.length q1.c] ∧ RqAt W.heap.size U q1) := fun U hU => ⟨hv1.below hU hv1.lt, hv2.below hU hv2.lt, hrq.below hU⟩
    clear hv1 hv2 hrq HRf KC
    go_upto_region 3 with (go_at_call 5; refine hRf.mono ?_; rintro e V ⟨q2, rfl, hA2, hO2, hV⟩)
    obtain ⟨X, eX⟩ : ∃ X : World, X = (V.alloc (.cells #[.slice q2.s.ia q2.s.il q2.s.ic, .slice q2.s.la q2.s.ll q2.s.lc, .slice q2.s.da q2.s.dl q2.s.dc, .slice q2.s.oa q2.s.ol q2.s.oc] 31)).alloc (.cells #[.int .i64 NX, .slice q2.a q2.js.length q2.c] 34) := ⟨_, rfl⟩
    have bX : Below V.heap.size V X := by rw [eX]; exact ((Below.refl _ _).alloc (Nat.le_refl _) _).alloc (by simp) _
    have bx1 : BoxN X V.heap.size 4 [.slice q2.s.ia q2.s.il q2.s.ic, .slice q2.s.la q2.s.ll q2.s.lc, .slice q2.s.da q2.s.dl q2.s.dc, .slice q2.s.oa q2.s.ol q2.s.oc] := by
      rw [eX]
      have h8 := boxn_new V #[.slice q2.s.ia q2.s.il q2.s.ic, .slice q2.s.la q2.s.ll q2.s.lc, .slice q2.s.da q2.s.dl q2.s.dc, .slice q2.s.oa q2.s.ol q2.s.oc] 31 4 rfl
      exact h8.below ((Below.refl _ _).alloc (Nat.le_refl _) _) h8.lt
    have bx2 : BoxN X (V.heap.size + 1) 2 [.int .i64 NX, .slice q2.a q2.js.length q2.c] := by
      rw [eX]
      have h8 := boxn_new (V.alloc (.cells #[.slice q2.s.ia q2.s.il q2.s.ic, .slice q2.s.la q2.s.ll q2.s.lc, .slice q2.s.da q2.s.dl q2.s.dc, .slice q2.s.oa q2.s.ol q2.s.oc] 31)) #[.int .i64 NX, .slice q2.a q2.js.length q2.c] 34 2 rfl
      rw [show (V.alloc (.cells #[.slice q2.s.ia q2.s.il q2.s.ic, .slice q2.s.la q2.s.ll q2.s.lc, .slice q2.s.da q2.s.dl q2.s.dc, .slice q2.s.oa q2.s.ol q2.s.oc] 31)).heap.size = V.heap.size + 1 by simp] at h8
      exact h8
    rw [← eX]
    clear eX
    obtain ⟨hd1, hd2, hd3⟩ := hro.same hO2
    have hjl : q1.js.length = q2.js.length := by have := congrArg List.length hd2; simpa using this
    have hbX : Below u.heap.size u X := hV.trans (bX.mono hV.size)
    have K2 : Hid (∀ U, Below X.heap.size X U → RqAt W.heap.size U q1 ∧ RqAt u.heap.size U q2) := fun U hU => ⟨(K1.out U (hbX.trans (hU.mono hbX.size))).2.2, (hA2.below bX).below hU⟩
    have HSs : Hid (∀ U, Below X.heap.size X U → Calls Tryz.prog 6 #[.agg #[.slice q1.s.ia q1.s.il q1.s.ic, .slice q1.s.la q1.s.ll q1.s.lc, .slice q1.s.da q1.s.dl q1.s.dc, .slice q1.s.oa q1.s.ol q1.s.oc], .agg #[.slice q2.s.ia q2.s.il q2.s.ic, .slice q2.s.la q2.s.ll q2.s.lc, .slice q2.s.da q2.s.dl q2.s.dc, .slice q2.s.oa q2.s.ol q2.s.oc]] U fun e w' => e = .returned (.bool true) ∧ Below U.heap.size U w') := fun U hU => by
      obtain ⟨h1, h2⟩ := K2.out U hU
      exact sameStore_any q1.s q2.s U h1.isStore h2.isStore hd1
    have HSd : Hid (∀ U, Below X.heap.size X U → Calls Tryz.prog 7 #[.agg #[.int .i64 NX, .slice q1.a q1.js.length q1.c], .agg #[.int .i64 NX, .slice q2.a q2.js.length q2.c]] U fun e w' => e = .returned (.bool true) ∧ Below U.heap.size U w') := fun U hU => by
      obtain ⟨h1, h2⟩ := K2.out U hU
      rw [← hjl]
      exact sameDesk_rb NX q1.a q1.js.length q1.c q1.js q2.a q2.c q2.js U h1.isJobs (by rw [hjl]; exact h2.isJobs) h1.jb.bare h2.jb.bare hd2
    have HSn : Hid (∀ U, Below X.heap.size X U → Calls Tryz.prog 8 #[.slice q1.na q1.ns.length q1.nc, .slice q2.na q2.ns.length q2.nc] U fun e w' => e = .returned (.bool true) ∧ Below U.heap.size U w') := fun U hU => by
      obtain ⟨h1, h2⟩ := K2.out U hU
      have h3 := h2.isNotes
      rw [← hd3] at h3 ⊢
      exact sameNotes_any q1.na q2.na q1.ns.length q1.nc q2.nc q1.ns U h1.isNotes h3
    have K3 : Hid (∀ U, Below X.heap.size X U → (U.cell? ⟨A1, 0, none⟩ = some (.slice q1.s.ia q1.s.il q1.s.ic) ∧ U.cell? ⟨A1, 1, none⟩ = some (.slice q1.s.la q1.s.ll q1.s.lc) ∧ U.cell? ⟨A1, 2, none⟩ = some (.slice q1.s.da q1.s.dl q1.s.dc) ∧ U.cell? ⟨A1, 3, none⟩ = some (.slice q1.s.oa q1.s.ol q1.s.oc) ∧ A1 < U.heap.size) ∧ (U.cell? ⟨V.heap.size, 0, none⟩ = some (.slice q2.s.ia q2.s.il q2.s.ic) ∧ U.cell? ⟨V.heap.size, 1, none⟩ = some (.slice q2.s.la q2.s.ll q2.s.lc) ∧ U.cell? ⟨V.heap.size, 2, none⟩ = some (.slice q2.s.da q2.s.dl q2.s.dc) ∧ U.cell? ⟨V.heap.size, 3, none⟩ = some (.slice q2.s.oa q2.s.ol q2.s.oc) ∧ V.heap.size < U.heap.size) ∧ (U.cell? ⟨A2, 0, none⟩ = some (.int .i64 NX) ∧ U.cell? ⟨A2, 1, none⟩ = some (.slice q1.a q1.js.length q1.c) ∧ A2 < U.heap.size) ∧ (U.cell? ⟨V.heap.size + 1, 0, none⟩ = some (.int .i64 NX) ∧ U.cell? ⟨V.heap.size + 1, 1, none⟩ = some (.slice q2.a q2.js.length q2.c) ∧ V.heap.size + 1 < U.heap.size)) := fun U hU => by
      obtain ⟨h1, h2, -⟩ := K1.out U (hbX.trans (hU.mono hbX.size))
      have h3 := bx1.below hU bx1.lt
      have h4 := bx2.below hU bx2.lt
      exact ⟨⟨(h1.c 0 (by decide)).1, (h1.c 1 (by decide)).1, (h1.c 2 (by decide)).1, (h1.c 3 (by decide)).1, h1.lt⟩, ⟨(h3.c 0 (by decide)).1, (h3.c 1 (by decide)).1, (h3.c 2 (by decide)).1, (h3.c 3 (by decide)).1, h3.lt⟩, ⟨(h2.c 0 (by decide)).1, (h2.c 1 (by decide)).1, h2.lt⟩, ⟨(h4.c 0 (by decide)).1, (h4.c 1 (by decide)).1, h4.lt⟩⟩
    have hWX : Below W.heap.size W X := hb.trans (hbX.mono hb.size)
    have HFX : Hid (∀ U, Below X.heap.size X U → Below w.heap.size w U) := fun U hU => HF.out U (hWX.trans (hU.mono hWX.size))
    obtain ⟨⟨x0, x1, x2, x3, zx⟩, ⟨y0, y1, y2, y3, zy⟩, -, -⟩ := K3.out X (Below.refl _ _)
    have h9 := HSs.out X (Below.refl _ _)
    clear hd1 hd2 hd3 hjl hbX hWX bx1 bx2 bX K1 K2 hro hO2 hA2 hRf HF HSs hV c0 c1 c2 zc hb
    go_wp2_with (first | (go_at_call 6; refine h9.mono ?_; rintro e U1 ⟨rfl, b1⟩; clear x0 x1 x2 x3 zx y0 y1 y2 y3 zy h9; obtain ⟨-, -, ⟨x0, x1, zx⟩, ⟨y0, y1, zy⟩⟩ := K3.out U1 b1; have h9 := HSd.out U1 b1) | (go_at_call 7; refine h9.mono ?_; rintro e U2 ⟨rfl, b2⟩; clear x0 x1 zx y0 y1 zy h9; have b3 := b1.trans (b2.mono b1.size); have h9 := HSn.out U2 b3) | (go_at_call 8; refine h9.mono ?_; rintro e U3 ⟨rfl, b4⟩))
    have hF := HFX.out _ (b3.trans (b4.mono b3.size))
    go_ret
    exact ⟨rfl, hF⟩
end Go.Proofs.YtekglahigjblkaaGreatDoor.Rb
/- What the listed tables of package wire hold, cell by cell, out of their reading as data. -/
namespace Go.Proofs.YtekglahigjblkaaGreatDoor
open Go.ChangeShapes Go.WideShapes Go.ChangeAt Go.RowKit

def bRow {H : Type} (bs : List Bool) : DataW H := .agg (bs.map fun b => .lit (.bool b))
def bTab {H : Type} (tb : List (List Bool)) : DataW H := .agg (tb.map bRow)

section
variable {H : Type} {enc : TypeId × Value → H} {W : World} {base : Nat} {sp : Nat → Bool} {held : Bool}

theorem c1b : Tryz.prog.cellsOf 4 = 1 := by kernel_rfl
theorem c8b : Tryz.prog.cellsOf 110 = 8 := by kernel_rfl

theorem row_of {fuel : Nat} {cs : List Value} {bs : List Bool} {p : List MemPlace} (hb : bs.length = 8) (h : DataW.trod enc Tryz.prog W base sp held fuel 110 cs = some (bRow bs, p)) (j : Nat) (hj : j < 8) : cs[j]? = some (.bool (bs.getD j false)) := by
  obtain ⟨xs, m, rfl, hx, hl, hn, hel⟩ := DataW.trod_array Tryz.underlying110 h
  have hxs : xs.map (·.1) = bs.map fun b => (DataW.lit (.bool b) : DataW H) := by
    have := congrArg Prod.fst hx
    simpa [bRow] using this.symm
  have h1 := hel j hj
  rw [c1b, List.getElem?_eq_getElem (by omega)] at h1
  obtain ⟨b, hc, hx1⟩ := DataW.trod_bool Tryz.underlying4 h1
  have e1 : cs[j]? = some (.bool b) := by
    have := congrArg (·[0]?) hc
    simpa [List.getElem?_take, List.getElem?_drop] using this
  have e2 : (xs.map (·.1))[j]? = some (DataW.lit (.bool b) : DataW H) := by
    rw [List.getElem?_map, List.getElem?_eq_getElem (by omega), hx1]; rfl
  rw [hxs] at e2
  have hjb : j < bs.length := by omega
  simp [hjb] at e2
  rw [e1]
  simp [List.getD, hjb, e2]

theorem tab_of {fuel n : Nat} {t : TypeId} {cs : List Value} {tb : List (List Bool)} {p : List MemPlace} (ht : Tryz.prog.underlying t = some (.array n 110)) (hn : tb.length = n) (hb : ∀ i, i < n → (tb.getD i []).length = 8) (h : DataW.trod enc Tryz.prog W base sp held fuel t cs = some (bTab tb, p)) (i j : Nat) (hi : i < n) (hj : j < 8) : cs[i * 8 + j]? = some (.bool ((tb.getD i []).getD j false)) := by
  obtain ⟨xs, m, rfl, hx, hl, hlen, hel⟩ := DataW.trod_array ht h
  have hxs : xs.map (·.1) = tb.map bRow := by
    have := congrArg Prod.fst hx
    simpa [bTab] using this.symm
  have h1 := hel i hi
  rw [c8b, List.getElem?_eq_getElem (by omega)] at h1
  have e2 : (xs.map (·.1))[i]? = (tb.map (bRow (H := H)))[i]? := by rw [hxs]
  have hit : i < tb.length := by omega
  have hix : i < xs.length := by omega
  simp [hix, hit] at e2
  obtain ⟨d, q, hxi⟩ : ∃ d q, xs[i] = (d, q) := ⟨_, _, rfl⟩
  have e3 : d = bRow (tb.getD i []) := by
    rw [hxi] at e2
    simp [List.getD, hit]
    exact e2
  rw [hxi, e3] at h1
  have := row_of (hb i hi) h1 j hj
  rw [List.getElem?_take, if_pos hj, List.getElem?_drop] at this
  exact this

theorem has_of {fuel n g : Nat} {t : TypeId} {cs : Array Value} {tb : List (List Bool)} {p : List MemPlace} {name : String} (hg : Tryz.prog.globalNamed name = some g) (hv : W.var? Tryz.prog name = some cs) (ht : Tryz.prog.underlying t = some (.array n 110)) (hn : tb.length = n) (hb : ∀ i, i < n → (tb.getD i []).length = 8)
    (h : DataW.trod enc Tryz.prog W base sp held fuel t cs.toList = some (bTab tb, p)) : HasAt W g tb := by
  intro i j hi hj
  rw [World.var?_cell hg hv, ← Array.getElem?_toList]
  exact tab_of ht hn hb h i j (by omega) hj

theorem mHas_rows : ∀ i, i < 10 → (mHas.getD i []).length = 8 := by decide
theorem rHas_rows : ∀ i, i < 7 → (rHas.getD i []).length = 8 := by decide

theorem tops_of {fuel : Nat} {cs : Array Value} {p : List MemPlace} {name : String} (hg : Tryz.prog.globalNamed name = some 1) (hv : W.var? Tryz.prog name = some cs)
    (h : DataW.trod enc Tryz.prog W base sp held fuel 102 cs.toList = some (Lib.tabData .i64 topL, p)) : TopsAt W := by
  have e := Lib.cells_of_tab Tryz.underlying102 Tryz.underlying3 (by kernel_rfl) (by kernel_rfl) h
  have c : ∀ i, W.cell? ⟨1, i, none⟩ = (topL.map fun z => Value.int .i64 z)[i]? := by
    intro i
    rw [World.var?_cell hg hv, ← Array.getElem?_toList, e]
  unfold TopsAt
  simp only [c]
  simp [topL]
end
end Go.Proofs.YtekglahigjblkaaGreatDoor
