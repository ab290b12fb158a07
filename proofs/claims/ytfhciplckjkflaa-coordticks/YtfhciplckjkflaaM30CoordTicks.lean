/- Texts of this claim, one behind the other. -/
import Derived.Test.YtfhciplckjkflaaM29CoordTicks
import Derived.Test.YtfhciplckjkflaaM12CoordTicks
import Derived.Tactics
import Derived.Test.YtfhciplckjkflaaM27CoordTicks
/- coord.Tick. -/
namespace Go.Proofs.Ytfhciplckjkflaa.Co
open Go.ChangeShapes Go.WideShapes Go.ChangeAt Go.RowKit
open Go.Proofs.Ytfhciplckjkflaa.St (BoxN boxn_new own_below grown_setCell IsRow Elem flat flat_append own_isRow idxI idxI_lt)
set_option linter.unusedVariables false

def TickIs (w w' : World) (C : Cx) (next : Int) (js : List JbV) (e : Ending) : Prop := ∃ tv, e = .returned (.tuple #[tv, .int .i64 (rfErr C.s C.ls C.p C.l C.me next js)]) ∧ TurnIs w w' tv (TickAns C next js)
theorem desk_ages {s : Int} {ls : List (Int × Int)} {p l me next : Int} {js : List JbV} (h : rfErr s ls p l me next js = 0) : (∀ j ∈ js, 0 ≤ j.age ∧ j.age ≤ 1048576) ∧ ∀ k, k < js.length → ∀ j ∈ js.drop (k + 1), j.n ≠ (js.getD k default).n := by
  obtain ⟨h1, h2, h3⟩ := dk_zero (rf_zero h)
  simp only [jbsOK, Bool.and_eq_true, decide_eq_true_eq] at h3
  refine ⟨fun j hj => ?_, jbs_apart h3.2⟩
  have := (jbsGo_mem h3.2 j hj).1
  simp only [jbOK, Bool.and_eq_true, inR, decide_eq_true_eq] at this
  exact this.1.1.1.1.1
theorem rs_nil {v : CkV} {t : Tn} (h : v.tn = t) (hr : t.rs = []) : v.rs = [] := by
  have : v.rs.map RcV.bare = [] := (congrArg Tn.rs h).trans hr
  simpa using this
theorem bare_parts2 {j k : JbV} (h : j.bare = k.bare) : j.n = k.n ∧ j.state = k.state ∧ j.asks = k.asks ∧ j.age = k.age ∧ j.tasks = k.tasks ∧ j.asked = k.asked := by
  obtain ⟨n, st, ta, tl, tc, aa, al, ac, asks, age, tasks, asked⟩ := j
  obtain ⟨n', st', ta', tl', tc', aa', al', ac', asks', age', tasks', asked'⟩ := k
  simp [JbV.bare] at h
  exact ⟨h.1, h.2.1, h.2.2.1, h.2.2.2.1, h.2.2.2.2.1, h.2.2.2.2.2⟩
set_option maxRecDepth 100000 in
set_option maxHeartbeats 8000000 in
theorem tick_coord (s p : Int) (a : Option Addr) (len cap : Nat) (ls : List (Int × Int)) (l me next : Int) (ja : Option Addr) (jl jc : Nat) (js : List JbV) (w : World) (hl : IsLabs w a len cap ls) (hj : IsJobs w ja jl jc js) :
    Calls Try.prog 10 #[.agg #[.int .i64 s, .slice a len cap, .int .i64 p], .int .i64 l, .int .i64 me, .agg #[.int .i64 next, .slice ja jl jc]] w fun e w' => TickIs w w' ⟨s, ls, p, l, me⟩ next js e := by
  obtain ⟨W, hW⟩ : ∃ W : World, W = ((w.alloc (.cells #[.int .i64 s, .slice a len cap, .int .i64 p] 24)).alloc (.cells #[.int .i64 next, .slice ja jl jc] 27)).alloc (.cells #[.int .i64 0, .slice none 0 0, .slice none 0 0, .slice none 0 0, .slice none 0 0, .int .i64 0, .int .i64 0] 35) := ⟨_, rfl⟩
  have bW : Below w.heap.size w W := by rw [hW]; exact (((Below.refl _ _).alloc (Nat.le_refl _) _).alloc (by simp) _).alloc (by simp; omega) _
  have zW : W.heap.size = w.heap.size + 3 := by rw [hW]; simp
  have bxW : BoxN W (w.heap.size + 2) 7 [.int .i64 0, .slice none 0 0, .slice none 0 0, .slice none 0 0, .slice none 0 0, .int .i64 0, .int .i64 0] := by
    rw [hW]
    have := boxn_new ((w.alloc (.cells #[.int .i64 s, .slice a len cap, .int .i64 p] 24)).alloc (.cells #[.int .i64 next, .slice ja jl jc] 27)) #[.int .i64 0, .slice none 0 0, .slice none 0 0, .slice none 0 0, .slice none 0 0, .int .i64 0, .int .i64 0] 35 7 rfl
    simpa using this
  have c0 : W.cell? ⟨w.heap.size, 0, none⟩ = some (.int .i64 s) := by rw [hW]; go_simp
  have c1 : W.cell? ⟨w.heap.size, 1, none⟩ = some (.slice a len cap) := by rw [hW]; go_simp
  have c2 : W.cell? ⟨w.heap.size, 2, none⟩ = some (.int .i64 p) := by rw [hW]; go_simp
  have c3 : W.cell? ⟨w.heap.size + 1, 0, none⟩ = some (.int .i64 next) := by rw [hW]; go_simp
  have c4 : W.cell? ⟨w.heap.size + 1, 1, none⟩ = some (.slice ja jl jc) := by rw [hW]; go_simp
  have KC : Hid (∀ U, Below W.heap.size W U → U.cell? ⟨w.heap.size, 0, none⟩ = some (.int .i64 s) ∧ U.cell? ⟨w.heap.size, 1, none⟩ = some (.slice a len cap) ∧ U.cell? ⟨w.heap.size, 2, none⟩ = some (.int .i64 p) ∧ U.cell? ⟨w.heap.size + 1, 0, none⟩ = some (.int .i64 next) ∧ U.cell? ⟨w.heap.size + 1, 1, none⟩ = some (.slice ja jl jc)) := fun U hU => ⟨(hU.cell (p := ⟨w.heap.size, 0, none⟩) (by show w.heap.size < _; omega)).trans c0, (hU.cell (p := ⟨w.heap.size, 1, none⟩) (by show w.heap.size < _; omega)).trans c1, (hU.cell (p := ⟨w.heap.size, 2, none⟩) (by show w.heap.size < _; omega)).trans c2, (hU.cell (p := ⟨w.heap.size + 1, 0, none⟩) (by show w.heap.size + 1 < _; omega)).trans c3, (hU.cell (p := ⟨w.heap.size + 1, 1, none⟩) (by show w.heap.size + 1 < _; omega)).trans c4⟩
  have HBox : Hid (∀ U, Below W.heap.size W U → BoxN U (w.heap.size + 2) 7 [.int .i64 0, .slice none 0 0, .slice none 0 0, .slice none 0 0, .slice none 0 0, .int .i64 0, .int .i64 0]) := fun U hU => bxW.below hU bxW.lt
  have HZ : Hid (∀ U, Below W.heap.size W U → Below w.heap.size w U ∧ w.heap.size + 3 ≤ U.heap.size) := fun U hU => ⟨bW.trans (hU.mono bW.size), by have := hU.size; omega⟩
  have HRf : Hid (Calls Try.prog 14 #[.agg #[.int .i64 s, .slice a len cap, .int .i64 p], .int .i64 l, .int .i64 me, .agg #[.int .i64 next, .slice ja jl jc]] W fun e w' => e = .returned (.int .i64 (rfErr s ls p l me next js)) ∧ Below W.heap.size W w') := refuse_any s p a len cap ls l me next ja jl jc js W (hl.below bW) (hj.below bW)
  have HFine := fun (h : rfErr s ls p l me next js = 0) => desk_fine h
  have HAges := fun (h : rfErr s ls p l me next js = 0) => desk_ages h
  obtain ⟨E, eE⟩ : ∃ E, E = rfErr s ls p l me next js := ⟨_, rfl⟩
  rw [← eE] at HRf HFine HAges
  have HC : Hid (rfErr s ls p l me next js = E) := eE.symm
  clear eE bxW c0 c1 c2 c3 c4
  by_cases hE : E = 0
  · obtain ⟨hs4, hnx, h6, hF⟩ := HFine hE
    obtain ⟨hAg, hAp⟩ := HAges hE
    clear HFine HAges
    subst hE
    have HFin : Hid (∀ (U X : World) (q : Nat) (V : CkV) (ix : List (Nat × Nat)) (more : List Rw), Below W.heap.size W U → Clerk U X U.heap.size q V ix more → RecsIn V.rs more → V.tn = (tn0 next js).tick ⟨s, ls, p, l, me⟩ (js.map JbV.n) → TickIs w (set7 X (w.heap.size + 2) (.int .i64 V.next) (.slice V.ja V.jl V.jc) (.slice V.ma V.ml V.mc) (.slice V.ra V.rl V.rc) (.slice V.pa V.pl V.pc) (.int .i64 V.sure) (.int .i64 V.com)) ⟨s, ls, p, l, me⟩ next js (.returned (.tuple #[.agg #[.int .i64 V.next, .slice V.ja V.jl V.jc, .slice V.ma V.ml V.mc, .slice V.ra V.rl V.rc, .slice V.pa V.pl V.pc, .int .i64 V.sure, .int .i64 V.com], .int .i64 0]))) := fun U X q V ix more hU hC hR hT => by
      refine ⟨V.turn, by rw [HC.out]; rfl, V, ix, more, rfl, turn_fin hC hR (HZ.out U hU).1 (by omega) (by have := (HZ.out U hU).2; omega) _ _ _ _ _ _ _, ?_⟩
      unfold TickAns
      rw [if_pos HC.out]
      exact hT
    have hjl : js.length = jl := hj.row.1
    have h10 : ∀ j ∈ js, j.tl ≤ 10 ∧ j.al ≤ 10 := fun j hjm => by
      have h1 := hF j hjm
      have h2 := (hj.each j hjm).tasks.1
      have h3 := (hj.each j hjm).asked.1
      omega
    have HSit : Hid (∀ U, Below W.heap.size W U → Calls Try.prog 16 #[.agg #[.int .i64 s, .slice a len cap, .int .i64 p], .int .i64 l, .int .i64 me, .agg #[.int .i64 next, .slice ja jl jc]] U fun e w' => SitNew U w' e s a len cap p l me next jl js) := fun U hU => sit_any s p a len cap l me next ja jl jc js U (hj.below (HZ.out U hU).1) (by omega) h10
    have HLb : Hid (∀ U, Below W.heap.size W U → IsLabs U a len cap ls) := fun U hU => hl.below (HZ.out U hU).1
    have HJs : Hid (∀ U, Below W.heap.size W U → IsJobs U ja jl jc js) := fun U hU => hj.below (HZ.out U hU).1
    have HFi : Hid (∀ j ∈ js, j.tasks.length ≤ 10 ∧ j.asked.length ≤ 4 ∧ 0 ≤ j.asks ∧ j.asks ≤ 1048576) := hF
    have HAg : Hid (∀ j ∈ js, 0 ≤ j.age ∧ j.age ≤ 1048576) := hAg
    have HAp : Hid (∀ k, k < js.length → ∀ j ∈ js.drop (k + 1), j.n ≠ (js.getD k default).n) := hAp
    have HJl : Hid (js.length = jl) := hjl
    have h6' : (jl : Int) ≤ 6 := by omega
    have H6 : Hid (jl ≤ 6) := by show _ ≤ _; omega
    clear hF h10 hAg hAp hjl
    go_enter Try.func10, Try.ntmps10
    go_upto_region 1 with (fail)
    rw [← hW]
    clear hW
    obtain ⟨x0, x1, x2, x3, x4⟩ := KC.out W (Below.refl _ _)
    have z3 := (HZ.out W (Below.refl _ _)).2
    go_upto_region 4 with (go_at_call 14; refine HRf.out.mono ?_; rintro e U ⟨rfl, hbU⟩)
    clear x0 x1 x2 x3 x4
    obtain ⟨d0, d1, d2, d3, d4⟩ := KC.out U hbU
    have z3U := (HZ.out U hbU).2
    go_upto_region 5 with (go_at_call 16; refine (HSit.out _ hbU).mono ?_; rintro e X ⟨q, ja1, jc1, js1, ix, more, rfl, hC1, hbare⟩)
    have HTn : Hid ((⟨s, a, len, cap, p, l, me, next, ja1, jl, jc1, none, 0, 0, none, 0, 0, none, 0, 0, 0, 0, js1, [], [], []⟩ : CkV).tn = tn0 next js) := by show _ = _; unfold CkV.tn tn0; simp only [hbare]; rfl
    obtain ⟨v, ev⟩ : ∃ v : CkV, v = ⟨s, a, len, cap, p, l, me, next, ja1, jl, jc1, none, 0, 0, none, 0, 0, none, 0, 0, 0, 0, js1, [], [], []⟩ := ⟨_, rfl⟩
    rw [← ev] at hC1 HTn
    have HV : Hid (v.s = s ∧ v.cx ls = ⟨s, ls, p, l, me⟩ ∧ v.a = a ∧ v.len = len ∧ v.cap = cap) := by rw [ev]; exact ⟨rfl, rfl, rfl, rfl, rfl⟩
    have HLabs : Hid (∀ u : CkV, Hd v u → Labs U U.heap.size q u ls) := fun u hu U' u' iy m' hU' => by
      have : IsLabs U' a len cap ls := (HLb.out U hbU).below hU'.held.bel
      obtain ⟨k1, k2, k3, k4, k5, k6, k7⟩ := hu
      rw [k2, k3, k4, HV.out.2.2.1, HV.out.2.2.2.1, HV.out.2.2.2.2]
      exact this
    have HCxu : Hid (∀ u : CkV, Hd v u → u.cx ls = ⟨s, ls, p, l, me⟩ ∧ u.s = s) := fun u hu => by
      obtain ⟨k1, k2, k3, k4, k5, k6, k7⟩ := hu
      refine ⟨?_, by rw [k1]; exact HV.out.1⟩
      rw [← HV.out.2.1]
      unfold CkV.cx
      rw [k1, k5, k6, k7]
    have HC1 : Hid (Clerk U X U.heap.size q v ix more) := hC1
    have HXU : Hid (∀ (X : World) (u : CkV) (ix : List (Nat × Nat)) (more : List Rw), Clerk U X U.heap.size q u ix more → Below W.heap.size W X) := fun X u ix more hX => hbU.trans (hX.held.bel.mono hbU.size)
    have HInv0 : Hid (∃ (u : CkV) (iy : List (Nat × Nat)) (m' : List Rw), Clerk U X U.heap.size q u iy m' ∧ RecsIn u.rs m' ∧ Hd v u ∧ u.tn = (tn0 next js).tick ⟨s, ls, p, l, me⟩ ((js.take 0).map JbV.n) ∧ TickInv ⟨s, ls, p, l, me⟩ js 0 u.tn) := ⟨v, ix, more, hC1, by rw [ev]; exact recsIn_nil _, ⟨rfl, rfl, rfl, rfl, rfl, rfl, rfl⟩, HTn.out, by rw [HTn.out]; exact tick_zero _ _ _⟩
    clear ev hbare hC1 d0 d1 d2 d3 d4 HSit HRf HLb
    obtain ⟨-, -, -, -, d4⟩ := KC.out X (HXU.out _ _ _ _ HC1.out)
    have z3X := (HZ.out X (HXU.out _ _ _ _ HC1.out)).2
    go_upto_region 6 with (fail)
    clear d4 z3X
    go_loopw [13, 31] (fun _ s31 wr => ∃ k : Nat, s31 = .int .i64 (k : Int) ∧ k ≤ jl ∧ Hid (∃ (u : CkV) (iy : List (Nat × Nat)) (m' : List Rw), Clerk U wr U.heap.size q u iy m' ∧ RecsIn u.rs m' ∧ Hd v u ∧ u.tn = (tn0 next js).tick ⟨s, ls, p, l, me⟩ ((js.take k).map JbV.n) ∧ TickInv ⟨s, ls, p, l, me⟩ js k u.tn)) (fun _ s31 _ => jl - (intOf s31).toNat)
    case atStart => exact ⟨0, rfl, Nat.zero_le _, HInv0⟩
    case round =>
      obtain ⟨k, rfl, hk, hInv⟩ := hrel
      obtain ⟨u, iy, m', hC, hRc, hHd, hTu, hTI⟩ := hInv.out
      by_cases hlt : k < jl
      · have hlt' : (k : Int) < (jl : Int) := by omega
        have hWr := HXU.out _ _ _ _ hC
        have hJr := HJs.out wr hWr
        obtain ⟨b, off, rfl, zb, hcr⟩ := hJr.row.2.2.2.2 (by omega)
        have hjc : k < jc := Nat.lt_of_lt_of_le hlt hJr.row.2.1
        have hcells := hcr k hlt
        have hkl : k < js.length := by rw [HJl.out]; exact hlt
        have hmem := mem_at hkl
        obtain ⟨i, hix, hgd, hTI2⟩ := tick_step hTI hkl (by exact ⟨by show 0 ≤ s; omega, by show s ≤ 4; omega⟩) (HAp.out k hkl) (HFi.out _ hmem).2.1
        have hfi := HFi.out _ hmem
        have hag := HAg.out _ hmem
        have HTk2 : Hid ((tn0 next js).tick ⟨s, ls, p, l, me⟩ ((js.take (k + 1)).map JbV.n) = u.tn.tickN ⟨s, ls, p, l, me⟩ (js.getD k default).n) := by show _ = _; rw [tick_take hkl, hTu]
        have hix2 : idxI (isN (js.getD k default).n) u.js = (i : Int) := by rw [← idx_bare]; exact hix
        have hgd2 : (u.js.getD i default).bare = (js.getD k default).bare := by rw [← getD_bare]; exact hgd
        have hnum : u.tn.tickN ⟨s, ls, p, l, me⟩ (js.getD k default).n = u.tn.aged ⟨s, ls, p, l, me⟩ i := by unfold Tn.tickN; rw [hix]; rfl
        rw [hnum] at HTk2 hTI2
        obtain ⟨pn, pst, pas, page, ptk, pak⟩ := bare_parts2 hgd2
        obtain ⟨jb, ejb⟩ : ∃ jb, jb = js.getD k default := ⟨_, rfl⟩
        rw [← ejb] at hcells hfi hag hix2 pn pst pas page ptk pak
        have HJb : Hid (∀ V, Below wr.heap.size wr V → Calls Try.prog 18 #[.pointer (some ⟨q, 0, none⟩), .int .i64 jb.n] V fun e X' => (∃ g, e = .returned (.pointer (some ⟨g, i * 6, none⟩)) ∧ i < u.jl ∧ u.ja = some ⟨g, 0, none⟩) ∧ Below V.heap.size V X') := fun V hV => by
          refine (job_any V (hC.below hV) jb.n).mono ?_
          rintro e x ⟨hJ, hb⟩
          refine ⟨?_, hb⟩
          rcases hJ with ⟨_, h1⟩ | ⟨i2, g, rfl, h1, h2, h3⟩
          · rw [hix2] at h1; omega
          · obtain rfl : i = i2 := by rw [hix2] at h1; omega
            exact ⟨g, rfl, h2, h3⟩
        have hfit := hC
        have HAge : Hid (∀ V g, Below wr.heap.size wr V → i < u.jl → u.ja = some ⟨g, 0, none⟩ → Calls Try.prog 37 #[.pointer (some ⟨q, 0, none⟩), .pointer (some ⟨g, i * 6, none⟩)] V fun e X' => e = .returned (.tuple #[]) ∧ ∃ (u2 : CkV) (iy2 : List (Nat × Nat)) (m2 : List Rw), Clerk U X' U.heap.size q u2 iy2 m2 ∧ RecsIn u2.rs m2 ∧ Hd v u2 ∧ u2.tn = (tn0 next js).tick ⟨s, ls, p, l, me⟩ ((js.take (k + 1)).map JbV.n) ∧ TickInv ⟨s, ls, p, l, me⟩ js (k + 1) u2.tn) := fun V g hV hiu hja => by
          have hCV := hC.below hV
          have hml : u.ml ≤ 1000000 := by
            have h1 := hCV.lens.2.1
            have h2 : u.ms.length ≤ 4 * k := hTI.ms
            have := H6.out
            omega
          have hpl : u.pl ≤ 1000000 := by
            have h1 := hCV.lens.2.2.2
            have h2 : u.ps.length ≤ k := hTI.ps
            have := H6.out
            omega
          have htl : (u.js.getD i default).tl ≤ 1000000 := by
            have h1 := (hCV.fit hiu).1
            rw [ptk] at h1
            omega
          have := age_done V hCV (rs_nil rfl hTI.rs) ls hiu hja (by rw [page]; exact hag) (by rw [pak]; omega) (by rw [(HCxu.out u hHd).2]; omega) hml hpl htl (HLabs.out u hHd)
          rw [(HCxu.out u hHd).1] at this
          refine this.mono ?_
          rintro e x ⟨rfl, u2, iy2, m2, g1, g2, g3, g4⟩
          refine ⟨rfl, u2, iy2, m2, g1, g2, ?_, by rw [g3, HTk2.out], by rw [g3]; exact hTI2⟩
          obtain ⟨k1, k2, k3, k4, k5, k6, k7⟩ := hHd
          obtain ⟨l1, l2, l3, l4, l5, l6, l7⟩ := g4
          exact ⟨l1.trans k1, l2.trans k2, l3.trans k3, l4.trans k4, l5.trans k5, l6.trans k6, l7.trans k7⟩
        clear ejb hcr hJr hmem hTI2 hTI hnum hix2 hgd2 hix hgd pn pst pas page ptk pak hfit hInv hTu hRc hC hkl hfi hag
        obtain ⟨jn, st, ta, tl, tc, aa, al, ac, asks, age, tasks, asked⟩ := jb
        have a0 := hcells 0 (by decide)
        have a1 := hcells 1 (by decide)
        have a2 := hcells 2 (by decide)
        have a3 := hcells 3 (by decide)
        have a4 := hcells 4 (by decide)
        have a5 := hcells 5 (by decide)
        simp only [JbV.cells, List.getElem?_cons_zero, List.getElem?_cons_succ, Nat.add_zero] at a0 a1 a2 a3 a4 a5
        simp only [] at HJb
        clear hcells
        obtain ⟨V1, hV1⟩ : ∃ V1 : World, V1 = wr.alloc (.cells #[.int .i64 jn, .int .i64 st, .slice ta tl tc, .slice aa al ac, .int .i64 asks, .int .i64 age] 47) := ⟨_, rfl⟩
        have bV1 : Below wr.heap.size wr V1 := by rw [hV1]; exact (Below.refl _ _).alloc (Nat.le_refl _) _
        have l0 : V1.cell? ⟨wr.heap.size, 0, none⟩ = some (.int .i64 jn) := by rw [hV1]; go_simp
        have zl : wr.heap.size < V1.heap.size := by rw [hV1]; simp
        go_upto_region 8 with (fail)
        rw [← hV1]
        clear hV1 a0 a1 a2 a3 a4 a5
        go_wp2_with (first | (go_at_call 18; refine (HJb.out _ bV1).mono ?_; rintro e V2 ⟨⟨g, rfl, hiu, hja⟩, hb2⟩; have hb12 := nT bV1 hb2) | (go_at_call 37; refine (HAge.out _ g hb12 hiu hja).mono ?_; rintro e w5 ⟨rfl, hI5⟩; have HI5 : Hid _ := hI5; clear hI5))
        go_roundw
        case rel => exact ⟨k + 1, by go_num, by omega, HI5⟩
        case measure => simp [intOf]; omega
      · have HkN : Hid (k = jl) := by show _ = _; omega
        have hlt' : ¬ (k : Int) < (jl : Int) := by omega
        have hT9 : u.tn = (tn0 next js).tick ⟨s, ls, p, l, me⟩ (js.map JbV.n) := by rw [hTu, List.take_of_length_le (by rw [HkN.out, HJl.out]; exact Nat.le_refl _)]
        obtain ⟨V, eV⟩ : ∃ V, V = u := ⟨_, rfl⟩
        rw [← eV] at hC hRc hT9
        have hC9 := hC
        have hR9 := hRc
        have ix9 := iy
        clear ix9 hTu hTI hHd hInv eV hk hlt
        have hF9 := HFin.out U wr q V iy m' hbU hC9 hR9 hT9
        have bq := hC9.held.box
        have zq := bq.lt
        have s0 : wr.cell? ⟨q, 5, none⟩ = some (.int .i64 V.next) := (bq.c 5 (by decide)).1
        have s1 : wr.cell? ⟨q, 6, none⟩ = some (.slice V.ja V.jl V.jc) := (bq.c 6 (by decide)).1
        have s2 : wr.cell? ⟨q, 7, none⟩ = some (.slice V.ma V.ml V.mc) := (bq.c 7 (by decide)).1
        have s3 : wr.cell? ⟨q, 8, none⟩ = some (.slice V.ra V.rl V.rc) := (bq.c 8 (by decide)).1
        have s4 : wr.cell? ⟨q, 9, none⟩ = some (.slice V.pa V.pl V.pc) := (bq.c 9 (by decide)).1
        have s5 : wr.cell? ⟨q, 10, none⟩ = some (.int .i64 V.sure) := (bq.c 10 (by decide)).1
        have s6 : wr.cell? ⟨q, 11, none⟩ = some (.int .i64 V.com) := (bq.c 11 (by decide)).1
        have bR := HBox.out wr (HXU.out _ _ _ _ hC9)
        have r0 : wr.cell? ⟨w.heap.size + 2, 0, none⟩ = some (.int .i64 0) := (bR.c 0 (by decide)).1
        have rf0 := (bR.c 0 (by decide)).2
        have r1 : wr.cell? ⟨w.heap.size + 2, 1, none⟩ = some (.slice none 0 0) := (bR.c 1 (by decide)).1
        have rf1 := (bR.c 1 (by decide)).2
        have r2 : wr.cell? ⟨w.heap.size + 2, 2, none⟩ = some (.slice none 0 0) := (bR.c 2 (by decide)).1
        have rf2 := (bR.c 2 (by decide)).2
        have r3 : wr.cell? ⟨w.heap.size + 2, 3, none⟩ = some (.slice none 0 0) := (bR.c 3 (by decide)).1
        have rf3 := (bR.c 3 (by decide)).2
        have r4 : wr.cell? ⟨w.heap.size + 2, 4, none⟩ = some (.slice none 0 0) := (bR.c 4 (by decide)).1
        have rf4 := (bR.c 4 (by decide)).2
        have r5 : wr.cell? ⟨w.heap.size + 2, 5, none⟩ = some (.int .i64 0) := (bR.c 5 (by decide)).1
        have rf5 := (bR.c 5 (by decide)).2
        have r6 : wr.cell? ⟨w.heap.size + 2, 6, none⟩ = some (.int .i64 0) := (bR.c 6 (by decide)).1
        have rf6 := (bR.c 6 (by decide)).2
        have zr := bR.lt
        clear bq
        go_wp2
        obtain ⟨Y, eY⟩ : ∃ Y, Y = set7 wr (w.heap.size + 2) (.int .i64 V.next) (.slice V.ja V.jl V.jc) (.slice V.ma V.ml V.mc) (.slice V.ra V.rl V.rc) (.slice V.pa V.pl V.pc) (.int .i64 V.sure) (.int .i64 V.com) := ⟨_, rfl⟩
        have bF : BoxN Y (w.heap.size + 2) 7 [.int .i64 V.next, .slice V.ja V.jl V.jc, .slice V.ma V.ml V.mc, .slice V.ra V.rl V.rc, .slice V.pa V.pl V.pc, .int .i64 V.sure, .int .i64 V.com] := by
          rw [eY]
          exact ((((((bR.set 0 (by decide) _).set 1 (by decide) _).set 2 (by decide) _).set 3 (by decide) _).set 4 (by decide) _).set 5 (by decide) _).set 6 (by decide) _
        rw [← eY] at hF9
        have k0 : Y.cell? ⟨w.heap.size + 2, 0, none⟩ = some (.int .i64 V.next) := (bF.c 0 (by decide)).1
        have k1 : Y.cell? ⟨w.heap.size + 2, 1, none⟩ = some (.slice V.ja V.jl V.jc) := (bF.c 1 (by decide)).1
        have k2 : Y.cell? ⟨w.heap.size + 2, 2, none⟩ = some (.slice V.ma V.ml V.mc) := (bF.c 2 (by decide)).1
        have k3 : Y.cell? ⟨w.heap.size + 2, 3, none⟩ = some (.slice V.ra V.rl V.rc) := (bF.c 3 (by decide)).1
        have k4 : Y.cell? ⟨w.heap.size + 2, 4, none⟩ = some (.slice V.pa V.pl V.pc) := (bF.c 4 (by decide)).1
        have k5 : Y.cell? ⟨w.heap.size + 2, 5, none⟩ = some (.int .i64 V.sure) := (bF.c 5 (by decide)).1
        have k6 : Y.cell? ⟨w.heap.size + 2, 6, none⟩ = some (.int .i64 V.com) := (bF.c 6 (by decide)).1
        unfold set7 at eY
        rw [← eY]
        clear eY
        exact bodyPost_ret (v := .tuple #[.agg #[.int .i64 V.next, .slice V.ja V.jl V.jc, .slice V.ma V.ml V.mc, .slice V.ra V.rl V.rc, .slice V.pa V.pl V.pc, .int .i64 V.sure, .int .i64 V.com], .int .i64 0]) (by simp [results, Try.results10, go_sem, k0, k1, k2, k3, k4, k5, k6]) rfl hF9
  · have hE' : (E == 0) = false := by simpa using hE
    have HEn : Hid (E ≠ 0) := hE
    clear HFine HAges
    go_enter Try.func10, Try.ntmps10
    go_upto_region 1 with (fail)
    rw [← hW]
    clear hW
    obtain ⟨x0, x1, x2, x3, x4⟩ := KC.out W (Below.refl _ _)
    have z3 := (HZ.out W (Below.refl _ _)).2
    go_upto_region 3 with (go_at_call 14; refine HRf.out.mono ?_; rintro e U ⟨rfl, hbU⟩)
    have bR := HBox.out U (hbU)
    have r0 : U.cell? ⟨w.heap.size + 2, 0, none⟩ = some (.int .i64 0) := (bR.c 0 (by decide)).1
    have rf0 := (bR.c 0 (by decide)).2
    have r1 : U.cell? ⟨w.heap.size + 2, 1, none⟩ = some (.slice none 0 0) := (bR.c 1 (by decide)).1
    have rf1 := (bR.c 1 (by decide)).2
    have r2 : U.cell? ⟨w.heap.size + 2, 2, none⟩ = some (.slice none 0 0) := (bR.c 2 (by decide)).1
    have rf2 := (bR.c 2 (by decide)).2
    have r3 : U.cell? ⟨w.heap.size + 2, 3, none⟩ = some (.slice none 0 0) := (bR.c 3 (by decide)).1
    have rf3 := (bR.c 3 (by decide)).2
    have r4 : U.cell? ⟨w.heap.size + 2, 4, none⟩ = some (.slice none 0 0) := (bR.c 4 (by decide)).1
    have rf4 := (bR.c 4 (by decide)).2
    have r5 : U.cell? ⟨w.heap.size + 2, 5, none⟩ = some (.int .i64 0) := (bR.c 5 (by decide)).1
    have rf5 := (bR.c 5 (by decide)).2
    have r6 : U.cell? ⟨w.heap.size + 2, 6, none⟩ = some (.int .i64 0) := (bR.c 6 (by decide)).1
    have rf6 := (bR.c 6 (by decide)).2
    have zr := bR.lt
    go_wp2
    clear r0 r1 r2 r3 r4 r5 r6 rf0 rf1 rf2 rf3 rf4 rf5 rf6 x0 x1 x2 x3 x4
    obtain ⟨Y, eY⟩ : ∃ Y, Y = set7 U (w.heap.size + 2) (.int .i64 0) (.slice none 0 0) (.slice none 0 0) (.slice none 0 0) (.slice none 0 0) (.int .i64 0) (.int .i64 0) := ⟨_, rfl⟩
    have bF : BoxN Y (w.heap.size + 2) 7 [.int .i64 0, .slice none 0 0, .slice none 0 0, .slice none 0 0, .slice none 0 0, .int .i64 0, .int .i64 0] := by
      rw [eY]
      exact ((((((bR.set 0 (by decide) _).set 1 (by decide) _).set 2 (by decide) _).set 3 (by decide) _).set 4 (by decide) _).set 5 (by decide) _).set 6 (by decide) _
    have hF : TickIs w Y ⟨s, ls, p, l, me⟩ next js (.returned (.tuple #[.agg #[.int .i64 0, .slice none 0 0, .slice none 0 0, .slice none 0 0, .slice none 0 0, .int .i64 0, .int .i64 0], .int .i64 E])) := by
      refine ⟨_, by rw [HC.out], ?_⟩
      unfold TickAns
      rw [if_neg (by rw [HC.out]; exact HEn.out), eY]
      have hb := (HZ.out U hbU).1
      have h1 : w.heap.size ≤ w.heap.size + 2 := by omega
      exact turned_nil (((((((hb.setCell (p := ⟨w.heap.size + 2, 0, none⟩) h1 _).setCell (p := ⟨w.heap.size + 2, 1, none⟩) h1 _).setCell (p := ⟨w.heap.size + 2, 2, none⟩) h1 _).setCell (p := ⟨w.heap.size + 2, 3, none⟩) h1 _).setCell (p := ⟨w.heap.size + 2, 4, none⟩) h1 _).setCell (p := ⟨w.heap.size + 2, 5, none⟩) h1 _).setCell (p := ⟨w.heap.size + 2, 6, none⟩) h1 _)
    have k0 : Y.cell? ⟨w.heap.size + 2, 0, none⟩ = some (.int .i64 0) := (bF.c 0 (by decide)).1
    have k1 : Y.cell? ⟨w.heap.size + 2, 1, none⟩ = some (.slice none 0 0) := (bF.c 1 (by decide)).1
    have k2 : Y.cell? ⟨w.heap.size + 2, 2, none⟩ = some (.slice none 0 0) := (bF.c 2 (by decide)).1
    have k3 : Y.cell? ⟨w.heap.size + 2, 3, none⟩ = some (.slice none 0 0) := (bF.c 3 (by decide)).1
    have k4 : Y.cell? ⟨w.heap.size + 2, 4, none⟩ = some (.slice none 0 0) := (bF.c 4 (by decide)).1
    have k5 : Y.cell? ⟨w.heap.size + 2, 5, none⟩ = some (.int .i64 0) := (bF.c 5 (by decide)).1
    have k6 : Y.cell? ⟨w.heap.size + 2, 6, none⟩ = some (.int .i64 0) := (bF.c 6 (by decide)).1
    unfold set7 at eY
    rw [← eY]
    clear eY
    exact bodyPost_ret (v := .tuple #[.agg #[.int .i64 0, .slice none 0 0, .slice none 0 0, .slice none 0 0, .slice none 0 0, .int .i64 0, .int .i64 0], .int .i64 E]) (by simp [results, Try.results10, go_sem, k0, k1, k2, k3, k4, k5, k6]) rfl hF
end Go.Proofs.Ytfhciplckjkflaa.Co
/- A region that does not draw its order, by what each operation keeps: as RInv, the operations one after the other. -/
namespace Go.Proofs.Ytfhciplckjkflaa

section
variable {P : Program} {ops : Array Oper} {Q : Exit → Act → World → Prop} {a : Act} {ds : List Nat} {I : (Nat → Bool) → (Nat → Value) → World → Prop}

theorem wpList_of_inv (hn : ds.Nodup) (hd : dstsIn ops ds = true) (hb : back ops = true) (hs : AllK (StepK P ops Q a ds I) 0 ops.toList)
    (he : ∀ L T w, (∀ i, i < ops.size → L i = true) → I L T w → Q .normal (fr a ds T) w) :
    ∀ (os : List Oper) (k : Nat) (T : Nat → Value) (w : World), ops.toList.drop k = os → k ≤ ops.size → I (fun j => decide (j < k)) T w → wpList P ops Q os (fr a ds T) w
  | [], k, T, w, hk, hks, hI => by
    have hkz : ops.size ≤ k := by
      have := congrArg List.length hk
      simp at this
      omega
    exact he _ T w (fun i hi => by simp; omega) hI
  | o :: os, k, T, w, hk, hks, hI => by
    have hlt : k < ops.size := by
      have := congrArg List.length hk
      simp at this
      omega
    have ho : ops.toList[k]? = some o := by
      have := List.getElem?_drop (xs := ops.toList) (i := k) (j := 0)
      rw [hk] at this
      simpa using this.symm
    have hoa : ops[k]? = some o := by simpa using ho
    have hk1 : ops.toList.drop (k + 1) = os := by
      rw [← List.drop_drop, hk]
      rfl
    have hstep := AllK.get hs k o ho
    rw [Nat.zero_add] at hstep
    have hbk : ∀ (j : Nat) (o' : Oper), ops[j]? = some o' → ∀ e ∈ o'.after.toList, Region.binds .any e = true → e.on < j := by
      intro j o' ho' e he' hbn
      have hj := (Array.getElem?_eq_some_iff.1 ho').1
      have h1 := List.all_eq_true.1 hb j (by simpa using hj)
      simp only [ho'] at h1
      have h2 := List.all_eq_true.1 h1 e he'
      simpa [hbn] using h2
    have hnext : ∀ T' w', I (lst (fun j => decide (j < k)) k) T' w' → wpList P ops Q os (fr a ds T') w' := by
      intro T' w' hI'
      refine wpList_of_inv hn hd hb hs he os (k + 1) T' w' hk1 (by omega) ?_
      have : (fun j => decide (j < k + 1)) = lst (fun j => decide (j < k)) k := by
        funext j
        unfold lst
        by_cases hji : j = k
        · subst hji; simp [Nat.beq_refl]
        · have : Nat.beq j k = false := by
            cases hbq : Nat.beq j k
            · rfl
            · exact absurd (Nat.eq_of_beq_eq_true hbq) hji
          rw [this, Bool.false_or]
          by_cases h : j < k
          · simp [h]; omega
          · simp [h]; omega
      rw [this]
      exact hI'
    have hdst : ∀ x, o.dst = some x → x ∈ ds := by
      intro x hx
      have h1 := List.all_eq_true.1 hd o (by simpa using Array.mem_of_getElem? hoa)
      simp only [hx] at h1
      simpa using h1
    refine wpList_step fun K hK => ?_
    have h1 := hstep _ T w (fun e he' hbn => by simpa using hbk k o hoa e he' hbn) (by simp) (fun j o' ho' hj e he' hbn => by
      have h2 := hbk j o' ho' e he' hbn
      simp at hj ⊢
      omega) hI (fun v w' => K (fr a ds (updO T o.dst v)) w') (fun v w' hI' => hK _ _ (hnext _ _ hI'))
    by_cases hw : Region.wanted o (yielded ops (fr a ds T).tmps) = true
    · rw [if_pos hw] at h1 ⊢
      exact Oper.wp_of_wpv h1 fun v w' h2 => by rw [fr_updO hn hdst]; exact h2
    · rw [if_neg hw] at h1 ⊢
      rw [fr_updO hn hdst]
      exact h1
/-- A region in its order by an invariant. -/
theorem wp_region_seq {id : Nat} {w : World} (ds : List Nat) (I : (Nat → Bool) → (Nat → Value) → World → Prop)
    (hn : ds.Nodup) (hd : dstsIn ops ds = true) (hb : back ops = true) (h0 : I (fun _ => false) (slot0 a) w)
    (hs : AllK (StepK P ops Q a ds I) 0 ops.toList)
    (he : ∀ L T w, (∀ i, i < ops.size → L i = true) → I L T w → Q .normal (fr a ds T) w) : (Code.region id ops false).wp P Q a w := by
  have h1 := wpList_of_inv hn hd hb hs he ops.toList 0 (slot0 a) w rfl (Nat.zero_le _) (by
    have : (fun j => decide (j < 0)) = fun _ => false := by funext j; simp
    rw [this]
    exact h0)
  rw [fr_slot0] at h1
  exact wp_region_list h1
end
end Go.Proofs.Ytfhciplckjkflaa
/- What a tick of one job says as plain data, for the document's side; a desk's numbers are each there once. -/
namespace Go.Proofs.Ytfhciplckjkflaa.Cd
open Go.ChangeShapes Go.WideShapes Go.ChangeAt Go.RowKit
open Go.Proofs.Ytfhciplckjkflaa.St (BoxN boxn_new own_below IsRow flat idxI)
open Go.Proofs.Ytfhciplckjkflaa.Co
set_option linter.unusedVariables false

def PW (js : List JbV) : Prop := js.Pairwise (fun x y => x.n ≠ y.n)
theorem pw_map {js : List JbV} : PW js ↔ (js.map JbV.n).Pairwise (fun x y => x ≠ y) := by
  unfold PW
  rw [List.pairwise_map]
theorem set_same {α : Type} {l : List α} {i : Nat} {a : α} (h : l[i]? = some a) : l.set i a = l := by
  apply List.ext_getElem?
  intro k
  by_cases hk : i = k
  · subst hk
    rw [List.getElem?_set_self (List.getElem?_eq_some_iff.1 h).1, h]
  · rw [List.getElem?_set_ne hk]
theorem set_n {js : List JbV} {i : Nat} {j : JbV} (e : j.n = (js.getD i default).n) : (js.set i j).map JbV.n = js.map JbV.n := by
  rw [List.map_set]
  by_cases hi : i < js.length
  · have : (js.map JbV.n)[i]? = some j.n := by
      rw [List.getElem?_map]
      simp [e, List.getD, hi]
    exact set_same this
  · rw [List.set_eq_of_length_le (by simp; omega)]
theorem pw_set {js : List JbV} {i : Nat} {j : JbV} (h : PW js) (e : j.n = (js.getD i default).n) : PW (js.set i j) := by
  rw [pw_map, set_n e]
  exact pw_map.1 h
theorem pw_kept {js : List JbV} {n : Int} (h : PW js) : PW (kept n js) := List.Pairwise.filter _ h
theorem kept_len {n : Int} {js : List JbV} : (kept n js).length ≤ js.length := List.length_filter_le _ _
theorem pw_bare {js : List JbV} (h : PW (js.map JbV.bare)) : PW js := by
  rw [pw_map] at h ⊢
  rw [List.map_map] at h
  exact h
theorem jbs_pw {s nl next : Int} : ∀ {l : List JbV} {low : Int}, jbsGo s nl next low l = true → PW l
  | [], _, _ => List.Pairwise.nil
  | a :: l, low, h => by
    simp only [jbsGo, Bool.and_eq_true] at h
    exact List.pairwise_cons.2 ⟨fun x hx => by have := (jbsGo_mem h.2 x hx).2.1; omega, jbs_pw h.2⟩
theorem tks_key {nl asks state : Int} : ∀ {l : List TkV} {low : Int}, tksGo nl asks state low l = true → ∀ t ∈ l, 0 ≤ t.key ∧ t.key ≤ 7
  | [], _, _, t, ht => by cases ht
  | a :: l, low, h, t, ht => by
    simp only [tksGo, Bool.and_eq_true] at h
    rcases List.mem_cons.1 ht with rfl | ht
    · have h1 := h.1.1.2
      simp only [tkOK, Bool.and_eq_true, inR, decide_eq_true_eq] at h1
      exact h1.1.1.1.2
    · exact tks_key h.2 t ht
/-- What a desk that may be has besides. -/
theorem desk_more {s : Int} {ls : List (Int × Int)} {p l me next : Int} {js : List JbV} (h : rfErr s ls p l me next js = 0) : cfgFault s ls p = 0 ∧ PW js ∧ ∀ j ∈ js, (∀ t ∈ j.tasks, 0 ≤ t.key ∧ t.key ≤ 7) ∧ 1 ≤ j.state ∧ j.state ≤ 3 := by
  obtain ⟨h1, h2, h3⟩ := dk_zero (rf_zero h)
  simp only [jbsOK, Bool.and_eq_true, decide_eq_true_eq] at h3
  refine ⟨h1, jbs_pw h3.2, fun j hj => ?_⟩
  have h4 := (jbsGo_mem h3.2 j hj).1
  simp only [jbOK, tksOK, Bool.and_eq_true, inR, decide_eq_true_eq] at h4
  exact ⟨tks_key h4.2.2, h4.1.1.1.1.2⟩
theorem kept_set {n : Int} : ∀ {js : List JbV} {i : Nat} {j : JbV}, j.n = n → (js.getD i default).n = n → kept n (js.set i j) = kept n js
  | [], i, j, _, _ => by simp
  | a :: l, 0, j, h1, h2 => by
    have e1 : isN n j = true := by simp [isN, h1]
    have h3 : a.n = n := by simpa using h2
    have e2 : isN n a = true := by simp [isN, h3]
    simp [kept, keep, e1, e2]
  | a :: l, i + 1, j, h1, h2 => by
    have ih := kept_set (js := l) (i := i) h1 (by simpa using h2)
    unfold kept keep at ih ⊢
    rw [List.set_cons_succ, List.filter_cons, List.filter_cons, ih]
section
variable {u : CkV} {C : Cx} {i : Nat} {j : JbV}
/-- The job is older. -/
theorem aged_set (hj : j = u.js.getD i default) (h : j.age + 1 < C.p) : ({ u with js := u.js.set i { j with age := j.age + 1 } } : CkV).tn = u.tn.aged C i := by
  have hB : u.tn.js.getD i default = j.bare := by rw [hj]; exact getD_bare _ _
  unfold Tn.aged
  rw [hB, if_pos (show j.bare.age + 1 < C.p from h)]
  unfold CkV.tn
  simp only [set_bare]
  rfl
/-- Those that do not know are told once more. -/
theorem aged_tell (hj : j = u.js.getD i default) (h : ¬ j.age + 1 < C.p) (h3 : j.state = 3) (hme : u.me = C.me) (ma : Option Addr) (mc : Nat) : (toldV { u with js := u.js.set i { j with age := 0 } } ma mc j.n true j.asked).tn = u.tn.aged C i := by
  have hB : u.tn.js.getD i default = j.bare := by rw [hj]; exact getD_bare _ _
  unfold Tn.aged
  rw [hB, if_neg (show ¬ j.bare.age + 1 < C.p from h), if_pos (show j.bare.state = 3 from h3)]
  unfold CkV.tn toldV
  simp only [set_bare, hme]
  rfl
theorem ended_tn {v : CkV} {ma ja : Option Addr} {mc jc : Nat} {n : Int} {zs : List Int} : ({ toldV v ma mc n false zs with ja := ja, jl := (kept n v.js).length, jc := jc, js := kept n v.js } : CkV).tn = { v.tn with ms := v.ms ++ zs.map (decM v.me n false), js := kept n (v.js.map JbV.bare) } := by
  unfold CkV.tn toldV
  simp only [kept_bare]
theorem aged_end1 (hj : j = u.js.getD i default) (h : ¬ j.age + 1 < C.p) (h3 : j.state = 2) (hme : u.me = C.me) (ma ja pa : Option Addr) (mc jc pc : Nat) : ({ toldV { u with pa := pa, pl := u.pl + 1, pc := pc, ps := u.ps ++ [⟨u.me, 4, j.n, 0, 0, 14⟩] } ma mc j.n false (handsOf C.s C.ls C.p C.l j.tasks) with ja := ja, jl := (kept j.n u.js).length, jc := jc, js := kept j.n u.js } : CkV).tn = u.tn.aged C i := by
  have hB : u.tn.js.getD i default = j.bare := by rw [hj]; exact getD_bare _ _
  have hk : kept j.n (u.tn.js.set i { j.bare with age := j.bare.age + 1 }) = kept j.n u.tn.js := kept_set rfl (by rw [hB]; rfl)
  unfold Tn.aged
  rw [hB, if_neg (show ¬ j.bare.age + 1 < C.p from h), if_neg (show ¬ j.bare.state = 3 by show ¬ j.state = 3; omega), if_pos (show j.bare.state = 2 from h3)]
  unfold Tn.ended Tn.rep
  rw [show j.bare.n = j.n from rfl, show j.bare.tasks = j.tasks from rfl]
  simp only []
  rw [show (j.bare.age + 1 : Int) = j.bare.age + 1 from rfl] at hk
  rw [hk]
  unfold CkV.tn toldV
  simp only [kept_bare, hme]
  rfl
theorem aged_end2 (hj : j = u.js.getD i default) (h : ¬ j.age + 1 < C.p) (h3 : ¬ j.state = 3) (h2 : ¬ j.state = 2) (hw : waitB j = true) (hme : u.me = C.me) (ma ja pa : Option Addr) (mc jc pc : Nat) : ({ toldV { u with pa := pa, pl := u.pl + 1, pc := pc, ps := u.ps ++ [⟨u.me, callKind (lastT j), j.n, (lastT j).key, 0, 14⟩] } ma mc j.n false (handsOf C.s C.ls C.p C.l j.tasks) with ja := ja, jl := (kept j.n u.js).length, jc := jc, js := kept j.n u.js } : CkV).tn = u.tn.aged C i := by
  have hB : u.tn.js.getD i default = j.bare := by rw [hj]; exact getD_bare _ _
  have hk : kept j.n (u.tn.js.set i { j.bare with age := j.bare.age + 1 }) = kept j.n u.tn.js := kept_set rfl (by rw [hB]; rfl)
  unfold Tn.aged
  rw [hB, if_neg (show ¬ j.bare.age + 1 < C.p from h), if_neg (show ¬ j.bare.state = 3 from h3), if_neg (show ¬ j.bare.state = 2 from h2), if_pos (show waitB j.bare = true from hw)]
  unfold Tn.ended Tn.rep
  rw [show j.bare.n = j.n from rfl, show j.bare.tasks = j.tasks from rfl, show lastT j.bare = lastT j from rfl]
  simp only []
  rw [hk]
  unfold CkV.tn toldV
  simp only [kept_bare, hme]
  rfl
theorem aged_end3 (hj : j = u.js.getD i default) (h : ¬ j.age + 1 < C.p) (h3 : ¬ j.state = 3) (h2 : ¬ j.state = 2) (hw : waitB j = false) (hme : u.me = C.me) (ma ja : Option Addr) (mc jc : Nat) : ({ toldV u ma mc j.n false (handsOf C.s C.ls C.p C.l j.tasks) with ja := ja, jl := (kept j.n u.js).length, jc := jc, js := kept j.n u.js } : CkV).tn = u.tn.aged C i := by
  have hB : u.tn.js.getD i default = j.bare := by rw [hj]; exact getD_bare _ _
  have hk : kept j.n (u.tn.js.set i { j.bare with age := j.bare.age + 1 }) = kept j.n u.tn.js := kept_set rfl (by rw [hB]; rfl)
  unfold Tn.aged
  rw [hB, if_neg (show ¬ j.bare.age + 1 < C.p from h), if_neg (show ¬ j.bare.state = 3 from h3), if_neg (show ¬ j.bare.state = 2 from h2), if_neg (show ¬ waitB j.bare = true by show ¬ waitB j = true; rw [hw]; decide)]
  unfold Tn.ended
  rw [show j.bare.n = j.n from rfl, show j.bare.tasks = j.tasks from rfl]
  simp only []
  rw [hk]
  unfold CkV.tn toldV
  simp only [kept_bare, hme]
  rfl
end
/-- A whole job is told anew; its lists lie where they lay. -/
theorem TCl.jobSet {w X : World} {B q : Nat} {v : CkV} {ix : List (Nat × Nat)} {more : List Rw} (h : TCl w X B q v ix more) {i g : Nat} (hi : i < v.jl) (eg : v.ja = some ⟨g, 0, none⟩) {j : JbV} (hj : j = v.js.getD i default) (st asks age : Int) : TCl w ((((((X.setCell ⟨g, i * 6 + 0, none⟩ (.int .i64 j.n)).setCell ⟨g, i * 6 + 1, none⟩ (.int .i64 st)).setCell ⟨g, i * 6 + 2, none⟩ (.slice j.ta j.tl j.tc)).setCell ⟨g, i * 6 + 3, none⟩ (.slice j.aa j.al j.ac)).setCell ⟨g, i * 6 + 4, none⟩ (.int .i64 asks)).setCell ⟨g, i * 6 + 5, none⟩ (.int .i64 age)) B q { v with js := v.js.set i { j with state := st, asks := asks, age := age } } ix more := by
  subst hj
  have hl : i < v.js.length := by rw [h.lens.1]; exact hi
  have gs : ∀ (x : JbV) (l : List JbV), i < l.length → (l.set i x).getD i default = x := fun x l hl => by simp [List.getD, hl]
  obtain ⟨j, ej⟩ : ∃ j, j = v.js.getD i default := ⟨_, rfl⟩
  rw [← ej]
  have s0 := h.jcell hi eg 0 (by decide) (.int .i64 j.n) j (by rw [← ej]; rfl) (by rw [← ej]; exact ⟨rfl, rfl, rfl, rfl, rfl, rfl, rfl, rfl⟩)
  have s1 := s0.jcell hi eg 1 (by decide) (.int .i64 st) { j with state := st } (by rw [gs _ _ hl]; rfl) (by rw [gs _ _ hl]; exact ⟨rfl, rfl, rfl, rfl, rfl, rfl, rfl, rfl⟩)
  have s2 := s1.jcell hi eg 2 (by decide) (.slice j.ta j.tl j.tc) { j with state := st } (by rw [gs _ _ (by simpa using hl)]; rfl) (by rw [gs _ _ (by simpa using hl)]; exact ⟨rfl, rfl, rfl, rfl, rfl, rfl, rfl, rfl⟩)
  have s3 := s2.jcell hi eg 3 (by decide) (.slice j.aa j.al j.ac) { j with state := st } (by rw [gs _ _ (by simpa using hl)]; rfl) (by rw [gs _ _ (by simpa using hl)]; exact ⟨rfl, rfl, rfl, rfl, rfl, rfl, rfl, rfl⟩)
  have s4 := s3.jcell hi eg 4 (by decide) (.int .i64 asks) { j with state := st, asks := asks } (by rw [gs _ _ (by simpa using hl)]; rfl) (by rw [gs _ _ (by simpa using hl)]; exact ⟨rfl, rfl, rfl, rfl, rfl, rfl, rfl, rfl⟩)
  have s5 := s4.jcell hi eg 5 (by decide) (.int .i64 age) { j with state := st, asks := asks, age := age } (by rw [gs _ _ (by simpa using hl)]; rfl) (by rw [gs _ _ (by simpa using hl)]; exact ⟨rfl, rfl, rfl, rfl, rfl, rfl, rfl, rfl⟩)
  simp only [List.set_set] at s5
  exact s5
/-- One reply more stands in memory; the box isn't told yet. -/
structure TRep (w u : World) (B q : Nat) (V : CkV) (ix : List (Nat × Nat)) (M : List Rw) (a5 : Option Addr) (c5 : Nat) (r : RpV) : Prop where
  held : Held w u B q 7 (tbox V) ((V.rows ++ M).set 3 ⟨62, 6, .slice a5 (V.pl + 1) c5, V.pl + 1, flat RpV.cells (V.ps ++ [r])⟩)
  jobs : JobsIn V.js ix M
  lens : V.js.length = V.jl ∧ V.ms.length = V.ml ∧ V.rs.length = V.rl ∧ V.ps.length = V.pl
theorem TRep.below {w u u' : World} {B q : Nat} {V : CkV} {ix : List (Nat × Nat)} {M : List Rw} {a5 : Option Addr} {c5 : Nat} {r : RpV} (h : TRep w u B q V ix M a5 c5 r) (hb : Below u.heap.size u u') : TRep w u' B q V ix M a5 c5 r := ⟨h.held.below hb, h.jobs, h.lens⟩
theorem TCl.appR {w X X' : World} {B q : Nat} {v : CkV} {ix : List (Nat × Nat)} {more : List Rw} (h : TCl w X B q v ix more) {a5 : Option Addr} {c5 : Nat} {r : RpV} (hg : X.grownBy X' (Value.slice v.pa v.pl v.pc).ownBlock) (ho : X'.ownsRow B 62 6 (.slice a5 (v.pl + 1) c5) (v.pl + 1) (flat RpV.cells (v.ps ++ [r]))) (hat : (Value.slice a5 (v.pl + 1) c5).ownBlock = (Value.slice v.pa v.pl v.pc).ownBlock ∨ (Value.slice a5 (v.pl + 1) c5).ownBlock = some X.heap.size) : TRep w X' B q v ix more a5 c5 r :=
  ⟨h.held.grow (i := 3) (r := ⟨62, 6, .slice v.pa v.pl v.pc, v.pl, flat RpV.cells v.ps⟩) (r' := ⟨62, 6, .slice a5 (v.pl + 1) c5, v.pl + 1, flat RpV.cells (v.ps ++ [r])⟩) rfl hg ho hat, h.jobs, h.lens⟩
theorem TRep.tell {w u : World} {B q : Nat} {V : CkV} {ix : List (Nat × Nat)} {M : List Rw} {a5 : Option Addr} {c5 : Nat} {r : RpV} (h : TRep w u B q V ix M a5 c5 r) : TCl w (u.setCell ⟨q, 4, none⟩ (.slice a5 (V.pl + 1) c5)) B q { V with pa := a5, pl := V.pl + 1, pc := c5, ps := V.ps ++ [r] } ix M :=
  ⟨h.held.tell 4 (by decide) (.slice a5 (V.pl + 1) c5), h.jobs, h.lens.1, h.lens.2.1, h.lens.2.2.1, by simp [h.lens.2.2.2]⟩
theorem TRep.cell {w u : World} {B q : Nat} {V : CkV} {ix : List (Nat × Nat)} {M : List Rw} {a5 : Option Addr} {c5 : Nat} {r : RpV} (h : TRep w u B q V ix M a5 c5 r) : u.cell? ⟨q, 4, none⟩ = some (.slice V.pa V.pl V.pc) ∧ u.frozen? ⟨q, 4, none⟩ = false ∧ q < u.heap.size := ⟨(h.held.box.c 4 (by decide)).1, (h.held.box.c 4 (by decide)).2, h.held.box.lt⟩
/-- What the loop over the jobs holds. -/
def DTick (U : World) (q : Nat) (C : Cx) (next : Int) (js : List JbV) (k : Nat) (wr : World) : Prop := ∃ (u : CkV) (iy : List (Nat × Nat)) (m' : List Rw), TCl U wr U.heap.size q u iy m' ∧ u.me = C.me ∧ u.tn = (tn0 next js).tick C ((js.take k).map JbV.n) ∧ TickInv C js k u.tn ∧ PW u.js ∧ u.js.length ≤ 6
end Go.Proofs.Ytfhciplckjkflaa.Cd
