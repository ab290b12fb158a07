/- The document's CoordTicked: what the program's Tick says. -/
import Derived.Test.YtfhciplckjkflaaM15CoordTicks
import Derived.Test.YtfhciplckjkflaaM30CoordTicks
import Derived.Test.YtfhciplckjkflaaA31CoordTicks
namespace Go.Proofs.Ytfhciplckjkflaa.Cd
open Go.ChangeShapes Go.WideShapes Go.ChangeAt Go.RowKit
open Go.Proofs.Ytfhciplckjkflaa.St (BoxN boxn_new own_below grown_setCell IsRow Elem flat flat_append own_isRow own_there idxI)
open Go.Proofs.Ytfhciplckjkflaa.Co
set_option linter.unusedVariables false

theorem turnFin {w0 U X : World} {q : Nat} {v : CkV} {ix : List (Nat × Nat)} {more : List Rw} (h : TCl U X U.heap.size q v ix more) (hr : RecsIn v.rs more) (hb : Below w0.heap.size w0 U) {r : Nat} (h1 : w0.heap.size ≤ r) (h2 : r < U.heap.size) (a b c d e f g : Value) : Turned w0 (set7 X r a b c d e f g) v ix more := by
  have hq : ∀ (i : Nat) (s : Rw), (v.rows ++ more)[i]? = some s → s.v.ownBlock ≠ some r := fun i s e e2 => by
    have := ((h.held.own.own i s e).lt _ e2).1
    omega
  have hB : Below w0.heap.size w0 X := hb.trans (h.held.bel.mono hb.size)
  exact ⟨(((((((h.held.own.base hb.size).aside hq 0 a).aside hq 1 b).aside hq 2 c).aside hq 3 d).aside hq 4 e).aside hq 5 f).aside hq 6 g, h.jobs, hr, h.lens, ((((((hB.setCell (p := ⟨r, 0, none⟩) h1 a).setCell (p := ⟨r, 1, none⟩) h1 b).setCell (p := ⟨r, 2, none⟩) h1 c).setCell (p := ⟨r, 3, none⟩) h1 d).setCell (p := ⟨r, 4, none⟩) h1 e).setCell (p := ⟨r, 5, none⟩) h1 f).setCell (p := ⟨r, 6, none⟩) h1 g⟩
/-- A desk of one's own, in a turn's box. -/
theorem tcl_new {U V : World} {ja : Option Addr} {jl jc : Nat} {js : List JbV} {ix : List (Nat × Nat)} {more : List Rw} (h : DeskAt V U.heap.size ja jl jc js ix more) (hb : Below U.heap.size U V) (s p l me next : Int) (a : Option Addr) (len cap : Nat) : TCl U (V.alloc (.cells #[.int .i64 next, .slice ja jl jc, .slice none 0 0, .slice none 0 0, .slice none 0 0, .int .i64 0, .int .i64 0] 35)) U.heap.size V.heap.size ⟨s, a, len, cap, p, l, me, next, ja, jl, jc, none, 0, 0, none, 0, 0, none, 0, 0, 0, 0, js, [], [], []⟩ ix more := by
  have bA : Below V.heap.size V (V.alloc (.cells #[.int .i64 next, .slice ja jl jc, .slice none 0 0, .slice none 0 0, .slice none 0 0, .int .i64 0, .int .i64 0] 35)) := (Below.refl _ _).alloc (Nat.le_refl _) _
  have hO : Own V U.heap.size (jobRow ja jl jc js :: ⟨75, 12, .slice none 0 0, 0, []⟩ :: ⟨69, 8, .slice none 0 0, 0, []⟩ :: ⟨62, 6, .slice none 0 0, 0, []⟩ :: more) := ((h.own.ins 62 6).ins 69 8).ins 75 12
  refine ⟨⟨boxn_new V #[.int .i64 next, .slice ja jl jc, .slice none 0 0, .slice none 0 0, .slice none 0 0, .int .i64 0, .int .i64 0] 35 7 rfl, hO.below bA, fun i r e e2 => ?_, hb.size, hb.trans (bA.mono hb.size)⟩, h.jobs, h.len, rfl, rfl, rfl⟩
  have := ((hO.own i r e).lt _ e2).2
  omega
theorem rs_none {v : CkV} {C : Cx} {js : List JbV} {k : Nat} (h : TickInv C js k v.tn) : v.rs = [] := by
  have : v.rs.map RcV.bare = [] := h.rs
  simpa using this
set_option maxRecDepth 100000 in
set_option maxHeartbeats 16000000 in
theorem ticked_ref (s p : Int) (a : Option Addr) (len cap : Nat) (ls : List (Int × Int)) (l me next : Int) (ja : Option Addr) (jl jc : Nat) (js : List JbV) (w : World) (hl : IsLabs w a len cap ls) (hj : IsJobs w ja jl jc js) :
    Calls Try.prog 11 #[.agg #[.int .i64 s, .slice a len cap, .int .i64 p], .int .i64 l, .int .i64 me, .agg #[.int .i64 next, .slice ja jl jc]] w fun e w' => TickIs w w' ⟨s, ls, p, l, me⟩ next js e := by
  obtain ⟨W, hW⟩ : ∃ W : World, W = ((w.alloc (.cells #[.int .i64 s, .slice a len cap, .int .i64 p] 24)).alloc (.cells #[.int .i64 next, .slice ja jl jc] 27)).alloc (.cells #[.int .i64 0, .slice none 0 0, .slice none 0 0, .slice none 0 0, .slice none 0 0, .int .i64 0, .int .i64 0] 35) := ⟨_, rfl⟩
  have bW : Below w.heap.size w W := by rw [hW]; exact (((Below.refl _ _).alloc (Nat.le_refl _) _).alloc (by simp) _).alloc (by simp; omega) _
  have zW : W.heap.size = w.heap.size + 3 := by rw [hW]; simp
  have bc : BoxN W w.heap.size 3 [.int .i64 s, .slice a len cap, .int .i64 p] := by
    rw [hW]
    have h8 := boxn_new w #[.int .i64 s, .slice a len cap, .int .i64 p] 24 3 rfl
    exact (h8.below ((Below.refl _ _).alloc (Nat.le_refl _) _) h8.lt).below ((Below.refl _ _).alloc (Nat.le_refl _) _) (Nat.lt_of_lt_of_le h8.lt (by simp))
  have bd : BoxN W (w.heap.size + 1) 2 [.int .i64 next, .slice ja jl jc] := by
    rw [hW]
    have h8 := boxn_new (w.alloc (.cells #[.int .i64 s, .slice a len cap, .int .i64 p] 24)) #[.int .i64 next, .slice ja jl jc] 27 2 rfl
    have h9 := h8.below ((Below.refl _ _).alloc (Nat.le_refl _) (.cells #[.int .i64 0, .slice none 0 0, .slice none 0 0, .slice none 0 0, .slice none 0 0, .int .i64 0, .int .i64 0] 35)) h8.lt
    simpa using h9
  have bt : BoxN W (w.heap.size + 2) 7 [.int .i64 0, .slice none 0 0, .slice none 0 0, .slice none 0 0, .slice none 0 0, .int .i64 0, .int .i64 0] := by
    rw [hW]
    have h8 := boxn_new ((w.alloc (.cells #[.int .i64 s, .slice a len cap, .int .i64 p] 24)).alloc (.cells #[.int .i64 next, .slice ja jl jc] 27)) #[.int .i64 0, .slice none 0 0, .slice none 0 0, .slice none 0 0, .slice none 0 0, .int .i64 0, .int .i64 0] 35 7 rfl
    simpa using h8
  have KC : Hid (∀ U, Below W.heap.size W U → (U.cell? ⟨w.heap.size, 0, none⟩ = some (.int .i64 s) ∧ U.cell? ⟨w.heap.size, 1, none⟩ = some (.slice a len cap) ∧ U.cell? ⟨w.heap.size, 2, none⟩ = some (.int .i64 p) ∧ w.heap.size < U.heap.size) ∧ (U.cell? ⟨w.heap.size + 1, 0, none⟩ = some (.int .i64 next) ∧ U.cell? ⟨w.heap.size + 1, 1, none⟩ = some (.slice ja jl jc) ∧ w.heap.size + 1 < U.heap.size) ∧ BoxN U (w.heap.size + 2) 7 [.int .i64 0, .slice none 0 0, .slice none 0 0, .slice none 0 0, .slice none 0 0, .int .i64 0, .int .i64 0] ∧ Below w.heap.size w U ∧ w.heap.size + 3 ≤ U.heap.size) := fun U hU => by
    have h1 := bc.below hU bc.lt
    have h2 := bd.below hU bd.lt
    exact ⟨⟨(h1.c 0 (by decide)).1, (h1.c 1 (by decide)).1, (h1.c 2 (by decide)).1, h1.lt⟩, ⟨(h2.c 0 (by decide)).1, (h2.c 1 (by decide)).1, h2.lt⟩, bt.below hU bt.lt, bW.trans (hU.mono bW.size), by have := hU.size; omega⟩
  have HRf : Hid (Calls Try.prog 25 #[.agg #[.int .i64 s, .slice a len cap, .int .i64 p], .int .i64 l, .int .i64 me, .agg #[.int .i64 next, .slice ja jl jc]] W fun e w' => e = .returned (.int .i64 (rfErr s ls p l me next js)) ∧ Below W.heap.size W w') := refDesk_any s p a len cap ls l me next ja jl jc js W (hl.below bW) (hj.below bW)
  have HFine := fun (h : rfErr s ls p l me next js = 0) => desk_fine h
  have HAges := fun (h : rfErr s ls p l me next js = 0) => desk_ages h
  have HMore := fun (h : rfErr s ls p l me next js = 0) => desk_more h
  obtain ⟨E, eE⟩ : ∃ E, E = rfErr s ls p l me next js := ⟨_, rfl⟩
  rw [← eE] at HRf HFine HAges HMore
  have HC : Hid (rfErr s ls p l me next js = E) := eE.symm
  clear eE bc bd bt
  by_cases hE : E = 0
  · obtain ⟨hs4, hnx, h6, hF⟩ := HFine hE
    obtain ⟨hAg, hAp⟩ := HAges hE
    obtain ⟨hcf, hpw, hMr⟩ := HMore hE
    clear HFine HAges HMore
    subst hE
    have hs1 := hs4.1
    have hs44 := hs4.2
    have HFin : Hid (∀ (U X : World) (q : Nat) (V : CkV) (ix : List (Nat × Nat)) (more : List Rw), Below W.heap.size W U → TCl U X U.heap.size q V ix more → V.rs = [] → V.tn = (tn0 next js).tick ⟨s, ls, p, l, me⟩ (js.map JbV.n) → TickIs w (set7 X (w.heap.size + 2) (.int .i64 V.next) (.slice V.ja V.jl V.jc) (.slice V.ma V.ml V.mc) (.slice V.ra V.rl V.rc) (.slice V.pa V.pl V.pc) (.int .i64 V.sure) (.int .i64 V.com)) ⟨s, ls, p, l, me⟩ next js (.returned (.tuple #[.agg #[.int .i64 V.next, .slice V.ja V.jl V.jc, .slice V.ma V.ml V.mc, .slice V.ra V.rl V.rc, .slice V.pa V.pl V.pc, .int .i64 V.sure, .int .i64 V.com], .int .i64 0]))) := fun U X q V ix more hU hC hR hT => by
      obtain ⟨-, -, -, hw9, hz9⟩ := KC.out U hU
      refine ⟨V.turn, by show _ = Ending.returned (.tuple #[V.turn, .int .i64 (rfErr s ls p l me next js)]); rw [HC.out]; rfl, V, ix, more, rfl, turnFin hC (by rw [hR]; exact recsIn_nil _) hw9 (by omega) (by omega) _ _ _ _ _ _ _, ?_⟩
      unfold TickAns
      rw [if_pos HC.out]
      exact hT
    have hjl : js.length = jl := hj.row.1
    have h10 : ∀ j ∈ js, j.tl * 56 ≤ 140737488351232 ∧ j.al * 8 ≤ 140737488351232 := fun j hjm => by
      have h1 := hF j hjm
      have h2 := (hj.each j hjm).tasks.1
      have h3 := (hj.each j hjm).asked.1
      omega
    have HCp : Hid (∀ U, Below W.heap.size W U → Calls Try.prog 5 #[.agg #[.int .i64 next, .slice ja jl jc]] U fun e w' => DeskNew U w' e next jl js) := fun U hU => deskCopy_any next ja jl jc js U (hj.below (KC.out U hU).2.2.2.1) (by omega) h10
    have HJs : Hid (∀ U, Below W.heap.size W U → IsJobs U ja jl jc js) := fun U hU => hj.below (KC.out U hU).2.2.2.1
    have HFi : Hid (∀ j ∈ js, j.tasks.length ≤ 10 ∧ j.asked.length ≤ 4 ∧ 0 ≤ j.asks ∧ j.asks ≤ 1048576) := hF
    have HAg : Hid (∀ j ∈ js, 0 ≤ j.age ∧ j.age ≤ 1048576) := hAg
    have HAp : Hid (∀ k, k < js.length → ∀ j ∈ js.drop (k + 1), j.n ≠ (js.getD k default).n) := hAp
    have HMr : Hid (∀ j ∈ js, (∀ t ∈ j.tasks, 0 ≤ t.key ∧ t.key ≤ 7) ∧ 1 ≤ j.state ∧ j.state ≤ 3) := hMr
    have HCf : Hid (cfgFault s ls p = 0) := hcf
    have HPw : Hid (PW js) := hpw
    have HJl : Hid (js.length = jl) := hjl
    have h6' : (jl : Int) ≤ 6 := by omega
    have H6 : Hid (jl ≤ 6) := by show _ ≤ _; omega
    clear hF h10 hAg hAp hjl hMr hcf hpw hl hj bW zW
    go_enter Try.func11, Try.ntmps11
    go_upto_region 1 with (fail)
    rw [← hW]
    clear hW
    obtain ⟨⟨x0, x1, x2, xz⟩, ⟨y0, y1, yz⟩, -⟩ := KC.out W (Below.refl _ _)
    go_upto_region 4 with (go_at_call 25; refine HRf.out.mono ?_; rintro e U ⟨rfl, hbU⟩)
    clear x0 x1 x2 xz y0 y1 yz
    obtain ⟨⟨x0, x1, x2, xz⟩, ⟨y0, y1, yz⟩, -⟩ := KC.out U hbU
    go_upto_region 5 with (go_at_call 5; refine (HCp.out U hbU).mono ?_; rintro e V ⟨ja1, jc1, js1, ix, more, rfl, hD1, hbare, hbV⟩)
    clear x0 x1 x2 xz y0 y1 yz
    obtain ⟨q, eq⟩ : ∃ q, q = V.heap.size := ⟨_, rfl⟩
    obtain ⟨X, eX⟩ : ∃ X : World, X = V.alloc (.cells #[.int .i64 next, .slice ja1 jl jc1, .slice none 0 0, .slice none 0 0, .slice none 0 0, .int .i64 0, .int .i64 0] 35) := ⟨_, rfl⟩
    have HInv0 : Hid (DTick U q ⟨s, ls, p, l, me⟩ next js 0 X) := by
      refine ⟨⟨s, a, len, cap, p, l, me, next, ja1, jl, jc1, none, 0, 0, none, 0, 0, none, 0, 0, 0, 0, js1, [], [], []⟩, ix, more, ?_, rfl, ?_, ?_, ?_, ?_⟩
      · rw [eX, eq]; exact tcl_new hD1 hbV s p l me next a len cap
      · show CkV.tn _ = _; unfold CkV.tn tn0; simp only [hbare]; rfl
      · have : CkV.tn ⟨s, a, len, cap, p, l, me, next, ja1, jl, jc1, none, 0, 0, none, 0, 0, none, 0, 0, 0, 0, js1, [], [], []⟩ = tn0 next js := by unfold CkV.tn tn0; simp only [hbare]; rfl
        rw [this]; exact tick_zero _ _ _
      · refine pw_bare ?_
        show PW (js1.map JbV.bare)
        rw [hbare, pw_map, List.map_map]
        exact pw_map.1 HPw.out
      · have h8 := congrArg List.length hbare
        simp only [List.length_map] at h8
        show js1.length ≤ 6
        rw [h8, HJl.out]
        exact H6.out
    rw [← eX, ← eq]
    have HXU : Hid (∀ (k : Nat) (Z : World), DTick U q ⟨s, ls, p, l, me⟩ next js k Z → Below W.heap.size W Z ∧ U.heap.size ≤ q) := fun k Z hZ => by
      obtain ⟨u, iy, m', hC, -⟩ := hZ
      exact ⟨hbU.trans (hC.held.bel.mono hbU.size), hC.held.le⟩
    have hbX := (HXU.out 0 X HInv0.out).1
    clear eX eq hD1 hbare hbV
    obtain ⟨⟨x0, x1, x2, xz⟩, ⟨y0, y1, yz⟩, -⟩ := KC.out X hbX
    go_upto_region 6 with (fail)
    clear x0 x1 x2 xz y0 y1 yz hbX
    go_loopw [12] (fun s12 wr => ∃ k : Nat, s12 = .int .i64 (k : Int) ∧ k ≤ jl ∧ Hid (DTick U q ⟨s, ls, p, l, me⟩ next js k wr)) (fun s12 _ => jl - (intOf s12).toNat)
    case atStart => exact ⟨0, rfl, Nat.zero_le _, HInv0⟩
    case round =>
      clear HInv0
      obtain ⟨k, rfl, hk, HInv⟩ := hrel
      obtain ⟨hbr, hUq⟩ := HXU.out _ _ HInv.out
      obtain ⟨⟨x0, x1, x2, xz⟩, ⟨y0, y1, yz⟩, hbt, hbw0, -⟩ := KC.out wr hbr
      by_cases hlt : k < jl
      · as_aux_lemma =>
        have hlt' : (k : Int) < (jl : Int) := by omega
        have hk1 : IntKind.i64.wrap ((k : Int) + 1) = (k : Int) + 1 := by rw [IntKind.wrap_i64]; omega
        obtain ⟨uc, iy, m', hC, hme, hTu, hTI, hPW, hL6⟩ := HInv.out
        have hJr := HJs.out wr hbr
        obtain ⟨b, off, rfl, zb, hcr⟩ := hJr.row.2.2.2.2 (by omega)
        have hjc : k < jc := Nat.lt_of_lt_of_le hlt hJr.row.2.1
        have hcells := hcr k hlt
        have hkl : k < js.length := by rw [HJl.out]; exact hlt
        have hmem := mem_at hkl
        obtain ⟨i, hix, hgd, hTI2⟩ := tick_step hTI hkl (by exact ⟨by show 0 ≤ s; omega, by show s ≤ 4; omega⟩) (HAp.out k hkl) (HFi.out _ hmem).2.1
        have hfi := HFi.out _ hmem
        have hag := HAg.out _ hmem
        have hmr := HMr.out _ hmem
        have HTk2 : Hid ((tn0 next js).tick ⟨s, ls, p, l, me⟩ ((js.take (k + 1)).map JbV.n) = uc.tn.tickN ⟨s, ls, p, l, me⟩ (js.getD k default).n) := by show _ = _; rw [tick_take hkl, hTu]
        have hix2 : idxI (isN (js.getD k default).n) uc.js = (i : Int) := by rw [← idx_bare]; exact hix
        have hgd2 : (uc.js.getD i default).bare = (js.getD k default).bare := by rw [← getD_bare]; exact hgd
        have hnum : uc.tn.tickN ⟨s, ls, p, l, me⟩ (js.getD k default).n = uc.tn.aged ⟨s, ls, p, l, me⟩ i := by unfold Tn.tickN; rw [hix]; rfl
        rw [hnum] at HTk2 hTI2
        have hilen : i < uc.js.length := by
          have h9 := hix2
          unfold idxI at h9
          cases h8 : uc.js.findIdx? (isN (js.getD k default).n) with
          | none => rw [h8] at h9; simp at h9
          | some i2 =>
            rw [h8] at h9
            have h7 := (List.findIdx?_eq_some_iff_getElem.1 h8).1
            simp at h9
            omega
        have hi : i < uc.jl := by rw [← hC.lens.1]; exact hilen
        obtain ⟨pn, pst, pas, page, ptk, pak⟩ := bare_parts2 hgd2
        have hJat := jobAt_any uc.next uc.ja uc.jl uc.jc uc.js (js.getD k default).n
        rw [jbAt_idx, hix2] at hJat
        obtain ⟨jo, ejo⟩ : ∃ jo, jo = js.getD k default := ⟨_, rfl⟩
        rw [← ejo] at hcells hfi hag hmr pn pst pas page ptk pak hJat
        obtain ⟨jb, ejb⟩ : ∃ jb, jb = uc.js.getD i default := ⟨_, rfl⟩
        have HJb : Hid (jb = uc.js.getD i default) := ejb
        rw [← ejb] at pn pst pas page ptk pak
        rw [← pak, ← ptk] at hfi
        rw [← page] at hag
        rw [← ptk, ← pst] at hmr
        obtain ⟨g, eg, -, zg, -, hcj, hfj⟩ := hC.jobAt hi
        have hRow : IsJobRow wr uc.ja uc.jl uc.jc uc.js := (own_isRow jb_len hC.jobRow hC.lens.1).1
        have hic : i < uc.jc := Nat.lt_of_lt_of_le hi hRow.2.1
        have hu6 : uc.jl ≤ 1000 := by rw [← hC.lens.1]; omega
        have ha0 : wr.cell? ⟨b, off + k * 6, none⟩ = some (.int .i64 jo.n) := by
          have := hcells 0 (by decide)
          simpa [JbV.cells] using this
        rw [← pn] at ha0 hJat
        have hml : (uc.ml + 1048577) * 96 ≤ 140737488355328 := by
          have h1 := hC.lens.2.1
          have h2 : uc.ms.length ≤ 4 * k := hTI.ms
          have := H6.out
          omega
        have hpl : uc.pl ≤ 1000 := by
          have h1 := hC.lens.2.2.2
          have h2 : uc.ps.length ≤ k := hTI.ps
          have := H6.out
          omega
        have HTk3 : Hid ((tn0 next js).tick ⟨s, ls, p, l, me⟩ ((js.take (k + 1)).map JbV.n) = uc.tn.aged ⟨s, ls, p, l, me⟩ i) := HTk2.out
        have HTI2 : Hid (TickInv ⟨s, ls, p, l, me⟩ js (k + 1) (uc.tn.aged ⟨s, ls, p, l, me⟩ i)) := hTI2
        have HNext : Hid (∀ (Z : World) (v2 : CkV) (iy2 : List (Nat × Nat)) (m2 : List Rw), TCl U Z U.heap.size q v2 iy2 m2 → v2.me = me → v2.tn = uc.tn.aged ⟨s, ls, p, l, me⟩ i → PW v2.js → v2.js.length ≤ 6 → DTick U q ⟨s, ls, p, l, me⟩ next js (k + 1) Z) := fun Z v2 iy2 m2 h1 h2 h3 h4 h5 => ⟨v2, iy2, m2, h1, h2, by rw [h3, HTk3.out], by rw [h3]; exact HTI2.out, h4, h5⟩
        have HC1 : Hid (TCl U wr U.heap.size q uc iy m') := hC
        have HPW : Hid (PW uc.js) := hPW
        have HMe : Hid (uc.me = me) := hme
        have HL6 : Hid (uc.js.length ≤ 6) := hL6
        have HKl : Hid ((kept jb.n uc.js).length ≤ 6) := Nat.le_trans kept_len hL6
        have HKy : Hid (∀ t ∈ jb.tasks, 0 ≤ t.key ∧ t.key ≤ 7) := hmr.1
        have HMl : Hid ((uc.ml + 1048577) * 96 ≤ 140737488355328) := hml
        have hst1 := hmr.2.1
        have hst3 := hmr.2.2
        have htl10 := hfi.1
        have HAk : Hid (jb.asked.length ≤ 4) := hfi.2.1
        have HFit : Hid (jb.tasks.length = jb.tl ∧ jb.asked.length = jb.al) := by have h9 := hC.fit hi; rw [← ejb] at h9; exact h9
        have HEnd : Hid (∀ (Z : World) (v2 : CkV) (iy2 : List (Nat × Nat)) (m2 : List Rw), TCl U Z U.heap.size q v2 iy2 m2 → v2.me = me → v2.js = uc.js → v2.jl = uc.jl → v2.ml = uc.ml → Calls Try.prog 31 #[.agg #[.int .i64 s, .slice a len cap, .int .i64 p], .int .i64 l, .int .i64 me, .pointer (some ⟨q, 0, none⟩), .int .i64 (i : Int)] Z fun e X' => EndedIs U X' U.heap.size q v2 jb.n (handsOf s ls p l jb.tasks) e) := fun Z v2 iy2 m2 h1 h2 h3 h4 h5 => by
          have h9 := ended_any Z h1 s p a len cap ls l HCf.out hs1 hs44 (i := i) (by rw [h4]; exact hi) (by rw [h4]; exact hu6) (by rw [h3, ← HJb.out]; exact HKy.out) (by rw [h3]; exact HPW.out) (by rw [h5]; exact HMl.out)
          rw [h2, h3, ← HJb.out] at h9
          exact h9
        have HKe : Hid (PW (kept jb.n uc.js)) := pw_kept hPW
        have HTs : Hid (∀ Z, Below wr.heap.size wr Z → IsTasks Z jb.ta jb.tl jb.tc jb.tasks) := fun Z hZ => by
          have h9 := (hC.below hZ).isTasks hi
          rw [← ejb] at h9
          exact h9
        rw [← ejb] at hcj
        have q0 : wr.cell? ⟨q, 0, none⟩ = some (.int .i64 uc.next) := (hC.held.box.c 0 (by decide)).1
        have q1 : wr.cell? ⟨q, 1, none⟩ = some (.slice uc.ja uc.jl uc.jc) := (hC.held.box.c 1 (by decide)).1
        have zq := hC.held.box.lt
        have HAt : Hid (∀ Z, Below wr.heap.size wr Z → Calls Try.prog 28 #[.agg #[.int .i64 uc.next, .slice uc.ja uc.jl uc.jc], .int .i64 jb.n] Z fun e w' => e = .returned (.int .i64 (i : Int)) ∧ Below Z.heap.size Z w') := fun Z hZ => hJat Z (hRow.below hZ)
        have KR : Hid (∀ Z, Below wr.heap.size wr Z → Z.cell? ⟨q, 0, none⟩ = some (.int .i64 uc.next) ∧ Z.cell? ⟨q, 1, none⟩ = some (.slice uc.ja uc.jl uc.jc) ∧ Z.cell? ⟨w.heap.size + 1, 1, none⟩ = some (.slice (some ⟨b, off, none⟩) jl jc) ∧ Z.cell? ⟨b, off + k * 6, none⟩ = some (.int .i64 jb.n) ∧ (q < Z.heap.size ∧ w.heap.size + 1 < Z.heap.size ∧ b < Z.heap.size)) := fun Z hZ => ⟨(hZ.cell (p := ⟨q, 0, none⟩) zq).trans q0, (hZ.cell (p := ⟨q, 1, none⟩) zq).trans q1, (hZ.cell (p := ⟨w.heap.size + 1, 1, none⟩) yz).trans y1, (hZ.cell (p := ⟨b, off + k * 6, none⟩) zb).trans ha0, ⟨Nat.lt_of_lt_of_le zq hZ.size, Nat.lt_of_lt_of_le yz hZ.size, Nat.lt_of_lt_of_le zb hZ.size⟩⟩
        have nT : ∀ {u v z : World}, Below u.heap.size u v → Below v.heap.size v z → Below u.heap.size u z := fun h k => h.trans (k.mono h.size)
        clear HInv hTu hTI hPW hcells hmem hfi hmr hix hix2 hgd hgd2 hTI2 hnum HTk2 HTk3 HTI2 hkl hilen hRow hJat hJr hcr ejo pn pst pas page ptk pak hme hml hC
        obtain ⟨jn, st, ta, tl, tc, aa, al, ac, asks, age, tasks, asked⟩ := jb
        have a0 := hcj 0 (by decide)
        have a1 := hcj 1 (by decide)
        have a2 := hcj 2 (by decide)
        have a3 := hcj 3 (by decide)
        have a4 := hcj 4 (by decide)
        have a5 := hcj 5 (by decide)
        simp only [JbV.cells, List.getElem?_cons_zero, List.getElem?_cons_succ, Nat.add_zero] at a0 a1 a2 a3 a4 a5
        simp only [] at ha0 HJb HKy hst1 hst3 htl10 HAk HFit HEnd HKe HKl HTs HAt KR hag
        have HEg : Hid (uc.ja = some ⟨g, 0, none⟩) := eg
        clear hcj eg
        go_upto_region 8 with (fail)
        clear x0 x1 x2 xz y0 y1 yz q0 q1 zq ha0 zb
        refine wp_region_inv (by kernel_rfl) [36, 37, 38, 39, 40, 41, 42, 43, 44, 13] (fun L T u => Below wr.heap.size wr u ∧ (L 0 = true → T 36 = .pointer (some ⟨q, 0, none⟩)) ∧ (L 1 = true → T 37 = .agg #[.int .i64 uc.next, .slice uc.ja uc.jl uc.jc]) ∧ (L 2 = true → T 38 = .pointer (some ⟨w.heap.size + 1, 1, none⟩)) ∧ (L 3 = true → T 39 = .slice (some ⟨b, off, none⟩) jl jc) ∧ (L 4 = true → T 40 = .int .i64 (k : Int)) ∧ (L 5 = true → T 41 = .pointer (some ⟨b, off + k * 6, none⟩)) ∧ (L 6 = true → T 42 = .pointer (some ⟨b, off + k * 6, none⟩)) ∧ (L 7 = true → T 43 = .int .i64 jn) ∧ (L 8 = true → T 44 = .int .i64 (i : Int)) ∧ (L 9 = true → T 13 = .int .i64 (i : Int))) (by decide) (by kernel_rfl) (by kernel_rfl) ?_ ?_ ?_
        · exact ⟨(Below.refl _ _).drew, nofun, nofun, nofun, nofun, nofun, nofun, nofun, nofun, nofun, nofun⟩
        · refine ⟨?_, ?_, ?_, ?_, ?_, ?_, ?_, ?_, ?_, ?_, trivial⟩
          · rintro L T u hd hk hcl ⟨hb, p0, p1, p2, p3, p4, p5, p6, p7, p8, p9⟩ K hK
            simp only [fr, Act.put, List.setIfInBounds_toArray, List.set_cons_zero, List.set_cons_succ, updO] at hK ⊢
            simp [Region.binds] at hd
            rw [if_pos (by rfl)]
            simp only [Oper.wpv]
            go_simp
            exact hK _ _ ⟨hb, fun _ => rfl, p1, p2, p3, p4, p5, p6, p7, p8, p9⟩
          · rintro L T u hd hk hcl ⟨hb, p0, p1, p2, p3, p4, p5, p6, p7, p8, p9⟩ K hK
            simp only [fr, Act.put, List.setIfInBounds_toArray, List.set_cons_zero, List.set_cons_succ, updO] at hK ⊢
            simp [Region.binds] at hd
            have g0 := p0 (by simp [hd])
            obtain ⟨z0, z1, z2, z3, zz1, zz2, zz3⟩ := KR.out u hb
            rw [if_pos (by rfl)]
            simp only [Oper.wpv]
            go_simp
            exact hK _ _ ⟨hb, p0, fun _ => rfl, p2, p3, p4, p5, p6, p7, p8, p9⟩
          · rintro L T u hd hk hcl ⟨hb, p0, p1, p2, p3, p4, p5, p6, p7, p8, p9⟩ K hK
            simp only [fr, Act.put, List.setIfInBounds_toArray, List.set_cons_zero, List.set_cons_succ, updO] at hK ⊢
            simp [Region.binds] at hd
            rw [if_pos (by rfl)]
            simp only [Oper.wpv]
            go_simp
            exact hK _ _ ⟨hb, p0, p1, fun _ => rfl, p3, p4, p5, p6, p7, p8, p9⟩
          · rintro L T u hd hk hcl ⟨hb, p0, p1, p2, p3, p4, p5, p6, p7, p8, p9⟩ K hK
            simp only [fr, Act.put, List.setIfInBounds_toArray, List.set_cons_zero, List.set_cons_succ, updO] at hK ⊢
            simp [Region.binds] at hd
            have g2 := p2 (by simp [hd])
            obtain ⟨z0, z1, z2, z3, zz1, zz2, zz3⟩ := KR.out u hb
            rw [if_pos (by rfl)]
            simp only [Oper.wpv]
            go_simp
            exact hK _ _ ⟨hb, p0, p1, p2, fun _ => rfl, p4, p5, p6, p7, p8, p9⟩
          · rintro L T u hd hk hcl ⟨hb, p0, p1, p2, p3, p4, p5, p6, p7, p8, p9⟩ K hK
            simp only [fr, Act.put, List.setIfInBounds_toArray, List.set_cons_zero, List.set_cons_succ, updO] at hK ⊢
            simp [Region.binds] at hd
            rw [if_pos (by rfl)]
            simp only [Oper.wpv]
            go_simp
            exact hK _ _ ⟨hb, p0, p1, p2, p3, fun _ => rfl, p5, p6, p7, p8, p9⟩
          · rintro L T u hd hk hcl ⟨hb, p0, p1, p2, p3, p4, p5, p6, p7, p8, p9⟩ K hK
            simp only [fr, Act.put, List.setIfInBounds_toArray, List.set_cons_zero, List.set_cons_succ, updO] at hK ⊢
            simp [Region.binds] at hd
            have g3 := p3 (by simp [hd])
            have g4 := p4 (by simp [hd])
            rw [if_pos (by rfl)]
            simp only [Oper.wpv]
            go_simp
            exact hK _ _ ⟨hb, p0, p1, p2, p3, p4, fun _ => rfl, p6, p7, p8, p9⟩
          · rintro L T u hd hk hcl ⟨hb, p0, p1, p2, p3, p4, p5, p6, p7, p8, p9⟩ K hK
            simp only [fr, Act.put, List.setIfInBounds_toArray, List.set_cons_zero, List.set_cons_succ, updO] at hK ⊢
            simp [Region.binds] at hd
            have g5 := p5 (by simp [hd])
            rw [if_pos (by rfl)]
            simp only [Oper.wpv]
            go_simp
            exact hK _ _ ⟨hb, p0, p1, p2, p3, p4, p5, fun _ => rfl, p7, p8, p9⟩
          · rintro L T u hd hk hcl ⟨hb, p0, p1, p2, p3, p4, p5, p6, p7, p8, p9⟩ K hK
            simp only [fr, Act.put, List.setIfInBounds_toArray, List.set_cons_zero, List.set_cons_succ, updO] at hK ⊢
            simp [Region.binds] at hd
            have g6 := p6 (by simp [hd])
            obtain ⟨z0, z1, z2, z3, zz1, zz2, zz3⟩ := KR.out u hb
            rw [if_pos (by rfl)]
            simp only [Oper.wpv]
            go_simp
            exact hK _ _ ⟨hb, p0, p1, p2, p3, p4, p5, p6, fun _ => rfl, p8, p9⟩
          · rintro L T u hd hk hcl ⟨hb, p0, p1, p2, p3, p4, p5, p6, p7, p8, p9⟩ K hK
            simp only [fr, Act.put, List.setIfInBounds_toArray, List.set_cons_zero, List.set_cons_succ, updO] at hK ⊢
            simp [Region.binds] at hd
            have g1 := p1 (by simp [hd])
            have g7 := p7 (by simp [hd])
            rw [if_pos (by rfl)]
            simp only [Oper.wpv]
            go_simp
            refine (HAt.out u hb).mono ?_
            rintro e u1 ⟨rfl, hg⟩
            exact hK _ _ ⟨nT hb hg, p0, p1, p2, p3, p4, p5, p6, p7, fun _ => rfl, p9⟩
          · rintro L T u hd hk hcl ⟨hb, p0, p1, p2, p3, p4, p5, p6, p7, p8, p9⟩ K hK
            simp only [fr, Act.put, List.setIfInBounds_toArray, List.set_cons_zero, List.set_cons_succ, updO] at hK ⊢
            simp [Region.binds] at hd
            have g8 := p8 (by simp [hd])
            rw [if_pos (by rfl)]
            simp only [Oper.wpv]
            go_simp
            exact hK _ _ ⟨hb, p0, p1, p2, p3, p4, p5, p6, p7, p8, fun _ => rfl⟩
        · rintro L T u hl ⟨hb, p0, p1, p2, p3, p4, p5, p6, p7, p8, p9⟩
          simp only [fr, Act.put, List.setIfInBounds_toArray, List.set_cons_zero, List.set_cons_succ]
          have h13 := p9 (hl 9 (by decide))
          clear p0 p1 p2 p3 p4 p5 p6 p7 p8 p9 hl HAt
          rw [h13]
          clear h13
          obtain ⟨Y, eY⟩ : ∃ X : World, X = u := ⟨_, rfl⟩
          subst eY
          obtain ⟨z0, z1, -, -, zq, -, -⟩ := KR.out Y hb
          rw [HEg.out] at z1
          have HCY : Hid (TCl U Y U.heap.size q uc iy m') := HC1.out.below hb
          have HNg : Hid (Y.heap.size ≠ g) := by show _ ≠ _; have h8 := hb.size; omega
          have e0 := (hb.cell (p := ⟨g, i * 6, none⟩) zg).trans a0
          have e1 := (hb.cell (p := ⟨g, i * 6 + 1, none⟩) zg).trans a1
          have e2 := (hb.cell (p := ⟨g, i * 6 + 2, none⟩) zg).trans a2
          have e3 := (hb.cell (p := ⟨g, i * 6 + 3, none⟩) zg).trans a3
          have e4 := (hb.cell (p := ⟨g, i * 6 + 4, none⟩) zg).trans a4
          have e5 := (hb.cell (p := ⟨g, i * 6 + 5, none⟩) zg).trans a5
          have zgY : g < Y.heap.size := Nat.lt_of_lt_of_le zg hb.size
          have hw1 : IntKind.i64.wrap (age + 1) = age + 1 := by rw [IntKind.wrap_i64]; omega
          obtain ⟨Z, eZ⟩ : ∃ Z : World, Z = Y.alloc (.cells #[.int .i64 jn, .int .i64 st, .slice ta tl tc, .slice aa al ac, .int .i64 asks, .int .i64 age] 47) := ⟨_, rfl⟩
          have bZ : Below Y.heap.size Y Z := by rw [eZ]; exact (Below.refl _ _).alloc (Nat.le_refl _) _
          have bxZ : BoxN Z Y.heap.size 6 [.int .i64 jn, .int .i64 st, .slice ta tl tc, .slice aa al ac, .int .i64 asks, .int .i64 age] := by rw [eZ]; exact boxn_new Y #[.int .i64 jn, .int .i64 st, .slice ta tl tc, .slice aa al ac, .int .i64 asks, .int .i64 age] 47 6 rfl
          go_upto_region 10 with (fail)
          rw [← eZ]
          clear eZ z0 z1 zq e0 a0 e1 a1 e2 a2 e3 a3 e4 a4 e5 a5 zgY zg KR
          have m5 : Z.cell? ⟨Y.heap.size, 5, none⟩ = some (.int .i64 age) := (bxZ.c 5 (by decide)).1
          have mf5 := (bxZ.c 5 (by decide)).2
          have mz := bxZ.lt
          obtain ⟨Z1, eZ1⟩ : ∃ X : World, X = Z.setCell ⟨Y.heap.size, 5, none⟩ (.int .i64 (age + 1)) := ⟨_, rfl⟩
          have bZ1 : Below Y.heap.size Y Z1 := by rw [eZ1]; exact bZ.setCell (p := ⟨Y.heap.size, 5, none⟩) (Nat.le_refl _) _
          have bx1 : BoxN Z1 Y.heap.size 6 [.int .i64 jn, .int .i64 st, .slice ta tl tc, .slice aa al ac, .int .i64 asks, .int .i64 (age + 1)] := by rw [eZ1]; exact bxZ.set 5 (by decide) (.int .i64 (age + 1))
          go_upto_region 11 with (fail)
          rw [← eZ1]
          clear eZ1 m5 mf5 mz bxZ bZ
          have HC2 : Hid (TCl U Z1 U.heap.size q uc iy m') := HCY.out.below bZ1
          have HCY2 : Hid (∀ Q, Below Y.heap.size Y Q → TCl U Q U.heap.size q uc iy m') := fun Q hQ => HCY.out.below hQ
          have bYZ1 := bZ1
          have hbZ1 : Below W.heap.size W Z1 := hbU.trans (HC2.out.held.bel.mono hbU.size)
          have HBx : Hid (BoxN Z1 Y.heap.size 6 [.int .i64 jn, .int .i64 st, .slice ta tl tc, .slice aa al ac, .int .i64 asks, .int .i64 (age + 1)]) := bx1
          have HTz : Hid (∀ Q, Below Z1.heap.size Z1 Q → IsTasks Q ta tl tc tasks) := fun Q hQ => HTs.out Q (hb.trans ((bZ1.trans (hQ.mono bZ1.size)).mono hb.size))
          clear HCY HTs HC1 hb bx1 bZ1
          obtain ⟨⟨x0, x1, x2, xz⟩, -, -⟩ := KC.out Z1 hbZ1
          have m0 : Z1.cell? ⟨Y.heap.size, 0, none⟩ = some (.int .i64 jn) := (HBx.out.c 0 (by decide)).1
          have m1 : Z1.cell? ⟨Y.heap.size, 1, none⟩ = some (.int .i64 st) := (HBx.out.c 1 (by decide)).1
          have m2 : Z1.cell? ⟨Y.heap.size, 2, none⟩ = some (.slice ta tl tc) := (HBx.out.c 2 (by decide)).1
          have m3 : Z1.cell? ⟨Y.heap.size, 3, none⟩ = some (.slice aa al ac) := (HBx.out.c 3 (by decide)).1
          have m4 : Z1.cell? ⟨Y.heap.size, 4, none⟩ = some (.int .i64 asks) := (HBx.out.c 4 (by decide)).1
          have m5 : Z1.cell? ⟨Y.heap.size, 5, none⟩ = some (.int .i64 (age + 1)) := (HBx.out.c 5 (by decide)).1
          have mz := HBx.out.lt
          by_cases hag1 : age + 1 < p
          · as_aux_lemma =>
            have HCX := HC2
            obtain ⟨g2, eg2, -, zg, -, hcj, hfj2⟩ := HCX.out.jobAt (i := i) hi
            have egg : g2 = g := by rw [HEg.out] at eg2; simp at eg2; exact eg2.symm
            subst egg
            clear eg2
            have n0 := hcj 0 (by decide)
            have n1 := hcj 1 (by decide)
            have n2 := hcj 2 (by decide)
            have n3 := hcj 3 (by decide)
            have n4 := hcj 4 (by decide)
            have n5 := hcj 5 (by decide)
            rw [← HJb.out] at n0 n1 n2 n3 n4 n5
            simp only [JbV.cells, List.getElem?_cons_zero, List.getElem?_cons_succ, Nat.add_zero] at n0 n1 n2 n3 n4 n5
            have w0 := hfj2 0 (by decide)
            have w1 := hfj2 1 (by decide)
            have w2 := hfj2 2 (by decide)
            have w3 := hfj2 3 (by decide)
            have w4 := hfj2 4 (by decide)
            have w5 := hfj2 5 (by decide)
            rw [Nat.add_zero] at w0
            have hne : Y.heap.size ≠ g2 := HNg.out
            obtain ⟨F9, eF9⟩ : ∃ X : World, X = ((((((Z1.setCell ⟨g2, i * 6, none⟩ (.int .i64 jn)).setCell ⟨g2, i * 6 + 1, none⟩ (.int .i64 st)).setCell ⟨g2, i * 6 + 2, none⟩ (.slice ta tl tc)).setCell ⟨g2, i * 6 + 3, none⟩ (.slice aa al ac)).setCell ⟨g2, i * 6 + 4, none⟩ (.int .i64 asks)).setCell ⟨g2, i * 6 + 5, none⟩ (.int .i64 (age + 1))) := ⟨_, rfl⟩
            have HC9 : Hid (TCl U F9 U.heap.size q { uc with js := uc.js.set i ⟨jn, st, ta, tl, tc, aa, al, ac, asks, (age + 1), tasks, asked⟩ } iy m') := by
              show TCl _ _ _ _ _ _ _
              rw [eF9]
              exact HCX.out.jobSet hi HEg.out HJb.out st asks (age + 1)
            have q1 : Z1.cell? ⟨q, 1, none⟩ = some (.slice (some ⟨g2, 0, none⟩) uc.jl uc.jc) := by rw [← HEg.out]; exact (HCX.out.held.box.c 1 (by decide)).1
            have zq := HCX.out.held.box.lt
            clear hcj hfj2
            have HD : Hid (DTick U q ⟨s, ls, p, l, me⟩ next js (k + 1) F9) := HNext.out F9 _ iy m' HC9.out HMe.out (aged_set HJb.out hag1) (pw_set HPW.out (by rw [← HJb.out])) (by rw [List.length_set]; exact HL6.out)
            clear HC9 HCX HC2 HNext HEnd HKe HTz HBx
            go_upto_region 7 with (fail)
            rw [← eF9]
            clear eF9 n0 w0 m0 n1 w1 m1 n2 w2 m2 n3 w3 m3 n4 w4 m4 n5 w5 m5 q1 zq zg x0 x1 x2 xz mz
            go_wp2
            go_roundw
            case rel => exact ⟨k + 1, by go_num, by omega, HD⟩
            case measure => simp [intOf]; omega
          · by_cases hst : st = 3
            · as_aux_lemma =>
              subst hst
              obtain ⟨Z2, eZ2⟩ : ∃ X : World, X = Z1.setCell ⟨Y.heap.size, 5, none⟩ (.int .i64 0) := ⟨_, rfl⟩
              have mf5 := (HBx.out.c 5 (by decide)).2
              have bZ2 : Below Y.heap.size Z1 Z2 := by rw [eZ2]; exact (Below.refl _ _).setCell (p := ⟨Y.heap.size, 5, none⟩) (Nat.le_refl _) _
              have hY2 : Y.heap.size ≤ Z1.heap.size := Nat.le_of_lt mz
              have HBx2 : Hid (BoxN Z2 Y.heap.size 6 [.int .i64 jn, .int .i64 3, .slice ta tl tc, .slice aa al ac, .int .i64 asks, .int .i64 0]) := by show BoxN _ _ _ _; rw [eZ2]; exact HBx.out.set 5 (by decide) (.int .i64 0)
              have HCX : Hid (TCl U Z2 U.heap.size q uc iy m') := by
                show TCl _ _ _ _ _ _ _
                exact HCY2.out Z2 (by rw [eZ2]; exact bYZ1.setCell (p := ⟨Y.heap.size, 5, none⟩) (Nat.le_refl _) _)
              go_upto_region 15 with (fail)
              rw [← eZ2]
              clear eZ2 m0 m1 m2 m3 m4 m5 mf5 mz x0 x1 x2 xz
              have m0 : Z2.cell? ⟨Y.heap.size, 0, none⟩ = some (.int .i64 jn) := (HBx2.out.c 0 (by decide)).1
              have m1 : Z2.cell? ⟨Y.heap.size, 1, none⟩ = some (.int .i64 3) := (HBx2.out.c 1 (by decide)).1
              have m2 : Z2.cell? ⟨Y.heap.size, 2, none⟩ = some (.slice ta tl tc) := (HBx2.out.c 2 (by decide)).1
              have m3 : Z2.cell? ⟨Y.heap.size, 3, none⟩ = some (.slice aa al ac) := (HBx2.out.c 3 (by decide)).1
              have m4 : Z2.cell? ⟨Y.heap.size, 4, none⟩ = some (.int .i64 asks) := (HBx2.out.c 4 (by decide)).1
              have m5 : Z2.cell? ⟨Y.heap.size, 5, none⟩ = some (.int .i64 0) := (HBx2.out.c 5 (by decide)).1
              have mz := HBx2.out.lt
              obtain ⟨g2, eg2, -, zg, -, hcj, hfj2⟩ := HCX.out.jobAt (i := i) hi
              have egg : g2 = g := by rw [HEg.out] at eg2; simp at eg2; exact eg2.symm
              subst egg
              clear eg2
              have n0 := hcj 0 (by decide)
              have n1 := hcj 1 (by decide)
              have n2 := hcj 2 (by decide)
              have n3 := hcj 3 (by decide)
              have n4 := hcj 4 (by decide)
              have n5 := hcj 5 (by decide)
              rw [← HJb.out] at n0 n1 n2 n3 n4 n5
              simp only [JbV.cells, List.getElem?_cons_zero, List.getElem?_cons_succ, Nat.add_zero] at n0 n1 n2 n3 n4 n5
              have w0 := hfj2 0 (by decide)
              have w1 := hfj2 1 (by decide)
              have w2 := hfj2 2 (by decide)
              have w3 := hfj2 3 (by decide)
              have w4 := hfj2 4 (by decide)
              have w5 := hfj2 5 (by decide)
              rw [Nat.add_zero] at w0
              have hne : Y.heap.size ≠ g2 := HNg.out
              obtain ⟨F9, eF9⟩ : ∃ X : World, X = ((((((Z2.setCell ⟨g2, i * 6, none⟩ (.int .i64 jn)).setCell ⟨g2, i * 6 + 1, none⟩ (.int .i64 3)).setCell ⟨g2, i * 6 + 2, none⟩ (.slice ta tl tc)).setCell ⟨g2, i * 6 + 3, none⟩ (.slice aa al ac)).setCell ⟨g2, i * 6 + 4, none⟩ (.int .i64 asks)).setCell ⟨g2, i * 6 + 5, none⟩ (.int .i64 0)) := ⟨_, rfl⟩
              have HC9 : Hid (TCl U F9 U.heap.size q { uc with js := uc.js.set i ⟨jn, 3, ta, tl, tc, aa, al, ac, asks, 0, tasks, asked⟩ } iy m') := by
                show TCl _ _ _ _ _ _ _
                rw [eF9]
                exact HCX.out.jobSet hi HEg.out HJb.out 3 asks 0
              have q1 : Z2.cell? ⟨q, 1, none⟩ = some (.slice (some ⟨g2, 0, none⟩) uc.jl uc.jc) := by rw [← HEg.out]; exact (HCX.out.held.box.c 1 (by decide)).1
              have zq := HCX.out.held.box.lt
              clear hcj hfj2
              have hTo := told_any F9 HC9.out ⟨jn, 3, ta, tl, tc, aa, al, ac, asks, 0, tasks, asked⟩ (fun U2 ma mc ms r hU2 => by
                have h8 := hU2.isSites (i := i) hi
                have e8 : (uc.js.set i ⟨jn, 3, ta, tl, tc, aa, al, ac, asks, 0, tasks, asked⟩).getD i default = ⟨jn, 3, ta, tl, tc, aa, al, ac, asks, 0, tasks, asked⟩ := by
                  have h7 : i < uc.js.length := by rw [HC2.out.lens.1]; exact hi
                  simp [List.getD, h7]
                simp only [] at h8
                rw [e8] at h8
                exact h8) (by show asked.length ≤ 1048576; have := HAk.out; omega) HFit.out.2 HMl.out
              simp only [JbV.val] at hTo
              have HTo : Hid (Calls Try.prog 38 #[.int .i64 me, .pointer (some ⟨q, 0, none⟩), .agg #[.int .i64 jn, .int .i64 3, .slice ta tl tc, .slice aa al ac, .int .i64 asks, .int .i64 0]] F9 fun e X' => ToldIs U X' U.heap.size q { uc with js := uc.js.set i ⟨jn, 3, ta, tl, tc, aa, al, ac, asks, 0, tasks, asked⟩ } jn asked iy m' e) := by
                have e8 : ({ uc with js := uc.js.set i ⟨jn, 3, ta, tl, tc, aa, al, ac, asks, 0, tasks, asked⟩ } : CkV).me = me := HMe.out
                have h8 := hTo
                have h7 : ∀ (m : Int), m = me → Calls Try.prog 38 #[.int .i64 m, .pointer (some ⟨q, 0, none⟩), .agg #[.int .i64 jn, .int .i64 3, .slice ta tl tc, .slice aa al ac, .int .i64 asks, .int .i64 0]] F9 (fun e X' => ToldIs U X' U.heap.size q { uc with js := uc.js.set i ⟨jn, 3, ta, tl, tc, aa, al, ac, asks, 0, tasks, asked⟩ } jn asked iy m' e) → Calls Try.prog 38 #[.int .i64 me, .pointer (some ⟨q, 0, none⟩), .agg #[.int .i64 jn, .int .i64 3, .slice ta tl tc, .slice aa al ac, .int .i64 asks, .int .i64 0]] F9 (fun e X' => ToldIs U X' U.heap.size q { uc with js := uc.js.set i ⟨jn, 3, ta, tl, tc, aa, al, ac, asks, 0, tasks, asked⟩ } jn asked iy m' e) := fun m em hm => by subst em; exact hm
                exact h7 _ e8 h8
              have HD : Hid (∀ X', ToldIs U X' U.heap.size q { uc with js := uc.js.set i ⟨jn, 3, ta, tl, tc, aa, al, ac, asks, 0, tasks, asked⟩ } jn asked iy m' (.returned (.tuple #[])) → DTick U q ⟨s, ls, p, l, me⟩ next js (k + 1) X') := fun X' h8 => by
                obtain ⟨-, ma, mc, r, h8⟩ := h8
                exact HNext.out X' _ iy _ h8 HMe.out (aged_tell HJb.out hag1 rfl HMe.out ma mc) (pw_set HPW.out (by rw [← HJb.out])) (by show (uc.js.set i _).length ≤ 6; rw [List.length_set]; exact HL6.out)
              have bxF : Hid (BoxN F9 Y.heap.size 6 [.int .i64 jn, .int .i64 3, .slice ta tl tc, .slice aa al ac, .int .i64 asks, .int .i64 0]) := by
                show BoxN _ _ _ _
                rw [eF9]
                have h8 : Y.heap.size ≠ g2 := hne
                exact (((((HBx2.out.far h8).far h8).far h8).far h8).far h8).far h8
              clear hTo HC9 HCX HC2 HNext HEnd HKe HTz HBx HBx2
              go_upto_region 16 with (fail)
              rw [← eF9]
              clear eF9 n0 w0 m0 n1 w1 m1 n2 w2 m2 n3 w3 m3 n4 w4 m4 n5 w5 m5 q1 zq zg mz
              have m0 : F9.cell? ⟨Y.heap.size, 0, none⟩ = some (.int .i64 jn) := (bxF.out.c 0 (by decide)).1
              have m1 : F9.cell? ⟨Y.heap.size, 1, none⟩ = some (.int .i64 3) := (bxF.out.c 1 (by decide)).1
              have m2 : F9.cell? ⟨Y.heap.size, 2, none⟩ = some (.slice ta tl tc) := (bxF.out.c 2 (by decide)).1
              have m3 : F9.cell? ⟨Y.heap.size, 3, none⟩ = some (.slice aa al ac) := (bxF.out.c 3 (by decide)).1
              have m4 : F9.cell? ⟨Y.heap.size, 4, none⟩ = some (.int .i64 asks) := (bxF.out.c 4 (by decide)).1
              have m5 : F9.cell? ⟨Y.heap.size, 5, none⟩ = some (.int .i64 0) := (bxF.out.c 5 (by decide)).1
              have mz := bxF.out.lt
              go_wp2_with (go_at_call 38; refine HTo.out.mono ?_; rintro e X' hX'; obtain rfl : e = .returned (.tuple #[]) := hX'.1; have HD5 : Hid (DTick U q ⟨s, ls, p, l, me⟩ next js (k + 1) X') := HD.out X' hX'; clear hX')
              go_roundw
              case rel => exact ⟨k + 1, by go_num, by omega, HD5⟩
              case measure => simp [intOf]; omega
            · by_cases hs2 : st = 2
              · as_aux_lemma =>
                subst hs2
                obtain ⟨RW, eRW⟩ : ∃ X : World, X = Z1.alloc (.cells #[.int .i64 me, .int .i64 4, .int .i64 jn, .int .i64 0, .int .i64 0, .int .i64 14] 62) := ⟨_, rfl⟩
                have bRW : Below Z1.heap.size Z1 RW := by rw [eRW]; exact (Below.refl _ _).alloc (Nat.le_refl _) _
                have bxR : Hid (BoxN RW Z1.heap.size 6 [.int .i64 me, .int .i64 4, .int .i64 jn, .int .i64 0, .int .i64 0, .int .i64 14]) := by show BoxN _ _ _ _; rw [eRW]; exact boxn_new Z1 #[.int .i64 me, .int .i64 4, .int .i64 jn, .int .i64 0, .int .i64 0, .int .i64 14] 62 6 rfl
                have HBR : Hid (BoxN RW Y.heap.size 6 [.int .i64 jn, .int .i64 2, .slice ta tl tc, .slice aa al ac, .int .i64 asks, .int .i64 (age + 1)]) := HBx.out.below bRW HBx.out.lt
                go_upto_region 18 with (fail)
                rw [← eRW]
                clear eRW m0 m1 m2 m3 m4 m5 mz x0 x1 x2 xz
                have m0 : RW.cell? ⟨Y.heap.size, 0, none⟩ = some (.int .i64 jn) := (HBR.out.c 0 (by decide)).1
                have m1 : RW.cell? ⟨Y.heap.size, 1, none⟩ = some (.int .i64 2) := (HBR.out.c 1 (by decide)).1
                have m2 : RW.cell? ⟨Y.heap.size, 2, none⟩ = some (.slice ta tl tc) := (HBR.out.c 2 (by decide)).1
                have m3 : RW.cell? ⟨Y.heap.size, 3, none⟩ = some (.slice aa al ac) := (HBR.out.c 3 (by decide)).1
                have m4 : RW.cell? ⟨Y.heap.size, 4, none⟩ = some (.int .i64 asks) := (HBR.out.c 4 (by decide)).1
                have m5 : RW.cell? ⟨Y.heap.size, 5, none⟩ = some (.int .i64 (age + 1)) := (HBR.out.c 5 (by decide)).1
                have mz := HBR.out.lt
                have rr1 : RW.cell? ⟨Z1.heap.size, 1, none⟩ = some (.int .i64 4) := (bxR.out.c 1 (by decide)).1
                have rf1 := (bxR.out.c 1 (by decide)).2
                have rr3 : RW.cell? ⟨Z1.heap.size, 3, none⟩ = some (.int .i64 0) := (bxR.out.c 3 (by decide)).1
                have rf3 := (bxR.out.c 3 (by decide)).2
                have rz := bxR.out.lt
                go_upto_region 25 with (fail)
                clear m0 m1 m2 m3 m4 m5 mz rr1 rf1 rr3 rf3 rz
                have HCX : Hid (TCl U RW U.heap.size q uc iy m') := HC2.out.below bRW
                have HPb : Hid ((uc.pl + 1) * 48 ≤ 140737488355328) := by show (uc.pl + 1) * 48 ≤ _; omega
                obtain ⟨iR, ER⟩ := rpElem
                have KG : Hid (∀ Q, Below RW.heap.size RW Q → Q.cell? ⟨Z1.heap.size, 0, none⟩ = some (.int .i64 me) ∧ Q.cell? ⟨Z1.heap.size, 1, none⟩ = some (.int .i64 4) ∧ Q.cell? ⟨Z1.heap.size, 2, none⟩ = some (.int .i64 jn) ∧ Q.cell? ⟨Z1.heap.size, 3, none⟩ = some (.int .i64 0) ∧ Q.cell? ⟨Z1.heap.size, 4, none⟩ = some (.int .i64 0) ∧ Q.cell? ⟨Z1.heap.size, 5, none⟩ = some (.int .i64 14) ∧ Q.cell? ⟨q, 4, none⟩ = some (.slice uc.pa uc.pl uc.pc) ∧ Z1.heap.size < Q.heap.size ∧ q < Q.heap.size ∧ TCl U Q U.heap.size q uc iy m') := fun Q hQ => by
                  have h1 := bxR.out.below hQ bxR.out.lt
                  have h2 := HCX.out.below hQ
                  exact ⟨(h1.c 0 (by decide)).1, (h1.c 1 (by decide)).1, (h1.c 2 (by decide)).1, (h1.c 3 (by decide)).1, (h1.c 4 (by decide)).1, (h1.c 5 (by decide)).1, (h2.held.box.c 4 (by decide)).1, h1.lt, h2.held.box.lt, h2⟩
                refine wp_region_seq [128, 129, 130, 131, 132, 133] (fun L T u => ∃ (aN : Option Addr) (cN : Nat) (bA : Nat), True ∧ (L 0 = true → T 128 = .pointer (some ⟨q, 4, none⟩)) ∧ (L 1 = true → T 129 = .slice uc.pa uc.pl uc.pc) ∧ (L 2 = true → T 130 = .agg #[.int .i64 me, .int .i64 4, .int .i64 jn, .int .i64 0, .int .i64 0, .int .i64 14]) ∧ (L 4 = true → T 132 = .slice aN (uc.pl + 1) cN) ∧ (L 5 = true → T 133 = .pointer (some ⟨q, 4, none⟩)) ∧ (L 4 = false → Below RW.heap.size RW u) ∧ (L 4 = true → L 6 = false → TRep U u U.heap.size q uc iy m' aN cN (⟨me, 4, jn, 0, 0, 14⟩ : RpV)) ∧ (L 6 = true → TCl U u U.heap.size q ({ uc with pa := aN, pl := uc.pl + 1, pc := cN, ps := uc.ps ++ [(⟨me, 4, jn, 0, 0, 14⟩ : RpV)] } : CkV) iy m') ∧ (L 3 = true → L 4 = false → (T 131 = .slice (some ⟨bA, 0, none⟩) 1 1 ∧ RW.heap.size ≤ bA ∧ bA < u.heap.size)) ∧ (L 3 = true → L 4 = false → IsRow 6 RpV.cells u (some ⟨bA, 0, none⟩) 1 1 [(⟨me, 4, jn, 0, 0, 14⟩ : RpV)])) (by decide) (by kernel_rfl) (by kernel_rfl) ?_ ?_ ?_
                · exact ⟨none, 0, 0, trivial, nofun, nofun, nofun, nofun, nofun, fun _ => (Below.refl _ _), nofun, nofun, nofun, nofun⟩
                · refine ⟨?_, ?_, ?_, ?_, ?_, ?_, ?_, trivial⟩
                  · rintro L T u hd hk hcl ⟨aN, cN, bA, hb, p0, p1, p2, p4, p5, c1, c2, c3, pa3, bv3⟩ K hK
                    simp only [fr, Act.put, List.setIfInBounds_toArray, List.set_cons_zero, List.set_cons_succ, updO] at hK ⊢
                    simp [Region.binds] at hd
                    rw [if_pos (by rfl)]
                    simp only [Oper.wpv]
                    go_simp
                    exact hK _ _ ⟨aN, cN, bA, hb, fun _ => rfl, p1, p2, p4, p5, c1, c2, c3, pa3, bv3⟩
                  · rintro L T u hd hk hcl ⟨aN, cN, bA, hb, p0, p1, p2, p4, p5, c1, c2, c3, pa3, bv3⟩ K hK
                    simp only [fr, Act.put, List.setIfInBounds_toArray, List.set_cons_zero, List.set_cons_succ, updO] at hK ⊢
                    simp [Region.binds] at hd
                    have g0 := p0 (by simp [hd])
                    have k4 := hcl 4 _ rfl
                    simp [Region.binds] at k4
                    have hE : L 4 = false := by cases h : L 4 with | false => rfl | true => have a4 := k4 h; simp [hk] at a4
                    obtain ⟨r0, r1, r2, r3, r4, r5, q4, rz, zq, -⟩ := KG.out u (c1 hE)
                    rw [if_pos (by rfl)]
                    simp only [Oper.wpv]
                    go_simp
                    exact hK _ _ ⟨aN, cN, bA, hb, p0, fun _ => rfl, p2, p4, p5, c1, c2, c3, pa3, bv3⟩
                  · rintro L T u hd hk hcl ⟨aN, cN, bA, hb, p0, p1, p2, p4, p5, c1, c2, c3, pa3, bv3⟩ K hK
                    simp only [fr, Act.put, List.setIfInBounds_toArray, List.set_cons_zero, List.set_cons_succ, updO] at hK ⊢
                    simp [Region.binds] at hd
                    have k4 := hcl 4 _ rfl
                    simp [Region.binds] at k4
                    have k3 := hcl 3 _ rfl
                    simp [Region.binds] at k3
                    have hE : L 4 = false := by cases h : L 4 with | false => rfl | true => have a4 := k4 h; have a3 := k3 (by simp [a4]); simp [hk] at a3
                    obtain ⟨r0, r1, r2, r3, r4, r5, q4, rz, zq, -⟩ := KG.out u (c1 hE)
                    rw [if_pos (by rfl)]
                    simp only [Oper.wpv]
                    go_simp
                    exact hK _ _ ⟨aN, cN, bA, hb, p0, p1, fun _ => rfl, p4, p5, c1, c2, c3, pa3, bv3⟩
                  · rintro L T u hd hk hcl ⟨aN, cN, bA, hb, p0, p1, p2, p4, p5, c1, c2, c3, pa3, bv3⟩ K hK
                    simp only [fr, Act.put, List.setIfInBounds_toArray, List.set_cons_zero, List.set_cons_succ, updO] at hK ⊢
                    simp [Region.binds] at hd
                    have k4 := hcl 4 _ rfl
                    simp [Region.binds] at k4
                    have hE : L 4 = false := by cases h : L 4 with | false => rfl | true => have a4 := k4 h; simp [hk] at a4
                    have g2 := p2 (by simp [hd])
                    have k6 := hcl 6 _ rfl
                    simp [Region.binds] at k6
                    have hg : Below u.heap.size u (u.alloc (.cells #[.int .i64 me, .int .i64 4, .int .i64 jn, .int .i64 0, .int .i64 0, .int .i64 14] 62)) := (Below.refl _ _).alloc (Nat.le_refl _) _
                    rw [if_pos (by rfl)]
                    simp only [Oper.wpv]
                    refine wpv_reply (.tmp 130) (by rfl) g2 ?_
                    exact hK _ _ ⟨aN, cN, u.heap.size, hb, p0, p1, p2, p4, p5, fun _ => nT (c1 hE) hg, fun h _ => absurd (show L 4 = true from h) (by simp [hE]), fun h0 => ((c3 h0)).below hg, fun _ _ => ⟨rfl, (c1 hE).size, by simp⟩, fun _ _ => rowOne (cells := RpV.cells) (k := 6) u #[.int .i64 me, .int .i64 4, .int .i64 jn, .int .i64 0, .int .i64 0, .int .i64 14] 62 (⟨me, 4, jn, 0, 0, 14⟩ : RpV) rfl rfl⟩
                  · rintro L T u hd hk hcl ⟨aN, cN, bA, hb, p0, p1, p2, p4, p5, c1, c2, c3, pa3, bv3⟩ K hK
                    simp only [fr, Act.put, List.setIfInBounds_toArray, List.set_cons_zero, List.set_cons_succ, updO] at hK ⊢
                    simp [Region.binds] at hd
                    have hE : L 4 = false := hk
                    have g1 := p1 (by simp [hd])
                    have g3 := pa3 (by simp [hd]) hE
                    have k6 := hcl 6 _ rfl
                    simp [Region.binds] at k6
                    have hrw := bv3 (by simp [hd]) hE
                    have hT := (KG.out u (c1 hE)).2.2.2.2.2.2.2.2.2
                    have hOm := hT.held.own.own 3 ⟨62, 6, .slice uc.pa uc.pl uc.pc, uc.pl, flat RpV.cells uc.ps⟩ rfl
                    simp only [] at hOm
                    have hBu : U.heap.size ≤ u.heap.size := Nat.le_trans hT.held.le (Nat.le_of_lt hT.held.box.lt)
                    rw [if_pos (by rfl)]
                    simp only [Oper.wpv]
                    refine St.wpv_append_row ER (.tmp 129) (.tmp 131) (by rfl) U.heap.size (.slice uc.pa uc.pl uc.pc) uc.pl uc.ps g1 hOm (some ⟨bA, 0, none⟩) 1 1 [(⟨me, 4, jn, 0, 0, 14⟩ : RpV)] (g3.1) hrw (by unfold maxLen; omega) (by exact HPb.out) hBu ?_
                    intro aM cM u6 own6 gr6 at6
                    have hD1 := hT.appR gr6 own6 at6
                    exact hK _ _ ⟨aM, cM, bA, hb, p0, p1, p2, fun _ => rfl, p5, fun h0 => Bool.noConfusion (show true = false from h0), fun _ _ => hD1, fun h => absurd (show L 6 = true from h) (by intro hh; have a6 := k6 hh; simp [hk] at a6), fun h0 h1 => Bool.noConfusion (show true = false from h1), fun h0 h1 => Bool.noConfusion (show true = false from h1)⟩
                  · rintro L T u hd hk hcl ⟨aN, cN, bA, hb, p0, p1, p2, p4, p5, c1, c2, c3, pa3, bv3⟩ K hK
                    simp only [fr, Act.put, List.setIfInBounds_toArray, List.set_cons_zero, List.set_cons_succ, updO] at hK ⊢
                    simp [Region.binds] at hd
                    rw [if_pos (by rfl)]
                    simp only [Oper.wpv]
                    go_simp
                    exact hK _ _ ⟨aN, cN, bA, hb, p0, p1, p2, p4, fun _ => rfl, c1, c2, c3, pa3, bv3⟩
                  · rintro L T u hd hk hcl ⟨aN, cN, bA, hb, p0, p1, p2, p4, p5, c1, c2, c3, pa3, bv3⟩ K hK
                    simp only [fr, Act.put, List.setIfInBounds_toArray, List.set_cons_zero, List.set_cons_succ, updO] at hK ⊢
                    simp [Region.binds] at hd
                    have g4 := p4 (by simp [hd])
                    have g5 := p5 (by simp [hd])
                    have a4 : L 4 = true := by simp [hd]
                    have hE1 : L 4 = true := a4
                    have D1 := c2 hE1 hk
                    obtain ⟨qc2, qf2, qz2⟩ := D1.cell
                    rw [if_pos (by rfl)]
                    simp only [Oper.wpv]
                    go_simp
                    exact hK _ _ ⟨aN, cN, bA, hb, p0, p1, p2, p4, p5, fun h0 => Bool.noConfusion (hE1.symm.trans (show L 4 = false from h0)), fun _ h => Bool.noConfusion (show true = false from h), fun _ => D1.tell, fun h0 h1 => Bool.noConfusion (hE1.symm.trans (show L 4 = false from h1)), fun h0 h1 => Bool.noConfusion (hE1.symm.trans (show L 4 = false from h1))⟩
                · rintro L T u hl ⟨aN, cN, bA, hb, p0, p1, p2, p4, p5, c1, c2, c3, pa3, bv3⟩
                  simp only [fr, Act.put, List.setIfInBounds_toArray, List.set_cons_zero, List.set_cons_succ]
                  have hC6 := c3 (hl 6 (by decide))
                  clear p0 p1 p2 p4 p5 c1 c2 c3 pa3 bv3 hl KG HPb HCX nT
                  obtain ⟨F9, eF9⟩ : ∃ X : World, X = u := ⟨_, rfl⟩
                  subst eF9
                  obtain ⟨a6, ea6⟩ : ∃ x : Option Addr, x = aN := ⟨_, rfl⟩
                  subst ea6
                  obtain ⟨c6, ec6⟩ : ∃ x : Nat, x = cN := ⟨_, rfl⟩
                  subst ec6
                  have HB9 : Hid (Below W.heap.size W F9) := hbU.trans (hC6.held.bel.mono hbU.size)
                  have HEn : Hid (Calls Try.prog 31 #[.agg #[.int .i64 s, .slice a len cap, .int .i64 p], .int .i64 l, .int .i64 me, .pointer (some ⟨q, 0, none⟩), .int .i64 (i : Int)] F9 fun e X' => EndedIs U X' U.heap.size q { uc with pa := a6, pl := uc.pl + 1, pc := c6, ps := uc.ps ++ [⟨me, 4, jn, 0, 0, 14⟩] } jn (handsOf s ls p l tasks) e) := HEnd.out F9 _ iy m' hC6 HMe.out rfl rfl rfl
                  have HD : Hid (∀ X', EndedIs U X' U.heap.size q { uc with pa := a6, pl := uc.pl + 1, pc := c6, ps := uc.ps ++ [⟨me, 4, jn, 0, 0, 14⟩] } jn (handsOf s ls p l tasks) (.returned (.tuple #[])) → DTick U q ⟨s, ls, p, l, me⟩ next js (k + 1) X') := fun X' h8 => by
                    obtain ⟨-, ma, mc, ja9, jc9, ix9, m9, h8⟩ := h8
                    have e8 : ∀ m9 : Int, m9 = uc.me → ({ toldV { uc with pa := a6, pl := uc.pl + 1, pc := c6, ps := uc.ps ++ [⟨m9, 4, jn, 0, 0, 14⟩] } ma mc jn false (handsOf s ls p l tasks) with ja := ja9, jl := (kept jn uc.js).length, jc := jc9, js := kept jn uc.js } : CkV).tn = uc.tn.aged ⟨s, ls, p, l, me⟩ i := fun m9 em => by
                      subst em
                      have e7 := aged_end1 (C := ⟨s, ls, p, l, me⟩) (i := i) HJb.out hag1 rfl HMe.out ma ja9 a6 mc jc9 c6
                      exact e7
                    exact HNext.out X' _ ix9 m9 h8 HMe.out (e8 me HMe.out.symm) HKe.out HKl.out
                  clear hC6 HEnd HNext HKe
                  obtain ⟨⟨x0, x1, x2, xz⟩, -, -⟩ := KC.out F9 HB9.out
                  go_wp2_with (go_at_call 31; refine HEn.out.mono ?_; rintro e X' hX'; obtain rfl : e = .returned (.tuple #[]) := hX'.1; have HD5 : Hid (DTick U q ⟨s, ls, p, l, me⟩ next js (k + 1) X') := HD.out X' hX'; clear hX')
                  go_roundw
                  case rel => exact ⟨k + 1, by go_num, by omega, HD5⟩
                  case measure => simp [intOf]; omega
              · have hs1' : st = 1 := by omega
                subst hs1'
                clear hst hs2
                obtain ⟨RW, eRW⟩ : ∃ X : World, X = Z1.alloc (.cells #[.int .i64 me, .int .i64 4, .int .i64 jn, .int .i64 0, .int .i64 0, .int .i64 14] 62) := ⟨_, rfl⟩
                have bRW : Below Z1.heap.size Z1 RW := by rw [eRW]; exact (Below.refl _ _).alloc (Nat.le_refl _) _
                have bxR : Hid (BoxN RW Z1.heap.size 6 [.int .i64 me, .int .i64 4, .int .i64 jn, .int .i64 0, .int .i64 0, .int .i64 14]) := by show BoxN _ _ _ _; rw [eRW]; exact boxn_new Z1 #[.int .i64 me, .int .i64 4, .int .i64 jn, .int .i64 0, .int .i64 0, .int .i64 14] 62 6 rfl
                have HBR : Hid (BoxN RW Y.heap.size 6 [.int .i64 jn, .int .i64 1, .slice ta tl tc, .slice aa al ac, .int .i64 asks, .int .i64 (age + 1)]) := HBx.out.below bRW HBx.out.lt
                go_upto_region 18 with (fail)
                rw [← eRW]
                clear eRW m0 m1 m2 m3 m4 m5 mz x0 x1 x2 xz
                have m0 : RW.cell? ⟨Y.heap.size, 0, none⟩ = some (.int .i64 jn) := (HBR.out.c 0 (by decide)).1
                have m1 : RW.cell? ⟨Y.heap.size, 1, none⟩ = some (.int .i64 1) := (HBR.out.c 1 (by decide)).1
                have m2 : RW.cell? ⟨Y.heap.size, 2, none⟩ = some (.slice ta tl tc) := (HBR.out.c 2 (by decide)).1
                have m3 : RW.cell? ⟨Y.heap.size, 3, none⟩ = some (.slice aa al ac) := (HBR.out.c 3 (by decide)).1
                have m4 : RW.cell? ⟨Y.heap.size, 4, none⟩ = some (.int .i64 asks) := (HBR.out.c 4 (by decide)).1
                have m5 : RW.cell? ⟨Y.heap.size, 5, none⟩ = some (.int .i64 (age + 1)) := (HBR.out.c 5 (by decide)).1
                have mz := HBR.out.lt
                have rr1 : RW.cell? ⟨Z1.heap.size, 1, none⟩ = some (.int .i64 4) := (bxR.out.c 1 (by decide)).1
                have rf1 := (bxR.out.c 1 (by decide)).2
                have rr3 : RW.cell? ⟨Z1.heap.size, 3, none⟩ = some (.int .i64 0) := (bxR.out.c 3 (by decide)).1
                have rf3 := (bxR.out.c 3 (by decide)).2
                have rz := bxR.out.lt
                by_cases ht0 : tl = 0
                · as_aux_lemma =>
                  have hw9 : Hid (waitB (⟨jn, 1, ta, tl, tc, aa, al, ac, asks, age, tasks, asked⟩ : JbV) = false) := by
                    show _ = _
                    unfold waitB
                    have h9 : tasks.length = tl := HFit.out.1
                    rw [show ((⟨jn, 1, ta, tl, tc, aa, al, ac, asks, age, tasks, asked⟩ : JbV).tasks.length) = 0 by show tasks.length = 0; omega]
                    rfl
                  subst ht0
                  go_upto_region 26 with (fail)
                  clear m0 m1 m2 m3 m4 m5 mz rr1 rf1 rr3 rf3 rz
                  have HCX : Hid (TCl U RW U.heap.size q uc iy m') := HC2.out.below bRW
                  have HB9 : Hid (Below W.heap.size W RW) := hbU.trans (HCX.out.held.bel.mono hbU.size)
                  have HEn : Hid (Calls Try.prog 31 #[.agg #[.int .i64 s, .slice a len cap, .int .i64 p], .int .i64 l, .int .i64 me, .pointer (some ⟨q, 0, none⟩), .int .i64 (i : Int)] RW fun e X' => EndedIs U X' U.heap.size q uc jn (handsOf s ls p l tasks) e) := HEnd.out RW _ iy m' HCX.out HMe.out rfl rfl rfl
                  have HD : Hid (∀ X', EndedIs U X' U.heap.size q uc jn (handsOf s ls p l tasks) (.returned (.tuple #[])) → DTick U q ⟨s, ls, p, l, me⟩ next js (k + 1) X') := fun X' h8 => by
                    obtain ⟨-, ma, mc, ja9, jc9, ix9, m9, h8⟩ := h8
                    exact HNext.out X' _ ix9 m9 h8 HMe.out (aged_end3 (C := ⟨s, ls, p, l, me⟩) (i := i) HJb.out hag1 (by show ¬ (1 : Int) = 3; decide) (by show ¬ (1 : Int) = 2; decide) hw9.out HMe.out ma ja9 mc jc9) HKe.out HKl.out
                  clear HCX HEnd HNext HKe
                  obtain ⟨⟨x0, x1, x2, xz⟩, -, -⟩ := KC.out RW HB9.out
                  go_wp2_with (go_at_call 31; refine HEn.out.mono ?_; rintro e X' hX'; obtain rfl : e = .returned (.tuple #[]) := hX'.1; have HD5 : Hid (DTick U q ⟨s, ls, p, l, me⟩ next js (k + 1) X') := HD.out X' hX'; clear hX')
                  go_roundw
                  case rel => exact ⟨k + 1, by go_num, by omega, HD5⟩
                  case measure => simp [intOf]; omega
                · obtain ⟨tm, rfl⟩ : ∃ tm, tl = tm + 1 := ⟨tl - 1, by omega⟩
                  have htk := HTz.out RW bRW
                  obtain ⟨bt9, ot9, rfl, ztk, hct⟩ := htk.2.2.2.2 (by omega)
                  have htc : tm < tc := Nat.lt_of_lt_of_le (Nat.lt_succ_self tm) htk.2.1
                  have htm := htk.2.2.1
                  unfold maxLen at htm
                  have hcl := hct tm (Nat.lt_succ_self tm)
                  have hn1 : IntKind.i64.wrap (((tm + 1 : Nat) : Int) - 1) = (tm : Int) := by rw [IntKind.wrap_i64]; omega
                  have hzt : bt9 < Z1.heap.size := by
                    obtain ⟨b2, o2, e2, z2, -⟩ := (HTz.out Z1 (Below.refl _ _)).2.2.2.2 (by omega)
                    simp at e2
                    omega
                  have hneT1 : ¬ bt9 = Z1.heap.size := by omega
                  have hneT2 : ¬ Z1.heap.size = bt9 := by omega
                  have ht1 : (0 : Int) < ((tm + 1 : Nat) : Int) := by omega
                  have ht2 : (tm : Int) < ((tm + 1 : Nat) : Int) := by omega
                  have hLast : Hid (lastT (⟨jn, 1, some ⟨bt9, ot9, none⟩, tm + 1, tc, aa, al, ac, asks, age, tasks, asked⟩ : JbV) = tasks.getD tm default) := by
                    show _ = _
                    unfold lastT
                    have h9 : tasks.length = tm + 1 := HFit.out.1
                    show tasks.getD (tasks.length - 1) default = _
                    rw [h9, Nat.add_sub_cancel]
                  have hWt : Hid (waitB (⟨jn, 1, some ⟨bt9, ot9, none⟩, tm + 1, tc, aa, al, ac, asks, age, tasks, asked⟩ : JbV) = !(tasks.getD tm default).done) := by
                    show _ = _
                    unfold waitB
                    have h9 : tasks.length = tm + 1 := HFit.out.1
                    show (decide (0 < tasks.length) && !(tasks.getD (tasks.length - 1) default).done) = _
                    rw [h9, Nat.add_sub_cancel]
                    simp
                  obtain ⟨t, et⟩ : ∃ t, t = tasks.getD tm default := ⟨_, rfl⟩
                  rw [← et] at hcl hLast hWt
                  clear et hct htk ht0
                  obtain ⟨twr, tlb, tky, tvl, tvr, tak, tdn, tsr⟩ := t
                  have t0 := hcl 0 (by decide)
                  have t2 := hcl 2 (by decide)
                  have t6 := hcl 6 (by decide)
                  simp only [TkV.cells, List.getElem?_cons_zero, List.getElem?_cons_succ, Nat.add_zero] at t0 t2 t6
                  simp only [] at hWt
                  clear hcl
                  cases tdn with
                  | true =>
                    as_aux_lemma =>
                    have hw9 : Hid (waitB (⟨jn, 1, some ⟨bt9, ot9, none⟩, tm + 1, tc, aa, al, ac, asks, age, tasks, asked⟩ : JbV) = false) := hWt.out
                    go_upto_region 26 with (fail)
                    clear m0 m1 m2 m3 m4 m5 mz rr1 rf1 rr3 rf3 rz t0 t2 t6 ztk
                    have HCX : Hid (TCl U RW U.heap.size q uc iy m') := HC2.out.below bRW
                    have HB9 : Hid (Below W.heap.size W RW) := hbU.trans (HCX.out.held.bel.mono hbU.size)
                    have HEn : Hid (Calls Try.prog 31 #[.agg #[.int .i64 s, .slice a len cap, .int .i64 p], .int .i64 l, .int .i64 me, .pointer (some ⟨q, 0, none⟩), .int .i64 (i : Int)] RW fun e X' => EndedIs U X' U.heap.size q uc jn (handsOf s ls p l tasks) e) := HEnd.out RW _ iy m' HCX.out HMe.out rfl rfl rfl
                    have HD : Hid (∀ X', EndedIs U X' U.heap.size q uc jn (handsOf s ls p l tasks) (.returned (.tuple #[])) → DTick U q ⟨s, ls, p, l, me⟩ next js (k + 1) X') := fun X' h8 => by
                      obtain ⟨-, ma, mc, ja9, jc9, ix9, m9, h8⟩ := h8
                      exact HNext.out X' _ ix9 m9 h8 HMe.out (aged_end3 (C := ⟨s, ls, p, l, me⟩) (i := i) HJb.out hag1 (by show ¬ (1 : Int) = 3; decide) (by show ¬ (1 : Int) = 2; decide) hw9.out HMe.out ma ja9 mc jc9) HKe.out HKl.out
                    clear HCX HEnd HNext HKe
                    obtain ⟨⟨x0, x1, x2, xz⟩, -, -⟩ := KC.out RW HB9.out
                    go_wp2_with (go_at_call 31; refine HEn.out.mono ?_; rintro e X' hX'; obtain rfl : e = .returned (.tuple #[]) := hX'.1; have HD5 : Hid (DTick U q ⟨s, ls, p, l, me⟩ next js (k + 1) X') := HD.out X' hX'; clear hX')
                    go_roundw
                    case rel => exact ⟨k + 1, by go_num, by omega, HD5⟩
                    case measure => simp [intOf]; omega
                  | false =>
                    have hw9 : Hid (waitB (⟨jn, 1, some ⟨bt9, ot9, none⟩, tm + 1, tc, aa, al, ac, asks, age, tasks, asked⟩ : JbV) = true) := hWt.out
                    cases twr with
                    | true =>
                      as_aux_lemma =>
                      obtain ⟨RW0, eRW0⟩ : ∃ X : World, X = RW := ⟨_, rfl⟩
                      subst eRW0
                      obtain ⟨RW, eRW⟩ : ∃ X : World, X = (((RW0.setCell ⟨Z1.heap.size, 1, none⟩ (.int .i64 2)).setCell ⟨Z1.heap.size, 1, none⟩ (.int .i64 3)).setCell ⟨Z1.heap.size, 3, none⟩ (.int .i64 tky)) := ⟨_, rfl⟩
                      have bRW2 : Below Z1.heap.size Z1 RW := by rw [eRW]; exact (((bRW.setCell (p := ⟨Z1.heap.size, 1, none⟩) (Nat.le_refl _) _).setCell (p := ⟨Z1.heap.size, 1, none⟩) (Nat.le_refl _) _).setCell (p := ⟨Z1.heap.size, 3, none⟩) (Nat.le_refl _) _)
                      have bxR2 : Hid (BoxN RW Z1.heap.size 6 [.int .i64 me, .int .i64 3, .int .i64 jn, .int .i64 tky, .int .i64 0, .int .i64 14]) := by show BoxN _ _ _ _; rw [eRW]; exact (((bxR.out.set 1 (by decide) (.int .i64 2)).set 1 (by decide) (.int .i64 3)).set 3 (by decide) (.int .i64 tky))
                      go_upto_region 24 with (fail)
                      rw [← eRW]
                      clear eRW m0 m1 m2 m3 m4 m5 mz rr1 rf1 rr3 rf3 rz t0 t2 t6 ztk
                      have m1 : RW.cell? ⟨Y.heap.size, 1, none⟩ = some (.int .i64 1) := (((HBx.out.below bRW2 HBx.out.lt).c 1 (by decide))).1
                      have mz : Y.heap.size < RW.heap.size := (HBx.out.below bRW2 HBx.out.lt).lt
                      have rr1 : RW.cell? ⟨Z1.heap.size, 1, none⟩ = some (.int .i64 3) := (bxR2.out.c 1 (by decide)).1
                      have rz := bxR2.out.lt
                      clear HBR bxR bRW
                      have bRW := bRW2
                      have bxR := bxR2
                      clear bRW2
                      go_upto_region 25 with (fail)
                      clear m1 mz rr1 rz
                      have HCX : Hid (TCl U RW U.heap.size q uc iy m') := HC2.out.below bRW
                      have HPb : Hid ((uc.pl + 1) * 48 ≤ 140737488355328) := by show (uc.pl + 1) * 48 ≤ _; omega
                      obtain ⟨iR, ER⟩ := rpElem
                      have KG : Hid (∀ Q, Below RW.heap.size RW Q → Q.cell? ⟨Z1.heap.size, 0, none⟩ = some (.int .i64 me) ∧ Q.cell? ⟨Z1.heap.size, 1, none⟩ = some (.int .i64 3) ∧ Q.cell? ⟨Z1.heap.size, 2, none⟩ = some (.int .i64 jn) ∧ Q.cell? ⟨Z1.heap.size, 3, none⟩ = some (.int .i64 tky) ∧ Q.cell? ⟨Z1.heap.size, 4, none⟩ = some (.int .i64 0) ∧ Q.cell? ⟨Z1.heap.size, 5, none⟩ = some (.int .i64 14) ∧ Q.cell? ⟨q, 4, none⟩ = some (.slice uc.pa uc.pl uc.pc) ∧ Z1.heap.size < Q.heap.size ∧ q < Q.heap.size ∧ TCl U Q U.heap.size q uc iy m') := fun Q hQ => by
                        have h1 := bxR.out.below hQ bxR.out.lt
                        have h2 := HCX.out.below hQ
                        exact ⟨(h1.c 0 (by decide)).1, (h1.c 1 (by decide)).1, (h1.c 2 (by decide)).1, (h1.c 3 (by decide)).1, (h1.c 4 (by decide)).1, (h1.c 5 (by decide)).1, (h2.held.box.c 4 (by decide)).1, h1.lt, h2.held.box.lt, h2⟩
                      refine wp_region_seq [128, 129, 130, 131, 132, 133] (fun L T u => ∃ (aN : Option Addr) (cN : Nat) (bA : Nat), True ∧ (L 0 = true → T 128 = .pointer (some ⟨q, 4, none⟩)) ∧ (L 1 = true → T 129 = .slice uc.pa uc.pl uc.pc) ∧ (L 2 = true → T 130 = .agg #[.int .i64 me, .int .i64 3, .int .i64 jn, .int .i64 tky, .int .i64 0, .int .i64 14]) ∧ (L 4 = true → T 132 = .slice aN (uc.pl + 1) cN) ∧ (L 5 = true → T 133 = .pointer (some ⟨q, 4, none⟩)) ∧ (L 4 = false → Below RW.heap.size RW u) ∧ (L 4 = true → L 6 = false → TRep U u U.heap.size q uc iy m' aN cN (⟨me, 3, jn, tky, 0, 14⟩ : RpV)) ∧ (L 6 = true → TCl U u U.heap.size q ({ uc with pa := aN, pl := uc.pl + 1, pc := cN, ps := uc.ps ++ [(⟨me, 3, jn, tky, 0, 14⟩ : RpV)] } : CkV) iy m') ∧ (L 3 = true → L 4 = false → (T 131 = .slice (some ⟨bA, 0, none⟩) 1 1 ∧ RW.heap.size ≤ bA ∧ bA < u.heap.size)) ∧ (L 3 = true → L 4 = false → IsRow 6 RpV.cells u (some ⟨bA, 0, none⟩) 1 1 [(⟨me, 3, jn, tky, 0, 14⟩ : RpV)])) (by decide) (by kernel_rfl) (by kernel_rfl) ?_ ?_ ?_
                      · exact ⟨none, 0, 0, trivial, nofun, nofun, nofun, nofun, nofun, fun _ => (Below.refl _ _), nofun, nofun, nofun, nofun⟩
                      · refine ⟨?_, ?_, ?_, ?_, ?_, ?_, ?_, trivial⟩
                        · rintro L T u hd hk hcl ⟨aN, cN, bA, hb, p0, p1, p2, p4, p5, c1, c2, c3, pa3, bv3⟩ K hK
                          simp only [fr, Act.put, List.setIfInBounds_toArray, List.set_cons_zero, List.set_cons_succ, updO] at hK ⊢
                          simp [Region.binds] at hd
                          rw [if_pos (by rfl)]
                          simp only [Oper.wpv]
                          go_simp
                          exact hK _ _ ⟨aN, cN, bA, hb, fun _ => rfl, p1, p2, p4, p5, c1, c2, c3, pa3, bv3⟩
                        · rintro L T u hd hk hcl ⟨aN, cN, bA, hb, p0, p1, p2, p4, p5, c1, c2, c3, pa3, bv3⟩ K hK
                          simp only [fr, Act.put, List.setIfInBounds_toArray, List.set_cons_zero, List.set_cons_succ, updO] at hK ⊢
                          simp [Region.binds] at hd
                          have g0 := p0 (by simp [hd])
                          have k4 := hcl 4 _ rfl
                          simp [Region.binds] at k4
                          have hE : L 4 = false := by cases h : L 4 with | false => rfl | true => have a4 := k4 h; simp [hk] at a4
                          obtain ⟨r0, r1, r2, r3, r4, r5, q4, rz, zq, -⟩ := KG.out u (c1 hE)
                          rw [if_pos (by rfl)]
                          simp only [Oper.wpv]
                          go_simp
                          exact hK _ _ ⟨aN, cN, bA, hb, p0, fun _ => rfl, p2, p4, p5, c1, c2, c3, pa3, bv3⟩
                        · rintro L T u hd hk hcl ⟨aN, cN, bA, hb, p0, p1, p2, p4, p5, c1, c2, c3, pa3, bv3⟩ K hK
                          simp only [fr, Act.put, List.setIfInBounds_toArray, List.set_cons_zero, List.set_cons_succ, updO] at hK ⊢
                          simp [Region.binds] at hd
                          have k4 := hcl 4 _ rfl
                          simp [Region.binds] at k4
                          have k3 := hcl 3 _ rfl
                          simp [Region.binds] at k3
                          have hE : L 4 = false := by cases h : L 4 with | false => rfl | true => have a4 := k4 h; have a3 := k3 (by simp [a4]); simp [hk] at a3
                          obtain ⟨r0, r1, r2, r3, r4, r5, q4, rz, zq, -⟩ := KG.out u (c1 hE)
                          rw [if_pos (by rfl)]
                          simp only [Oper.wpv]
                          go_simp
                          exact hK _ _ ⟨aN, cN, bA, hb, p0, p1, fun _ => rfl, p4, p5, c1, c2, c3, pa3, bv3⟩
                        · rintro L T u hd hk hcl ⟨aN, cN, bA, hb, p0, p1, p2, p4, p5, c1, c2, c3, pa3, bv3⟩ K hK
                          simp only [fr, Act.put, List.setIfInBounds_toArray, List.set_cons_zero, List.set_cons_succ, updO] at hK ⊢
                          simp [Region.binds] at hd
                          have k4 := hcl 4 _ rfl
                          simp [Region.binds] at k4
                          have hE : L 4 = false := by cases h : L 4 with | false => rfl | true => have a4 := k4 h; simp [hk] at a4
                          have g2 := p2 (by simp [hd])
                          have k6 := hcl 6 _ rfl
                          simp [Region.binds] at k6
                          have hg : Below u.heap.size u (u.alloc (.cells #[.int .i64 me, .int .i64 3, .int .i64 jn, .int .i64 tky, .int .i64 0, .int .i64 14] 62)) := (Below.refl _ _).alloc (Nat.le_refl _) _
                          rw [if_pos (by rfl)]
                          simp only [Oper.wpv]
                          refine wpv_reply (.tmp 130) (by rfl) g2 ?_
                          exact hK _ _ ⟨aN, cN, u.heap.size, hb, p0, p1, p2, p4, p5, fun _ => nT (c1 hE) hg, fun h _ => absurd (show L 4 = true from h) (by simp [hE]), fun h0 => ((c3 h0)).below hg, fun _ _ => ⟨rfl, (c1 hE).size, by simp⟩, fun _ _ => rowOne (cells := RpV.cells) (k := 6) u #[.int .i64 me, .int .i64 3, .int .i64 jn, .int .i64 tky, .int .i64 0, .int .i64 14] 62 (⟨me, 3, jn, tky, 0, 14⟩ : RpV) rfl rfl⟩
                        · rintro L T u hd hk hcl ⟨aN, cN, bA, hb, p0, p1, p2, p4, p5, c1, c2, c3, pa3, bv3⟩ K hK
                          simp only [fr, Act.put, List.setIfInBounds_toArray, List.set_cons_zero, List.set_cons_succ, updO] at hK ⊢
                          simp [Region.binds] at hd
                          have hE : L 4 = false := hk
                          have g1 := p1 (by simp [hd])
                          have g3 := pa3 (by simp [hd]) hE
                          have k6 := hcl 6 _ rfl
                          simp [Region.binds] at k6
                          have hrw := bv3 (by simp [hd]) hE
                          have hT := (KG.out u (c1 hE)).2.2.2.2.2.2.2.2.2
                          have hOm := hT.held.own.own 3 ⟨62, 6, .slice uc.pa uc.pl uc.pc, uc.pl, flat RpV.cells uc.ps⟩ rfl
                          simp only [] at hOm
                          have hBu : U.heap.size ≤ u.heap.size := Nat.le_trans hT.held.le (Nat.le_of_lt hT.held.box.lt)
                          rw [if_pos (by rfl)]
                          simp only [Oper.wpv]
                          refine St.wpv_append_row ER (.tmp 129) (.tmp 131) (by rfl) U.heap.size (.slice uc.pa uc.pl uc.pc) uc.pl uc.ps g1 hOm (some ⟨bA, 0, none⟩) 1 1 [(⟨me, 3, jn, tky, 0, 14⟩ : RpV)] (g3.1) hrw (by unfold maxLen; omega) (by exact HPb.out) hBu ?_
                          intro aM cM u6 own6 gr6 at6
                          have hD1 := hT.appR gr6 own6 at6
                          exact hK _ _ ⟨aM, cM, bA, hb, p0, p1, p2, fun _ => rfl, p5, fun h0 => Bool.noConfusion (show true = false from h0), fun _ _ => hD1, fun h => absurd (show L 6 = true from h) (by intro hh; have a6 := k6 hh; simp [hk] at a6), fun h0 h1 => Bool.noConfusion (show true = false from h1), fun h0 h1 => Bool.noConfusion (show true = false from h1)⟩
                        · rintro L T u hd hk hcl ⟨aN, cN, bA, hb, p0, p1, p2, p4, p5, c1, c2, c3, pa3, bv3⟩ K hK
                          simp only [fr, Act.put, List.setIfInBounds_toArray, List.set_cons_zero, List.set_cons_succ, updO] at hK ⊢
                          simp [Region.binds] at hd
                          rw [if_pos (by rfl)]
                          simp only [Oper.wpv]
                          go_simp
                          exact hK _ _ ⟨aN, cN, bA, hb, p0, p1, p2, p4, fun _ => rfl, c1, c2, c3, pa3, bv3⟩
                        · rintro L T u hd hk hcl ⟨aN, cN, bA, hb, p0, p1, p2, p4, p5, c1, c2, c3, pa3, bv3⟩ K hK
                          simp only [fr, Act.put, List.setIfInBounds_toArray, List.set_cons_zero, List.set_cons_succ, updO] at hK ⊢
                          simp [Region.binds] at hd
                          have g4 := p4 (by simp [hd])
                          have g5 := p5 (by simp [hd])
                          have a4 : L 4 = true := by simp [hd]
                          have hE1 : L 4 = true := a4
                          have D1 := c2 hE1 hk
                          obtain ⟨qc2, qf2, qz2⟩ := D1.cell
                          rw [if_pos (by rfl)]
                          simp only [Oper.wpv]
                          go_simp
                          exact hK _ _ ⟨aN, cN, bA, hb, p0, p1, p2, p4, p5, fun h0 => Bool.noConfusion (hE1.symm.trans (show L 4 = false from h0)), fun _ h => Bool.noConfusion (show true = false from h), fun _ => D1.tell, fun h0 h1 => Bool.noConfusion (hE1.symm.trans (show L 4 = false from h1)), fun h0 h1 => Bool.noConfusion (hE1.symm.trans (show L 4 = false from h1))⟩
                      · rintro L T u hl ⟨aN, cN, bA, hb, p0, p1, p2, p4, p5, c1, c2, c3, pa3, bv3⟩
                        simp only [fr, Act.put, List.setIfInBounds_toArray, List.set_cons_zero, List.set_cons_succ]
                        have hC6 := c3 (hl 6 (by decide))
                        clear p0 p1 p2 p4 p5 c1 c2 c3 pa3 bv3 hl KG HPb HCX nT
                        obtain ⟨F9, eF9⟩ : ∃ X : World, X = u := ⟨_, rfl⟩
                        subst eF9
                        obtain ⟨a6, ea6⟩ : ∃ x : Option Addr, x = aN := ⟨_, rfl⟩
                        subst ea6
                        obtain ⟨c6, ec6⟩ : ∃ x : Nat, x = cN := ⟨_, rfl⟩
                        subst ec6
                        have HB9 : Hid (Below W.heap.size W F9) := hbU.trans (hC6.held.bel.mono hbU.size)
                        have HEn : Hid (Calls Try.prog 31 #[.agg #[.int .i64 s, .slice a len cap, .int .i64 p], .int .i64 l, .int .i64 me, .pointer (some ⟨q, 0, none⟩), .int .i64 (i : Int)] F9 fun e X' => EndedIs U X' U.heap.size q { uc with pa := a6, pl := uc.pl + 1, pc := c6, ps := uc.ps ++ [⟨me, 3, jn, tky, 0, 14⟩] } jn (handsOf s ls p l tasks) e) := HEnd.out F9 _ iy m' hC6 HMe.out rfl rfl rfl
                        have HD : Hid (∀ X', EndedIs U X' U.heap.size q { uc with pa := a6, pl := uc.pl + 1, pc := c6, ps := uc.ps ++ [⟨me, 3, jn, tky, 0, 14⟩] } jn (handsOf s ls p l tasks) (.returned (.tuple #[])) → DTick U q ⟨s, ls, p, l, me⟩ next js (k + 1) X') := fun X' h8 => by
                          obtain ⟨-, ma, mc, ja9, jc9, ix9, m9, h8⟩ := h8
                          have e8 : ∀ m9 : Int, m9 = uc.me → ({ toldV { uc with pa := a6, pl := uc.pl + 1, pc := c6, ps := uc.ps ++ [⟨m9, 3, jn, tky, 0, 14⟩] } ma mc jn false (handsOf s ls p l tasks) with ja := ja9, jl := (kept jn uc.js).length, jc := jc9, js := kept jn uc.js } : CkV).tn = uc.tn.aged ⟨s, ls, p, l, me⟩ i := fun m9 em => by
                            subst em
                            have e7 := aged_end2 (C := ⟨s, ls, p, l, me⟩) (i := i) HJb.out hag1 (by show ¬ (1 : Int) = 3; decide) (by show ¬ (1 : Int) = 2; decide) hw9.out HMe.out ma ja9 a6 mc jc9 c6
                            rw [hLast.out] at e7
                            exact e7
                          exact HNext.out X' _ ix9 m9 h8 HMe.out (e8 me HMe.out.symm) HKe.out HKl.out
                        clear hC6 HEnd HNext HKe
                        obtain ⟨⟨x0, x1, x2, xz⟩, -, -⟩ := KC.out F9 HB9.out
                        go_wp2_with (go_at_call 31; refine HEn.out.mono ?_; rintro e X' hX'; obtain rfl : e = .returned (.tuple #[]) := hX'.1; have HD5 : Hid (DTick U q ⟨s, ls, p, l, me⟩ next js (k + 1) X') := HD.out X' hX'; clear hX')
                        go_roundw
                        case rel => exact ⟨k + 1, by go_num, by omega, HD5⟩
                        case measure => simp [intOf]; omega
                    | false =>
                      as_aux_lemma =>
                      obtain ⟨RW0, eRW0⟩ : ∃ X : World, X = RW := ⟨_, rfl⟩
                      subst eRW0
                      obtain ⟨RW, eRW⟩ : ∃ X : World, X = ((RW0.setCell ⟨Z1.heap.size, 1, none⟩ (.int .i64 2)).setCell ⟨Z1.heap.size, 3, none⟩ (.int .i64 tky)) := ⟨_, rfl⟩
                      have bRW2 : Below Z1.heap.size Z1 RW := by rw [eRW]; exact ((bRW.setCell (p := ⟨Z1.heap.size, 1, none⟩) (Nat.le_refl _) _).setCell (p := ⟨Z1.heap.size, 3, none⟩) (Nat.le_refl _) _)
                      have bxR2 : Hid (BoxN RW Z1.heap.size 6 [.int .i64 me, .int .i64 2, .int .i64 jn, .int .i64 tky, .int .i64 0, .int .i64 14]) := by show BoxN _ _ _ _; rw [eRW]; exact ((bxR.out.set 1 (by decide) (.int .i64 2)).set 3 (by decide) (.int .i64 tky))
                      go_upto_region 24 with (fail)
                      rw [← eRW]
                      clear eRW m0 m1 m2 m3 m4 m5 mz rr1 rf1 rr3 rf3 rz t0 t2 t6 ztk
                      have m1 : RW.cell? ⟨Y.heap.size, 1, none⟩ = some (.int .i64 1) := (((HBx.out.below bRW2 HBx.out.lt).c 1 (by decide))).1
                      have mz : Y.heap.size < RW.heap.size := (HBx.out.below bRW2 HBx.out.lt).lt
                      have rr1 : RW.cell? ⟨Z1.heap.size, 1, none⟩ = some (.int .i64 2) := (bxR2.out.c 1 (by decide)).1
                      have rz := bxR2.out.lt
                      clear HBR bxR bRW
                      have bRW := bRW2
                      have bxR := bxR2
                      clear bRW2
                      go_upto_region 25 with (fail)
                      clear m1 mz rr1 rz
                      have HCX : Hid (TCl U RW U.heap.size q uc iy m') := HC2.out.below bRW
                      have HPb : Hid ((uc.pl + 1) * 48 ≤ 140737488355328) := by show (uc.pl + 1) * 48 ≤ _; omega
                      obtain ⟨iR, ER⟩ := rpElem
                      have KG : Hid (∀ Q, Below RW.heap.size RW Q → Q.cell? ⟨Z1.heap.size, 0, none⟩ = some (.int .i64 me) ∧ Q.cell? ⟨Z1.heap.size, 1, none⟩ = some (.int .i64 2) ∧ Q.cell? ⟨Z1.heap.size, 2, none⟩ = some (.int .i64 jn) ∧ Q.cell? ⟨Z1.heap.size, 3, none⟩ = some (.int .i64 tky) ∧ Q.cell? ⟨Z1.heap.size, 4, none⟩ = some (.int .i64 0) ∧ Q.cell? ⟨Z1.heap.size, 5, none⟩ = some (.int .i64 14) ∧ Q.cell? ⟨q, 4, none⟩ = some (.slice uc.pa uc.pl uc.pc) ∧ Z1.heap.size < Q.heap.size ∧ q < Q.heap.size ∧ TCl U Q U.heap.size q uc iy m') := fun Q hQ => by
                        have h1 := bxR.out.below hQ bxR.out.lt
                        have h2 := HCX.out.below hQ
                        exact ⟨(h1.c 0 (by decide)).1, (h1.c 1 (by decide)).1, (h1.c 2 (by decide)).1, (h1.c 3 (by decide)).1, (h1.c 4 (by decide)).1, (h1.c 5 (by decide)).1, (h2.held.box.c 4 (by decide)).1, h1.lt, h2.held.box.lt, h2⟩
                      refine wp_region_seq [128, 129, 130, 131, 132, 133] (fun L T u => ∃ (aN : Option Addr) (cN : Nat) (bA : Nat), True ∧ (L 0 = true → T 128 = .pointer (some ⟨q, 4, none⟩)) ∧ (L 1 = true → T 129 = .slice uc.pa uc.pl uc.pc) ∧ (L 2 = true → T 130 = .agg #[.int .i64 me, .int .i64 2, .int .i64 jn, .int .i64 tky, .int .i64 0, .int .i64 14]) ∧ (L 4 = true → T 132 = .slice aN (uc.pl + 1) cN) ∧ (L 5 = true → T 133 = .pointer (some ⟨q, 4, none⟩)) ∧ (L 4 = false → Below RW.heap.size RW u) ∧ (L 4 = true → L 6 = false → TRep U u U.heap.size q uc iy m' aN cN (⟨me, 2, jn, tky, 0, 14⟩ : RpV)) ∧ (L 6 = true → TCl U u U.heap.size q ({ uc with pa := aN, pl := uc.pl + 1, pc := cN, ps := uc.ps ++ [(⟨me, 2, jn, tky, 0, 14⟩ : RpV)] } : CkV) iy m') ∧ (L 3 = true → L 4 = false → (T 131 = .slice (some ⟨bA, 0, none⟩) 1 1 ∧ RW.heap.size ≤ bA ∧ bA < u.heap.size)) ∧ (L 3 = true → L 4 = false → IsRow 6 RpV.cells u (some ⟨bA, 0, none⟩) 1 1 [(⟨me, 2, jn, tky, 0, 14⟩ : RpV)])) (by decide) (by kernel_rfl) (by kernel_rfl) ?_ ?_ ?_
                      · exact ⟨none, 0, 0, trivial, nofun, nofun, nofun, nofun, nofun, fun _ => (Below.refl _ _), nofun, nofun, nofun, nofun⟩
                      · refine ⟨?_, ?_, ?_, ?_, ?_, ?_, ?_, trivial⟩
                        · rintro L T u hd hk hcl ⟨aN, cN, bA, hb, p0, p1, p2, p4, p5, c1, c2, c3, pa3, bv3⟩ K hK
                          simp only [fr, Act.put, List.setIfInBounds_toArray, List.set_cons_zero, List.set_cons_succ, updO] at hK ⊢
                          simp [Region.binds] at hd
                          rw [if_pos (by rfl)]
                          simp only [Oper.wpv]
                          go_simp
                          exact hK _ _ ⟨aN, cN, bA, hb, fun _ => rfl, p1, p2, p4, p5, c1, c2, c3, pa3, bv3⟩
                        · rintro L T u hd hk hcl ⟨aN, cN, bA, hb, p0, p1, p2, p4, p5, c1, c2, c3, pa3, bv3⟩ K hK
                          simp only [fr, Act.put, List.setIfInBounds_toArray, List.set_cons_zero, List.set_cons_succ, updO] at hK ⊢
                          simp [Region.binds] at hd
                          have g0 := p0 (by simp [hd])
                          have k4 := hcl 4 _ rfl
                          simp [Region.binds] at k4
                          have hE : L 4 = false := by cases h : L 4 with | false => rfl | true => have a4 := k4 h; simp [hk] at a4
                          obtain ⟨r0, r1, r2, r3, r4, r5, q4, rz, zq, -⟩ := KG.out u (c1 hE)
                          rw [if_pos (by rfl)]
                          simp only [Oper.wpv]
                          go_simp
                          exact hK _ _ ⟨aN, cN, bA, hb, p0, fun _ => rfl, p2, p4, p5, c1, c2, c3, pa3, bv3⟩
                        · rintro L T u hd hk hcl ⟨aN, cN, bA, hb, p0, p1, p2, p4, p5, c1, c2, c3, pa3, bv3⟩ K hK
                          simp only [fr, Act.put, List.setIfInBounds_toArray, List.set_cons_zero, List.set_cons_succ, updO] at hK ⊢
                          simp [Region.binds] at hd
                          have k4 := hcl 4 _ rfl
                          simp [Region.binds] at k4
                          have k3 := hcl 3 _ rfl
                          simp [Region.binds] at k3
                          have hE : L 4 = false := by cases h : L 4 with | false => rfl | true => have a4 := k4 h; have a3 := k3 (by simp [a4]); simp [hk] at a3
                          obtain ⟨r0, r1, r2, r3, r4, r5, q4, rz, zq, -⟩ := KG.out u (c1 hE)
                          rw [if_pos (by rfl)]
                          simp only [Oper.wpv]
                          go_simp
                          exact hK _ _ ⟨aN, cN, bA, hb, p0, p1, fun _ => rfl, p4, p5, c1, c2, c3, pa3, bv3⟩
                        · rintro L T u hd hk hcl ⟨aN, cN, bA, hb, p0, p1, p2, p4, p5, c1, c2, c3, pa3, bv3⟩ K hK
                          simp only [fr, Act.put, List.setIfInBounds_toArray, List.set_cons_zero, List.set_cons_succ, updO] at hK ⊢
                          simp [Region.binds] at hd
                          have k4 := hcl 4 _ rfl
                          simp [Region.binds] at k4
                          have hE : L 4 = false := by cases h : L 4 with | false => rfl | true => have a4 := k4 h; simp [hk] at a4
                          have g2 := p2 (by simp [hd])
                          have k6 := hcl 6 _ rfl
                          simp [Region.binds] at k6
                          have hg : Below u.heap.size u (u.alloc (.cells #[.int .i64 me, .int .i64 2, .int .i64 jn, .int .i64 tky, .int .i64 0, .int .i64 14] 62)) := (Below.refl _ _).alloc (Nat.le_refl _) _
                          rw [if_pos (by rfl)]
                          simp only [Oper.wpv]
                          refine wpv_reply (.tmp 130) (by rfl) g2 ?_
                          exact hK _ _ ⟨aN, cN, u.heap.size, hb, p0, p1, p2, p4, p5, fun _ => nT (c1 hE) hg, fun h _ => absurd (show L 4 = true from h) (by simp [hE]), fun h0 => ((c3 h0)).below hg, fun _ _ => ⟨rfl, (c1 hE).size, by simp⟩, fun _ _ => rowOne (cells := RpV.cells) (k := 6) u #[.int .i64 me, .int .i64 2, .int .i64 jn, .int .i64 tky, .int .i64 0, .int .i64 14] 62 (⟨me, 2, jn, tky, 0, 14⟩ : RpV) rfl rfl⟩
                        · rintro L T u hd hk hcl ⟨aN, cN, bA, hb, p0, p1, p2, p4, p5, c1, c2, c3, pa3, bv3⟩ K hK
                          simp only [fr, Act.put, List.setIfInBounds_toArray, List.set_cons_zero, List.set_cons_succ, updO] at hK ⊢
                          simp [Region.binds] at hd
                          have hE : L 4 = false := hk
                          have g1 := p1 (by simp [hd])
                          have g3 := pa3 (by simp [hd]) hE
                          have k6 := hcl 6 _ rfl
                          simp [Region.binds] at k6
                          have hrw := bv3 (by simp [hd]) hE
                          have hT := (KG.out u (c1 hE)).2.2.2.2.2.2.2.2.2
                          have hOm := hT.held.own.own 3 ⟨62, 6, .slice uc.pa uc.pl uc.pc, uc.pl, flat RpV.cells uc.ps⟩ rfl
                          simp only [] at hOm
                          have hBu : U.heap.size ≤ u.heap.size := Nat.le_trans hT.held.le (Nat.le_of_lt hT.held.box.lt)
                          rw [if_pos (by rfl)]
                          simp only [Oper.wpv]
                          refine St.wpv_append_row ER (.tmp 129) (.tmp 131) (by rfl) U.heap.size (.slice uc.pa uc.pl uc.pc) uc.pl uc.ps g1 hOm (some ⟨bA, 0, none⟩) 1 1 [(⟨me, 2, jn, tky, 0, 14⟩ : RpV)] (g3.1) hrw (by unfold maxLen; omega) (by exact HPb.out) hBu ?_
                          intro aM cM u6 own6 gr6 at6
                          have hD1 := hT.appR gr6 own6 at6
                          exact hK _ _ ⟨aM, cM, bA, hb, p0, p1, p2, fun _ => rfl, p5, fun h0 => Bool.noConfusion (show true = false from h0), fun _ _ => hD1, fun h => absurd (show L 6 = true from h) (by intro hh; have a6 := k6 hh; simp [hk] at a6), fun h0 h1 => Bool.noConfusion (show true = false from h1), fun h0 h1 => Bool.noConfusion (show true = false from h1)⟩
                        · rintro L T u hd hk hcl ⟨aN, cN, bA, hb, p0, p1, p2, p4, p5, c1, c2, c3, pa3, bv3⟩ K hK
                          simp only [fr, Act.put, List.setIfInBounds_toArray, List.set_cons_zero, List.set_cons_succ, updO] at hK ⊢
                          simp [Region.binds] at hd
                          rw [if_pos (by rfl)]
                          simp only [Oper.wpv]
                          go_simp
                          exact hK _ _ ⟨aN, cN, bA, hb, p0, p1, p2, p4, fun _ => rfl, c1, c2, c3, pa3, bv3⟩
                        · rintro L T u hd hk hcl ⟨aN, cN, bA, hb, p0, p1, p2, p4, p5, c1, c2, c3, pa3, bv3⟩ K hK
                          simp only [fr, Act.put, List.setIfInBounds_toArray, List.set_cons_zero, List.set_cons_succ, updO] at hK ⊢
                          simp [Region.binds] at hd
                          have g4 := p4 (by simp [hd])
                          have g5 := p5 (by simp [hd])
                          have a4 : L 4 = true := by simp [hd]
                          have hE1 : L 4 = true := a4
                          have D1 := c2 hE1 hk
                          obtain ⟨qc2, qf2, qz2⟩ := D1.cell
                          rw [if_pos (by rfl)]
                          simp only [Oper.wpv]
                          go_simp
                          exact hK _ _ ⟨aN, cN, bA, hb, p0, p1, p2, p4, p5, fun h0 => Bool.noConfusion (hE1.symm.trans (show L 4 = false from h0)), fun _ h => Bool.noConfusion (show true = false from h), fun _ => D1.tell, fun h0 h1 => Bool.noConfusion (hE1.symm.trans (show L 4 = false from h1)), fun h0 h1 => Bool.noConfusion (hE1.symm.trans (show L 4 = false from h1))⟩
                      · rintro L T u hl ⟨aN, cN, bA, hb, p0, p1, p2, p4, p5, c1, c2, c3, pa3, bv3⟩
                        simp only [fr, Act.put, List.setIfInBounds_toArray, List.set_cons_zero, List.set_cons_succ]
                        have hC6 := c3 (hl 6 (by decide))
                        clear p0 p1 p2 p4 p5 c1 c2 c3 pa3 bv3 hl KG HPb HCX nT
                        obtain ⟨F9, eF9⟩ : ∃ X : World, X = u := ⟨_, rfl⟩
                        subst eF9
                        obtain ⟨a6, ea6⟩ : ∃ x : Option Addr, x = aN := ⟨_, rfl⟩
                        subst ea6
                        obtain ⟨c6, ec6⟩ : ∃ x : Nat, x = cN := ⟨_, rfl⟩
                        subst ec6
                        have HB9 : Hid (Below W.heap.size W F9) := hbU.trans (hC6.held.bel.mono hbU.size)
                        have HEn : Hid (Calls Try.prog 31 #[.agg #[.int .i64 s, .slice a len cap, .int .i64 p], .int .i64 l, .int .i64 me, .pointer (some ⟨q, 0, none⟩), .int .i64 (i : Int)] F9 fun e X' => EndedIs U X' U.heap.size q { uc with pa := a6, pl := uc.pl + 1, pc := c6, ps := uc.ps ++ [⟨me, 2, jn, tky, 0, 14⟩] } jn (handsOf s ls p l tasks) e) := HEnd.out F9 _ iy m' hC6 HMe.out rfl rfl rfl
                        have HD : Hid (∀ X', EndedIs U X' U.heap.size q { uc with pa := a6, pl := uc.pl + 1, pc := c6, ps := uc.ps ++ [⟨me, 2, jn, tky, 0, 14⟩] } jn (handsOf s ls p l tasks) (.returned (.tuple #[])) → DTick U q ⟨s, ls, p, l, me⟩ next js (k + 1) X') := fun X' h8 => by
                          obtain ⟨-, ma, mc, ja9, jc9, ix9, m9, h8⟩ := h8
                          have e8 : ∀ m9 : Int, m9 = uc.me → ({ toldV { uc with pa := a6, pl := uc.pl + 1, pc := c6, ps := uc.ps ++ [⟨m9, 2, jn, tky, 0, 14⟩] } ma mc jn false (handsOf s ls p l tasks) with ja := ja9, jl := (kept jn uc.js).length, jc := jc9, js := kept jn uc.js } : CkV).tn = uc.tn.aged ⟨s, ls, p, l, me⟩ i := fun m9 em => by
                            subst em
                            have e7 := aged_end2 (C := ⟨s, ls, p, l, me⟩) (i := i) HJb.out hag1 (by show ¬ (1 : Int) = 3; decide) (by show ¬ (1 : Int) = 2; decide) hw9.out HMe.out ma ja9 a6 mc jc9 c6
                            rw [hLast.out] at e7
                            exact e7
                          exact HNext.out X' _ ix9 m9 h8 HMe.out (e8 me HMe.out.symm) HKe.out HKl.out
                        clear hC6 HEnd HNext HKe
                        obtain ⟨⟨x0, x1, x2, xz⟩, -, -⟩ := KC.out F9 HB9.out
                        go_wp2_with (go_at_call 31; refine HEn.out.mono ?_; rintro e X' hX'; obtain rfl : e = .returned (.tuple #[]) := hX'.1; have HD5 : Hid (DTick U q ⟨s, ls, p, l, me⟩ next js (k + 1) X') := HD.out X' hX'; clear hX')
                        go_roundw
                        case rel => exact ⟨k + 1, by go_num, by omega, HD5⟩
                        case measure => simp [intOf]; omega
      · have HkN : Hid (k = jl) := by show _ = _; omega
        have hlt' : ¬ (k : Int) < (jl : Int) := by omega
        obtain ⟨V, iy, m', hC9, hme, hTu, hTI, hPW, -⟩ := HInv.out
        have hT9 : V.tn = (tn0 next js).tick ⟨s, ls, p, l, me⟩ (js.map JbV.n) := by rw [hTu, List.take_of_length_le (by rw [HkN.out, HJl.out]; exact Nat.le_refl _)]
        have hF9 := HFin.out U wr q V iy m' hbU hC9 (rs_none hTI) hT9
        have HF9 : Hid _ := hF9
        have bq := hC9.held.box
        have zq := bq.lt
        have s0 : wr.cell? ⟨q, 0, none⟩ = some (.int .i64 V.next) := (bq.c 0 (by decide)).1
        have s1 : wr.cell? ⟨q, 1, none⟩ = some (.slice V.ja V.jl V.jc) := (bq.c 1 (by decide)).1
        have s2 : wr.cell? ⟨q, 2, none⟩ = some (.slice V.ma V.ml V.mc) := (bq.c 2 (by decide)).1
        have s3 : wr.cell? ⟨q, 3, none⟩ = some (.slice V.ra V.rl V.rc) := (bq.c 3 (by decide)).1
        have s4 : wr.cell? ⟨q, 4, none⟩ = some (.slice V.pa V.pl V.pc) := (bq.c 4 (by decide)).1
        have s5 : wr.cell? ⟨q, 5, none⟩ = some (.int .i64 V.sure) := (bq.c 5 (by decide)).1
        have s6 : wr.cell? ⟨q, 6, none⟩ = some (.int .i64 V.com) := (bq.c 6 (by decide)).1
        have r0 : wr.cell? ⟨w.heap.size + 2, 0, none⟩ = some (.int .i64 0) := (hbt.c 0 (by decide)).1
        have rf0 := (hbt.c 0 (by decide)).2
        have r1 : wr.cell? ⟨w.heap.size + 2, 1, none⟩ = some (.slice none 0 0) := (hbt.c 1 (by decide)).1
        have rf1 := (hbt.c 1 (by decide)).2
        have r2 : wr.cell? ⟨w.heap.size + 2, 2, none⟩ = some (.slice none 0 0) := (hbt.c 2 (by decide)).1
        have rf2 := (hbt.c 2 (by decide)).2
        have r3 : wr.cell? ⟨w.heap.size + 2, 3, none⟩ = some (.slice none 0 0) := (hbt.c 3 (by decide)).1
        have rf3 := (hbt.c 3 (by decide)).2
        have r4 : wr.cell? ⟨w.heap.size + 2, 4, none⟩ = some (.slice none 0 0) := (hbt.c 4 (by decide)).1
        have rf4 := (hbt.c 4 (by decide)).2
        have r5 : wr.cell? ⟨w.heap.size + 2, 5, none⟩ = some (.int .i64 0) := (hbt.c 5 (by decide)).1
        have rf5 := (hbt.c 5 (by decide)).2
        have r6 : wr.cell? ⟨w.heap.size + 2, 6, none⟩ = some (.int .i64 0) := (hbt.c 6 (by decide)).1
        have rf6 := (hbt.c 6 (by decide)).2
        have zr := hbt.lt
        have HBt : Hid (BoxN wr (w.heap.size + 2) 7 [.int .i64 0, .slice none 0 0, .slice none 0 0, .slice none 0 0, .slice none 0 0, .int .i64 0, .int .i64 0]) := hbt
        clear bq hF9 hTu hTI hPW hT9 hme hk hlt HInv hbt hC9
        go_wp2
        obtain ⟨Y, eY⟩ : ∃ Y, Y = set7 wr (w.heap.size + 2) (.int .i64 V.next) (.slice V.ja V.jl V.jc) (.slice V.ma V.ml V.mc) (.slice V.ra V.rl V.rc) (.slice V.pa V.pl V.pc) (.int .i64 V.sure) (.int .i64 V.com) := ⟨_, rfl⟩
        have bF : BoxN Y (w.heap.size + 2) 7 [.int .i64 V.next, .slice V.ja V.jl V.jc, .slice V.ma V.ml V.mc, .slice V.ra V.rl V.rc, .slice V.pa V.pl V.pc, .int .i64 V.sure, .int .i64 V.com] := by
          rw [eY]
          exact ((((((HBt.out.set 0 (by decide) _).set 1 (by decide) _).set 2 (by decide) _).set 3 (by decide) _).set 4 (by decide) _).set 5 (by decide) _).set 6 (by decide) _
        have k0 : Y.cell? ⟨w.heap.size + 2, 0, none⟩ = some (.int .i64 V.next) := (bF.c 0 (by decide)).1
        have k1 : Y.cell? ⟨w.heap.size + 2, 1, none⟩ = some (.slice V.ja V.jl V.jc) := (bF.c 1 (by decide)).1
        have k2 : Y.cell? ⟨w.heap.size + 2, 2, none⟩ = some (.slice V.ma V.ml V.mc) := (bF.c 2 (by decide)).1
        have k3 : Y.cell? ⟨w.heap.size + 2, 3, none⟩ = some (.slice V.ra V.rl V.rc) := (bF.c 3 (by decide)).1
        have k4 : Y.cell? ⟨w.heap.size + 2, 4, none⟩ = some (.slice V.pa V.pl V.pc) := (bF.c 4 (by decide)).1
        have k5 : Y.cell? ⟨w.heap.size + 2, 5, none⟩ = some (.int .i64 V.sure) := (bF.c 5 (by decide)).1
        have k6 : Y.cell? ⟨w.heap.size + 2, 6, none⟩ = some (.int .i64 V.com) := (bF.c 6 (by decide)).1
        have h9 := HF9.out
        rw [← eY] at h9
        rw [show set7 wr (w.heap.size + 2) (.int .i64 V.next) (.slice V.ja V.jl V.jc) (.slice V.ma V.ml V.mc) (.slice V.ra V.rl V.rc) (.slice V.pa V.pl V.pc) (.int .i64 V.sure) (.int .i64 V.com) = ((((((wr.setCell ⟨w.heap.size + 2, 0, none⟩ (.int .i64 V.next)).setCell ⟨w.heap.size + 2, 1, none⟩ (.slice V.ja V.jl V.jc)).setCell ⟨w.heap.size + 2, 2, none⟩ (.slice V.ma V.ml V.mc)).setCell ⟨w.heap.size + 2, 3, none⟩ (.slice V.ra V.rl V.rc)).setCell ⟨w.heap.size + 2, 4, none⟩ (.slice V.pa V.pl V.pc)).setCell ⟨w.heap.size + 2, 5, none⟩ (.int .i64 V.sure)).setCell ⟨w.heap.size + 2, 6, none⟩ (.int .i64 V.com) from rfl] at eY
        rw [← eY]
        refine bodyPost_ret (v := .tuple #[.agg #[.int .i64 V.next, .slice V.ja V.jl V.jc, .slice V.ma V.ml V.mc, .slice V.ra V.rl V.rc, .slice V.pa V.pl V.pc, .int .i64 V.sure, .int .i64 V.com], .int .i64 0]) (by simp [results, Try.results11, go_sem, k0, k1, k2, k3, k4, k5, k6]) rfl h9
  · have hE1 : (E != 0) = true := by simp [hE]
    have HFin : Hid (∀ Z, Below W.heap.size W Z → TickIs w (set7 Z (w.heap.size + 2) (.int .i64 0) (.slice none 0 0) (.slice none 0 0) (.slice none 0 0) (.slice none 0 0) (.int .i64 0) (.int .i64 0)) ⟨s, ls, p, l, me⟩ next js (.returned (.tuple #[.agg #[.int .i64 0, .slice none 0 0, .slice none 0 0, .slice none 0 0, .slice none 0 0, .int .i64 0, .int .i64 0], .int .i64 E]))) := fun Z hZ => by
      obtain ⟨-, -, -, hw9, hz9⟩ := KC.out Z hZ
      refine ⟨.agg #[.int .i64 0, .slice none 0 0, .slice none 0 0, .slice none 0 0, .slice none 0 0, .int .i64 0, .int .i64 0], by show _ = Ending.returned (.tuple #[_, .int .i64 (rfErr s ls p l me next js)]); rw [HC.out], ?_⟩
      have e9 : TickAns ⟨s, ls, p, l, me⟩ next js = tn0 0 [] := by unfold TickAns; rw [if_neg (by rw [show rfErr s ls p l me next js = E from HC.out]; exact hE)]
      rw [e9]
      refine turned_nil ?_
      exact ((((((hw9.setCell (p := ⟨w.heap.size + 2, 0, none⟩) (by show w.heap.size ≤ w.heap.size + 2; omega) _).setCell (p := ⟨w.heap.size + 2, 1, none⟩) (by show w.heap.size ≤ w.heap.size + 2; omega) _).setCell (p := ⟨w.heap.size + 2, 2, none⟩) (by show w.heap.size ≤ w.heap.size + 2; omega) _).setCell (p := ⟨w.heap.size + 2, 3, none⟩) (by show w.heap.size ≤ w.heap.size + 2; omega) _).setCell (p := ⟨w.heap.size + 2, 4, none⟩) (by show w.heap.size ≤ w.heap.size + 2; omega) _).setCell (p := ⟨w.heap.size + 2, 5, none⟩) (by show w.heap.size ≤ w.heap.size + 2; omega) _).setCell (p := ⟨w.heap.size + 2, 6, none⟩) (by show w.heap.size ≤ w.heap.size + 2; omega) _
    clear HFine HAges HMore hl hj bW zW HC
    go_enter Try.func11, Try.ntmps11
    go_upto_region 1 with (fail)
    rw [← hW]
    clear hW
    obtain ⟨⟨x0, x1, x2, xz⟩, ⟨y0, y1, yz⟩, -⟩ := KC.out W (Below.refl _ _)
    go_upto_region 3 with (go_at_call 25; refine HRf.out.mono ?_; rintro e U ⟨rfl, hbU⟩)
    clear x0 x1 x2 xz y0 y1 yz
    obtain ⟨-, -, hbt, -, -⟩ := KC.out U hbU
    have h9 := HFin.out U hbU
    have HF9 : Hid _ := h9
    have r0 : U.cell? ⟨w.heap.size + 2, 0, none⟩ = some (.int .i64 0) := (hbt.c 0 (by decide)).1
    have rf0 := (hbt.c 0 (by decide)).2
    have r1 : U.cell? ⟨w.heap.size + 2, 1, none⟩ = some (.slice none 0 0) := (hbt.c 1 (by decide)).1
    have rf1 := (hbt.c 1 (by decide)).2
    have r2 : U.cell? ⟨w.heap.size + 2, 2, none⟩ = some (.slice none 0 0) := (hbt.c 2 (by decide)).1
    have rf2 := (hbt.c 2 (by decide)).2
    have r3 : U.cell? ⟨w.heap.size + 2, 3, none⟩ = some (.slice none 0 0) := (hbt.c 3 (by decide)).1
    have rf3 := (hbt.c 3 (by decide)).2
    have r4 : U.cell? ⟨w.heap.size + 2, 4, none⟩ = some (.slice none 0 0) := (hbt.c 4 (by decide)).1
    have rf4 := (hbt.c 4 (by decide)).2
    have r5 : U.cell? ⟨w.heap.size + 2, 5, none⟩ = some (.int .i64 0) := (hbt.c 5 (by decide)).1
    have rf5 := (hbt.c 5 (by decide)).2
    have r6 : U.cell? ⟨w.heap.size + 2, 6, none⟩ = some (.int .i64 0) := (hbt.c 6 (by decide)).1
    have rf6 := (hbt.c 6 (by decide)).2
    have zr := hbt.lt
    have HBt : Hid (BoxN U (w.heap.size + 2) 7 [.int .i64 0, .slice none 0 0, .slice none 0 0, .slice none 0 0, .slice none 0 0, .int .i64 0, .int .i64 0]) := hbt
    clear h9 HFin hbt
    go_wp2
    obtain ⟨Y, eY⟩ : ∃ Y, Y = set7 U (w.heap.size + 2) (.int .i64 0) (.slice none 0 0) (.slice none 0 0) (.slice none 0 0) (.slice none 0 0) (.int .i64 0) (.int .i64 0) := ⟨_, rfl⟩
    have bF : BoxN Y (w.heap.size + 2) 7 [.int .i64 0, .slice none 0 0, .slice none 0 0, .slice none 0 0, .slice none 0 0, .int .i64 0, .int .i64 0] := by
      rw [eY]
      exact ((((((HBt.out.set 0 (by decide) (.int .i64 0)).set 1 (by decide) (.slice none 0 0)).set 2 (by decide) (.slice none 0 0)).set 3 (by decide) (.slice none 0 0)).set 4 (by decide) (.slice none 0 0)).set 5 (by decide) (.int .i64 0)).set 6 (by decide) (.int .i64 0)
    have k0 : Y.cell? ⟨w.heap.size + 2, 0, none⟩ = some (.int .i64 0) := (bF.c 0 (by decide)).1
    have k1 : Y.cell? ⟨w.heap.size + 2, 1, none⟩ = some (.slice none 0 0) := (bF.c 1 (by decide)).1
    have k2 : Y.cell? ⟨w.heap.size + 2, 2, none⟩ = some (.slice none 0 0) := (bF.c 2 (by decide)).1
    have k3 : Y.cell? ⟨w.heap.size + 2, 3, none⟩ = some (.slice none 0 0) := (bF.c 3 (by decide)).1
    have k4 : Y.cell? ⟨w.heap.size + 2, 4, none⟩ = some (.slice none 0 0) := (bF.c 4 (by decide)).1
    have k5 : Y.cell? ⟨w.heap.size + 2, 5, none⟩ = some (.int .i64 0) := (bF.c 5 (by decide)).1
    have k6 : Y.cell? ⟨w.heap.size + 2, 6, none⟩ = some (.int .i64 0) := (bF.c 6 (by decide)).1
    have h9 := HF9.out
    rw [← eY] at h9
    rw [show set7 U (w.heap.size + 2) (.int .i64 0) (.slice none 0 0) (.slice none 0 0) (.slice none 0 0) (.slice none 0 0) (.int .i64 0) (.int .i64 0) = ((((((U.setCell ⟨w.heap.size + 2, 0, none⟩ (.int .i64 0)).setCell ⟨w.heap.size + 2, 1, none⟩ (.slice none 0 0)).setCell ⟨w.heap.size + 2, 2, none⟩ (.slice none 0 0)).setCell ⟨w.heap.size + 2, 3, none⟩ (.slice none 0 0)).setCell ⟨w.heap.size + 2, 4, none⟩ (.slice none 0 0)).setCell ⟨w.heap.size + 2, 5, none⟩ (.int .i64 0)).setCell ⟨w.heap.size + 2, 6, none⟩ (.int .i64 0) from rfl] at eY
    rw [← eY]
    refine bodyPost_ret (v := .tuple #[.agg #[.int .i64 0, .slice none 0 0, .slice none 0 0, .slice none 0 0, .slice none 0 0, .int .i64 0, .int .i64 0], .int .i64 E]) (by simp [results, Try.results11, go_sem, k0, k1, k2, k3, k4, k5, k6]) rfl h9
end Go.Proofs.Ytfhciplckjkflaa.Cd
