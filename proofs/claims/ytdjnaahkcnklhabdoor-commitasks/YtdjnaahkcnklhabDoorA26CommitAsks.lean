/- coord.Hear. -/
import Derived.Test.YtdjnaahkcnklhabDoorM23CommitAsks
import Derived.Test.YtdjnaahkcnklhabDoorM24CommitAsks
import Derived.Test.YtdjnaahkcnklhabDoorA25CommitAsks
namespace Go.Proofs.YtdjnaahkcnklhabDoor.Co
open Go.ChangeShapes Go.WideShapes Go.ChangeAt Go.RowKit
open Go.Proofs.YtdjnaahkcnklhabDoor.St (BoxN boxn_new own_below grown_setCell IsRow Elem flat flat_append own_isRow idxI idxI_lt)
set_option linter.unusedVariables false

/-- What Hear refuses. -/
def hrErr (C : Cx) (next : Int) (js : List JbV) (m : MV) : Int :=
  if rfErr C.s C.ls C.p C.l C.me next js = 0 then (if msgFault C.s C.ls C.p m = 0 then (if ((m.dst == C.me) && (m.site == C.me)) = true then (if inR m.kind 5 9 = true then 0 else 3) else 2) else msgFault C.s C.ls C.p m) else rfErr C.s C.ls C.p C.l C.me next js
abbrev Tables (w : World) : Prop := HasAt w 0 mHas ∧ TopsAt w
set_option maxRecDepth 100000 in
set_option maxHeartbeats 8000000 in
theorem refuseHear_coord (s p : Int) (a : Option Addr) (len cap : Nat) (ls : List (Int × Int)) (l me next : Int) (ja : Option Addr) (jl jc : Nat) (js : List JbV) (m : MV) (w : World) (hl : IsLabs w a len cap ls) (hj : IsJobs w ja jl jc js) (hT : ∀ U, Below w.heap.size w U → Tables U) :
    Calls Tryd.prog 28 #[.agg #[.int .i64 s, .slice a len cap, .int .i64 p], .int .i64 l, .int .i64 me, .agg #[.int .i64 next, .slice ja jl jc], m.val] w fun e w' => e = .returned (.int .i64 (hrErr ⟨s, ls, p, l, me⟩ next js m)) ∧ Below w.heap.size w w' := by
  obtain ⟨kind, frm, dst, site, num, label, key, value, version, ask, yes, code⟩ := m
  simp only [MV.val]
  obtain ⟨W, hW⟩ : ∃ W : World, W = ((w.alloc (.cells #[.int .i64 s, .slice a len cap, .int .i64 p] 25)).alloc (.cells #[.int .i64 next, .slice ja jl jc] 29)).alloc (.cells #[.int .i64 kind, .int .i64 frm, .int .i64 dst, .int .i64 site, .int .i64 num, .int .i64 label, .int .i64 key, .int .i64 value, .int .i64 version, .int .i64 ask, .bool yes, .int .i64 code] 46) := ⟨_, rfl⟩
  have bW : Below w.heap.size w W := by rw [hW]; exact (((Below.refl _ _).alloc (Nat.le_refl _) _).alloc (by simp) _).alloc (by simp; omega) _
  have zW : W.heap.size = w.heap.size + 3 := by rw [hW]; simp
  have c0 : W.cell? ⟨w.heap.size, 0, none⟩ = some (.int .i64 s) := by rw [hW]; go_simp
  have c1 : W.cell? ⟨w.heap.size, 1, none⟩ = some (.slice a len cap) := by rw [hW]; go_simp
  have c2 : W.cell? ⟨w.heap.size, 2, none⟩ = some (.int .i64 p) := by rw [hW]; go_simp
  have c3 : W.cell? ⟨w.heap.size + 1, 0, none⟩ = some (.int .i64 next) := by rw [hW]; go_simp
  have c4 : W.cell? ⟨w.heap.size + 1, 1, none⟩ = some (.slice ja jl jc) := by rw [hW]; go_simp
  have c5 : W.cell? ⟨w.heap.size + 2, 0, none⟩ = some (.int .i64 kind) := by rw [hW]; go_simp
  have c6 : W.cell? ⟨w.heap.size + 2, 1, none⟩ = some (.int .i64 frm) := by rw [hW]; go_simp
  have c7 : W.cell? ⟨w.heap.size + 2, 2, none⟩ = some (.int .i64 dst) := by rw [hW]; go_simp
  have c8 : W.cell? ⟨w.heap.size + 2, 3, none⟩ = some (.int .i64 site) := by rw [hW]; go_simp
  have c9 : W.cell? ⟨w.heap.size + 2, 4, none⟩ = some (.int .i64 num) := by rw [hW]; go_simp
  have c10 : W.cell? ⟨w.heap.size + 2, 5, none⟩ = some (.int .i64 label) := by rw [hW]; go_simp
  have c11 : W.cell? ⟨w.heap.size + 2, 6, none⟩ = some (.int .i64 key) := by rw [hW]; go_simp
  have c12 : W.cell? ⟨w.heap.size + 2, 7, none⟩ = some (.int .i64 value) := by rw [hW]; go_simp
  have c13 : W.cell? ⟨w.heap.size + 2, 8, none⟩ = some (.int .i64 version) := by rw [hW]; go_simp
  have c14 : W.cell? ⟨w.heap.size + 2, 9, none⟩ = some (.int .i64 ask) := by rw [hW]; go_simp
  have c15 : W.cell? ⟨w.heap.size + 2, 10, none⟩ = some (.bool yes) := by rw [hW]; go_simp
  have c16 : W.cell? ⟨w.heap.size + 2, 11, none⟩ = some (.int .i64 code) := by rw [hW]; go_simp
  have KC : Hid (∀ U, Below W.heap.size W U → U.cell? ⟨w.heap.size, 0, none⟩ = some (.int .i64 s) ∧ U.cell? ⟨w.heap.size, 1, none⟩ = some (.slice a len cap) ∧ U.cell? ⟨w.heap.size, 2, none⟩ = some (.int .i64 p) ∧ U.cell? ⟨w.heap.size + 1, 0, none⟩ = some (.int .i64 next) ∧ U.cell? ⟨w.heap.size + 1, 1, none⟩ = some (.slice ja jl jc) ∧ U.cell? ⟨w.heap.size + 2, 0, none⟩ = some (.int .i64 kind) ∧ U.cell? ⟨w.heap.size + 2, 1, none⟩ = some (.int .i64 frm) ∧ U.cell? ⟨w.heap.size + 2, 2, none⟩ = some (.int .i64 dst) ∧ U.cell? ⟨w.heap.size + 2, 3, none⟩ = some (.int .i64 site) ∧ U.cell? ⟨w.heap.size + 2, 4, none⟩ = some (.int .i64 num) ∧ U.cell? ⟨w.heap.size + 2, 5, none⟩ = some (.int .i64 label) ∧ U.cell? ⟨w.heap.size + 2, 6, none⟩ = some (.int .i64 key) ∧ U.cell? ⟨w.heap.size + 2, 7, none⟩ = some (.int .i64 value) ∧ U.cell? ⟨w.heap.size + 2, 8, none⟩ = some (.int .i64 version) ∧ U.cell? ⟨w.heap.size + 2, 9, none⟩ = some (.int .i64 ask) ∧ U.cell? ⟨w.heap.size + 2, 10, none⟩ = some (.bool yes) ∧ U.cell? ⟨w.heap.size + 2, 11, none⟩ = some (.int .i64 code)) := fun U hU => ⟨(hU.cell (p := ⟨w.heap.size, 0, none⟩) (by show w.heap.size < _; omega)).trans c0, (hU.cell (p := ⟨w.heap.size, 1, none⟩) (by show w.heap.size < _; omega)).trans c1, (hU.cell (p := ⟨w.heap.size, 2, none⟩) (by show w.heap.size < _; omega)).trans c2, (hU.cell (p := ⟨w.heap.size + 1, 0, none⟩) (by show w.heap.size + 1 < _; omega)).trans c3, (hU.cell (p := ⟨w.heap.size + 1, 1, none⟩) (by show w.heap.size + 1 < _; omega)).trans c4, (hU.cell (p := ⟨w.heap.size + 2, 0, none⟩) (by show w.heap.size + 2 < _; omega)).trans c5, (hU.cell (p := ⟨w.heap.size + 2, 1, none⟩) (by show w.heap.size + 2 < _; omega)).trans c6, (hU.cell (p := ⟨w.heap.size + 2, 2, none⟩) (by show w.heap.size + 2 < _; omega)).trans c7, (hU.cell (p := ⟨w.heap.size + 2, 3, none⟩) (by show w.heap.size + 2 < _; omega)).trans c8, (hU.cell (p := ⟨w.heap.size + 2, 4, none⟩) (by show w.heap.size + 2 < _; omega)).trans c9, (hU.cell (p := ⟨w.heap.size + 2, 5, none⟩) (by show w.heap.size + 2 < _; omega)).trans c10, (hU.cell (p := ⟨w.heap.size + 2, 6, none⟩) (by show w.heap.size + 2 < _; omega)).trans c11, (hU.cell (p := ⟨w.heap.size + 2, 7, none⟩) (by show w.heap.size + 2 < _; omega)).trans c12, (hU.cell (p := ⟨w.heap.size + 2, 8, none⟩) (by show w.heap.size + 2 < _; omega)).trans c13, (hU.cell (p := ⟨w.heap.size + 2, 9, none⟩) (by show w.heap.size + 2 < _; omega)).trans c14, (hU.cell (p := ⟨w.heap.size + 2, 10, none⟩) (by show w.heap.size + 2 < _; omega)).trans c15, (hU.cell (p := ⟨w.heap.size + 2, 11, none⟩) (by show w.heap.size + 2 < _; omega)).trans c16⟩
  have HZ : Hid (∀ U, Below W.heap.size W U → Below w.heap.size w U ∧ w.heap.size + 3 ≤ U.heap.size) := fun U hU => ⟨bW.trans (hU.mono bW.size), by have := hU.size; omega⟩
  have HRf : Hid (Calls Tryd.prog 17 #[.agg #[.int .i64 s, .slice a len cap, .int .i64 p], .int .i64 l, .int .i64 me, .agg #[.int .i64 next, .slice ja jl jc]] W fun e w' => e = .returned (.int .i64 (rfErr s ls p l me next js)) ∧ Below W.heap.size W w') := refuse_any s p a len cap ls l me next ja jl jc js W (hl.below bW) (hj.below bW)
  have HCk : Hid (∀ U, Below W.heap.size W U → Calls Tryd.prog 56 #[.agg #[.int .i64 s, .slice a len cap, .int .i64 p], .agg #[.int .i64 kind, .int .i64 frm, .int .i64 dst, .int .i64 site, .int .i64 num, .int .i64 label, .int .i64 key, .int .i64 value, .int .i64 version, .int .i64 ask, .bool yes, .int .i64 code]] U fun e w' => e = .returned (.int .i64 (msgFault s ls p ⟨kind, frm, dst, site, num, label, key, value, version, ask, yes, code⟩)) ∧ Below U.heap.size U w') := fun U hU => checkMessage_any s p a len cap ls ⟨kind, frm, dst, site, num, label, key, value, version, ask, yes, code⟩ U (hl.below (HZ.out U hU).1) (hT U (HZ.out U hU).1).1 (hT U (HZ.out U hU).1).2
  have HWi : Hid (∀ U, Calls Tryd.prog 18 #[.int .i64 kind, .int .i64 5, .int .i64 9] U fun e w' => e = .returned (.bool (inR kind 5 9)) ∧ w' = U) := fun U => within_any _ _ _ _
  obtain ⟨E, eE⟩ : ∃ E, E = rfErr s ls p l me next js := ⟨_, rfl⟩
  obtain ⟨M, eM⟩ : ∃ M, M = msgFault s ls p ⟨kind, frm, dst, site, num, label, key, value, version, ask, yes, code⟩ := ⟨_, rfl⟩
  obtain ⟨KK, eK⟩ : ∃ KK, KK = inR kind 5 9 := ⟨_, rfl⟩
  obtain ⟨C1, e1⟩ : ∃ b : Bool, b = (dst == me) := ⟨_, rfl⟩
  obtain ⟨C2, e2⟩ : ∃ b : Bool, b = (site == me) := ⟨_, rfl⟩
  have HE : Hid (hrErr ⟨s, ls, p, l, me⟩ next js ⟨kind, frm, dst, site, num, label, key, value, version, ask, yes, code⟩ = if E = 0 then (if M = 0 then (if (C1 && C2) = true then (if KK = true then 0 else 3) else 2) else M) else E) := by
    show _ = _
    unfold hrErr
    rw [eE, eM, eK, e1, e2]
  rw [← eE] at HRf
  rw [← eM] at HCk
  rw [← eK] at HWi
  have hn1 : (dst != me) = !C1 := by rw [e1]; rfl
  have hn2 : (site != me) = !C2 := by rw [e2]; rfl
  obtain ⟨RR, eRR⟩ : ∃ RR, RR = hrErr ⟨s, ls, p, l, me⟩ next js ⟨kind, frm, dst, site, num, label, key, value, version, ask, yes, code⟩ := ⟨_, rfl⟩
  rw [← eRR] at HE ⊢
  clear eE eM eK e1 e2 eRR c0 c1 c2 c3 c4 c5 c6 c7 c8 c9 c10 c11 c12 c13 c14 c15 c16
  by_cases hE : E = 0
  · subst hE
    by_cases hM : M = 0
    · subst hM
      cases C1 with
      | false =>
        replace hn1 : (dst != me) = true := hn1
        go_enter Tryd.func28, Tryd.ntmps28
        go_upto_region 1 with (fail)
        rw [← hW]
        clear hW
        obtain ⟨x0, x1, x2, x3, x4, -, -, -, -, -, -, -, -, -, -, -, -⟩ := KC.out W (Below.refl _ _)
        have z3 := (HZ.out W (Below.refl _ _)).2
        go_upto_region 4 with (go_at_call 17; refine HRf.out.mono ?_; rintro e U ⟨rfl, hbU⟩)
        obtain ⟨y0, y1, y2, -, -, y5, y6, y7, y8, y9, y10, y11, y12, y13, y14, y15, y16⟩ := KC.out U hbU
        have z3U := (HZ.out U hbU).2
        clear x0 x1 x2 x3 x4
        go_upto_region 7 with (go_at_call 56; refine (HCk.out _ hbU).mono ?_; rintro e V ⟨rfl, hbV⟩)
        have hbUV := nT hbU hbV
        obtain ⟨-, -, -, -, -, v0, -, v2, v3, -, -, -, -, -, -, -, -⟩ := KC.out V hbUV
        have z3V := (HZ.out V hbUV).2
        clear y0 y1 y2 y5 y6 y7 y8 y9 y10 y11 y12 y13 y14 y15 y16
        go_wp2_with (go_at_call 18; refine (HWi.out _).mono ?_; rintro e u1 ⟨rfl, hu1⟩; rw [hu1]; clear hu1)
        go_ret
        exact ⟨by rw [HE.out]; rfl, (HZ.out V hbUV).1⟩
      | true =>
        replace hn1 : (dst != me) = false := hn1
        cases C2 with
        | false =>
          replace hn2 : (site != me) = true := hn2
          go_enter Tryd.func28, Tryd.ntmps28
          go_upto_region 1 with (fail)
          rw [← hW]
          clear hW
          obtain ⟨x0, x1, x2, x3, x4, -, -, -, -, -, -, -, -, -, -, -, -⟩ := KC.out W (Below.refl _ _)
          have z3 := (HZ.out W (Below.refl _ _)).2
          go_upto_region 4 with (go_at_call 17; refine HRf.out.mono ?_; rintro e U ⟨rfl, hbU⟩)
          obtain ⟨y0, y1, y2, -, -, y5, y6, y7, y8, y9, y10, y11, y12, y13, y14, y15, y16⟩ := KC.out U hbU
          have z3U := (HZ.out U hbU).2
          clear x0 x1 x2 x3 x4
          go_upto_region 7 with (go_at_call 56; refine (HCk.out _ hbU).mono ?_; rintro e V ⟨rfl, hbV⟩)
          have hbUV := nT hbU hbV
          obtain ⟨-, -, -, -, -, v0, -, v2, v3, -, -, -, -, -, -, -, -⟩ := KC.out V hbUV
          have z3V := (HZ.out V hbUV).2
          clear y0 y1 y2 y5 y6 y7 y8 y9 y10 y11 y12 y13 y14 y15 y16
          go_wp2_with (go_at_call 18; refine (HWi.out _).mono ?_; rintro e u1 ⟨rfl, hu1⟩; rw [hu1]; clear hu1)
          go_ret
          exact ⟨by rw [HE.out]; rfl, (HZ.out V hbUV).1⟩
        | true =>
          replace hn2 : (site != me) = false := hn2
          cases KK with
          | false =>
            go_enter Tryd.func28, Tryd.ntmps28
            go_upto_region 1 with (fail)
            rw [← hW]
            clear hW
            obtain ⟨x0, x1, x2, x3, x4, -, -, -, -, -, -, -, -, -, -, -, -⟩ := KC.out W (Below.refl _ _)
            have z3 := (HZ.out W (Below.refl _ _)).2
            go_upto_region 4 with (go_at_call 17; refine HRf.out.mono ?_; rintro e U ⟨rfl, hbU⟩)
            obtain ⟨y0, y1, y2, -, -, y5, y6, y7, y8, y9, y10, y11, y12, y13, y14, y15, y16⟩ := KC.out U hbU
            have z3U := (HZ.out U hbU).2
            clear x0 x1 x2 x3 x4
            go_upto_region 7 with (go_at_call 56; refine (HCk.out _ hbU).mono ?_; rintro e V ⟨rfl, hbV⟩)
            have hbUV := nT hbU hbV
            obtain ⟨-, -, -, -, -, v0, -, v2, v3, -, -, -, -, -, -, -, -⟩ := KC.out V hbUV
            have z3V := (HZ.out V hbUV).2
            clear y0 y1 y2 y5 y6 y7 y8 y9 y10 y11 y12 y13 y14 y15 y16
            go_wp2_with (go_at_call 18; refine (HWi.out _).mono ?_; rintro e u1 ⟨rfl, hu1⟩; rw [hu1]; clear hu1)
            go_ret
            exact ⟨by rw [HE.out]; rfl, (HZ.out V hbUV).1⟩
          | true =>
            go_enter Tryd.func28, Tryd.ntmps28
            go_upto_region 1 with (fail)
            rw [← hW]
            clear hW
            obtain ⟨x0, x1, x2, x3, x4, -, -, -, -, -, -, -, -, -, -, -, -⟩ := KC.out W (Below.refl _ _)
            have z3 := (HZ.out W (Below.refl _ _)).2
            go_upto_region 4 with (go_at_call 17; refine HRf.out.mono ?_; rintro e U ⟨rfl, hbU⟩)
            obtain ⟨y0, y1, y2, -, -, y5, y6, y7, y8, y9, y10, y11, y12, y13, y14, y15, y16⟩ := KC.out U hbU
            have z3U := (HZ.out U hbU).2
            clear x0 x1 x2 x3 x4
            go_upto_region 7 with (go_at_call 56; refine (HCk.out _ hbU).mono ?_; rintro e V ⟨rfl, hbV⟩)
            have hbUV := nT hbU hbV
            obtain ⟨-, -, -, -, -, v0, -, v2, v3, -, -, -, -, -, -, -, -⟩ := KC.out V hbUV
            have z3V := (HZ.out V hbUV).2
            clear y0 y1 y2 y5 y6 y7 y8 y9 y10 y11 y12 y13 y14 y15 y16
            go_wp2_with (go_at_call 18; refine (HWi.out _).mono ?_; rintro e u1 ⟨rfl, hu1⟩; rw [hu1]; clear hu1)
            go_ret
            exact ⟨by rw [HE.out]; rfl, (HZ.out V hbUV).1⟩
    · have hM' : (M == 0) = false := by simpa using hM
      have HR : Hid (RR = M) := by show _ = _; rw [HE.out, if_pos rfl, if_neg hM]
      go_enter Tryd.func28, Tryd.ntmps28
      go_upto_region 1 with (fail)
      rw [← hW]
      clear hW
      obtain ⟨x0, x1, x2, x3, x4, -, -, -, -, -, -, -, -, -, -, -, -⟩ := KC.out W (Below.refl _ _)
      have z3 := (HZ.out W (Below.refl _ _)).2
      go_upto_region 4 with (go_at_call 17; refine HRf.out.mono ?_; rintro e U ⟨rfl, hbU⟩)
      obtain ⟨y0, y1, y2, -, -, y5, y6, y7, y8, y9, y10, y11, y12, y13, y14, y15, y16⟩ := KC.out U hbU
      have z3U := (HZ.out U hbU).2
      clear x0 x1 x2 x3 x4
      go_wp2_with (go_at_call 56; refine (HCk.out _ hbU).mono ?_; rintro e V ⟨rfl, hbV⟩)
      go_ret
      exact ⟨by rw [HR.out]; rfl, (HZ.out V (nT hbU hbV)).1⟩
  · have hE' : (E == 0) = false := by simpa using hE
    have HR : Hid (RR = E) := by show _ = _; rw [HE.out, if_neg hE]
    go_enter Tryd.func28, Tryd.ntmps28
    go_upto_region 1 with (fail)
    rw [← hW]
    clear hW
    obtain ⟨x0, x1, x2, x3, x4, -, -, -, -, -, -, -, -, -, -, -, -⟩ := KC.out W (Below.refl _ _)
    have z3 := (HZ.out W (Below.refl _ _)).2
    go_wp2_with (go_at_call 17; refine HRf.out.mono ?_; rintro e U ⟨rfl, hbU⟩)
    go_ret
    exact ⟨by rw [HR.out]; rfl, (HZ.out U hbU).1⟩
def Tn.heard (t : Tn) (C : Cx) (m : MV) : Tn :=
  if m.kind = 9 then (if idxI (isN m.num) t.js = -1 then t.told C m.num false m.frm else t.doubted C (idxI (isN m.num) t.js).toNat m)
  else if idxI (isN m.num) t.js = -1 then t
  else if m.kind = 5 ∨ m.kind = 6 then t.answered C (idxI (isN m.num) t.js).toNat m
  else if m.kind = 7 then t.sured C (idxI (isN m.num) t.js).toNat m
  else t.acked (idxI (isN m.num) t.js).toNat m
def HearAns (C : Cx) (next : Int) (js : List JbV) (m : MV) : Tn := if hrErr C next js m = 0 then (tn0 next js).heard C m else tn0 0 []
def HearIs (w w' : World) (C : Cx) (next : Int) (js : List JbV) (m : MV) (e : Ending) : Prop := ∃ tv, e = .returned (.tuple #[tv, .int .i64 (hrErr C next js m)]) ∧ TurnIs w w' tv (HearAns C next js m)
theorem hr_zero {C : Cx} {next : Int} {js : List JbV} {m : MV} (h : hrErr C next js m = 0) : rfErr C.s C.ls C.p C.l C.me next js = 0 ∧ 5 ≤ m.kind ∧ m.kind ≤ 9 := by
  unfold hrErr at h
  by_cases h1 : rfErr C.s C.ls C.p C.l C.me next js = 0
  · rw [if_pos h1] at h
    by_cases h2 : msgFault C.s C.ls C.p m = 0
    · rw [if_pos h2] at h
      by_cases h3 : ((m.dst == C.me) && (m.site == C.me)) = true
      · rw [if_pos h3] at h
        by_cases h4 : inR m.kind 5 9 = true
        · simp only [inR, decide_eq_true_eq] at h4
          exact ⟨h1, h4.1, h4.2⟩
        · rw [if_neg h4] at h; omega
      · rw [if_neg h3] at h; omega
    · rw [if_neg h2] at h; exact absurd h h2
  · rw [if_neg h1] at h; exact absurd h h1
set_option maxRecDepth 100000 in
set_option maxHeartbeats 8000000 in
theorem hear_coord (s p : Int) (a : Option Addr) (len cap : Nat) (ls : List (Int × Int)) (l me next : Int) (ja : Option Addr) (jl jc : Nat) (js : List JbV) (m : MV) (w : World) (hl : IsLabs w a len cap ls) (hj : IsJobs w ja jl jc js) (hT : ∀ U, Below w.heap.size w U → Tables U) :
    Calls Tryd.prog 11 #[.agg #[.int .i64 s, .slice a len cap, .int .i64 p], .int .i64 l, .int .i64 me, .agg #[.int .i64 next, .slice ja jl jc], m.val] w fun e w' => HearIs w w' ⟨s, ls, p, l, me⟩ next js m e := by
  obtain ⟨kind, frm, dst, site, num, label, key, value, version, ask, yes, code⟩ := m
  simp only [MV.val]
  obtain ⟨W, hW⟩ : ∃ W : World, W = (((w.alloc (.cells #[.int .i64 s, .slice a len cap, .int .i64 p] 25)).alloc (.cells #[.int .i64 next, .slice ja jl jc] 29)).alloc (.cells #[.int .i64 kind, .int .i64 frm, .int .i64 dst, .int .i64 site, .int .i64 num, .int .i64 label, .int .i64 key, .int .i64 value, .int .i64 version, .int .i64 ask, .bool yes, .int .i64 code] 46)).alloc (.cells #[.int .i64 0, .slice none 0 0, .slice none 0 0, .slice none 0 0, .slice none 0 0, .int .i64 0, .int .i64 0] 34) := ⟨_, rfl⟩
  have bW : Below w.heap.size w W := by rw [hW]; exact ((((Below.refl _ _).alloc (Nat.le_refl _) _).alloc (by simp) _).alloc (by simp; omega) _).alloc (by simp; omega) _
  have zW : W.heap.size = w.heap.size + 4 := by rw [hW]; simp
  have bxW : BoxN W (w.heap.size + 3) 7 [.int .i64 0, .slice none 0 0, .slice none 0 0, .slice none 0 0, .slice none 0 0, .int .i64 0, .int .i64 0] := by
    rw [hW]
    have := boxn_new (((w.alloc (.cells #[.int .i64 s, .slice a len cap, .int .i64 p] 25)).alloc (.cells #[.int .i64 next, .slice ja jl jc] 29)).alloc (.cells #[.int .i64 kind, .int .i64 frm, .int .i64 dst, .int .i64 site, .int .i64 num, .int .i64 label, .int .i64 key, .int .i64 value, .int .i64 version, .int .i64 ask, .bool yes, .int .i64 code] 46)) #[.int .i64 0, .slice none 0 0, .slice none 0 0, .slice none 0 0, .slice none 0 0, .int .i64 0, .int .i64 0] 34 7 rfl
    simpa using this
  have c0 : W.cell? ⟨w.heap.size, 0, none⟩ = some (.int .i64 s) := by rw [hW]; go_simp
  have c1 : W.cell? ⟨w.heap.size, 1, none⟩ = some (.slice a len cap) := by rw [hW]; go_simp
  have c2 : W.cell? ⟨w.heap.size, 2, none⟩ = some (.int .i64 p) := by rw [hW]; go_simp
  have c3 : W.cell? ⟨w.heap.size + 1, 0, none⟩ = some (.int .i64 next) := by rw [hW]; go_simp
  have c4 : W.cell? ⟨w.heap.size + 1, 1, none⟩ = some (.slice ja jl jc) := by rw [hW]; go_simp
  have c5 : W.cell? ⟨w.heap.size + 2, 0, none⟩ = some (.int .i64 kind) := by rw [hW]; go_simp
  have c6 : W.cell? ⟨w.heap.size + 2, 1, none⟩ = some (.int .i64 frm) := by rw [hW]; go_simp
  have c7 : W.cell? ⟨w.heap.size + 2, 2, none⟩ = some (.int .i64 dst) := by rw [hW]; go_simp
  have c8 : W.cell? ⟨w.heap.size + 2, 3, none⟩ = some (.int .i64 site) := by rw [hW]; go_simp
  have c9 : W.cell? ⟨w.heap.size + 2, 4, none⟩ = some (.int .i64 num) := by rw [hW]; go_simp
  have c10 : W.cell? ⟨w.heap.size + 2, 5, none⟩ = some (.int .i64 label) := by rw [hW]; go_simp
  have c11 : W.cell? ⟨w.heap.size + 2, 6, none⟩ = some (.int .i64 key) := by rw [hW]; go_simp
  have c12 : W.cell? ⟨w.heap.size + 2, 7, none⟩ = some (.int .i64 value) := by rw [hW]; go_simp
  have c13 : W.cell? ⟨w.heap.size + 2, 8, none⟩ = some (.int .i64 version) := by rw [hW]; go_simp
  have c14 : W.cell? ⟨w.heap.size + 2, 9, none⟩ = some (.int .i64 ask) := by rw [hW]; go_simp
  have c15 : W.cell? ⟨w.heap.size + 2, 10, none⟩ = some (.bool yes) := by rw [hW]; go_simp
  have c16 : W.cell? ⟨w.heap.size + 2, 11, none⟩ = some (.int .i64 code) := by rw [hW]; go_simp
  have KC : Hid (∀ U, Below W.heap.size W U → U.cell? ⟨w.heap.size, 0, none⟩ = some (.int .i64 s) ∧ U.cell? ⟨w.heap.size, 1, none⟩ = some (.slice a len cap) ∧ U.cell? ⟨w.heap.size, 2, none⟩ = some (.int .i64 p) ∧ U.cell? ⟨w.heap.size + 1, 0, none⟩ = some (.int .i64 next) ∧ U.cell? ⟨w.heap.size + 1, 1, none⟩ = some (.slice ja jl jc) ∧ U.cell? ⟨w.heap.size + 2, 0, none⟩ = some (.int .i64 kind) ∧ U.cell? ⟨w.heap.size + 2, 1, none⟩ = some (.int .i64 frm) ∧ U.cell? ⟨w.heap.size + 2, 2, none⟩ = some (.int .i64 dst) ∧ U.cell? ⟨w.heap.size + 2, 3, none⟩ = some (.int .i64 site) ∧ U.cell? ⟨w.heap.size + 2, 4, none⟩ = some (.int .i64 num) ∧ U.cell? ⟨w.heap.size + 2, 5, none⟩ = some (.int .i64 label) ∧ U.cell? ⟨w.heap.size + 2, 6, none⟩ = some (.int .i64 key) ∧ U.cell? ⟨w.heap.size + 2, 7, none⟩ = some (.int .i64 value) ∧ U.cell? ⟨w.heap.size + 2, 8, none⟩ = some (.int .i64 version) ∧ U.cell? ⟨w.heap.size + 2, 9, none⟩ = some (.int .i64 ask) ∧ U.cell? ⟨w.heap.size + 2, 10, none⟩ = some (.bool yes) ∧ U.cell? ⟨w.heap.size + 2, 11, none⟩ = some (.int .i64 code)) := fun U hU => ⟨(hU.cell (p := ⟨w.heap.size, 0, none⟩) (by show w.heap.size < _; omega)).trans c0, (hU.cell (p := ⟨w.heap.size, 1, none⟩) (by show w.heap.size < _; omega)).trans c1, (hU.cell (p := ⟨w.heap.size, 2, none⟩) (by show w.heap.size < _; omega)).trans c2, (hU.cell (p := ⟨w.heap.size + 1, 0, none⟩) (by show w.heap.size + 1 < _; omega)).trans c3, (hU.cell (p := ⟨w.heap.size + 1, 1, none⟩) (by show w.heap.size + 1 < _; omega)).trans c4, (hU.cell (p := ⟨w.heap.size + 2, 0, none⟩) (by show w.heap.size + 2 < _; omega)).trans c5, (hU.cell (p := ⟨w.heap.size + 2, 1, none⟩) (by show w.heap.size + 2 < _; omega)).trans c6, (hU.cell (p := ⟨w.heap.size + 2, 2, none⟩) (by show w.heap.size + 2 < _; omega)).trans c7, (hU.cell (p := ⟨w.heap.size + 2, 3, none⟩) (by show w.heap.size + 2 < _; omega)).trans c8, (hU.cell (p := ⟨w.heap.size + 2, 4, none⟩) (by show w.heap.size + 2 < _; omega)).trans c9, (hU.cell (p := ⟨w.heap.size + 2, 5, none⟩) (by show w.heap.size + 2 < _; omega)).trans c10, (hU.cell (p := ⟨w.heap.size + 2, 6, none⟩) (by show w.heap.size + 2 < _; omega)).trans c11, (hU.cell (p := ⟨w.heap.size + 2, 7, none⟩) (by show w.heap.size + 2 < _; omega)).trans c12, (hU.cell (p := ⟨w.heap.size + 2, 8, none⟩) (by show w.heap.size + 2 < _; omega)).trans c13, (hU.cell (p := ⟨w.heap.size + 2, 9, none⟩) (by show w.heap.size + 2 < _; omega)).trans c14, (hU.cell (p := ⟨w.heap.size + 2, 10, none⟩) (by show w.heap.size + 2 < _; omega)).trans c15, (hU.cell (p := ⟨w.heap.size + 2, 11, none⟩) (by show w.heap.size + 2 < _; omega)).trans c16⟩
  have HBox : Hid (∀ U, Below W.heap.size W U → BoxN U (w.heap.size + 3) 7 [.int .i64 0, .slice none 0 0, .slice none 0 0, .slice none 0 0, .slice none 0 0, .int .i64 0, .int .i64 0]) := fun U hU => bxW.below hU bxW.lt
  have HZ : Hid (∀ U, Below W.heap.size W U → Below w.heap.size w U ∧ w.heap.size + 4 ≤ U.heap.size) := fun U hU => ⟨bW.trans (hU.mono bW.size), by have := hU.size; omega⟩
  have HRf : Hid (Calls Tryd.prog 28 #[.agg #[.int .i64 s, .slice a len cap, .int .i64 p], .int .i64 l, .int .i64 me, .agg #[.int .i64 next, .slice ja jl jc], .agg #[.int .i64 kind, .int .i64 frm, .int .i64 dst, .int .i64 site, .int .i64 num, .int .i64 label, .int .i64 key, .int .i64 value, .int .i64 version, .int .i64 ask, .bool yes, .int .i64 code]] W fun e w' => e = .returned (.int .i64 (hrErr ⟨s, ls, p, l, me⟩ next js ⟨kind, frm, dst, site, num, label, key, value, version, ask, yes, code⟩)) ∧ Below W.heap.size W w') := refuseHear_coord s p a len cap ls l me next ja jl jc js ⟨kind, frm, dst, site, num, label, key, value, version, ask, yes, code⟩ W (hl.below bW) (hj.below bW) (fun U hU => hT U (HZ.out U hU).1)
  have HFine := fun (h : hrErr ⟨s, ls, p, l, me⟩ next js ⟨kind, frm, dst, site, num, label, key, value, version, ask, yes, code⟩ = 0) => desk_fine (hr_zero h).1
  have HKd := fun (h : hrErr ⟨s, ls, p, l, me⟩ next js ⟨kind, frm, dst, site, num, label, key, value, version, ask, yes, code⟩ = 0) => (hr_zero h).2
  obtain ⟨E, eE⟩ : ∃ E, E = hrErr ⟨s, ls, p, l, me⟩ next js ⟨kind, frm, dst, site, num, label, key, value, version, ask, yes, code⟩ := ⟨_, rfl⟩
  rw [← eE] at HRf HFine HKd
  have HC : Hid (hrErr ⟨s, ls, p, l, me⟩ next js ⟨kind, frm, dst, site, num, label, key, value, version, ask, yes, code⟩ = E) := eE.symm
  clear eE bxW c0 c1 c2 c3 c4 c5 c6 c7 c8 c9 c10 c11 c12 c13 c14 c15 c16
  by_cases hE : E = 0
  · skip
    obtain ⟨hs4, hnx, h6, hF⟩ := HFine hE
    have hkd := HKd hE
    clear HFine HKd
    subst hE
    /- what comes of a turn -/
    have HFin : Hid (∀ (U X : World) (q : Nat) (V : CkV) (ix : List (Nat × Nat)) (more : List Rw), Below W.heap.size W U → Clerk U X U.heap.size q V ix more → RecsIn V.rs more → V.tn = (tn0 next js).heard ⟨s, ls, p, l, me⟩ ⟨kind, frm, dst, site, num, label, key, value, version, ask, yes, code⟩ → HearIs w (set7 X (w.heap.size + 3) (.int .i64 V.next) (.slice V.ja V.jl V.jc) (.slice V.ma V.ml V.mc) (.slice V.ra V.rl V.rc) (.slice V.pa V.pl V.pc) (.int .i64 V.sure) (.int .i64 V.com)) ⟨s, ls, p, l, me⟩ next js ⟨kind, frm, dst, site, num, label, key, value, version, ask, yes, code⟩ (.returned (.tuple #[.agg #[.int .i64 V.next, .slice V.ja V.jl V.jc, .slice V.ma V.ml V.mc, .slice V.ra V.rl V.rc, .slice V.pa V.pl V.pc, .int .i64 V.sure, .int .i64 V.com], .int .i64 0]))) := fun U X q V ix more hU hC hR hT => by
      refine ⟨V.turn, by rw [HC.out]; rfl, V, ix, more, rfl, turn_fin hC hR (HZ.out U hU).1 (by omega) (by have := (HZ.out U hU).2; omega) _ _ _ _ _ _ _, ?_⟩
      unfold HearAns
      rw [if_pos HC.out]
      exact hT
    have hjl : js.length = jl := hj.row.1
    have h10 : ∀ j ∈ js, j.tl ≤ 10 ∧ j.al ≤ 10 := fun j hjm => by
      have h1 := hF j hjm
      have h2 := (hj.each j hjm).tasks.1
      have h3 := (hj.each j hjm).asked.1
      omega
    have HSit : Hid (∀ U, Below W.heap.size W U → Calls Tryd.prog 19 #[.agg #[.int .i64 s, .slice a len cap, .int .i64 p], .int .i64 l, .int .i64 me, .agg #[.int .i64 next, .slice ja jl jc]] U fun e w' => SitNew U w' e s a len cap p l me next jl js) := fun U hU => sit_any s p a len cap l me next ja jl jc js U (hj.below (HZ.out U hU).1) (by omega) h10
    have HLb : Hid (∀ U, Below W.heap.size W U → IsLabs U a len cap ls) := fun U hU => hl.below (HZ.out U hU).1
    have HFi : Hid (∀ j ∈ js, j.tasks.length ≤ 10 ∧ j.asked.length ≤ 4 ∧ 0 ≤ j.asks ∧ j.asks ≤ 1048576) := hF
    clear hF h10
    go_enter Tryd.func11, Tryd.ntmps11
    go_upto_region 1 with (fail)
    rw [← hW]
    clear hW
    obtain ⟨x0, x1, x2, x3, x4, x5, x6, x7, x8, x9, x10, x11, x12, x13, x14, x15, x16⟩ := KC.out W (Below.refl _ _)
    have z4 := (HZ.out W (Below.refl _ _)).2
    go_upto_region 4 with (go_at_call 28; refine HRf.out.mono ?_; rintro e U ⟨rfl, hbU⟩)
    clear x0 x1 x2 x3 x4 x5 x6 x7 x8 x9 x10 x11 x12 x13 x14 x15 x16
    obtain ⟨d0, d1, d2, d3, d4, d5, d6, d7, d8, d9, d10, d11, d12, d13, d14, d15, d16⟩ := KC.out U hbU
    have z4U := (HZ.out U hbU).2
    go_upto_region 5 with (go_at_call 19; refine (HSit.out _ hbU).mono ?_; rintro e X ⟨q, ja1, jc1, js1, ix, more, rfl, hC1, hbare⟩)
    have HTn : Hid ((⟨s, a, len, cap, p, l, me, next, ja1, jl, jc1, none, 0, 0, none, 0, 0, none, 0, 0, 0, 0, js1, [], [], []⟩ : CkV).tn = tn0 next js) := by show _ = _; unfold CkV.tn tn0; simp only [hbare]; rfl
    have HB : Hid (js1.map JbV.bare = js.map JbV.bare) := hbare
    obtain ⟨v, ev⟩ : ∃ v : CkV, v = ⟨s, a, len, cap, p, l, me, next, ja1, jl, jc1, none, 0, 0, none, 0, 0, none, 0, 0, 0, 0, js1, [], [], []⟩ := ⟨_, rfl⟩
    rw [← ev] at hC1 HTn
    have HV : Hid (v.js = js1 ∧ v.jl = jl ∧ v.ja = ja1 ∧ v.ml = 0 ∧ v.rl = 0 ∧ v.pl = 0 ∧ v.rs = [] ∧ v.next = next ∧ v.s = s ∧ v.cx ls = ⟨s, ls, p, l, me⟩ ∧ v.me = me ∧ v.l = l) := by rw [ev]; exact ⟨rfl, rfl, rfl, rfl, rfl, rfl, rfl, rfl, rfl, rfl, rfl, rfl⟩
    have HLabs : Hid (Labs U U.heap.size q v ls) := fun U' u iy m' hU' => by
      have : IsLabs U' a len cap ls := (HLb.out U hbU).below hU'.held.bel
      rw [ev]
      exact this
    have HC1 : Hid (Clerk U X U.heap.size q v ix more) := hC1
    have HXU : Hid (∀ (X : World) (u : CkV) (ix : List (Nat × Nat)) (more : List Rw), Clerk U X U.heap.size q u ix more → Below W.heap.size W X) := fun X u ix more hX => hbU.trans (hX.held.bel.mono hbU.size)
    clear ev hbare hC1 d0 d1 d2 d3 d4 d5 d6 d7 d8 d9 d10 d11 d12 d13 d14 d15 d16 HSit HRf HLb
    obtain ⟨-, -, -, -, -, d5, d6, d7, d8, d9, d10, d11, d12, d13, d14, d15, d16⟩ := KC.out X (HXU.out _ _ _ _ HC1.out)
    have z4X := (HZ.out X (HXU.out _ _ _ _ HC1.out)).2
    have HJb : Hid (Calls Tryd.prog 21 #[.pointer (some ⟨q, 0, none⟩), .int .i64 num] X fun e X' => JobIs e v num ∧ Below X.heap.size X X') := job_any X HC1.out num
    have HIx : Hid (idxI (isN num) (tn0 next js).js = idxI (isN num) v.js) := by show _ = _; have h1 := idx_bare num js1; rw [HV.out.1, ← h1, HB.out]; rfl
    go_upto_region 6 with (go_at_call 21; refine HJb.out.mono ?_; rintro e X2 ⟨hJob, hb2⟩; rcases hJob with ⟨rfl, hix⟩ | ⟨i, g, rfl, hix, hi, eg⟩)
    · -- there is no such job
      have HIx1 : Hid (idxI (isN num) (tn0 next js).js = -1) := HIx.out.trans hix
      have HX2 : Hid (Clerk U X2 U.heap.size q v ix more) := HC1.out.below hb2
      clear d5 d6 d7 d8 d9 d10 d11 d12 d13 d14 d15 d16 z4X hix
      obtain ⟨-, -, -, -, -, d5, d6, d7, d8, d9, d10, d11, d12, d13, d14, d15, d16⟩ := KC.out X2 (HXU.out _ _ _ _ HX2.out)
      have z4X2 := (HZ.out X2 (HXU.out _ _ _ _ HX2.out)).2
      by_cases hk9 : kind = 9
      · subst hk9
        have HTc : Hid ((tn0 next js).heard ⟨s, ls, p, l, me⟩ ⟨9, frm, dst, site, num, label, key, value, version, ask, yes, code⟩ = (tn0 next js).told ⟨s, ls, p, l, me⟩ num false frm) := by show _ = _; unfold Tn.heard; rw [if_pos rfl, if_pos HIx1.out]
        have HK : Hid (Calls Tryd.prog 29 #[.pointer (some ⟨q, 0, none⟩), .pointer none, .agg #[.int .i64 9, .int .i64 frm, .int .i64 dst, .int .i64 site, .int .i64 num, .int .i64 label, .int .i64 key, .int .i64 value, .int .i64 version, .int .i64 ask, .bool yes, .int .i64 code]] X2 fun e X' => e = .returned (.tuple #[]) ∧ DoneIs U X' U.heap.size q v ((tn0 next js).heard ⟨s, ls, p, l, me⟩ ⟨9, frm, dst, site, num, label, key, value, version, ask, yes, code⟩) (.returned (.tuple #[]))) := by
          have h2 := HV.out
          have := doubtsNone_done X2 HX2.out (by rw [h2.2.2.2.2.2.2.1]; exact recsIn_nil _) ls ⟨9, frm, dst, site, num, label, key, value, version, ask, yes, code⟩ (by rw [h2.2.2.2.1]; decide)
          rw [HTn.out, h2.2.2.2.2.2.2.2.2.2.1] at this
          refine this.mono ?_
          rintro e u hu
          obtain rfl := hu.1
          rw [HTc.out]
          exact ⟨rfl, hu⟩
        
        go_upto_region 15 with (go_at_call 29; refine HK.out.mono ?_; rintro e X9 ⟨rfl, h9⟩)
        clear d5 d6 d7 d8 d9 d10 d11 d12 d13 d14 d15 d16 z4X2
        obtain ⟨-, V, ix9, more9, hC9, hR9, hT9, -⟩ := h9
        have hF9 := HFin.out U X9 q V ix9 more9 hbU hC9 hR9 (by exact hT9)
        have bq := hC9.held.box
        have zq := bq.lt
        have s0 : X9.cell? ⟨q, 5, none⟩ = some (.int .i64 V.next) := (bq.c 5 (by decide)).1
        have s1 : X9.cell? ⟨q, 6, none⟩ = some (.slice V.ja V.jl V.jc) := (bq.c 6 (by decide)).1
        have s2 : X9.cell? ⟨q, 7, none⟩ = some (.slice V.ma V.ml V.mc) := (bq.c 7 (by decide)).1
        have s3 : X9.cell? ⟨q, 8, none⟩ = some (.slice V.ra V.rl V.rc) := (bq.c 8 (by decide)).1
        have s4 : X9.cell? ⟨q, 9, none⟩ = some (.slice V.pa V.pl V.pc) := (bq.c 9 (by decide)).1
        have s5 : X9.cell? ⟨q, 10, none⟩ = some (.int .i64 V.sure) := (bq.c 10 (by decide)).1
        have s6 : X9.cell? ⟨q, 11, none⟩ = some (.int .i64 V.com) := (bq.c 11 (by decide)).1
        have bR := HBox.out X9 (HXU.out _ _ _ _ hC9)
        have r0 : X9.cell? ⟨w.heap.size + 3, 0, none⟩ = some (.int .i64 0) := (bR.c 0 (by decide)).1
        have rf0 := (bR.c 0 (by decide)).2
        have r1 : X9.cell? ⟨w.heap.size + 3, 1, none⟩ = some (.slice none 0 0) := (bR.c 1 (by decide)).1
        have rf1 := (bR.c 1 (by decide)).2
        have r2 : X9.cell? ⟨w.heap.size + 3, 2, none⟩ = some (.slice none 0 0) := (bR.c 2 (by decide)).1
        have rf2 := (bR.c 2 (by decide)).2
        have r3 : X9.cell? ⟨w.heap.size + 3, 3, none⟩ = some (.slice none 0 0) := (bR.c 3 (by decide)).1
        have rf3 := (bR.c 3 (by decide)).2
        have r4 : X9.cell? ⟨w.heap.size + 3, 4, none⟩ = some (.slice none 0 0) := (bR.c 4 (by decide)).1
        have rf4 := (bR.c 4 (by decide)).2
        have r5 : X9.cell? ⟨w.heap.size + 3, 5, none⟩ = some (.int .i64 0) := (bR.c 5 (by decide)).1
        have rf5 := (bR.c 5 (by decide)).2
        have r6 : X9.cell? ⟨w.heap.size + 3, 6, none⟩ = some (.int .i64 0) := (bR.c 6 (by decide)).1
        have rf6 := (bR.c 6 (by decide)).2
        have zr := bR.lt
        clear bq
        go_wp2
        obtain ⟨Y, eY⟩ : ∃ Y, Y = set7 X9 (w.heap.size + 3) (.int .i64 V.next) (.slice V.ja V.jl V.jc) (.slice V.ma V.ml V.mc) (.slice V.ra V.rl V.rc) (.slice V.pa V.pl V.pc) (.int .i64 V.sure) (.int .i64 V.com) := ⟨_, rfl⟩
        have bF : BoxN Y (w.heap.size + 3) 7 [.int .i64 V.next, .slice V.ja V.jl V.jc, .slice V.ma V.ml V.mc, .slice V.ra V.rl V.rc, .slice V.pa V.pl V.pc, .int .i64 V.sure, .int .i64 V.com] := by
          rw [eY]
          exact ((((((bR.set 0 (by decide) _).set 1 (by decide) _).set 2 (by decide) _).set 3 (by decide) _).set 4 (by decide) _).set 5 (by decide) _).set 6 (by decide) _
        rw [← eY] at hF9
        have k0 : Y.cell? ⟨w.heap.size + 3, 0, none⟩ = some (.int .i64 V.next) := (bF.c 0 (by decide)).1
        have k1 : Y.cell? ⟨w.heap.size + 3, 1, none⟩ = some (.slice V.ja V.jl V.jc) := (bF.c 1 (by decide)).1
        have k2 : Y.cell? ⟨w.heap.size + 3, 2, none⟩ = some (.slice V.ma V.ml V.mc) := (bF.c 2 (by decide)).1
        have k3 : Y.cell? ⟨w.heap.size + 3, 3, none⟩ = some (.slice V.ra V.rl V.rc) := (bF.c 3 (by decide)).1
        have k4 : Y.cell? ⟨w.heap.size + 3, 4, none⟩ = some (.slice V.pa V.pl V.pc) := (bF.c 4 (by decide)).1
        have k5 : Y.cell? ⟨w.heap.size + 3, 5, none⟩ = some (.int .i64 V.sure) := (bF.c 5 (by decide)).1
        have k6 : Y.cell? ⟨w.heap.size + 3, 6, none⟩ = some (.int .i64 V.com) := (bF.c 6 (by decide)).1
        unfold set7 at eY
        rw [← eY]
        clear eY
        exact bodyPost_ret (v := .tuple #[.agg #[.int .i64 V.next, .slice V.ja V.jl V.jc, .slice V.ma V.ml V.mc, .slice V.ra V.rl V.rc, .slice V.pa V.pl V.pc, .int .i64 V.sure, .int .i64 V.com], .int .i64 0]) (by simp [results, Tryd.results11, go_sem, k0, k1, k2, k3, k4, k5, k6]) rfl hF9
      · have hk9' : (kind == 9) = false := by simpa using hk9
        have HTc : Hid ((tn0 next js).heard ⟨s, ls, p, l, me⟩ ⟨kind, frm, dst, site, num, label, key, value, version, ask, yes, code⟩ = tn0 next js) := by show _ = _; unfold Tn.heard; rw [if_neg hk9, if_pos HIx1.out]
        have h9 : DoneIs U X2 U.heap.size q v ((tn0 next js).heard ⟨s, ls, p, l, me⟩ ⟨kind, frm, dst, site, num, label, key, value, version, ask, yes, code⟩) (.returned (.tuple #[])) := ⟨rfl, v, ix, more, HX2.out, by rw [HV.out.2.2.2.2.2.2.1]; exact recsIn_nil _, by rw [HTc.out]; exact HTn.out, rfl, rfl, rfl, rfl, rfl, rfl, rfl⟩
        go_upto_region 15 with (fail)
        clear d5 d6 d7 d8 d9 d10 d11 d12 d13 d14 d15 d16 z4X2
        obtain ⟨-, V, ix9, more9, hC9, hR9, hT9, -⟩ := h9
        have hF9 := HFin.out U X2 q V ix9 more9 hbU hC9 hR9 (by exact hT9)
        have bq := hC9.held.box
        have zq := bq.lt
        have s0 : X2.cell? ⟨q, 5, none⟩ = some (.int .i64 V.next) := (bq.c 5 (by decide)).1
        have s1 : X2.cell? ⟨q, 6, none⟩ = some (.slice V.ja V.jl V.jc) := (bq.c 6 (by decide)).1
        have s2 : X2.cell? ⟨q, 7, none⟩ = some (.slice V.ma V.ml V.mc) := (bq.c 7 (by decide)).1
        have s3 : X2.cell? ⟨q, 8, none⟩ = some (.slice V.ra V.rl V.rc) := (bq.c 8 (by decide)).1
        have s4 : X2.cell? ⟨q, 9, none⟩ = some (.slice V.pa V.pl V.pc) := (bq.c 9 (by decide)).1
        have s5 : X2.cell? ⟨q, 10, none⟩ = some (.int .i64 V.sure) := (bq.c 10 (by decide)).1
        have s6 : X2.cell? ⟨q, 11, none⟩ = some (.int .i64 V.com) := (bq.c 11 (by decide)).1
        have bR := HBox.out X2 (HXU.out _ _ _ _ hC9)
        have r0 : X2.cell? ⟨w.heap.size + 3, 0, none⟩ = some (.int .i64 0) := (bR.c 0 (by decide)).1
        have rf0 := (bR.c 0 (by decide)).2
        have r1 : X2.cell? ⟨w.heap.size + 3, 1, none⟩ = some (.slice none 0 0) := (bR.c 1 (by decide)).1
        have rf1 := (bR.c 1 (by decide)).2
        have r2 : X2.cell? ⟨w.heap.size + 3, 2, none⟩ = some (.slice none 0 0) := (bR.c 2 (by decide)).1
        have rf2 := (bR.c 2 (by decide)).2
        have r3 : X2.cell? ⟨w.heap.size + 3, 3, none⟩ = some (.slice none 0 0) := (bR.c 3 (by decide)).1
        have rf3 := (bR.c 3 (by decide)).2
        have r4 : X2.cell? ⟨w.heap.size + 3, 4, none⟩ = some (.slice none 0 0) := (bR.c 4 (by decide)).1
        have rf4 := (bR.c 4 (by decide)).2
        have r5 : X2.cell? ⟨w.heap.size + 3, 5, none⟩ = some (.int .i64 0) := (bR.c 5 (by decide)).1
        have rf5 := (bR.c 5 (by decide)).2
        have r6 : X2.cell? ⟨w.heap.size + 3, 6, none⟩ = some (.int .i64 0) := (bR.c 6 (by decide)).1
        have rf6 := (bR.c 6 (by decide)).2
        have zr := bR.lt
        clear bq
        go_wp2
        obtain ⟨Y, eY⟩ : ∃ Y, Y = set7 X2 (w.heap.size + 3) (.int .i64 V.next) (.slice V.ja V.jl V.jc) (.slice V.ma V.ml V.mc) (.slice V.ra V.rl V.rc) (.slice V.pa V.pl V.pc) (.int .i64 V.sure) (.int .i64 V.com) := ⟨_, rfl⟩
        have bF : BoxN Y (w.heap.size + 3) 7 [.int .i64 V.next, .slice V.ja V.jl V.jc, .slice V.ma V.ml V.mc, .slice V.ra V.rl V.rc, .slice V.pa V.pl V.pc, .int .i64 V.sure, .int .i64 V.com] := by
          rw [eY]
          exact ((((((bR.set 0 (by decide) _).set 1 (by decide) _).set 2 (by decide) _).set 3 (by decide) _).set 4 (by decide) _).set 5 (by decide) _).set 6 (by decide) _
        rw [← eY] at hF9
        have k0 : Y.cell? ⟨w.heap.size + 3, 0, none⟩ = some (.int .i64 V.next) := (bF.c 0 (by decide)).1
        have k1 : Y.cell? ⟨w.heap.size + 3, 1, none⟩ = some (.slice V.ja V.jl V.jc) := (bF.c 1 (by decide)).1
        have k2 : Y.cell? ⟨w.heap.size + 3, 2, none⟩ = some (.slice V.ma V.ml V.mc) := (bF.c 2 (by decide)).1
        have k3 : Y.cell? ⟨w.heap.size + 3, 3, none⟩ = some (.slice V.ra V.rl V.rc) := (bF.c 3 (by decide)).1
        have k4 : Y.cell? ⟨w.heap.size + 3, 4, none⟩ = some (.slice V.pa V.pl V.pc) := (bF.c 4 (by decide)).1
        have k5 : Y.cell? ⟨w.heap.size + 3, 5, none⟩ = some (.int .i64 V.sure) := (bF.c 5 (by decide)).1
        have k6 : Y.cell? ⟨w.heap.size + 3, 6, none⟩ = some (.int .i64 V.com) := (bF.c 6 (by decide)).1
        unfold set7 at eY
        rw [← eY]
        clear eY
        exact bodyPost_ret (v := .tuple #[.agg #[.int .i64 V.next, .slice V.ja V.jl V.jc, .slice V.ma V.ml V.mc, .slice V.ra V.rl V.rc, .slice V.pa V.pl V.pc, .int .i64 V.sure, .int .i64 V.com], .int .i64 0]) (by simp [results, Tryd.results11, go_sem, k0, k1, k2, k3, k4, k5, k6]) rfl hF9
    · have HIx1 : Hid (idxI (isN num) (tn0 next js).js = (i : Int)) := HIx.out.trans hix
      have HIx2 : Hid (¬ idxI (isN num) (tn0 next js).js = -1) := by show ¬ _; rw [HIx1.out]; omega
      have HIx3 : Hid ((idxI (isN num) (tn0 next js).js).toNat = i) := by show _ = _; rw [HIx1.out]; omega
      have HX2 : Hid (Clerk U X2 U.heap.size q v ix more) := HC1.out.below hb2
      have HFj : Hid ((v.js.getD i default).tl ≤ 10) := by
        have hi2 : i < js.length := by
          have h1 : js1.length = js.length := by simpa using congrArg List.length HB.out
          have h2 := HX2.out.lens.1
          rw [HV.out.1] at h2
          omega
        have h3 := HFi.out _ (mem_at hi2)
        have h4 : (v.js.getD i default).bare = (js.getD i default).bare := by rw [HV.out.1]; exact at_bare HB.out
        have h6 : (v.js.getD i default).bare.tasks = (js.getD i default).bare.tasks := congrArg JbV.tasks h4
        change (v.js.getD i default).tasks = (js.getD i default).tasks at h6
        have h7 := (HX2.out.fit hi).1
        rw [h6] at h7
        show _ ≤ _
        omega
      clear d5 d6 d7 d8 d9 d10 d11 d12 d13 d14 d15 d16 z4X hix
      obtain ⟨-, -, -, -, -, d5, d6, d7, d8, d9, d10, d11, d12, d13, d14, d15, d16⟩ := KC.out X2 (HXU.out _ _ _ _ HX2.out)
      have z4X2 := (HZ.out X2 (HXU.out _ _ _ _ HX2.out)).2
      have HTc0 : Hid ((tn0 next js).heard ⟨s, ls, p, l, me⟩ ⟨kind, frm, dst, site, num, label, key, value, version, ask, yes, code⟩ = if kind = 9 then (tn0 next js).doubted ⟨s, ls, p, l, me⟩ i ⟨kind, frm, dst, site, num, label, key, value, version, ask, yes, code⟩ else if kind = 5 ∨ kind = 6 then (tn0 next js).answered ⟨s, ls, p, l, me⟩ i ⟨kind, frm, dst, site, num, label, key, value, version, ask, yes, code⟩ else if kind = 7 then (tn0 next js).sured ⟨s, ls, p, l, me⟩ i ⟨kind, frm, dst, site, num, label, key, value, version, ask, yes, code⟩ else (tn0 next js).acked i ⟨kind, frm, dst, site, num, label, key, value, version, ask, yes, code⟩) := by
        show _ = _
        unfold Tn.heard
        rw [if_neg HIx2.out, if_neg HIx2.out, HIx3.out]
      by_cases hk9 : kind = 9
      · subst hk9
        have HTc : Hid ((tn0 next js).heard ⟨s, ls, p, l, me⟩ ⟨9, frm, dst, site, num, label, key, value, version, ask, yes, code⟩ = (tn0 next js).doubted ⟨s, ls, p, l, me⟩ i ⟨9, frm, dst, site, num, label, key, value, version, ask, yes, code⟩) := by show _ = _; rw [HTc0.out]; simp
        clear HTc0
        have HK : Hid (Calls Tryd.prog 29 #[.pointer (some ⟨q, 0, none⟩), .pointer (some ⟨g, i * 6, none⟩), .agg #[.int .i64 9, .int .i64 frm, .int .i64 dst, .int .i64 site, .int .i64 num, .int .i64 label, .int .i64 key, .int .i64 value, .int .i64 version, .int .i64 ask, .bool yes, .int .i64 code]] X2 fun e X' => e = .returned (.tuple #[]) ∧ DoneIs U X' U.heap.size q v ((tn0 next js).heard ⟨s, ls, p, l, me⟩ ⟨9, frm, dst, site, num, label, key, value, version, ask, yes, code⟩) (.returned (.tuple #[]))) := by
          have h2 := HV.out
          have := doubts_done X2 HX2.out (by rw [h2.2.2.2.2.2.2.1]; exact recsIn_nil _) ls hi eg ⟨9, frm, dst, site, num, label, key, value, version, ask, yes, code⟩ (by rw [h2.2.2.2.1]; decide)
          rw [HTn.out, h2.2.2.2.2.2.2.2.2.2.1] at this
          refine this.mono ?_
          rintro e u hu
          obtain rfl := hu.1
          rw [HTc.out]
          exact ⟨rfl, hu⟩
        
        go_upto_region 15 with (go_at_call 29; refine HK.out.mono ?_; rintro e X9 ⟨rfl, h9⟩)
        clear d5 d6 d7 d8 d9 d10 d11 d12 d13 d14 d15 d16 z4X2
        obtain ⟨-, V, ix9, more9, hC9, hR9, hT9, -⟩ := h9
        have hF9 := HFin.out U X9 q V ix9 more9 hbU hC9 hR9 (by exact hT9)
        have bq := hC9.held.box
        have zq := bq.lt
        have s0 : X9.cell? ⟨q, 5, none⟩ = some (.int .i64 V.next) := (bq.c 5 (by decide)).1
        have s1 : X9.cell? ⟨q, 6, none⟩ = some (.slice V.ja V.jl V.jc) := (bq.c 6 (by decide)).1
        have s2 : X9.cell? ⟨q, 7, none⟩ = some (.slice V.ma V.ml V.mc) := (bq.c 7 (by decide)).1
        have s3 : X9.cell? ⟨q, 8, none⟩ = some (.slice V.ra V.rl V.rc) := (bq.c 8 (by decide)).1
        have s4 : X9.cell? ⟨q, 9, none⟩ = some (.slice V.pa V.pl V.pc) := (bq.c 9 (by decide)).1
        have s5 : X9.cell? ⟨q, 10, none⟩ = some (.int .i64 V.sure) := (bq.c 10 (by decide)).1
        have s6 : X9.cell? ⟨q, 11, none⟩ = some (.int .i64 V.com) := (bq.c 11 (by decide)).1
        have bR := HBox.out X9 (HXU.out _ _ _ _ hC9)
        have r0 : X9.cell? ⟨w.heap.size + 3, 0, none⟩ = some (.int .i64 0) := (bR.c 0 (by decide)).1
        have rf0 := (bR.c 0 (by decide)).2
        have r1 : X9.cell? ⟨w.heap.size + 3, 1, none⟩ = some (.slice none 0 0) := (bR.c 1 (by decide)).1
        have rf1 := (bR.c 1 (by decide)).2
        have r2 : X9.cell? ⟨w.heap.size + 3, 2, none⟩ = some (.slice none 0 0) := (bR.c 2 (by decide)).1
        have rf2 := (bR.c 2 (by decide)).2
        have r3 : X9.cell? ⟨w.heap.size + 3, 3, none⟩ = some (.slice none 0 0) := (bR.c 3 (by decide)).1
        have rf3 := (bR.c 3 (by decide)).2
        have r4 : X9.cell? ⟨w.heap.size + 3, 4, none⟩ = some (.slice none 0 0) := (bR.c 4 (by decide)).1
        have rf4 := (bR.c 4 (by decide)).2
        have r5 : X9.cell? ⟨w.heap.size + 3, 5, none⟩ = some (.int .i64 0) := (bR.c 5 (by decide)).1
        have rf5 := (bR.c 5 (by decide)).2
        have r6 : X9.cell? ⟨w.heap.size + 3, 6, none⟩ = some (.int .i64 0) := (bR.c 6 (by decide)).1
        have rf6 := (bR.c 6 (by decide)).2
        have zr := bR.lt
        clear bq
        go_wp2
        obtain ⟨Y, eY⟩ : ∃ Y, Y = set7 X9 (w.heap.size + 3) (.int .i64 V.next) (.slice V.ja V.jl V.jc) (.slice V.ma V.ml V.mc) (.slice V.ra V.rl V.rc) (.slice V.pa V.pl V.pc) (.int .i64 V.sure) (.int .i64 V.com) := ⟨_, rfl⟩
        have bF : BoxN Y (w.heap.size + 3) 7 [.int .i64 V.next, .slice V.ja V.jl V.jc, .slice V.ma V.ml V.mc, .slice V.ra V.rl V.rc, .slice V.pa V.pl V.pc, .int .i64 V.sure, .int .i64 V.com] := by
          rw [eY]
          exact ((((((bR.set 0 (by decide) _).set 1 (by decide) _).set 2 (by decide) _).set 3 (by decide) _).set 4 (by decide) _).set 5 (by decide) _).set 6 (by decide) _
        rw [← eY] at hF9
        have k0 : Y.cell? ⟨w.heap.size + 3, 0, none⟩ = some (.int .i64 V.next) := (bF.c 0 (by decide)).1
        have k1 : Y.cell? ⟨w.heap.size + 3, 1, none⟩ = some (.slice V.ja V.jl V.jc) := (bF.c 1 (by decide)).1
        have k2 : Y.cell? ⟨w.heap.size + 3, 2, none⟩ = some (.slice V.ma V.ml V.mc) := (bF.c 2 (by decide)).1
        have k3 : Y.cell? ⟨w.heap.size + 3, 3, none⟩ = some (.slice V.ra V.rl V.rc) := (bF.c 3 (by decide)).1
        have k4 : Y.cell? ⟨w.heap.size + 3, 4, none⟩ = some (.slice V.pa V.pl V.pc) := (bF.c 4 (by decide)).1
        have k5 : Y.cell? ⟨w.heap.size + 3, 5, none⟩ = some (.int .i64 V.sure) := (bF.c 5 (by decide)).1
        have k6 : Y.cell? ⟨w.heap.size + 3, 6, none⟩ = some (.int .i64 V.com) := (bF.c 6 (by decide)).1
        unfold set7 at eY
        rw [← eY]
        clear eY
        exact bodyPost_ret (v := .tuple #[.agg #[.int .i64 V.next, .slice V.ja V.jl V.jc, .slice V.ma V.ml V.mc, .slice V.ra V.rl V.rc, .slice V.pa V.pl V.pc, .int .i64 V.sure, .int .i64 V.com], .int .i64 0]) (by simp [results, Tryd.results11, go_sem, k0, k1, k2, k3, k4, k5, k6]) rfl hF9
      · have hk9' : (kind == 9) = false := by simpa using hk9
        by_cases hk5 : kind = 5
        · subst hk5
          have HTc : Hid ((tn0 next js).heard ⟨s, ls, p, l, me⟩ ⟨5, frm, dst, site, num, label, key, value, version, ask, yes, code⟩ = (tn0 next js).answered ⟨s, ls, p, l, me⟩ i ⟨5, frm, dst, site, num, label, key, value, version, ask, yes, code⟩) := by show _ = _; rw [HTc0.out]; simp
          clear HTc0
          have HK : Hid (Calls Tryd.prog 30 #[.pointer (some ⟨q, 0, none⟩), .pointer (some ⟨g, i * 6, none⟩), .agg #[.int .i64 5, .int .i64 frm, .int .i64 dst, .int .i64 site, .int .i64 num, .int .i64 label, .int .i64 key, .int .i64 value, .int .i64 version, .int .i64 ask, .bool yes, .int .i64 code]] X2 fun e X' => e = .returned (.tuple #[]) ∧ DoneIs U X' U.heap.size q v ((tn0 next js).heard ⟨s, ls, p, l, me⟩ ⟨5, frm, dst, site, num, label, key, value, version, ask, yes, code⟩) (.returned (.tuple #[]))) := by
            have h2 := HV.out
            have := answered_done X2 HX2.out h2.2.2.2.2.2.2.1 ls hi eg ⟨5, frm, dst, site, num, label, key, value, version, ask, yes, code⟩ (by rw [h2.2.2.2.2.2.2.2.2.1]; omega) (by rw [h2.2.2.2.1]; decide) (by rw [h2.2.2.2.2.2.1]; decide) (Nat.le_trans HFj.out (by decide)) HLabs.out
            rw [HTn.out, h2.2.2.2.2.2.2.2.2.2.1] at this
            refine this.mono ?_
            rintro e u hu
            obtain rfl := hu.1
            rw [HTc.out]
            exact ⟨rfl, hu⟩
          
          go_upto_region 15 with (go_at_call 30; refine HK.out.mono ?_; rintro e X9 ⟨rfl, h9⟩)
          clear d5 d6 d7 d8 d9 d10 d11 d12 d13 d14 d15 d16 z4X2
          obtain ⟨-, V, ix9, more9, hC9, hR9, hT9, -⟩ := h9
          have hF9 := HFin.out U X9 q V ix9 more9 hbU hC9 hR9 (by exact hT9)
          have bq := hC9.held.box
          have zq := bq.lt
          have s0 : X9.cell? ⟨q, 5, none⟩ = some (.int .i64 V.next) := (bq.c 5 (by decide)).1
          have s1 : X9.cell? ⟨q, 6, none⟩ = some (.slice V.ja V.jl V.jc) := (bq.c 6 (by decide)).1
          have s2 : X9.cell? ⟨q, 7, none⟩ = some (.slice V.ma V.ml V.mc) := (bq.c 7 (by decide)).1
          have s3 : X9.cell? ⟨q, 8, none⟩ = some (.slice V.ra V.rl V.rc) := (bq.c 8 (by decide)).1
          have s4 : X9.cell? ⟨q, 9, none⟩ = some (.slice V.pa V.pl V.pc) := (bq.c 9 (by decide)).1
          have s5 : X9.cell? ⟨q, 10, none⟩ = some (.int .i64 V.sure) := (bq.c 10 (by decide)).1
          have s6 : X9.cell? ⟨q, 11, none⟩ = some (.int .i64 V.com) := (bq.c 11 (by decide)).1
          have bR := HBox.out X9 (HXU.out _ _ _ _ hC9)
          have r0 : X9.cell? ⟨w.heap.size + 3, 0, none⟩ = some (.int .i64 0) := (bR.c 0 (by decide)).1
          have rf0 := (bR.c 0 (by decide)).2
          have r1 : X9.cell? ⟨w.heap.size + 3, 1, none⟩ = some (.slice none 0 0) := (bR.c 1 (by decide)).1
          have rf1 := (bR.c 1 (by decide)).2
          have r2 : X9.cell? ⟨w.heap.size + 3, 2, none⟩ = some (.slice none 0 0) := (bR.c 2 (by decide)).1
          have rf2 := (bR.c 2 (by decide)).2
          have r3 : X9.cell? ⟨w.heap.size + 3, 3, none⟩ = some (.slice none 0 0) := (bR.c 3 (by decide)).1
          have rf3 := (bR.c 3 (by decide)).2
          have r4 : X9.cell? ⟨w.heap.size + 3, 4, none⟩ = some (.slice none 0 0) := (bR.c 4 (by decide)).1
          have rf4 := (bR.c 4 (by decide)).2
          have r5 : X9.cell? ⟨w.heap.size + 3, 5, none⟩ = some (.int .i64 0) := (bR.c 5 (by decide)).1
          have rf5 := (bR.c 5 (by decide)).2
          have r6 : X9.cell? ⟨w.heap.size + 3, 6, none⟩ = some (.int .i64 0) := (bR.c 6 (by decide)).1
          have rf6 := (bR.c 6 (by decide)).2
          have zr := bR.lt
          clear bq
          go_wp2
          obtain ⟨Y, eY⟩ : ∃ Y, Y = set7 X9 (w.heap.size + 3) (.int .i64 V.next) (.slice V.ja V.jl V.jc) (.slice V.ma V.ml V.mc) (.slice V.ra V.rl V.rc) (.slice V.pa V.pl V.pc) (.int .i64 V.sure) (.int .i64 V.com) := ⟨_, rfl⟩
          have bF : BoxN Y (w.heap.size + 3) 7 [.int .i64 V.next, .slice V.ja V.jl V.jc, .slice V.ma V.ml V.mc, .slice V.ra V.rl V.rc, .slice V.pa V.pl V.pc, .int .i64 V.sure, .int .i64 V.com] := by
            rw [eY]
            exact ((((((bR.set 0 (by decide) _).set 1 (by decide) _).set 2 (by decide) _).set 3 (by decide) _).set 4 (by decide) _).set 5 (by decide) _).set 6 (by decide) _
          rw [← eY] at hF9
          have k0 : Y.cell? ⟨w.heap.size + 3, 0, none⟩ = some (.int .i64 V.next) := (bF.c 0 (by decide)).1
          have k1 : Y.cell? ⟨w.heap.size + 3, 1, none⟩ = some (.slice V.ja V.jl V.jc) := (bF.c 1 (by decide)).1
          have k2 : Y.cell? ⟨w.heap.size + 3, 2, none⟩ = some (.slice V.ma V.ml V.mc) := (bF.c 2 (by decide)).1
          have k3 : Y.cell? ⟨w.heap.size + 3, 3, none⟩ = some (.slice V.ra V.rl V.rc) := (bF.c 3 (by decide)).1
          have k4 : Y.cell? ⟨w.heap.size + 3, 4, none⟩ = some (.slice V.pa V.pl V.pc) := (bF.c 4 (by decide)).1
          have k5 : Y.cell? ⟨w.heap.size + 3, 5, none⟩ = some (.int .i64 V.sure) := (bF.c 5 (by decide)).1
          have k6 : Y.cell? ⟨w.heap.size + 3, 6, none⟩ = some (.int .i64 V.com) := (bF.c 6 (by decide)).1
          unfold set7 at eY
          rw [← eY]
          clear eY
          exact bodyPost_ret (v := .tuple #[.agg #[.int .i64 V.next, .slice V.ja V.jl V.jc, .slice V.ma V.ml V.mc, .slice V.ra V.rl V.rc, .slice V.pa V.pl V.pc, .int .i64 V.sure, .int .i64 V.com], .int .i64 0]) (by simp [results, Tryd.results11, go_sem, k0, k1, k2, k3, k4, k5, k6]) rfl hF9
        · have hk5' : (kind == 5) = false := by simpa using hk5
          by_cases hk6 : kind = 6
          · subst hk6
            have HTc : Hid ((tn0 next js).heard ⟨s, ls, p, l, me⟩ ⟨6, frm, dst, site, num, label, key, value, version, ask, yes, code⟩ = (tn0 next js).answered ⟨s, ls, p, l, me⟩ i ⟨6, frm, dst, site, num, label, key, value, version, ask, yes, code⟩) := by show _ = _; rw [HTc0.out]; simp
            clear HTc0
            have HK : Hid (Calls Tryd.prog 30 #[.pointer (some ⟨q, 0, none⟩), .pointer (some ⟨g, i * 6, none⟩), .agg #[.int .i64 6, .int .i64 frm, .int .i64 dst, .int .i64 site, .int .i64 num, .int .i64 label, .int .i64 key, .int .i64 value, .int .i64 version, .int .i64 ask, .bool yes, .int .i64 code]] X2 fun e X' => e = .returned (.tuple #[]) ∧ DoneIs U X' U.heap.size q v ((tn0 next js).heard ⟨s, ls, p, l, me⟩ ⟨6, frm, dst, site, num, label, key, value, version, ask, yes, code⟩) (.returned (.tuple #[]))) := by
              have h2 := HV.out
              have := answered_done X2 HX2.out h2.2.2.2.2.2.2.1 ls hi eg ⟨6, frm, dst, site, num, label, key, value, version, ask, yes, code⟩ (by rw [h2.2.2.2.2.2.2.2.2.1]; omega) (by rw [h2.2.2.2.1]; decide) (by rw [h2.2.2.2.2.2.1]; decide) (Nat.le_trans HFj.out (by decide)) HLabs.out
              rw [HTn.out, h2.2.2.2.2.2.2.2.2.2.1] at this
              refine this.mono ?_
              rintro e u hu
              obtain rfl := hu.1
              rw [HTc.out]
              exact ⟨rfl, hu⟩
            
            go_upto_region 15 with (go_at_call 30; refine HK.out.mono ?_; rintro e X9 ⟨rfl, h9⟩)
            clear d5 d6 d7 d8 d9 d10 d11 d12 d13 d14 d15 d16 z4X2
            obtain ⟨-, V, ix9, more9, hC9, hR9, hT9, -⟩ := h9
            have hF9 := HFin.out U X9 q V ix9 more9 hbU hC9 hR9 (by exact hT9)
            have bq := hC9.held.box
            have zq := bq.lt
            have s0 : X9.cell? ⟨q, 5, none⟩ = some (.int .i64 V.next) := (bq.c 5 (by decide)).1
            have s1 : X9.cell? ⟨q, 6, none⟩ = some (.slice V.ja V.jl V.jc) := (bq.c 6 (by decide)).1
            have s2 : X9.cell? ⟨q, 7, none⟩ = some (.slice V.ma V.ml V.mc) := (bq.c 7 (by decide)).1
            have s3 : X9.cell? ⟨q, 8, none⟩ = some (.slice V.ra V.rl V.rc) := (bq.c 8 (by decide)).1
            have s4 : X9.cell? ⟨q, 9, none⟩ = some (.slice V.pa V.pl V.pc) := (bq.c 9 (by decide)).1
            have s5 : X9.cell? ⟨q, 10, none⟩ = some (.int .i64 V.sure) := (bq.c 10 (by decide)).1
            have s6 : X9.cell? ⟨q, 11, none⟩ = some (.int .i64 V.com) := (bq.c 11 (by decide)).1
            have bR := HBox.out X9 (HXU.out _ _ _ _ hC9)
            have r0 : X9.cell? ⟨w.heap.size + 3, 0, none⟩ = some (.int .i64 0) := (bR.c 0 (by decide)).1
            have rf0 := (bR.c 0 (by decide)).2
            have r1 : X9.cell? ⟨w.heap.size + 3, 1, none⟩ = some (.slice none 0 0) := (bR.c 1 (by decide)).1
            have rf1 := (bR.c 1 (by decide)).2
            have r2 : X9.cell? ⟨w.heap.size + 3, 2, none⟩ = some (.slice none 0 0) := (bR.c 2 (by decide)).1
            have rf2 := (bR.c 2 (by decide)).2
            have r3 : X9.cell? ⟨w.heap.size + 3, 3, none⟩ = some (.slice none 0 0) := (bR.c 3 (by decide)).1
            have rf3 := (bR.c 3 (by decide)).2
            have r4 : X9.cell? ⟨w.heap.size + 3, 4, none⟩ = some (.slice none 0 0) := (bR.c 4 (by decide)).1
            have rf4 := (bR.c 4 (by decide)).2
            have r5 : X9.cell? ⟨w.heap.size + 3, 5, none⟩ = some (.int .i64 0) := (bR.c 5 (by decide)).1
            have rf5 := (bR.c 5 (by decide)).2
            have r6 : X9.cell? ⟨w.heap.size + 3, 6, none⟩ = some (.int .i64 0) := (bR.c 6 (by decide)).1
            have rf6 := (bR.c 6 (by decide)).2
            have zr := bR.lt
            clear bq
            go_wp2
            obtain ⟨Y, eY⟩ : ∃ Y, Y = set7 X9 (w.heap.size + 3) (.int .i64 V.next) (.slice V.ja V.jl V.jc) (.slice V.ma V.ml V.mc) (.slice V.ra V.rl V.rc) (.slice V.pa V.pl V.pc) (.int .i64 V.sure) (.int .i64 V.com) := ⟨_, rfl⟩
            have bF : BoxN Y (w.heap.size + 3) 7 [.int .i64 V.next, .slice V.ja V.jl V.jc, .slice V.ma V.ml V.mc, .slice V.ra V.rl V.rc, .slice V.pa V.pl V.pc, .int .i64 V.sure, .int .i64 V.com] := by
              rw [eY]
              exact ((((((bR.set 0 (by decide) _).set 1 (by decide) _).set 2 (by decide) _).set 3 (by decide) _).set 4 (by decide) _).set 5 (by decide) _).set 6 (by decide) _
            rw [← eY] at hF9
            have k0 : Y.cell? ⟨w.heap.size + 3, 0, none⟩ = some (.int .i64 V.next) := (bF.c 0 (by decide)).1
            have k1 : Y.cell? ⟨w.heap.size + 3, 1, none⟩ = some (.slice V.ja V.jl V.jc) := (bF.c 1 (by decide)).1
            have k2 : Y.cell? ⟨w.heap.size + 3, 2, none⟩ = some (.slice V.ma V.ml V.mc) := (bF.c 2 (by decide)).1
            have k3 : Y.cell? ⟨w.heap.size + 3, 3, none⟩ = some (.slice V.ra V.rl V.rc) := (bF.c 3 (by decide)).1
            have k4 : Y.cell? ⟨w.heap.size + 3, 4, none⟩ = some (.slice V.pa V.pl V.pc) := (bF.c 4 (by decide)).1
            have k5 : Y.cell? ⟨w.heap.size + 3, 5, none⟩ = some (.int .i64 V.sure) := (bF.c 5 (by decide)).1
            have k6 : Y.cell? ⟨w.heap.size + 3, 6, none⟩ = some (.int .i64 V.com) := (bF.c 6 (by decide)).1
            unfold set7 at eY
            rw [← eY]
            clear eY
            exact bodyPost_ret (v := .tuple #[.agg #[.int .i64 V.next, .slice V.ja V.jl V.jc, .slice V.ma V.ml V.mc, .slice V.ra V.rl V.rc, .slice V.pa V.pl V.pc, .int .i64 V.sure, .int .i64 V.com], .int .i64 0]) (by simp [results, Tryd.results11, go_sem, k0, k1, k2, k3, k4, k5, k6]) rfl hF9
          · have hk6' : (kind == 6) = false := by simpa using hk6
            by_cases hk7 : kind = 7
            · subst hk7
              have HTc : Hid ((tn0 next js).heard ⟨s, ls, p, l, me⟩ ⟨7, frm, dst, site, num, label, key, value, version, ask, yes, code⟩ = (tn0 next js).sured ⟨s, ls, p, l, me⟩ i ⟨7, frm, dst, site, num, label, key, value, version, ask, yes, code⟩) := by show _ = _; rw [HTc0.out]; simp
              clear HTc0
              have HK : Hid (Calls Tryd.prog 31 #[.pointer (some ⟨q, 0, none⟩), .pointer (some ⟨g, i * 6, none⟩), .agg #[.int .i64 7, .int .i64 frm, .int .i64 dst, .int .i64 site, .int .i64 num, .int .i64 label, .int .i64 key, .int .i64 value, .int .i64 version, .int .i64 ask, .bool yes, .int .i64 code]] X2 fun e X' => e = .returned (.tuple #[]) ∧ DoneIs U X' U.heap.size q v ((tn0 next js).heard ⟨s, ls, p, l, me⟩ ⟨7, frm, dst, site, num, label, key, value, version, ask, yes, code⟩) (.returned (.tuple #[]))) := by
                have h2 := HV.out
                have := sure_done X2 HX2.out h2.2.2.2.2.2.2.1 ls hi eg ⟨7, frm, dst, site, num, label, key, value, version, ask, yes, code⟩ (by rw [h2.2.2.2.2.2.2.2.2.1]; omega) (by rw [h2.2.2.2.1]; decide) (by rw [h2.2.2.2.2.1]; decide) (by rw [h2.2.2.2.2.2.1]; decide) (Nat.le_trans HFj.out (by decide)) HLabs.out
                rw [HTn.out, h2.2.2.2.2.2.2.2.2.2.1] at this
                refine this.mono ?_
                rintro e u hu
                obtain rfl := hu.1
                rw [HTc.out]
                exact ⟨rfl, hu⟩
              
              go_upto_region 15 with (go_at_call 31; refine HK.out.mono ?_; rintro e X9 ⟨rfl, h9⟩)
              clear d5 d6 d7 d8 d9 d10 d11 d12 d13 d14 d15 d16 z4X2
              obtain ⟨-, V, ix9, more9, hC9, hR9, hT9, -⟩ := h9
              have hF9 := HFin.out U X9 q V ix9 more9 hbU hC9 hR9 (by exact hT9)
              have bq := hC9.held.box
              have zq := bq.lt
              have s0 : X9.cell? ⟨q, 5, none⟩ = some (.int .i64 V.next) := (bq.c 5 (by decide)).1
              have s1 : X9.cell? ⟨q, 6, none⟩ = some (.slice V.ja V.jl V.jc) := (bq.c 6 (by decide)).1
              have s2 : X9.cell? ⟨q, 7, none⟩ = some (.slice V.ma V.ml V.mc) := (bq.c 7 (by decide)).1
              have s3 : X9.cell? ⟨q, 8, none⟩ = some (.slice V.ra V.rl V.rc) := (bq.c 8 (by decide)).1
              have s4 : X9.cell? ⟨q, 9, none⟩ = some (.slice V.pa V.pl V.pc) := (bq.c 9 (by decide)).1
              have s5 : X9.cell? ⟨q, 10, none⟩ = some (.int .i64 V.sure) := (bq.c 10 (by decide)).1
              have s6 : X9.cell? ⟨q, 11, none⟩ = some (.int .i64 V.com) := (bq.c 11 (by decide)).1
              have bR := HBox.out X9 (HXU.out _ _ _ _ hC9)
              have r0 : X9.cell? ⟨w.heap.size + 3, 0, none⟩ = some (.int .i64 0) := (bR.c 0 (by decide)).1
              have rf0 := (bR.c 0 (by decide)).2
              have r1 : X9.cell? ⟨w.heap.size + 3, 1, none⟩ = some (.slice none 0 0) := (bR.c 1 (by decide)).1
              have rf1 := (bR.c 1 (by decide)).2
              have r2 : X9.cell? ⟨w.heap.size + 3, 2, none⟩ = some (.slice none 0 0) := (bR.c 2 (by decide)).1
              have rf2 := (bR.c 2 (by decide)).2
              have r3 : X9.cell? ⟨w.heap.size + 3, 3, none⟩ = some (.slice none 0 0) := (bR.c 3 (by decide)).1
              have rf3 := (bR.c 3 (by decide)).2
              have r4 : X9.cell? ⟨w.heap.size + 3, 4, none⟩ = some (.slice none 0 0) := (bR.c 4 (by decide)).1
              have rf4 := (bR.c 4 (by decide)).2
              have r5 : X9.cell? ⟨w.heap.size + 3, 5, none⟩ = some (.int .i64 0) := (bR.c 5 (by decide)).1
              have rf5 := (bR.c 5 (by decide)).2
              have r6 : X9.cell? ⟨w.heap.size + 3, 6, none⟩ = some (.int .i64 0) := (bR.c 6 (by decide)).1
              have rf6 := (bR.c 6 (by decide)).2
              have zr := bR.lt
              clear bq
              go_wp2
              obtain ⟨Y, eY⟩ : ∃ Y, Y = set7 X9 (w.heap.size + 3) (.int .i64 V.next) (.slice V.ja V.jl V.jc) (.slice V.ma V.ml V.mc) (.slice V.ra V.rl V.rc) (.slice V.pa V.pl V.pc) (.int .i64 V.sure) (.int .i64 V.com) := ⟨_, rfl⟩
              have bF : BoxN Y (w.heap.size + 3) 7 [.int .i64 V.next, .slice V.ja V.jl V.jc, .slice V.ma V.ml V.mc, .slice V.ra V.rl V.rc, .slice V.pa V.pl V.pc, .int .i64 V.sure, .int .i64 V.com] := by
                rw [eY]
                exact ((((((bR.set 0 (by decide) _).set 1 (by decide) _).set 2 (by decide) _).set 3 (by decide) _).set 4 (by decide) _).set 5 (by decide) _).set 6 (by decide) _
              rw [← eY] at hF9
              have k0 : Y.cell? ⟨w.heap.size + 3, 0, none⟩ = some (.int .i64 V.next) := (bF.c 0 (by decide)).1
              have k1 : Y.cell? ⟨w.heap.size + 3, 1, none⟩ = some (.slice V.ja V.jl V.jc) := (bF.c 1 (by decide)).1
              have k2 : Y.cell? ⟨w.heap.size + 3, 2, none⟩ = some (.slice V.ma V.ml V.mc) := (bF.c 2 (by decide)).1
              have k3 : Y.cell? ⟨w.heap.size + 3, 3, none⟩ = some (.slice V.ra V.rl V.rc) := (bF.c 3 (by decide)).1
              have k4 : Y.cell? ⟨w.heap.size + 3, 4, none⟩ = some (.slice V.pa V.pl V.pc) := (bF.c 4 (by decide)).1
              have k5 : Y.cell? ⟨w.heap.size + 3, 5, none⟩ = some (.int .i64 V.sure) := (bF.c 5 (by decide)).1
              have k6 : Y.cell? ⟨w.heap.size + 3, 6, none⟩ = some (.int .i64 V.com) := (bF.c 6 (by decide)).1
              unfold set7 at eY
              rw [← eY]
              clear eY
              exact bodyPost_ret (v := .tuple #[.agg #[.int .i64 V.next, .slice V.ja V.jl V.jc, .slice V.ma V.ml V.mc, .slice V.ra V.rl V.rc, .slice V.pa V.pl V.pc, .int .i64 V.sure, .int .i64 V.com], .int .i64 0]) (by simp [results, Tryd.results11, go_sem, k0, k1, k2, k3, k4, k5, k6]) rfl hF9
            · have hk7' : (kind == 7) = false := by simpa using hk7
              have hk8 : kind = 8 := by omega
              subst hk8
              have HTc : Hid ((tn0 next js).heard ⟨s, ls, p, l, me⟩ ⟨8, frm, dst, site, num, label, key, value, version, ask, yes, code⟩ = (tn0 next js).acked i ⟨8, frm, dst, site, num, label, key, value, version, ask, yes, code⟩) := by show _ = _; rw [HTc0.out]; simp
              clear HTc0
              have HK : Hid (Calls Tryd.prog 32 #[.pointer (some ⟨q, 0, none⟩), .pointer (some ⟨g, i * 6, none⟩), .agg #[.int .i64 8, .int .i64 frm, .int .i64 dst, .int .i64 site, .int .i64 num, .int .i64 label, .int .i64 key, .int .i64 value, .int .i64 version, .int .i64 ask, .bool yes, .int .i64 code]] X2 fun e X' => e = .returned (.tuple #[]) ∧ DoneIs U X' U.heap.size q v ((tn0 next js).heard ⟨s, ls, p, l, me⟩ ⟨8, frm, dst, site, num, label, key, value, version, ask, yes, code⟩) (.returned (.tuple #[]))) := by
                have h2 := HV.out
                have := ack_done X2 HX2.out h2.2.2.2.2.2.2.1 hi eg ⟨8, frm, dst, site, num, label, key, value, version, ask, yes, code⟩ (by rw [h2.2.2.2.2.1]; decide)
                rw [HTn.out] at this
                refine this.mono ?_
                rintro e u hu
                obtain rfl := hu.1
                rw [HTc.out]
                exact ⟨rfl, hu⟩
              
              go_upto_region 15 with (go_at_call 32; refine HK.out.mono ?_; rintro e X9 ⟨rfl, h9⟩)
              clear d5 d6 d7 d8 d9 d10 d11 d12 d13 d14 d15 d16 z4X2
              obtain ⟨-, V, ix9, more9, hC9, hR9, hT9, -⟩ := h9
              have hF9 := HFin.out U X9 q V ix9 more9 hbU hC9 hR9 (by exact hT9)
              have bq := hC9.held.box
              have zq := bq.lt
              have s0 : X9.cell? ⟨q, 5, none⟩ = some (.int .i64 V.next) := (bq.c 5 (by decide)).1
              have s1 : X9.cell? ⟨q, 6, none⟩ = some (.slice V.ja V.jl V.jc) := (bq.c 6 (by decide)).1
              have s2 : X9.cell? ⟨q, 7, none⟩ = some (.slice V.ma V.ml V.mc) := (bq.c 7 (by decide)).1
              have s3 : X9.cell? ⟨q, 8, none⟩ = some (.slice V.ra V.rl V.rc) := (bq.c 8 (by decide)).1
              have s4 : X9.cell? ⟨q, 9, none⟩ = some (.slice V.pa V.pl V.pc) := (bq.c 9 (by decide)).1
              have s5 : X9.cell? ⟨q, 10, none⟩ = some (.int .i64 V.sure) := (bq.c 10 (by decide)).1
              have s6 : X9.cell? ⟨q, 11, none⟩ = some (.int .i64 V.com) := (bq.c 11 (by decide)).1
              have bR := HBox.out X9 (HXU.out _ _ _ _ hC9)
              have r0 : X9.cell? ⟨w.heap.size + 3, 0, none⟩ = some (.int .i64 0) := (bR.c 0 (by decide)).1
              have rf0 := (bR.c 0 (by decide)).2
              have r1 : X9.cell? ⟨w.heap.size + 3, 1, none⟩ = some (.slice none 0 0) := (bR.c 1 (by decide)).1
              have rf1 := (bR.c 1 (by decide)).2
              have r2 : X9.cell? ⟨w.heap.size + 3, 2, none⟩ = some (.slice none 0 0) := (bR.c 2 (by decide)).1
              have rf2 := (bR.c 2 (by decide)).2
              have r3 : X9.cell? ⟨w.heap.size + 3, 3, none⟩ = some (.slice none 0 0) := (bR.c 3 (by decide)).1
              have rf3 := (bR.c 3 (by decide)).2
              have r4 : X9.cell? ⟨w.heap.size + 3, 4, none⟩ = some (.slice none 0 0) := (bR.c 4 (by decide)).1
              have rf4 := (bR.c 4 (by decide)).2
              have r5 : X9.cell? ⟨w.heap.size + 3, 5, none⟩ = some (.int .i64 0) := (bR.c 5 (by decide)).1
              have rf5 := (bR.c 5 (by decide)).2
              have r6 : X9.cell? ⟨w.heap.size + 3, 6, none⟩ = some (.int .i64 0) := (bR.c 6 (by decide)).1
              have rf6 := (bR.c 6 (by decide)).2
              have zr := bR.lt
              clear bq
              go_wp2
              obtain ⟨Y, eY⟩ : ∃ Y, Y = set7 X9 (w.heap.size + 3) (.int .i64 V.next) (.slice V.ja V.jl V.jc) (.slice V.ma V.ml V.mc) (.slice V.ra V.rl V.rc) (.slice V.pa V.pl V.pc) (.int .i64 V.sure) (.int .i64 V.com) := ⟨_, rfl⟩
              have bF : BoxN Y (w.heap.size + 3) 7 [.int .i64 V.next, .slice V.ja V.jl V.jc, .slice V.ma V.ml V.mc, .slice V.ra V.rl V.rc, .slice V.pa V.pl V.pc, .int .i64 V.sure, .int .i64 V.com] := by
                rw [eY]
                exact ((((((bR.set 0 (by decide) _).set 1 (by decide) _).set 2 (by decide) _).set 3 (by decide) _).set 4 (by decide) _).set 5 (by decide) _).set 6 (by decide) _
              rw [← eY] at hF9
              have k0 : Y.cell? ⟨w.heap.size + 3, 0, none⟩ = some (.int .i64 V.next) := (bF.c 0 (by decide)).1
              have k1 : Y.cell? ⟨w.heap.size + 3, 1, none⟩ = some (.slice V.ja V.jl V.jc) := (bF.c 1 (by decide)).1
              have k2 : Y.cell? ⟨w.heap.size + 3, 2, none⟩ = some (.slice V.ma V.ml V.mc) := (bF.c 2 (by decide)).1
              have k3 : Y.cell? ⟨w.heap.size + 3, 3, none⟩ = some (.slice V.ra V.rl V.rc) := (bF.c 3 (by decide)).1
              have k4 : Y.cell? ⟨w.heap.size + 3, 4, none⟩ = some (.slice V.pa V.pl V.pc) := (bF.c 4 (by decide)).1
              have k5 : Y.cell? ⟨w.heap.size + 3, 5, none⟩ = some (.int .i64 V.sure) := (bF.c 5 (by decide)).1
              have k6 : Y.cell? ⟨w.heap.size + 3, 6, none⟩ = some (.int .i64 V.com) := (bF.c 6 (by decide)).1
              unfold set7 at eY
              rw [← eY]
              clear eY
              exact bodyPost_ret (v := .tuple #[.agg #[.int .i64 V.next, .slice V.ja V.jl V.jc, .slice V.ma V.ml V.mc, .slice V.ra V.rl V.rc, .slice V.pa V.pl V.pc, .int .i64 V.sure, .int .i64 V.com], .int .i64 0]) (by simp [results, Tryd.results11, go_sem, k0, k1, k2, k3, k4, k5, k6]) rfl hF9
  · have hE' : (E == 0) = false := by simpa using hE
    have HEn : Hid (E ≠ 0) := hE
    clear HFine HKd
    go_enter Tryd.func11, Tryd.ntmps11
    go_upto_region 1 with (fail)
    rw [← hW]
    clear hW
    obtain ⟨x0, x1, x2, x3, x4, x5, x6, x7, x8, x9, x10, x11, x12, x13, x14, x15, x16⟩ := KC.out W (Below.refl _ _)
    have z4 := (HZ.out W (Below.refl _ _)).2
    go_upto_region 3 with (go_at_call 28; refine HRf.out.mono ?_; rintro e U ⟨rfl, hbU⟩)
    have bR := HBox.out U (hbU)
    have r0 : U.cell? ⟨w.heap.size + 3, 0, none⟩ = some (.int .i64 0) := (bR.c 0 (by decide)).1
    have rf0 := (bR.c 0 (by decide)).2
    have r1 : U.cell? ⟨w.heap.size + 3, 1, none⟩ = some (.slice none 0 0) := (bR.c 1 (by decide)).1
    have rf1 := (bR.c 1 (by decide)).2
    have r2 : U.cell? ⟨w.heap.size + 3, 2, none⟩ = some (.slice none 0 0) := (bR.c 2 (by decide)).1
    have rf2 := (bR.c 2 (by decide)).2
    have r3 : U.cell? ⟨w.heap.size + 3, 3, none⟩ = some (.slice none 0 0) := (bR.c 3 (by decide)).1
    have rf3 := (bR.c 3 (by decide)).2
    have r4 : U.cell? ⟨w.heap.size + 3, 4, none⟩ = some (.slice none 0 0) := (bR.c 4 (by decide)).1
    have rf4 := (bR.c 4 (by decide)).2
    have r5 : U.cell? ⟨w.heap.size + 3, 5, none⟩ = some (.int .i64 0) := (bR.c 5 (by decide)).1
    have rf5 := (bR.c 5 (by decide)).2
    have r6 : U.cell? ⟨w.heap.size + 3, 6, none⟩ = some (.int .i64 0) := (bR.c 6 (by decide)).1
    have rf6 := (bR.c 6 (by decide)).2
    have zr := bR.lt
    go_wp2
    clear r0 r1 r2 r3 r4 r5 r6 rf0 rf1 rf2 rf3 rf4 rf5 rf6 x0 x1 x2 x3 x4 x5 x6 x7 x8 x9 x10 x11 x12 x13 x14 x15 x16
    obtain ⟨Y, eY⟩ : ∃ Y, Y = set7 U (w.heap.size + 3) (.int .i64 0) (.slice none 0 0) (.slice none 0 0) (.slice none 0 0) (.slice none 0 0) (.int .i64 0) (.int .i64 0) := ⟨_, rfl⟩
    have bF : BoxN Y (w.heap.size + 3) 7 [.int .i64 0, .slice none 0 0, .slice none 0 0, .slice none 0 0, .slice none 0 0, .int .i64 0, .int .i64 0] := by
      rw [eY]
      exact ((((((bR.set 0 (by decide) _).set 1 (by decide) _).set 2 (by decide) _).set 3 (by decide) _).set 4 (by decide) _).set 5 (by decide) _).set 6 (by decide) _
    have hF : HearIs w Y ⟨s, ls, p, l, me⟩ next js ⟨kind, frm, dst, site, num, label, key, value, version, ask, yes, code⟩ (.returned (.tuple #[.agg #[.int .i64 0, .slice none 0 0, .slice none 0 0, .slice none 0 0, .slice none 0 0, .int .i64 0, .int .i64 0], .int .i64 E])) := by
      refine ⟨_, by rw [HC.out], ?_⟩
      unfold HearAns
      rw [HC.out, if_neg HEn.out, eY]
      have hb := (HZ.out U hbU).1
      have h1 : w.heap.size ≤ w.heap.size + 3 := by omega
      exact turned_nil (((((((hb.setCell (p := ⟨w.heap.size + 3, 0, none⟩) h1 _).setCell (p := ⟨w.heap.size + 3, 1, none⟩) h1 _).setCell (p := ⟨w.heap.size + 3, 2, none⟩) h1 _).setCell (p := ⟨w.heap.size + 3, 3, none⟩) h1 _).setCell (p := ⟨w.heap.size + 3, 4, none⟩) h1 _).setCell (p := ⟨w.heap.size + 3, 5, none⟩) h1 _).setCell (p := ⟨w.heap.size + 3, 6, none⟩) h1 _)
    have k0 : Y.cell? ⟨w.heap.size + 3, 0, none⟩ = some (.int .i64 0) := (bF.c 0 (by decide)).1
    have k1 : Y.cell? ⟨w.heap.size + 3, 1, none⟩ = some (.slice none 0 0) := (bF.c 1 (by decide)).1
    have k2 : Y.cell? ⟨w.heap.size + 3, 2, none⟩ = some (.slice none 0 0) := (bF.c 2 (by decide)).1
    have k3 : Y.cell? ⟨w.heap.size + 3, 3, none⟩ = some (.slice none 0 0) := (bF.c 3 (by decide)).1
    have k4 : Y.cell? ⟨w.heap.size + 3, 4, none⟩ = some (.slice none 0 0) := (bF.c 4 (by decide)).1
    have k5 : Y.cell? ⟨w.heap.size + 3, 5, none⟩ = some (.int .i64 0) := (bF.c 5 (by decide)).1
    have k6 : Y.cell? ⟨w.heap.size + 3, 6, none⟩ = some (.int .i64 0) := (bF.c 6 (by decide)).1
    unfold set7 at eY
    rw [← eY]
    clear eY
    exact bodyPost_ret (v := .tuple #[.agg #[.int .i64 0, .slice none 0 0, .slice none 0 0, .slice none 0 0, .slice none 0 0, .int .i64 0, .int .i64 0], .int .i64 E]) (by simp [results, Tryd.results11, go_sem, k0, k1, k2, k3, k4, k5, k6]) rfl hF
end Go.Proofs.YtdjnaahkcnklhabDoor.Co
