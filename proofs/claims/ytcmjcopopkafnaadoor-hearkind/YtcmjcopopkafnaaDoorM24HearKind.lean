/- Texts of this claim, one behind the other. -/
import Derived.Test.YtcmjcopopkafnaaDoorProg
import Derived.WalkKit
import Derived.ProofKit
import Derived.Below
import Derived.Test.YtcmjcopopkafnaaDoorA0HearKind
import Derived.Test.YtcmjcopopkafnaaDoorM22HearKind
import Derived.Test.YtcmjcopopkafnaaDoorM23HearKind
import Derived.Deep.QuietTactic
import Derived.BigQuiet
import Derived.Lib.QuietBelow
import Derived.Deep.RegionHeld3
import Derived.Deep.RegionLaw
import Derived.Deep.DeepCutAuto
/- The contract of label.Above: for labels of any numbers it returns whether the first dominates the other, and leaves what was in memory. -/
namespace Go.Proofs.YtcmjcopopkafnaaDoor
open Go.ChangeShapes Go.WideShapes Go.ChangeAt Go.RowKit

/-- Dominance of labels, on numbers. -/
def abv (al ac bl bc : Int) : Bool := decide (bl ≤ al) && (bits .and .i64 ac bc == bc)

theorem abv_pos {al ac bl bc : Int} (h : bl ≤ al) : abv al ac bl bc = (bits .and .i64 ac bc == bc) := by simp [abv, h]
theorem abv_neg {al ac bl bc : Int} (h : al < bl) : abv al ac bl bc = false := by
  have : ¬ bl ≤ al := by omega
  simp [abv, this]

theorem above_any (al ac bl bc : Int) (w : World) :
    Calls Tryd.prog 64 #[.agg #[.int .i64 al, .int .i64 ac], .agg #[.int .i64 bl, .int .i64 bc]] w fun e w' => e = .returned (.bool (abv al ac bl bc)) ∧ Below w.heap.size w w' := by
  go_enter Tryd.func64, Tryd.ntmps64
  go_wp2
  · go_ret
    exact ⟨ret_bool (abv_pos ‹_›).symm, ((Below.refl _ _).alloc (Nat.le_refl _) _).alloc (by simp) _⟩
  · go_ret
    exact ⟨ret_bool (abv_neg ‹_›).symm, ((Below.refl _ _).alloc (Nat.le_refl _) _).alloc (by simp) _⟩

end Go.Proofs.YtcmjcopopkafnaaDoor
/- The contract of part.refuseHear. -/
namespace Go.Proofs.YtcmjcopopkafnaaDoor.Pt
open Go.ChangeShapes Go.WideShapes Go.ChangeAt Go.RowKit
open Go.Proofs.YtcmjcopopkafnaaDoor.St (SV PS IsStore IsRow storeOK TxWf BoxN boxn_new OwnStore flat flat_append Elem isOne grown_setCell own_below own_isRow isRow_nil cntErr cntIs endErr endData txOK readVal readVer readErr readData peekVal peekVer peekErr writeErr writeData stillIs refErr)
set_option linter.unusedVariables false

def abvAt (ls : List (Int × Int)) (l j : Int) : Bool := abv (ls.getD l.toNat (0, 0)).1 (ls.getD l.toNat (0, 0)).2 (ls.getD j.toNat (0, 0)).1 (ls.getD j.toNat (0, 0)).2
def hearErr (s : Int) (ls : List (Int × Int)) (p l me : Int) (n : Nat) (ss : List SV) (m : MV) : Int :=
  if siteErr s ls p l me n ss = 0 then (if msgFault s ls p m = 0 then (if m.dst = me then (if m.kind = 1 ∨ m.kind = 3 then (if abvAt ls l m.label = true then 0 else 10) else if m.kind = 2 ∨ m.kind = 4 then 0 else 3) else 2) else msgFault s ls p m) else siteErr s ls p l me n ss
theorem msg_lab {s : Int} {ls : List (Int × Int)} {p : Int} {m : MV} (h : msgFault s ls p m = 0) : 0 ≤ m.label ∧ m.label < (ls.length : Int) := by
  unfold msgFault at h
  split at h
  · rename_i h1; exact absurd h h1
  · split at h
    · simp at h
    · split at h
      · simp at h
      · rename_i _ _ hr
        have hr2 : msgRange s ls.length m = true := by simpa using hr
        unfold msgRange partsOK at hr2
        simp only [Bool.and_eq_true] at hr2
        have := hr2.2.1.2
        exact Go.Proofs.YtcmjcopopkafnaaDoor.plc_true this
/-- What it grants where nothing is refused. -/
theorem hear_ok {s : Int} {ls : List (Int × Int)} {p l me : Int} {n : Nat} {ss : List SV} {m : MV} (h : hearErr s ls p l me n ss m = 0) : siteErr s ls p l me n ss = 0 ∧ msgFault s ls p m = 0 ∧ m.dst = me ∧ (m.kind = 1 ∨ m.kind = 2 ∨ m.kind = 3 ∨ m.kind = 4) := by
  unfold hearErr at h
  split at h
  · rename_i h1
    split at h
    · rename_i h2
      split at h
      · rename_i h3
        split at h
        · rename_i h4; exact ⟨h1, h2, h3, by omega⟩
        · split at h
          · rename_i h5; exact ⟨h1, h2, h3, by omega⟩
          · simp at h
      · simp at h
    · rename_i h2; exact absurd h h2
  · rename_i h1; exact absurd h h1
set_option maxRecDepth 100000 in
set_option maxHeartbeats 8000000 in
theorem refuseHear_any (s p : Int) (a : Option Addr) (len cap : Nat) (ls : List (Int × Int)) (l me : Int) (sa : Option Addr) (n sc : Nat) (ss : List SV) (m : MV) (w : World) (hl : IsLabs w a len cap ls) (hS : IsStores w sa n sc ss) (hHa : HasAt w 0 mHas) (hTo : TopsAt w) :
    Calls Tryd.prog 24 #[.agg #[.int .i64 s, .slice a len cap, .int .i64 p], .int .i64 l, .int .i64 me, .slice sa n sc, m.val] w fun e w' => e = .returned (.int .i64 (hearErr s ls p l me n ss m)) ∧ Below w.heap.size w w' := by
  have hgT : 1 < w.heap.size := World.block_lt_of_cell? w _ hTo.1
  have hgM : 0 < w.heap.size := hHa.lt (by decide)
  have HRf : Hid (∀ U, Below w.heap.size w U → Calls Tryd.prog 63 #[.agg #[.int .i64 s, .slice a len cap, .int .i64 p], .int .i64 l, .int .i64 me, .slice sa n sc] U fun e w' => e = .returned (.int .i64 (siteErr s ls p l me n ss)) ∧ Below U.heap.size U w') := fun U hU => refuse_any s p a len cap ls l me sa n sc ss U (hl.below hU) (hS.below hU)
  have HCm : Hid (∀ U, Below w.heap.size w U → Calls Tryd.prog 14 #[.agg #[.int .i64 s, .slice a len cap, .int .i64 p], m.val] U fun e w' => e = .returned (.int .i64 (msgFault s ls p m)) ∧ Below U.heap.size U w') := fun U hU => checkMessage_any s p a len cap ls m U (hl.below hU) (hHa.below hU hgM) (hTo.below hU hgT)
  have HL : Hid (∀ U, Below w.heap.size w U → IsLabs U a len cap ls) := fun U hU => hl.below hU
  have hok := fun h => site_ok (s := s) (ls := ls) (p := p) (l := l) (me := me) (n := n) (ss := ss) h hS.row.1
  have hml := fun h => msg_lab (s := s) (ls := ls) (p := p) (m := m) h
  have hll := hl.1
  have HF : Hid (hearErr s ls p l me n ss m = if siteErr s ls p l me n ss = 0 then (if msgFault s ls p m = 0 then (if m.dst = me then (if m.kind = 1 ∨ m.kind = 3 then (if abvAt ls l m.label = true then 0 else 10) else if m.kind = 2 ∨ m.kind = 4 then 0 else 3) else 2) else msgFault s ls p m) else siteErr s ls p l me n ss) := rfl
  obtain ⟨FE, eFE⟩ : ∃ x, x = hearErr s ls p l me n ss m := ⟨_, rfl⟩
  rw [← eFE] at HF ⊢
  clear eFE
  obtain ⟨E, eE⟩ : ∃ x, x = siteErr s ls p l me n ss := ⟨_, rfl⟩
  rw [← eE] at HRf hok HF
  clear eE
  obtain ⟨ME, eME⟩ : ∃ x, x = msgFault s ls p m := ⟨_, rfl⟩
  rw [← eME] at HCm hml HF
  clear eME
  obtain ⟨kind, frm, dst, site, num, label, key, value, version, ask, yes, code⟩ := m
  simp only [MV.val] at HCm hml HF ⊢
  obtain ⟨W, hW⟩ : ∃ W : World, W = (w.alloc (.cells #[.int .i64 s, .slice a len cap, .int .i64 p] 27)).alloc (.cells #[.int .i64 kind, .int .i64 frm, .int .i64 dst, .int .i64 site, .int .i64 num, .int .i64 label, .int .i64 key, .int .i64 value, .int .i64 version, .int .i64 ask, .bool yes, .int .i64 code] 33) := ⟨_, rfl⟩
  have hB : Below w.heap.size w W := by rw [hW]; exact ((Below.refl _ _).alloc (Nat.le_refl _) _).alloc (by simp) _
  have bxC : BoxN W w.heap.size 3 [.int .i64 s, .slice a len cap, .int .i64 p] := by
    rw [hW]
    have h1 := boxn_new w #[.int .i64 s, .slice a len cap, .int .i64 p] 27 3 rfl
    exact h1.below ((Below.refl _ _).alloc (Nat.le_refl _) _) h1.lt
  have bxM : BoxN W (w.heap.size + 1) 12 [.int .i64 kind, .int .i64 frm, .int .i64 dst, .int .i64 site, .int .i64 num, .int .i64 label, .int .i64 key, .int .i64 value, .int .i64 version, .int .i64 ask, .bool yes, .int .i64 code] := by
    rw [hW]
    have h1 := boxn_new (w.alloc (.cells #[.int .i64 s, .slice a len cap, .int .i64 p] 27)) #[.int .i64 kind, .int .i64 frm, .int .i64 dst, .int .i64 site, .int .i64 num, .int .i64 label, .int .i64 key, .int .i64 value, .int .i64 version, .int .i64 ask, .bool yes, .int .i64 code] 33 12 rfl
    simpa using h1
  have KC : Hid (∀ U : World, Below W.heap.size W U → BoxN U w.heap.size 3 [.int .i64 s, .slice a len cap, .int .i64 p]) := fun U hU => bxC.below hU bxC.lt
  have KM : Hid (∀ U : World, Below W.heap.size W U → BoxN U (w.heap.size + 1) 12 [.int .i64 kind, .int .i64 frm, .int .i64 dst, .int .i64 site, .int .i64 num, .int .i64 label, .int .i64 key, .int .i64 value, .int .i64 version, .int .i64 ask, .bool yes, .int .i64 code]) := fun U hU => bxM.below hU bxM.lt
  have KW : Hid (∀ U : World, Below W.heap.size W U → Below w.heap.size w U) := fun U hU => hB.trans (hU.mono hB.size)
  clear hl hS hHa hTo bxM
  go_enter Tryd.func24, Tryd.ntmps24
  go_upto_region 1 with (fail)
  rw [← hW]
  clear hW
  have c0 : W.cell? ⟨w.heap.size, 0, none⟩ = some (.int .i64 s) := (bxC.c 0 (by decide)).1
  have c1 : W.cell? ⟨w.heap.size, 1, none⟩ = some (.slice a len cap) := (bxC.c 1 (by decide)).1
  have c2 : W.cell? ⟨w.heap.size, 2, none⟩ = some (.int .i64 p) := (bxC.c 2 (by decide)).1
  have zc := bxC.lt
  go_upto_region 2 with (go_at_call 63; refine (HRf.out _ hB).mono ?_; rintro e w1 ⟨rfl, hb1⟩)
  clear c0 c1 c2 zc bxC
  have hw1 := KW.out _ hb1
  by_cases hE : E = 0
  · obtain ⟨hcf, ⟨hl0, hln⟩, hme, hnl, hso⟩ := hok hE
    subst hE
    rw [if_pos rfl] at HF
    have bxC1 := KC.out _ hb1
    have bxM1 := KM.out _ hb1
    have c0 : w1.cell? ⟨w.heap.size, 0, none⟩ = some (.int .i64 s) := (bxC1.c 0 (by decide)).1
    have c1 : w1.cell? ⟨w.heap.size, 1, none⟩ = some (.slice a len cap) := (bxC1.c 1 (by decide)).1
    have c2 : w1.cell? ⟨w.heap.size, 2, none⟩ = some (.int .i64 p) := (bxC1.c 2 (by decide)).1
    have d0 : w1.cell? ⟨w.heap.size + 1, 0, none⟩ = some (.int .i64 kind) := (bxM1.c 0 (by decide)).1
    have d1 : w1.cell? ⟨w.heap.size + 1, 1, none⟩ = some (.int .i64 frm) := (bxM1.c 1 (by decide)).1
    have d2 : w1.cell? ⟨w.heap.size + 1, 2, none⟩ = some (.int .i64 dst) := (bxM1.c 2 (by decide)).1
    have d3 : w1.cell? ⟨w.heap.size + 1, 3, none⟩ = some (.int .i64 site) := (bxM1.c 3 (by decide)).1
    have d4 : w1.cell? ⟨w.heap.size + 1, 4, none⟩ = some (.int .i64 num) := (bxM1.c 4 (by decide)).1
    have d5 : w1.cell? ⟨w.heap.size + 1, 5, none⟩ = some (.int .i64 label) := (bxM1.c 5 (by decide)).1
    have d6 : w1.cell? ⟨w.heap.size + 1, 6, none⟩ = some (.int .i64 key) := (bxM1.c 6 (by decide)).1
    have d7 : w1.cell? ⟨w.heap.size + 1, 7, none⟩ = some (.int .i64 value) := (bxM1.c 7 (by decide)).1
    have d8 : w1.cell? ⟨w.heap.size + 1, 8, none⟩ = some (.int .i64 version) := (bxM1.c 8 (by decide)).1
    have d9 : w1.cell? ⟨w.heap.size + 1, 9, none⟩ = some (.int .i64 ask) := (bxM1.c 9 (by decide)).1
    have d10 : w1.cell? ⟨w.heap.size + 1, 10, none⟩ = some (.bool yes) := (bxM1.c 10 (by decide)).1
    have d11 : w1.cell? ⟨w.heap.size + 1, 11, none⟩ = some (.int .i64 code) := (bxM1.c 11 (by decide)).1
    have zc := bxC1.lt
    have zm := bxM1.lt
    clear hok hcf hme hso
    go_upto_region 5 with (go_at_call 14; refine (HCm.out _ hw1).mono ?_; rintro e w2 ⟨rfl, hb2⟩)
    clear c0 c1 c2 d0 d1 d2 d3 d4 d5 d6 d7 d8 d9 d10 d11 zc zm bxC1 bxM1
    have bW2 : Below W.heap.size W w2 := hb1.trans (hb2.mono hb1.size)
    have hw2 := KW.out _ bW2
    by_cases hM : ME = 0
    · obtain ⟨hb0, hbn⟩ := hml hM
      subst hM
      rw [if_pos rfl] at HF
      have bxC2 := KC.out _ bW2
      have bxM2 := KM.out _ bW2
      have zc := bxC2.lt
      have zm := bxM2.lt
      have c1 : w2.cell? ⟨w.heap.size, 1, none⟩ = some (.slice a len cap) := (bxC2.c 1 (by decide)).1
      have d2 : w2.cell? ⟨w.heap.size + 1, 2, none⟩ = some (.int .i64 dst) := (bxM2.c 2 (by decide)).1
      have d0 : w2.cell? ⟨w.heap.size + 1, 0, none⟩ = some (.int .i64 kind) := (bxM2.c 0 (by decide)).1
      have d5 : w2.cell? ⟨w.heap.size + 1, 5, none⟩ = some (.int .i64 label) := (bxM2.c 5 (by decide)).1
      clear bxC2 bxM2
      by_cases hd : dst = me
      · subst hd
        rw [if_pos rfl] at HF
        have hLw := HL.out _ hw2
        by_cases hk1 : kind = 1
        · skip
          subst hk1
          obtain ⟨hlen, _, _, hlab⟩ := hLw
          obtain ⟨bk, off, hae, hL⟩ := hlab (by omega)
          subst hae
          obtain ⟨i, rfl⟩ : ∃ i : Nat, l = i := ⟨l.toNat, by omega⟩
          obtain ⟨j, rfl⟩ : ∃ j : Nat, label = j := ⟨label.toNat, by omega⟩
          have hil : (i : Int) < (len : Int) := by omega
          have hjl : (j : Int) < (len : Int) := by omega
          have hAB : abvAt ls i j = abv (ls.getD i (0, 0)).1 (ls.getD i (0, 0)).2 (ls.getD j (0, 0)).1 (ls.getD j (0, 0)).2 := by unfold abvAt; simp
          obtain ⟨x, hx⟩ : ∃ x, x = ls.getD i (0, 0) := ⟨_, rfl⟩
          obtain ⟨y, hy⟩ : ∃ y, y = ls.getD j (0, 0) := ⟨_, rfl⟩
          have ri := hL.2 i (by omega)
          have rj := hL.2 j (by omega)
          rw [← hx] at ri hAB
          rw [← hy] at rj hAB
          obtain ⟨r0, r1⟩ := ri
          obtain ⟨r2, r3⟩ := rj
          have q0 := fun d os => cell_regrown r0 d os
          have q1 := fun d os => cell_regrown r1 d os
          have q2 := fun d os => cell_regrown r2 d os
          have q3 := fun d os => cell_regrown r3 d os
          have q4 := fun d os => cell_regrown c1 d os
          have q5 := fun d os => cell_regrown d5 d os
          clear hx hy hll hnl hln hl0 hb0 hbn hlen hlab HL
          cases hab : abv x.1 x.2 y.1 y.2 with
          | true =>
            have cA : ∀ w', Calls Tryd.prog 64 #[.agg #[.int .i64 x.1, .int .i64 x.2], .agg #[.int .i64 y.1, .int .i64 y.2]] w' fun e w'' => e = .returned (.bool true) ∧ Below w'.heap.size w' w'' := fun w' => by
              rw [← hab]; exact above_any _ _ _ _ _
            have HE : Hid (FE = 0) := by show _ = _; rw [HF.out, if_pos (by omega), hAB, hab]; rfl
            clear HF hab hAB
            go_upto_region 13 with (fail)
            refine wp_region_quiet_below (by kernel_rfl) (by kernel_rfl) ?_
            repeat (go_big_quiet_step ((exact Calls.regrown_of (cA _))))
            refine wpQuiet_nil ?_
            intro _ hw'
            obtain ⟨⟨dq, osq⟩, hw''⟩ := hw'
            subst hw''
            have bQ := hw2.trans ((below_regrown w2 dq osq).mono hw2.size)
            go_wp2
            go_ret
            exact ⟨by rw [HE.out]; rfl, bQ⟩
          | false =>
            have cA : ∀ w', Calls Tryd.prog 64 #[.agg #[.int .i64 x.1, .int .i64 x.2], .agg #[.int .i64 y.1, .int .i64 y.2]] w' fun e w'' => e = .returned (.bool false) ∧ Below w'.heap.size w' w'' := fun w' => by
              rw [← hab]; exact above_any _ _ _ _ _
            have HE : Hid (FE = 10) := by show _ = _; rw [HF.out, if_pos (by omega), hAB, hab]; rfl
            clear HF hab hAB
            go_upto_region 13 with (fail)
            refine wp_region_quiet_below (by kernel_rfl) (by kernel_rfl) ?_
            repeat (go_big_quiet_step ((exact Calls.regrown_of (cA _))))
            refine wpQuiet_nil ?_
            intro _ hw'
            obtain ⟨⟨dq, osq⟩, hw''⟩ := hw'
            subst hw''
            have bQ := hw2.trans ((below_regrown w2 dq osq).mono hw2.size)
            go_wp2
            go_ret
            exact ⟨by rw [HE.out]; rfl, bQ⟩
        · by_cases hk3 : kind = 3
          · skip
            subst hk3
            obtain ⟨hlen, _, _, hlab⟩ := hLw
            obtain ⟨bk, off, hae, hL⟩ := hlab (by omega)
            subst hae
            obtain ⟨i, rfl⟩ : ∃ i : Nat, l = i := ⟨l.toNat, by omega⟩
            obtain ⟨j, rfl⟩ : ∃ j : Nat, label = j := ⟨label.toNat, by omega⟩
            have hil : (i : Int) < (len : Int) := by omega
            have hjl : (j : Int) < (len : Int) := by omega
            have hAB : abvAt ls i j = abv (ls.getD i (0, 0)).1 (ls.getD i (0, 0)).2 (ls.getD j (0, 0)).1 (ls.getD j (0, 0)).2 := by unfold abvAt; simp
            obtain ⟨x, hx⟩ : ∃ x, x = ls.getD i (0, 0) := ⟨_, rfl⟩
            obtain ⟨y, hy⟩ : ∃ y, y = ls.getD j (0, 0) := ⟨_, rfl⟩
            have ri := hL.2 i (by omega)
            have rj := hL.2 j (by omega)
            rw [← hx] at ri hAB
            rw [← hy] at rj hAB
            obtain ⟨r0, r1⟩ := ri
            obtain ⟨r2, r3⟩ := rj
            have q0 := fun d os => cell_regrown r0 d os
            have q1 := fun d os => cell_regrown r1 d os
            have q2 := fun d os => cell_regrown r2 d os
            have q3 := fun d os => cell_regrown r3 d os
            have q4 := fun d os => cell_regrown c1 d os
            have q5 := fun d os => cell_regrown d5 d os
            clear hx hy hll hnl hln hl0 hb0 hbn hlen hlab HL
            cases hab : abv x.1 x.2 y.1 y.2 with
            | true =>
              have cA : ∀ w', Calls Tryd.prog 64 #[.agg #[.int .i64 x.1, .int .i64 x.2], .agg #[.int .i64 y.1, .int .i64 y.2]] w' fun e w'' => e = .returned (.bool true) ∧ Below w'.heap.size w' w'' := fun w' => by
                rw [← hab]; exact above_any _ _ _ _ _
              have HE : Hid (FE = 0) := by show _ = _; rw [HF.out, if_pos (by omega), hAB, hab]; rfl
              clear HF hab hAB
              go_upto_region 13 with (fail)
              refine wp_region_quiet_below (by kernel_rfl) (by kernel_rfl) ?_
              repeat (go_big_quiet_step ((exact Calls.regrown_of (cA _))))
              refine wpQuiet_nil ?_
              intro _ hw'
              obtain ⟨⟨dq, osq⟩, hw''⟩ := hw'
              subst hw''
              have bQ := hw2.trans ((below_regrown w2 dq osq).mono hw2.size)
              go_wp2
              go_ret
              exact ⟨by rw [HE.out]; rfl, bQ⟩
            | false =>
              have cA : ∀ w', Calls Tryd.prog 64 #[.agg #[.int .i64 x.1, .int .i64 x.2], .agg #[.int .i64 y.1, .int .i64 y.2]] w' fun e w'' => e = .returned (.bool false) ∧ Below w'.heap.size w' w'' := fun w' => by
                rw [← hab]; exact above_any _ _ _ _ _
              have HE : Hid (FE = 10) := by show _ = _; rw [HF.out, if_pos (by omega), hAB, hab]; rfl
              clear HF hab hAB
              go_upto_region 13 with (fail)
              refine wp_region_quiet_below (by kernel_rfl) (by kernel_rfl) ?_
              repeat (go_big_quiet_step ((exact Calls.regrown_of (cA _))))
              refine wpQuiet_nil ?_
              intro _ hw'
              obtain ⟨⟨dq, osq⟩, hw''⟩ := hw'
              subst hw''
              have bQ := hw2.trans ((below_regrown w2 dq osq).mono hw2.size)
              go_wp2
              go_ret
              exact ⟨by rw [HE.out]; rfl, bQ⟩
          · by_cases hk2 : kind = 2
            · skip
              subst hk2
              have HE : Hid (FE = 0) := by show _ = _; rw [HF.out, if_neg (by omega), if_pos (by omega)]
              clear HF hll hml HL hLw
              go_wp2
              go_ret
              exact ⟨by rw [HE.out]; rfl, hw2⟩
            · by_cases hk4 : kind = 4
              · skip
                subst hk4
                have HE : Hid (FE = 0) := by show _ = _; rw [HF.out, if_neg (by omega), if_pos (by omega)]
                clear HF hll hml HL hLw
                go_wp2
                go_ret
                exact ⟨by rw [HE.out]; rfl, hw2⟩
              · have k1 : (kind == 1) = false := by simp [hk1]
                have k2 : (kind == 2) = false := by simp [hk2]
                have k3 : (kind == 3) = false := by simp [hk3]
                have k4 : (kind == 4) = false := by simp [hk4]
                have HE : Hid (FE = 3) := by show _ = _; rw [HF.out, if_neg (by omega), if_neg (by omega)]
                clear HF hll hml HL hLw
                go_wp2
                go_ret
                exact ⟨by rw [HE.out]; rfl, hw2⟩
      · have hd2 : (dst == me) = false := by simp [hd]
        rw [if_neg hd] at HF
        have HE : Hid (FE = 2) := HF
        clear HF
        go_wp2
        go_ret
        exact ⟨by rw [HE.out]; rfl, hw2⟩
    · have hM2 : (ME == 0) = false := by simp [hM]
      rw [if_neg hM] at HF
      have HE : Hid (FE = ME) := HF
      clear HF hml
      go_wp2
      go_ret
      exact ⟨by rw [HE.out]; rfl, hw2⟩
  · have hE2 : (E == 0) = false := by simp [hE]
    rw [if_neg hE] at HF
    have HE : Hid (FE = E) := HF
    clear HF hml hok
    go_wp2
    go_ret
    exact ⟨by rw [HE.out]; rfl, hw1⟩
end Go.Proofs.YtcmjcopopkafnaaDoor.Pt
/- The contract of part.read. -/
namespace Go.Proofs.YtcmjcopopkafnaaDoor.Pt
open Go.ChangeShapes Go.WideShapes Go.ChangeAt Go.RowKit
open Go.Proofs.YtcmjcopopkafnaaDoor.St (SV PS IsStore IsRow storeOK TxWf BoxN boxn_new OwnStore flat flat_append Elem isOne grown_setCell own_below own_isRow isRow_nil cntErr cntIs endErr endData txOK readVal readVer readErr readData peekVal peekVer peekErr writeErr writeData stillIs refErr)
set_option linter.unusedVariables false


set_option maxRecDepth 100000 in
set_option maxHeartbeats 8000000 in
theorem partRead_any (v : AnsV) (l : Int) (sa : Option Addr) (n sc : Nat) (ss : List SV) (m : MV) (w : World) (hv : IsAns w v) (hwf : ∀ t ∈ v.st.over, TxWf t) (h4 : v.st.ol * 16 ≤ 140737488351232) (hS : IsStores w sa n sc ss) (hm : m.label ≠ l → 0 ≤ m.label ∧ m.label < (n : Int)) :
    Calls Tryd.prog 27 #[v.val, .int .i64 l, .slice sa n sc, m.val] w fun e w' => ∃ v' : AnsV, e = .returned v'.val ∧ IsAns w' v' ∧ v'.data = readD l v.st (ss.getD m.label.toNat default) m v.data ∧ Below w.heap.size w w' ∧ ∀ B, v.far B → B ≤ w.heap.size → v'.far B := by
  have hRd := fun U hU => St.read_own v.st (mtx m) m.key U hU hwf h4
  have hPk : m.label ≠ l → ∀ U, IsStores U sa n sc ss → Calls Tryd.prog 16 #[(ss.getD m.label.toNat default).val, .int .i64 m.key] U fun e w' => e = .returned (.tuple #[.int .i64 (peekVal (ss.getD m.label.toNat default) m.key), .int .i64 (peekVer (ss.getD m.label.toNat default) m.key), .int .i64 (peekErr (ss.getD m.label.toNat default) m.key)]) ∧ Below U.heap.size U w' := fun hne U hU => by
    have := hm hne
    have hn : m.label.toNat < n := by omega
    exact St.peek_any (ss.getD m.label.toNat default) m.key U (hU.each _ hn).1 (hU.each _ hn).2
  have HRD : Hid (readD l v.st (ss.getD m.label.toNat default) m v.data = ⟨if m.label = l ∧ readErr v.st (mtx m) m.key = 0 then readData v.st (mtx m) m.key else v.st.data, if toldE (if m.label = l then readErr v.st (mtx m) m.key else peekErr (ss.getD m.label.toNat default) m.key) then [⟨5, m.dst, m.frm, m.site, m.num, m.label, m.key, if m.label = l then readVal v.st (mtx m) m.key else peekVal (ss.getD m.label.toNat default) m.key, if m.label = l then readVer v.st (mtx m) m.key else peekVer (ss.getD m.label.toNat default) m.key, m.ask, false, if m.label = l then readErr v.st (mtx m) m.key else peekErr (ss.getD m.label.toNat default) m.key⟩] else v.ms, v.rs, v.ns⟩) := rfl
  obtain ⟨RD, eRD⟩ : ∃ x, x = readD l v.st (ss.getD m.label.toNat default) m v.data := ⟨_, rfl⟩
  rw [← eRD] at HRD ⊢
  clear eRD
  obtain ⟨RE, eRE⟩ : ∃ x, x = readErr v.st (mtx m) m.key := ⟨_, rfl⟩
  rw [← eRE] at HRD hRd
  clear eRE
  obtain ⟨RVl, eRVl⟩ : ∃ x, x = readVal v.st (mtx m) m.key := ⟨_, rfl⟩
  rw [← eRVl] at HRD hRd
  clear eRVl
  obtain ⟨RVr, eRVr⟩ : ∃ x, x = readVer v.st (mtx m) m.key := ⟨_, rfl⟩
  rw [← eRVr] at HRD hRd
  clear eRVr
  obtain ⟨RDt, eRDt⟩ : ∃ x, x = readData v.st (mtx m) m.key := ⟨_, rfl⟩
  rw [← eRDt] at HRD hRd
  clear eRDt
  obtain ⟨PE, ePE⟩ : ∃ x, x = peekErr (ss.getD m.label.toNat default) m.key := ⟨_, rfl⟩
  rw [← ePE] at HRD
  rw [← ePE] at hPk
  clear ePE
  obtain ⟨PVl, ePVl⟩ : ∃ x, x = peekVal (ss.getD m.label.toNat default) m.key := ⟨_, rfl⟩
  rw [← ePVl] at HRD
  rw [← ePVl] at hPk
  clear ePVl
  obtain ⟨PVr, ePVr⟩ : ∃ x, x = peekVer (ss.getD m.label.toNat default) m.key := ⟨_, rfl⟩
  rw [← ePVr] at HRD
  rw [← ePVr] at hPk
  clear ePVr
  have HV : Hid (IsAns w v) := hv
  have HSt : Hid (IsStores w sa n sc ss) := hS
  clear hv hS hwf h4
  obtain ⟨M, eM⟩ : ∃ M : MV, M = m := ⟨_, rfl⟩
  obtain ⟨V, eV⟩ : ∃ V : AnsV, V = v := ⟨_, rfl⟩
  obtain ⟨⟨va0, vn0, vc0, va1, vn1, vc1, va2, vn2, vc2, va3, vn3, vc3, vi, vl, vd, vo⟩, va4, vn4, vc4, va5, vn5, vc5, va6, vn6, vc6, vms, vrs, vns⟩ := v
  obtain ⟨kind, frm, dst, site, num, label, key, value, version, ask, yes, code⟩ := m
  simp only [AnsV.val, MV.val]
  obtain ⟨W, hW⟩ : ∃ W : World, W = ((w.alloc (.cells #[.slice va0 vn0 vc0, .slice va1 vn1 vc1, .slice va2 vn2 vc2, .slice va3 vn3 vc3, .slice va4 vn4 vc4, .slice va5 vn5 vc5, .slice va6 vn6 vc6] 48)).alloc (.cells #[.int .i64 kind, .int .i64 frm, .int .i64 dst, .int .i64 site, .int .i64 num, .int .i64 label, .int .i64 key, .int .i64 value, .int .i64 version, .int .i64 ask, .bool yes, .int .i64 code] 33)).alloc (.cells #[.slice none 0 0, .slice none 0 0, .slice none 0 0, .slice none 0 0, .slice none 0 0, .slice none 0 0, .slice none 0 0] 48) := ⟨_, rfl⟩
  obtain ⟨bxA, bxM, bxQ, hB, eS⟩ := three (w := w) (a := #[.slice va0 vn0 vc0, .slice va1 vn1 vc1, .slice va2 vn2 vc2, .slice va3 vn3 vc3, .slice va4 vn4 vc4, .slice va5 vn5 vc5, .slice va6 vn6 vc6]) (m := #[.int .i64 kind, .int .i64 frm, .int .i64 dst, .int .i64 site, .int .i64 num, .int .i64 label, .int .i64 key, .int .i64 value, .int .i64 version, .int .i64 ask, .bool yes, .int .i64 code]) (q := #[.slice none 0 0, .slice none 0 0, .slice none 0 0, .slice none 0 0, .slice none 0 0, .slice none 0 0, .slice none 0 0]) (ta := 48) (tm := 33) rfl rfl rfl
  rw [← hW] at bxA bxM bxQ hB eS
  have HSZ : Hid (W.heap.size = w.heap.size + 3) := eS
  have zW : w.heap.size + 2 < W.heap.size := by omega
  have KA : Hid (∀ U : World, Below W.heap.size W U → BoxN U w.heap.size 7 [.slice va0 vn0 vc0, .slice va1 vn1 vc1, .slice va2 vn2 vc2, .slice va3 vn3 vc3, .slice va4 vn4 vc4, .slice va5 vn5 vc5, .slice va6 vn6 vc6]) := fun U hU => bxA.below hU bxA.lt
  have KM : Hid (∀ U : World, Below W.heap.size W U → BoxN U (w.heap.size + 1) 12 [.int .i64 kind, .int .i64 frm, .int .i64 dst, .int .i64 site, .int .i64 num, .int .i64 label, .int .i64 key, .int .i64 value, .int .i64 version, .int .i64 ask, .bool yes, .int .i64 code]) := fun U hU => bxM.below hU bxM.lt
  have KQ : Hid (∀ U : World, Below W.heap.size W U → BoxN U (w.heap.size + 2) 7 [.slice none 0 0, .slice none 0 0, .slice none 0 0, .slice none 0 0, .slice none 0 0, .slice none 0 0, .slice none 0 0]) := fun U hU => bxQ.below hU bxQ.lt
  have KW : Hid (∀ U : World, Below W.heap.size W U → Below w.heap.size w U) := fun U hU => hB.trans (hU.mono hB.size)
  clear eS bxA bxQ hB
  go_enter Tryd.func27, Tryd.ntmps27
  go_upto_region 1 with (fail)
  rw [← hW]
  clear hW

  have HBk : Hid (Calls Tryd.prog 65 #[.int .i64 5, .agg #[.int .i64 kind, .int .i64 frm, .int .i64 dst, .int .i64 site, .int .i64 num, .int .i64 label, .int .i64 key, .int .i64 value, .int .i64 version, .int .i64 ask, .bool yes, .int .i64 code]] W fun e w' => e = .returned (.agg #[.int .i64 5, .int .i64 dst, .int .i64 frm, .int .i64 site, .int .i64 num, .int .i64 0, .int .i64 0, .int .i64 0, .int .i64 0, .int .i64 0, .bool false, .int .i64 0]) ∧ Below W.heap.size W w') := back_any 5 ⟨kind, frm, dst, site, num, label, key, value, version, ask, yes, code⟩ W
  have m0 : W.cell? ⟨w.heap.size + 1, 0, none⟩ = some (.int .i64 kind) := (bxM.c 0 (by decide)).1
  have m1 : W.cell? ⟨w.heap.size + 1, 1, none⟩ = some (.int .i64 frm) := (bxM.c 1 (by decide)).1
  have m2 : W.cell? ⟨w.heap.size + 1, 2, none⟩ = some (.int .i64 dst) := (bxM.c 2 (by decide)).1
  have m3 : W.cell? ⟨w.heap.size + 1, 3, none⟩ = some (.int .i64 site) := (bxM.c 3 (by decide)).1
  have m4 : W.cell? ⟨w.heap.size + 1, 4, none⟩ = some (.int .i64 num) := (bxM.c 4 (by decide)).1
  have m5 : W.cell? ⟨w.heap.size + 1, 5, none⟩ = some (.int .i64 label) := (bxM.c 5 (by decide)).1
  have m6 : W.cell? ⟨w.heap.size + 1, 6, none⟩ = some (.int .i64 key) := (bxM.c 6 (by decide)).1
  have m7 : W.cell? ⟨w.heap.size + 1, 7, none⟩ = some (.int .i64 value) := (bxM.c 7 (by decide)).1
  have m8 : W.cell? ⟨w.heap.size + 1, 8, none⟩ = some (.int .i64 version) := (bxM.c 8 (by decide)).1
  have m9 : W.cell? ⟨w.heap.size + 1, 9, none⟩ = some (.int .i64 ask) := (bxM.c 9 (by decide)).1
  have m10 : W.cell? ⟨w.heap.size + 1, 10, none⟩ = some (.bool yes) := (bxM.c 10 (by decide)).1
  have m11 : W.cell? ⟨w.heap.size + 1, 11, none⟩ = some (.int .i64 code) := (bxM.c 11 (by decide)).1
  have zm := bxM.lt
  go_upto_region 2 with (go_at_call 65; refine HBk.out.mono ?_; rintro e w1 ⟨rfl, hb1⟩)
  clear m0 m1 m2 m3 m4 m5 m6 m7 m8 m9 m10 m11 zm HBk bxM
  have z1 := hb1.size
  go_cut [] (fun wc => BoxN wc w1.heap.size 12 [.int .i64 5, .int .i64 dst, .int .i64 frm, .int .i64 site, .int .i64 num, .int .i64 label, .int .i64 key, .int .i64 0, .int .i64 0, .int .i64 ask, .bool false, .int .i64 0] ∧ Below w1.heap.size w1 wc)
  case first =>
    have bxm := KM.out _ hb1
    have m5 : w1.cell? ⟨w.heap.size + 1, 5, none⟩ = some (.int .i64 label) := (bxm.c 5 (by decide)).1
    have m6 : w1.cell? ⟨w.heap.size + 1, 6, none⟩ = some (.int .i64 key) := (bxm.c 6 (by decide)).1
    have m9 : w1.cell? ⟨w.heap.size + 1, 9, none⟩ = some (.int .i64 ask) := (bxm.c 9 (by decide)).1
    have zm := bxm.lt
    clear bxm hRd hPk hm HRD
    go_region
    all_goals
      go_wp2_with fail
      go_meet
      case rel => exact ⟨bxDr (boxn_new w1 #[.int .i64 5, .int .i64 dst, .int .i64 frm, .int .i64 site, .int .i64 num, .int .i64 label, .int .i64 key, .int .i64 0, .int .i64 0, .int .i64 ask, .bool false, .int .i64 0] 33 12 rfl), ((Below.refl _ _).alloc (Nat.le_refl _) _).drew⟩
  case rest =>
    obtain ⟨bxG, hbY⟩ := hcut
    obtain ⟨Y, eY⟩ : ∃ Y, Y = wc := ⟨_, rfl⟩
    rw [← eY] at bxG hbY ⊢
    clear eY
    have bWY : Below W.heap.size W Y := hb1.trans (hbY.mono z1)
    have zY := bWY.size
    have bxA := KA.out _ bWY
    have bxM := KM.out _ bWY
    have bxQ := KQ.out _ bWY
    have zG := bxG.lt
    have zM := bxM.lt
    have zA := bxA.lt
    have m5 : Y.cell? ⟨w.heap.size + 1, 5, none⟩ = some (.int .i64 label) := (bxM.c 5 (by decide)).1
    have hwY := KW.out _ bWY
    by_cases hlb : label = l
    · subst hlb
      have HRd : Hid (∀ U, Below w.heap.size w U → Calls Tryd.prog 23 #[.agg #[.slice va0 vn0 vc0, .slice va1 vn1 vc1, .slice va2 vn2 vc2, .slice va3 vn3 vc3], .agg #[.int .i64 site, .int .i64 num], .int .i64 key] U fun e w' => ∃ r : SV, e = .returned (.tuple #[r.val, .int .i64 RVl, .int .i64 RVr, .int .i64 RE]) ∧ OwnStore w' U.heap.size r ∧ r.data = RDt ∧ Below U.heap.size U w') := fun U hU => hRd U (HV.out.st.below hU)
      clear hRd hPk hm
      have a0 : Y.cell? ⟨w.heap.size, 0, none⟩ = some (.slice va0 vn0 vc0) := (bxA.c 0 (by decide)).1
      have a1 : Y.cell? ⟨w.heap.size, 1, none⟩ = some (.slice va1 vn1 vc1) := (bxA.c 1 (by decide)).1
      have a2 : Y.cell? ⟨w.heap.size, 2, none⟩ = some (.slice va2 vn2 vc2) := (bxA.c 2 (by decide)).1
      have a3 : Y.cell? ⟨w.heap.size, 3, none⟩ = some (.slice va3 vn3 vc3) := (bxA.c 3 (by decide)).1
      have m3 : Y.cell? ⟨w.heap.size + 1, 3, none⟩ = some (.int .i64 site) := (bxM.c 3 (by decide)).1
      have m4 : Y.cell? ⟨w.heap.size + 1, 4, none⟩ = some (.int .i64 num) := (bxM.c 4 (by decide)).1
      have m6 : Y.cell? ⟨w.heap.size + 1, 6, none⟩ = some (.int .i64 key) := (bxM.c 6 (by decide)).1
      have hYN : Below w.heap.size w (Y.alloc (.cells #[.slice none 0 0, .slice none 0 0, .slice none 0 0, .slice none 0 0] 41)) := hwY.alloc hwY.size _
      go_upto_region 6 with (go_at_call 23; refine (HRd.out _ hYN).mono ?_; rintro e u2 ⟨⟨ra0, rn0, rc0, ra1, rn1, rc1, ra2, rn2, rc2, ra3, rn3, rc3, ri, rl, rd, ro⟩, rfl, hO2, hd2, hb2⟩; simp only [SV.val]; have bxN2 : BoxN u2 Y.heap.size 4 [.slice none 0 0, .slice none 0 0, .slice none 0 0, .slice none 0 0] := (boxn_new Y #[.slice none 0 0, .slice none 0 0, .slice none 0 0, .slice none 0 0] 41 4 rfl).below hb2 (by simp); have hYu : Below Y.heap.size Y u2 := ((Below.refl Y.heap.size Y).alloc (Nat.le_refl _) _).trans (hb2.mono (by simp)); have bxG2 := bxG.below hYu bxG.lt; have zN2 := bxN2.lt; have zG2 := bxG2.lt; have n0 : u2.cell? ⟨Y.heap.size, 0, none⟩ = some (.slice none 0 0) := (bxN2.c 0 (by decide)).1; have nf0 := (bxN2.c 0 (by decide)).2; have n1 : u2.cell? ⟨Y.heap.size, 1, none⟩ = some (.slice none 0 0) := (bxN2.c 1 (by decide)).1; have nf1 := (bxN2.c 1 (by decide)).2; have n2 : u2.cell? ⟨Y.heap.size, 2, none⟩ = some (.slice none 0 0) := (bxN2.c 2 (by decide)).1; have nf2 := (bxN2.c 2 (by decide)).2; have n3 : u2.cell? ⟨Y.heap.size, 3, none⟩ = some (.slice none 0 0) := (bxN2.c 3 (by decide)).1; have nf3 := (bxN2.c 3 (by decide)).2; have g7 : u2.cell? ⟨w1.heap.size, 7, none⟩ = some (.int .i64 0) := (bxG2.c 7 (by decide)).1; have gf7 := (bxG2.c 7 (by decide)).2; have g8 : u2.cell? ⟨w1.heap.size, 8, none⟩ = some (.int .i64 0) := (bxG2.c 8 (by decide)).1; have gf8 := (bxG2.c 8 (by decide)).2; have g11 : u2.cell? ⟨w1.heap.size, 11, none⟩ = some (.int .i64 0) := (bxG2.c 11 (by decide)).1; have gf11 := (bxG2.c 11 (by decide)).2)

      have hwu : Below w.heap.size w u2 := hwY.trans (hYu.mono hwY.size)
      have bWu : Below W.heap.size W u2 := bWY.trans (hYu.mono zY)
      have hC3 : w.heap.size + 3 ≤ Y.heap.size + 1 := by have := HSZ.out; omega
      have hq1 : w.heap.size + 3 ≤ w1.heap.size := by have := HSZ.out; omega
      have hq2 : w.heap.size + 3 ≤ Y.heap.size := by have := HSZ.out; omega
      have hH1 := Half.start (C := Y.heap.size + 1) HV.out hwu (KA.out _ bWu) (KQ.out _ bWu) hC3 none (fun g e => by cases e)
      have hH2 := ((((((hH1.aside hq2 (by omega) 0 (.slice ra0 rn0 rc0)).aside hq2 (by omega) 1 (.slice ra1 rn1 rc1)).aside hq2 (by omega) 2 (.slice ra2 rn2 rc2)).aside hq2 (by omega) 3 (.slice ra3 rn3 rc3)).aside hq1 (by omega) 7 (.int .i64 RVl)).aside hq1 (by omega) 8 (.int .i64 RVr)).aside hq1 (by omega) 11 (.int .i64 RE)
      have hO3 := ownS (ownS (ownS (ownS (ownS (ownS (ownS hO2 (q := Y.heap.size) (by simp) 0 (.slice ra0 rn0 rc0)) (q := Y.heap.size) (by simp) 1 (.slice ra1 rn1 rc1)) (q := Y.heap.size) (by simp) 2 (.slice ra2 rn2 rc2)) (q := Y.heap.size) (by simp) 3 (.slice ra3 rn3 rc3)) (q := w1.heap.size) (by simp; omega) 7 (.int .i64 RVl)) (q := w1.heap.size) (by simp; omega) 8 (.int .i64 RVr)) (q := w1.heap.size) (by simp; omega) 11 (.int .i64 RE)
      have hne : w1.heap.size ≠ Y.heap.size := by omega
      have bxG3 : BoxN (((((((u2.setCell ⟨Y.heap.size, 0, none⟩ (.slice ra0 rn0 rc0)).setCell ⟨Y.heap.size, 1, none⟩ (.slice ra1 rn1 rc1)).setCell ⟨Y.heap.size, 2, none⟩ (.slice ra2 rn2 rc2)).setCell ⟨Y.heap.size, 3, none⟩ (.slice ra3 rn3 rc3)).setCell ⟨w1.heap.size, 7, none⟩ (.int .i64 RVl)).setCell ⟨w1.heap.size, 8, none⟩ (.int .i64 RVr)).setCell ⟨w1.heap.size, 11, none⟩ (.int .i64 RE)) w1.heap.size 12 [.int .i64 5, .int .i64 dst, .int .i64 frm, .int .i64 site, .int .i64 num, .int .i64 label, .int .i64 key, .int .i64 RVl, .int .i64 RVr, .int .i64 ask, .bool false, .int .i64 RE] := (((((((bxG2.far hne).far hne).far hne).far hne).set 7 (by decide) _).set 8 (by decide) _).set 11 (by decide) _)
      have bxN3 : BoxN (((((((u2.setCell ⟨Y.heap.size, 0, none⟩ (.slice ra0 rn0 rc0)).setCell ⟨Y.heap.size, 1, none⟩ (.slice ra1 rn1 rc1)).setCell ⟨Y.heap.size, 2, none⟩ (.slice ra2 rn2 rc2)).setCell ⟨Y.heap.size, 3, none⟩ (.slice ra3 rn3 rc3)).setCell ⟨w1.heap.size, 7, none⟩ (.int .i64 RVl)).setCell ⟨w1.heap.size, 8, none⟩ (.int .i64 RVr)).setCell ⟨w1.heap.size, 11, none⟩ (.int .i64 RE)) Y.heap.size 4 [.slice ra0 rn0 rc0, .slice ra1 rn1 rc1, .slice ra2 rn2 rc2, .slice ra3 rn3 rc3] := ((((((((bxN2.set 0 (by decide) _).set 1 (by decide) _).set 2 (by decide) _).set 3 (by decide) _).far (Ne.symm hne)).far (Ne.symm hne)).far (Ne.symm hne)))
      have hszX : Y.heap.size + 1 ≤ (((((((u2.setCell ⟨Y.heap.size, 0, none⟩ (.slice ra0 rn0 rc0)).setCell ⟨Y.heap.size, 1, none⟩ (.slice ra1 rn1 rc1)).setCell ⟨Y.heap.size, 2, none⟩ (.slice ra2 rn2 rc2)).setCell ⟨Y.heap.size, 3, none⟩ (.slice ra3 rn3 rc3)).setCell ⟨w1.heap.size, 7, none⟩ (.int .i64 RVl)).setCell ⟨w1.heap.size, 8, none⟩ (.int .i64 RVr)).setCell ⟨w1.heap.size, 11, none⟩ (.int .i64 RE)).heap.size := by simp; omega
      obtain ⟨X2, eX2⟩ : ∃ x, x = (((((((u2.setCell ⟨Y.heap.size, 0, none⟩ (.slice ra0 rn0 rc0)).setCell ⟨Y.heap.size, 1, none⟩ (.slice ra1 rn1 rc1)).setCell ⟨Y.heap.size, 2, none⟩ (.slice ra2 rn2 rc2)).setCell ⟨Y.heap.size, 3, none⟩ (.slice ra3 rn3 rc3)).setCell ⟨w1.heap.size, 7, none⟩ (.int .i64 RVl)).setCell ⟨w1.heap.size, 8, none⟩ (.int .i64 RVr)).setCell ⟨w1.heap.size, 11, none⟩ (.int .i64 RE)) := ⟨_, rfl⟩
      rw [← eX2] at hH2 hO3 bxG3 bxN3 hszX ⊢
      clear eX2 hH1 bxG2 bxN2 n0 n1 n2 n3 nf0 nf1 nf2 nf3 g7 g8 g11 gf7 gf8 gf11 a0 a1 a2 a3 m3 m4 m5 m6 HRd bxA bxM bxQ bxG
      have HCX : Hid (Y.heap.size + 1 ≤ X2.heap.size) := hszX
      have zN3 := bxN3.lt
      have zG3 := bxG3.lt
      by_cases hE : RE = 0
      · subst hE
        have g11 : X2.cell? ⟨w1.heap.size, 11, none⟩ = some (.int .i64 0) := (bxG3.c 11 (by decide)).1
        have n0 : X2.cell? ⟨Y.heap.size, 0, none⟩ = some (.slice ra0 rn0 rc0) := (bxN3.c 0 (by decide)).1
        have n1 : X2.cell? ⟨Y.heap.size, 1, none⟩ = some (.slice ra1 rn1 rc1) := (bxN3.c 1 (by decide)).1
        have n2 : X2.cell? ⟨Y.heap.size, 2, none⟩ = some (.slice ra2 rn2 rc2) := (bxN3.c 2 (by decide)).1
        have n3 : X2.cell? ⟨Y.heap.size, 3, none⟩ = some (.slice ra3 rn3 rc3) := (bxN3.c 3 (by decide)).1
        have a0 : X2.cell? ⟨w.heap.size, 0, none⟩ = some (.slice va0 vn0 vc0) := (hH2.A.c 0 (by decide)).1
        have af0 := (hH2.A.c 0 (by decide)).2
        have a1 : X2.cell? ⟨w.heap.size, 1, none⟩ = some (.slice va1 vn1 vc1) := (hH2.A.c 1 (by decide)).1
        have af1 := (hH2.A.c 1 (by decide)).2
        have a2 : X2.cell? ⟨w.heap.size, 2, none⟩ = some (.slice va2 vn2 vc2) := (hH2.A.c 2 (by decide)).1
        have af2 := (hH2.A.c 2 (by decide)).2
        have a3 : X2.cell? ⟨w.heap.size, 3, none⟩ = some (.slice va3 vn3 vc3) := (hH2.A.c 3 (by decide)).1
        have af3 := (hH2.A.c 3 (by decide)).2
        have zA3 := hH2.A.lt
        go_upto_region 9 with (fail)
        have hH3 := Half.store hH2 hO3 (by simp)
        simp only [] at hH3
        have hneA : w1.heap.size ≠ w.heap.size := by omega
        have bxG4 : BoxN ((((X2.setCell ⟨w.heap.size, 0, none⟩ (.slice ra0 rn0 rc0)).setCell ⟨w.heap.size, 1, none⟩ (.slice ra1 rn1 rc1)).setCell ⟨w.heap.size, 2, none⟩ (.slice ra2 rn2 rc2)).setCell ⟨w.heap.size, 3, none⟩ (.slice ra3 rn3 rc3)) w1.heap.size 12 [.int .i64 5, .int .i64 dst, .int .i64 frm, .int .i64 site, .int .i64 num, .int .i64 label, .int .i64 key, .int .i64 RVl, .int .i64 RVr, .int .i64 ask, .bool false, .int .i64 0] := (((bxG3.far hneA).far hneA).far hneA).far hneA
        obtain ⟨X3, eX3⟩ : ∃ x, x = ((((X2.setCell ⟨w.heap.size, 0, none⟩ (.slice ra0 rn0 rc0)).setCell ⟨w.heap.size, 1, none⟩ (.slice ra1 rn1 rc1)).setCell ⟨w.heap.size, 2, none⟩ (.slice ra2 rn2 rc2)).setCell ⟨w.heap.size, 3, none⟩ (.slice ra3 rn3 rc3)) := ⟨_, rfl⟩
        have HCX3 : Hid (Y.heap.size + 1 ≤ X3.heap.size) := by show _ ≤ _; rw [eX3]; simpa using HCX.out
        rw [← eX3] at hH3 bxG4 ⊢
        clear eX3 HCX g11 n0 n1 n2 n3 a0 a1 a2 a3 af0 af1 af2 af3
        have HCX := HCX3
        have hT : toldE 0 = true := rfl
        have HT9 : Hid (Calls Tryd.prog 66 #[.int .i64 0] X3 fun e w' => e = .returned (.bool true) ∧ w' = X3) := by
          have := isTold_any 0 X3
          rw [hT] at this; exact this
        have g11 : X3.cell? ⟨w1.heap.size, 11, none⟩ = some (.int .i64 0) := (bxG4.c 11 (by decide)).1
        have zg := bxG4.lt
        have g0 : X3.cell? ⟨w1.heap.size, 0, none⟩ = some (.int .i64 5) := (bxG4.c 0 (by decide)).1
        have g1 : X3.cell? ⟨w1.heap.size, 1, none⟩ = some (.int .i64 dst) := (bxG4.c 1 (by decide)).1
        have g2 : X3.cell? ⟨w1.heap.size, 2, none⟩ = some (.int .i64 frm) := (bxG4.c 2 (by decide)).1
        have g3 : X3.cell? ⟨w1.heap.size, 3, none⟩ = some (.int .i64 site) := (bxG4.c 3 (by decide)).1
        have g4 : X3.cell? ⟨w1.heap.size, 4, none⟩ = some (.int .i64 num) := (bxG4.c 4 (by decide)).1
        have g5 : X3.cell? ⟨w1.heap.size, 5, none⟩ = some (.int .i64 label) := (bxG4.c 5 (by decide)).1
        have g6 : X3.cell? ⟨w1.heap.size, 6, none⟩ = some (.int .i64 key) := (bxG4.c 6 (by decide)).1
        have g7 : X3.cell? ⟨w1.heap.size, 7, none⟩ = some (.int .i64 RVl) := (bxG4.c 7 (by decide)).1
        have g8 : X3.cell? ⟨w1.heap.size, 8, none⟩ = some (.int .i64 RVr) := (bxG4.c 8 (by decide)).1
        have g9 : X3.cell? ⟨w1.heap.size, 9, none⟩ = some (.int .i64 ask) := (bxG4.c 9 (by decide)).1
        have g10 : X3.cell? ⟨w1.heap.size, 10, none⟩ = some (.bool false) := (bxG4.c 10 (by decide)).1
        have a4 := (hH3.A.c 4 (by decide)).1
        have af4 := (hH3.A.c 4 (by decide)).2
        have zA := hH3.A.lt
        simp only [AnsV.cells, List.getD_cons_zero, List.getD_cons_succ] at a4
        go_upto_region 11 with (go_at_call 66; refine HT9.out.mono ?_; rintro e u9 ⟨rfl, hu9⟩; rw [hu9]; clear hu9)
        have hH9 := Half.msg2 hH3 (g := ⟨5, dst, frm, site, num, label, key, RVl, RVr, ask, false, 0⟩) (cs := #[.int .i64 5, .int .i64 dst, .int .i64 frm, .int .i64 site, .int .i64 num, .int .i64 label, .int .i64 key, .int .i64 RVl, .int .i64 RVr, .int .i64 ask, .bool false, .int .i64 0]) (ty := 33) rfl rfl HCX.out
        obtain ⟨X9, eX9⟩ : ∃ x, x = (X3.setCell ⟨w.heap.size, 4, none⟩ (.slice (some ⟨X3.heap.size, 0, none⟩) 1 1)).alloc (.cells #[.int .i64 5, .int .i64 dst, .int .i64 frm, .int .i64 site, .int .i64 num, .int .i64 label, .int .i64 key, .int .i64 RVl, .int .i64 RVr, .int .i64 ask, .bool false, .int .i64 0] 33) := ⟨_, rfl⟩
        rw [← eX9] at hH9 ⊢
        clear eX9 g0 g1 g2 g3 g4 g5 g6 g7 g8 g9 g10 g11 a4 af4 zA
        have hF := hH9.fin (.slice ra0 rn0 rc0) (.slice ra1 rn1 rc1) (.slice ra2 rn2 rc2) (.slice ra3 rn3 rc3) (.slice (some ⟨X3.heap.size, 0, none⟩) 1 1) (.slice va5 vn5 vc5) (.slice va6 vn6 vc6)
        have k0 : X9.cell? ⟨w.heap.size, 0, none⟩ = some (.slice ra0 rn0 rc0) := (hH9.A.c 0 (by decide)).1
        have q0 : X9.cell? ⟨w.heap.size + 2, 0, none⟩ = some (.slice none 0 0) := (hH9.Q.c 0 (by decide)).1
        have qf0 := (hH9.Q.c 0 (by decide)).2
        have k1 : X9.cell? ⟨w.heap.size, 1, none⟩ = some (.slice ra1 rn1 rc1) := (hH9.A.c 1 (by decide)).1
        have q1 : X9.cell? ⟨w.heap.size + 2, 1, none⟩ = some (.slice none 0 0) := (hH9.Q.c 1 (by decide)).1
        have qf1 := (hH9.Q.c 1 (by decide)).2
        have k2 : X9.cell? ⟨w.heap.size, 2, none⟩ = some (.slice ra2 rn2 rc2) := (hH9.A.c 2 (by decide)).1
        have q2 : X9.cell? ⟨w.heap.size + 2, 2, none⟩ = some (.slice none 0 0) := (hH9.Q.c 2 (by decide)).1
        have qf2 := (hH9.Q.c 2 (by decide)).2
        have k3 : X9.cell? ⟨w.heap.size, 3, none⟩ = some (.slice ra3 rn3 rc3) := (hH9.A.c 3 (by decide)).1
        have q3 : X9.cell? ⟨w.heap.size + 2, 3, none⟩ = some (.slice none 0 0) := (hH9.Q.c 3 (by decide)).1
        have qf3 := (hH9.Q.c 3 (by decide)).2
        have k4 : X9.cell? ⟨w.heap.size, 4, none⟩ = some (.slice (some ⟨X3.heap.size, 0, none⟩) 1 1) := (hH9.A.c 4 (by decide)).1
        have q4 : X9.cell? ⟨w.heap.size + 2, 4, none⟩ = some (.slice none 0 0) := (hH9.Q.c 4 (by decide)).1
        have qf4 := (hH9.Q.c 4 (by decide)).2
        have k5 : X9.cell? ⟨w.heap.size, 5, none⟩ = some (.slice va5 vn5 vc5) := (hH9.A.c 5 (by decide)).1
        have q5 : X9.cell? ⟨w.heap.size + 2, 5, none⟩ = some (.slice none 0 0) := (hH9.Q.c 5 (by decide)).1
        have qf5 := (hH9.Q.c 5 (by decide)).2
        have k6 : X9.cell? ⟨w.heap.size, 6, none⟩ = some (.slice va6 vn6 vc6) := (hH9.A.c 6 (by decide)).1
        have q6 : X9.cell? ⟨w.heap.size + 2, 6, none⟩ = some (.slice none 0 0) := (hH9.Q.c 6 (by decide)).1
        have qf6 := (hH9.Q.c 6 (by decide)).2
        have zk := hH9.A.lt
        have zq := hH9.Q.lt
        go_wp2
        refine bodyPost_ret (v := .agg #[.slice ra0 rn0 rc0, .slice ra1 rn1 rc1, .slice ra2 rn2 rc2, .slice ra3 rn3 rc3, .slice (some ⟨X3.heap.size, 0, none⟩) 1 1, .slice va5 vn5 vc5, .slice va6 vn6 vc6]) (by simp [results, Tryd.results27, go_sem, q0, q1, q2, q3, q4, q5, q6]) rfl ⟨_, rfl, hF.1, by rw [HRD.out]; simp [AnsV.data, hT, hd2], below_of_grown hF.2, hH9.far⟩
      · have hE2 : (RE == 0) = false := by simp [hE]
        have g11 : X2.cell? ⟨w1.heap.size, 11, none⟩ = some (.int .i64 RE) := (bxG3.c 11 (by decide)).1
        go_upto_region 9 with (fail)
        clear g11
        by_cases hT : toldE RE = true
        · have hT0 := hT
          have HT9 : Hid (Calls Tryd.prog 66 #[.int .i64 RE] X2 fun e w' => e = .returned (.bool true) ∧ w' = X2) := by
            have := isTold_any RE X2
            rw [hT] at this; exact this
          have g11 : X2.cell? ⟨w1.heap.size, 11, none⟩ = some (.int .i64 RE) := (bxG3.c 11 (by decide)).1
          have zg := bxG3.lt
          have g0 : X2.cell? ⟨w1.heap.size, 0, none⟩ = some (.int .i64 5) := (bxG3.c 0 (by decide)).1
          have g1 : X2.cell? ⟨w1.heap.size, 1, none⟩ = some (.int .i64 dst) := (bxG3.c 1 (by decide)).1
          have g2 : X2.cell? ⟨w1.heap.size, 2, none⟩ = some (.int .i64 frm) := (bxG3.c 2 (by decide)).1
          have g3 : X2.cell? ⟨w1.heap.size, 3, none⟩ = some (.int .i64 site) := (bxG3.c 3 (by decide)).1
          have g4 : X2.cell? ⟨w1.heap.size, 4, none⟩ = some (.int .i64 num) := (bxG3.c 4 (by decide)).1
          have g5 : X2.cell? ⟨w1.heap.size, 5, none⟩ = some (.int .i64 label) := (bxG3.c 5 (by decide)).1
          have g6 : X2.cell? ⟨w1.heap.size, 6, none⟩ = some (.int .i64 key) := (bxG3.c 6 (by decide)).1
          have g7 : X2.cell? ⟨w1.heap.size, 7, none⟩ = some (.int .i64 RVl) := (bxG3.c 7 (by decide)).1
          have g8 : X2.cell? ⟨w1.heap.size, 8, none⟩ = some (.int .i64 RVr) := (bxG3.c 8 (by decide)).1
          have g9 : X2.cell? ⟨w1.heap.size, 9, none⟩ = some (.int .i64 ask) := (bxG3.c 9 (by decide)).1
          have g10 : X2.cell? ⟨w1.heap.size, 10, none⟩ = some (.bool false) := (bxG3.c 10 (by decide)).1
          have a4 := (hH2.A.c 4 (by decide)).1
          have af4 := (hH2.A.c 4 (by decide)).2
          have zA := hH2.A.lt
          simp only [AnsV.cells, List.getD_cons_zero, List.getD_cons_succ] at a4
          go_upto_region 11 with (go_at_call 66; refine HT9.out.mono ?_; rintro e u9 ⟨rfl, hu9⟩; rw [hu9]; clear hu9)
          have hH9 := Half.msg2 hH2 (g := ⟨5, dst, frm, site, num, label, key, RVl, RVr, ask, false, RE⟩) (cs := #[.int .i64 5, .int .i64 dst, .int .i64 frm, .int .i64 site, .int .i64 num, .int .i64 label, .int .i64 key, .int .i64 RVl, .int .i64 RVr, .int .i64 ask, .bool false, .int .i64 RE]) (ty := 33) rfl rfl HCX.out
          obtain ⟨X9, eX9⟩ : ∃ x, x = (X2.setCell ⟨w.heap.size, 4, none⟩ (.slice (some ⟨X2.heap.size, 0, none⟩) 1 1)).alloc (.cells #[.int .i64 5, .int .i64 dst, .int .i64 frm, .int .i64 site, .int .i64 num, .int .i64 label, .int .i64 key, .int .i64 RVl, .int .i64 RVr, .int .i64 ask, .bool false, .int .i64 RE] 33) := ⟨_, rfl⟩
          rw [← eX9] at hH9 ⊢
          clear eX9 g0 g1 g2 g3 g4 g5 g6 g7 g8 g9 g10 g11 a4 af4 zA
          have hF := hH9.fin (.slice va0 vn0 vc0) (.slice va1 vn1 vc1) (.slice va2 vn2 vc2) (.slice va3 vn3 vc3) (.slice (some ⟨X2.heap.size, 0, none⟩) 1 1) (.slice va5 vn5 vc5) (.slice va6 vn6 vc6)
          have k0 : X9.cell? ⟨w.heap.size, 0, none⟩ = some (.slice va0 vn0 vc0) := (hH9.A.c 0 (by decide)).1
          have q0 : X9.cell? ⟨w.heap.size + 2, 0, none⟩ = some (.slice none 0 0) := (hH9.Q.c 0 (by decide)).1
          have qf0 := (hH9.Q.c 0 (by decide)).2
          have k1 : X9.cell? ⟨w.heap.size, 1, none⟩ = some (.slice va1 vn1 vc1) := (hH9.A.c 1 (by decide)).1
          have q1 : X9.cell? ⟨w.heap.size + 2, 1, none⟩ = some (.slice none 0 0) := (hH9.Q.c 1 (by decide)).1
          have qf1 := (hH9.Q.c 1 (by decide)).2
          have k2 : X9.cell? ⟨w.heap.size, 2, none⟩ = some (.slice va2 vn2 vc2) := (hH9.A.c 2 (by decide)).1
          have q2 : X9.cell? ⟨w.heap.size + 2, 2, none⟩ = some (.slice none 0 0) := (hH9.Q.c 2 (by decide)).1
          have qf2 := (hH9.Q.c 2 (by decide)).2
          have k3 : X9.cell? ⟨w.heap.size, 3, none⟩ = some (.slice va3 vn3 vc3) := (hH9.A.c 3 (by decide)).1
          have q3 : X9.cell? ⟨w.heap.size + 2, 3, none⟩ = some (.slice none 0 0) := (hH9.Q.c 3 (by decide)).1
          have qf3 := (hH9.Q.c 3 (by decide)).2
          have k4 : X9.cell? ⟨w.heap.size, 4, none⟩ = some (.slice (some ⟨X2.heap.size, 0, none⟩) 1 1) := (hH9.A.c 4 (by decide)).1
          have q4 : X9.cell? ⟨w.heap.size + 2, 4, none⟩ = some (.slice none 0 0) := (hH9.Q.c 4 (by decide)).1
          have qf4 := (hH9.Q.c 4 (by decide)).2
          have k5 : X9.cell? ⟨w.heap.size, 5, none⟩ = some (.slice va5 vn5 vc5) := (hH9.A.c 5 (by decide)).1
          have q5 : X9.cell? ⟨w.heap.size + 2, 5, none⟩ = some (.slice none 0 0) := (hH9.Q.c 5 (by decide)).1
          have qf5 := (hH9.Q.c 5 (by decide)).2
          have k6 : X9.cell? ⟨w.heap.size, 6, none⟩ = some (.slice va6 vn6 vc6) := (hH9.A.c 6 (by decide)).1
          have q6 : X9.cell? ⟨w.heap.size + 2, 6, none⟩ = some (.slice none 0 0) := (hH9.Q.c 6 (by decide)).1
          have qf6 := (hH9.Q.c 6 (by decide)).2
          have zk := hH9.A.lt
          have zq := hH9.Q.lt
          go_wp2
          refine bodyPost_ret (v := .agg #[.slice va0 vn0 vc0, .slice va1 vn1 vc1, .slice va2 vn2 vc2, .slice va3 vn3 vc3, .slice (some ⟨X2.heap.size, 0, none⟩) 1 1, .slice va5 vn5 vc5, .slice va6 vn6 vc6]) (by simp [results, Tryd.results27, go_sem, q0, q1, q2, q3, q4, q5, q6]) rfl ⟨_, rfl, hF.1, by rw [HRD.out]; simp [AnsV.data, hT, hE], below_of_grown hF.2, hH9.far⟩
        · replace hT : toldE RE = false := by simpa using hT
          have HT9 : Hid (Calls Tryd.prog 66 #[.int .i64 RE] X2 fun e w' => e = .returned (.bool false) ∧ w' = X2) := by
            have := isTold_any RE X2
            rw [hT] at this; exact this
          have g11 : X2.cell? ⟨w1.heap.size, 11, none⟩ = some (.int .i64 RE) := (bxG3.c 11 (by decide)).1
          have zg := bxG3.lt
          go_upto_region 11 with (go_at_call 66; refine HT9.out.mono ?_; rintro e u9 ⟨rfl, hu9⟩; rw [hu9]; clear hu9)
          have hH9 := hH2
          have hF := hH9.fin (.slice va0 vn0 vc0) (.slice va1 vn1 vc1) (.slice va2 vn2 vc2) (.slice va3 vn3 vc3) (.slice va4 vn4 vc4) (.slice va5 vn5 vc5) (.slice va6 vn6 vc6)
          have k0 : X2.cell? ⟨w.heap.size, 0, none⟩ = some (.slice va0 vn0 vc0) := (hH9.A.c 0 (by decide)).1
          have q0 : X2.cell? ⟨w.heap.size + 2, 0, none⟩ = some (.slice none 0 0) := (hH9.Q.c 0 (by decide)).1
          have qf0 := (hH9.Q.c 0 (by decide)).2
          have k1 : X2.cell? ⟨w.heap.size, 1, none⟩ = some (.slice va1 vn1 vc1) := (hH9.A.c 1 (by decide)).1
          have q1 : X2.cell? ⟨w.heap.size + 2, 1, none⟩ = some (.slice none 0 0) := (hH9.Q.c 1 (by decide)).1
          have qf1 := (hH9.Q.c 1 (by decide)).2
          have k2 : X2.cell? ⟨w.heap.size, 2, none⟩ = some (.slice va2 vn2 vc2) := (hH9.A.c 2 (by decide)).1
          have q2 : X2.cell? ⟨w.heap.size + 2, 2, none⟩ = some (.slice none 0 0) := (hH9.Q.c 2 (by decide)).1
          have qf2 := (hH9.Q.c 2 (by decide)).2
          have k3 : X2.cell? ⟨w.heap.size, 3, none⟩ = some (.slice va3 vn3 vc3) := (hH9.A.c 3 (by decide)).1
          have q3 : X2.cell? ⟨w.heap.size + 2, 3, none⟩ = some (.slice none 0 0) := (hH9.Q.c 3 (by decide)).1
          have qf3 := (hH9.Q.c 3 (by decide)).2
          have k4 : X2.cell? ⟨w.heap.size, 4, none⟩ = some (.slice va4 vn4 vc4) := (hH9.A.c 4 (by decide)).1
          have q4 : X2.cell? ⟨w.heap.size + 2, 4, none⟩ = some (.slice none 0 0) := (hH9.Q.c 4 (by decide)).1
          have qf4 := (hH9.Q.c 4 (by decide)).2
          have k5 : X2.cell? ⟨w.heap.size, 5, none⟩ = some (.slice va5 vn5 vc5) := (hH9.A.c 5 (by decide)).1
          have q5 : X2.cell? ⟨w.heap.size + 2, 5, none⟩ = some (.slice none 0 0) := (hH9.Q.c 5 (by decide)).1
          have qf5 := (hH9.Q.c 5 (by decide)).2
          have k6 : X2.cell? ⟨w.heap.size, 6, none⟩ = some (.slice va6 vn6 vc6) := (hH9.A.c 6 (by decide)).1
          have q6 : X2.cell? ⟨w.heap.size + 2, 6, none⟩ = some (.slice none 0 0) := (hH9.Q.c 6 (by decide)).1
          have qf6 := (hH9.Q.c 6 (by decide)).2
          have zk := hH9.A.lt
          have zq := hH9.Q.lt
          go_wp2
          refine bodyPost_ret (v := .agg #[.slice va0 vn0 vc0, .slice va1 vn1 vc1, .slice va2 vn2 vc2, .slice va3 vn3 vc3, .slice va4 vn4 vc4, .slice va5 vn5 vc5, .slice va6 vn6 vc6]) (by simp [results, Tryd.results27, go_sem, q0, q1, q2, q3, q4, q5, q6]) rfl ⟨_, rfl, hF.1, by rw [HRD.out]; simp [AnsV.data, hT, hE], below_of_grown hF.2, hH9.far⟩
    · obtain ⟨hl0, hln⟩ := hm hlb
      obtain ⟨k, rfl⟩ : ∃ k : Nat, label = (k : Int) := ⟨label.toNat, by omega⟩
      have hk : k < n := by omega
      have hkn : (k : Int) < (n : Int) := by omega
      have hlb2 : ((k : Int) == l) = false := by simpa using hlb
      have hkc : k < sc := Nat.lt_of_lt_of_le hk HSt.out.row.2.1
      have hSY := HSt.out.below hwY
      obtain ⟨b, off, hsa, hblt, y0, y1, y2, y3⟩ := HSt.out.at hk
      subst hsa
      have hPk2 := hPk hlb
      simp only [Int.toNat_natCast] at hPk2
      have HPk : Hid (∀ U, Below w.heap.size w U → Calls Tryd.prog 16 #[(ss.getD k default).val, .int .i64 key] U fun e w' => e = .returned (.tuple #[.int .i64 PVl, .int .i64 PVr, .int .i64 PE]) ∧ Below U.heap.size U w') := fun U hU => hPk2 U (HSt.out.below hU)
      have HY0 : Hid (∀ U, Below w.heap.size w U → U.cell? ⟨b, off + k * 4, none⟩ = some (.slice (ss.getD k default).ia (ss.getD k default).il (ss.getD k default).ic) ∧ U.cell? ⟨b, off + k * 4 + 1, none⟩ = some (.slice (ss.getD k default).la (ss.getD k default).ll (ss.getD k default).lc) ∧ U.cell? ⟨b, off + k * 4 + 2, none⟩ = some (.slice (ss.getD k default).da (ss.getD k default).dl (ss.getD k default).dc) ∧ U.cell? ⟨b, off + k * 4 + 3, none⟩ = some (.slice (ss.getD k default).oa (ss.getD k default).ol (ss.getD k default).oc)) := fun U hU => ⟨(hU.cell (p := ⟨b, off + k * 4, none⟩) hblt).trans y0, (hU.cell (p := ⟨b, off + k * 4 + 1, none⟩) hblt).trans y1, (hU.cell (p := ⟨b, off + k * 4 + 2, none⟩) hblt).trans y2, (hU.cell (p := ⟨b, off + k * 4 + 3, none⟩) hblt).trans y3⟩
      clear hRd hPk hm hPk2 y0 y1 y2 y3 hSY
      obtain ⟨⟨ya0, yn0, yc0, ya1, yn1, yc1, ya2, yn2, yc2, ya3, yn3, yc3, yi, yl, yd, yo⟩, eX⟩ : ∃ x, x = ss.getD k default := ⟨_, rfl⟩
      rw [← eX] at HPk HY0
      clear eX
      simp only [SV.val] at HPk HY0
      have hq1 : w.heap.size + 3 ≤ w1.heap.size := by have := HSZ.out; omega
      have hb3 : b ≠ w1.heap.size := by omega
      have hM3 : w.heap.size + 1 ≠ w1.heap.size := by omega
      have hC3 : w.heap.size + 3 ≤ Y.heap.size := by omega
      have KX : Hid (∀ U, Below Y.heap.size Y U → U.cell? ⟨w.heap.size + 1, 5, none⟩ = some (.int .i64 (k : Int)) ∧ U.cell? ⟨w.heap.size + 1, 6, none⟩ = some (.int .i64 key) ∧ U.cell? ⟨b, off + k * 4, none⟩ = some (.slice ya0 yn0 yc0) ∧ U.cell? ⟨b, off + k * 4 + 1, none⟩ = some (.slice ya1 yn1 yc1) ∧ U.cell? ⟨b, off + k * 4 + 2, none⟩ = some (.slice ya2 yn2 yc2) ∧ U.cell? ⟨b, off + k * 4 + 3, none⟩ = some (.slice ya3 yn3 yc3)) := fun U hU => by
        have h1 := KM.out _ (bWY.trans (hU.mono zY))
        obtain ⟨c0, c1, c2, c3⟩ := HY0.out _ (hwY.trans (hU.mono hwY.size))
        exact ⟨(h1.c 5 (by decide)).1, (h1.c 6 (by decide)).1, c0, c1, c2, c3⟩
      have PSG : Hid (∀ (U : World) (i : Nat) (x : Value), U.cell? ⟨w.heap.size + 1, 5, none⟩ = some (.int .i64 (k : Int)) ∧ U.cell? ⟨w.heap.size + 1, 6, none⟩ = some (.int .i64 key) ∧ U.cell? ⟨b, off + k * 4, none⟩ = some (.slice ya0 yn0 yc0) ∧ U.cell? ⟨b, off + k * 4 + 1, none⟩ = some (.slice ya1 yn1 yc1) ∧ U.cell? ⟨b, off + k * 4 + 2, none⟩ = some (.slice ya2 yn2 yc2) ∧ U.cell? ⟨b, off + k * 4 + 3, none⟩ = some (.slice ya3 yn3 yc3) → (U.setCell ⟨w1.heap.size, i, none⟩ x).cell? ⟨w.heap.size + 1, 5, none⟩ = some (.int .i64 (k : Int)) ∧ (U.setCell ⟨w1.heap.size, i, none⟩ x).cell? ⟨w.heap.size + 1, 6, none⟩ = some (.int .i64 key) ∧ (U.setCell ⟨w1.heap.size, i, none⟩ x).cell? ⟨b, off + k * 4, none⟩ = some (.slice ya0 yn0 yc0) ∧ (U.setCell ⟨w1.heap.size, i, none⟩ x).cell? ⟨b, off + k * 4 + 1, none⟩ = some (.slice ya1 yn1 yc1) ∧ (U.setCell ⟨w1.heap.size, i, none⟩ x).cell? ⟨b, off + k * 4 + 2, none⟩ = some (.slice ya2 yn2 yc2) ∧ (U.setCell ⟨w1.heap.size, i, none⟩ x).cell? ⟨b, off + k * 4 + 3, none⟩ = some (.slice ya3 yn3 yc3)) := fun U i x ⟨h0, h1, h2, h3, h4, h5⟩ => ⟨cllS h0 hM3 i x, cllS h1 hM3 i x, cllS h2 hb3 i x, cllS h3 hb3 i x, cllS h4 hb3 i x, cllS h5 hb3 i x⟩
      have hH0 := Half.start (C := Y.heap.size) HV.out hwY bxA bxQ hC3 none (fun g e => by cases e)
      have HH0 : Hid (Half w Y none Y.heap.size _ _) := hH0
      have HbG : Hid (BoxN Y w1.heap.size 12 [.int .i64 5, .int .i64 dst, .int .i64 frm, .int .i64 site, .int .i64 num, .int .i64 (k : Int), .int .i64 key, .int .i64 0, .int .i64 0, .int .i64 ask, .bool false, .int .i64 0]) := bxG
      have HwY : Hid (Below w.heap.size w Y) := hwY
      clear hH0 bxG bxA bxM bxQ hwY
      go_upto_region 8 with (fail)
      clear m5
      go_cut [] (fun wc => BoxN wc w1.heap.size 12 [.int .i64 5, .int .i64 dst, .int .i64 frm, .int .i64 site, .int .i64 num, .int .i64 (k : Int), .int .i64 key, .int .i64 PVl, .int .i64 PVr, .int .i64 ask, .bool false, .int .i64 PE] ∧ Half w wc none Y.heap.size ⟨⟨va0, vn0, vc0, va1, vn1, vc1, va2, vn2, vc2, va3, vn3, vc3, vi, vl, vd, vo⟩, va4, vn4, vc4, va5, vn5, vc5, va6, vn6, vc6, vms, vrs, vns⟩ ⟨⟨va0, vn0, vc0, va1, vn1, vc1, va2, vn2, vc2, va3, vn3, vc3, vi, vl, vd, vo⟩, va4, vn4, vc4, va5, vn5, vc5, va6, vn6, vc6, vms, vrs, vns⟩ ∧ Y.heap.size ≤ wc.heap.size)
      case first =>
        go_region_held3 (fun U => U.cell? ⟨w.heap.size + 1, 5, none⟩ = some (.int .i64 (k : Int)) ∧ U.cell? ⟨w.heap.size + 1, 6, none⟩ = some (.int .i64 key) ∧ U.cell? ⟨b, off + k * 4, none⟩ = some (.slice ya0 yn0 yc0) ∧ U.cell? ⟨b, off + k * 4 + 1, none⟩ = some (.slice ya1 yn1 yc1) ∧ U.cell? ⟨b, off + k * 4 + 2, none⟩ = some (.slice ya2 yn2 yc2) ∧ U.cell? ⟨b, off + k * 4 + 3, none⟩ = some (.slice ya3 yn3 yc3))
          (((with_reducible repeat (first | refine PSG.out _ _ _ ?_ | (refine KX.out _ ?_; (repeat (first | exact Below.refl _ _ | exact hu2 | refine qD ?_)); done))); done))
          ((go_at_call 16; refine (HPk.out _ (HwY.out.trans ((show Below Y.heap.size Y _ by (with_reducible repeat (first | exact Below.refl _ _ | exact hu2 | refine qD ?_)); done).mono HwY.out.size))).mono ?_; rintro e u2 ⟨rfl, hb2⟩; have hu2 : Below Y.heap.size Y u2 := qT (by (with_reducible repeat (first | exact Below.refl _ _ | exact hu2 | refine qD ?_)); done) hb2; have bxG2 := HbG.out.below hu2 HbG.out.lt; have hH2 := HH0.out.below hu2; have zG2 := bxG2.lt; have zu2 := hu2.size; have g7 : u2.cell? ⟨w1.heap.size, 7, none⟩ = some (.int .i64 0) := (bxG2.c 7 (by decide)).1; have gf7 := (bxG2.c 7 (by decide)).2; have g8 : u2.cell? ⟨w1.heap.size, 8, none⟩ = some (.int .i64 0) := (bxG2.c 8 (by decide)).1; have gf8 := (bxG2.c 8 (by decide)).2; have g11 : u2.cell? ⟨w1.heap.size, 11, none⟩ = some (.int .i64 0) := (bxG2.c 11 (by decide)).1; have gf11 := (bxG2.c 11 (by decide)).2))
        all_goals
          go_wp2_with fail
          go_meet
          case rel => exact ⟨(((bxG2.set 7 (by decide) (.int .i64 PVl)).set 8 (by decide) (.int .i64 PVr)).set 11 (by decide) (.int .i64 PE)), (((hH2.aside hq1 (by omega) 7 (.int .i64 PVl)).aside hq1 (by omega) 8 (.int .i64 PVr)).aside hq1 (by omega) 11 (.int .i64 PE)), by simpa using zu2⟩
      case rest =>
        obtain ⟨bxG4, hH4, hszX⟩ := hcut
        obtain ⟨X4, eX4⟩ : ∃ x, x = wc := ⟨_, rfl⟩
        rw [← eX4] at bxG4 hH4 hszX ⊢
        clear eX4 KX PSG HPk HY0
        have HCX : Hid (Y.heap.size ≤ X4.heap.size) := hszX
        by_cases hT : toldE PE = true
        · have hT0 := hT
          have HT9 : Hid (Calls Tryd.prog 66 #[.int .i64 PE] X4 fun e w' => e = .returned (.bool true) ∧ w' = X4) := by
            have := isTold_any PE X4
            rw [hT] at this; exact this
          have g11 : X4.cell? ⟨w1.heap.size, 11, none⟩ = some (.int .i64 PE) := (bxG4.c 11 (by decide)).1
          have zg := bxG4.lt
          have g0 : X4.cell? ⟨w1.heap.size, 0, none⟩ = some (.int .i64 5) := (bxG4.c 0 (by decide)).1
          have g1 : X4.cell? ⟨w1.heap.size, 1, none⟩ = some (.int .i64 dst) := (bxG4.c 1 (by decide)).1
          have g2 : X4.cell? ⟨w1.heap.size, 2, none⟩ = some (.int .i64 frm) := (bxG4.c 2 (by decide)).1
          have g3 : X4.cell? ⟨w1.heap.size, 3, none⟩ = some (.int .i64 site) := (bxG4.c 3 (by decide)).1
          have g4 : X4.cell? ⟨w1.heap.size, 4, none⟩ = some (.int .i64 num) := (bxG4.c 4 (by decide)).1
          have g5 : X4.cell? ⟨w1.heap.size, 5, none⟩ = some (.int .i64 (k : Int)) := (bxG4.c 5 (by decide)).1
          have g6 : X4.cell? ⟨w1.heap.size, 6, none⟩ = some (.int .i64 key) := (bxG4.c 6 (by decide)).1
          have g7 : X4.cell? ⟨w1.heap.size, 7, none⟩ = some (.int .i64 PVl) := (bxG4.c 7 (by decide)).1
          have g8 : X4.cell? ⟨w1.heap.size, 8, none⟩ = some (.int .i64 PVr) := (bxG4.c 8 (by decide)).1
          have g9 : X4.cell? ⟨w1.heap.size, 9, none⟩ = some (.int .i64 ask) := (bxG4.c 9 (by decide)).1
          have g10 : X4.cell? ⟨w1.heap.size, 10, none⟩ = some (.bool false) := (bxG4.c 10 (by decide)).1
          have a4 := (hH4.A.c 4 (by decide)).1
          have af4 := (hH4.A.c 4 (by decide)).2
          have zA := hH4.A.lt
          simp only [AnsV.cells, List.getD_cons_zero, List.getD_cons_succ] at a4
          go_upto_region 11 with (go_at_call 66; refine HT9.out.mono ?_; rintro e u9 ⟨rfl, hu9⟩; rw [hu9]; clear hu9)
          have hH9 := Half.msg2 hH4 (g := ⟨5, dst, frm, site, num, (k : Int), key, PVl, PVr, ask, false, PE⟩) (cs := #[.int .i64 5, .int .i64 dst, .int .i64 frm, .int .i64 site, .int .i64 num, .int .i64 (k : Int), .int .i64 key, .int .i64 PVl, .int .i64 PVr, .int .i64 ask, .bool false, .int .i64 PE]) (ty := 33) rfl rfl HCX.out
          obtain ⟨X9, eX9⟩ : ∃ x, x = (X4.setCell ⟨w.heap.size, 4, none⟩ (.slice (some ⟨X4.heap.size, 0, none⟩) 1 1)).alloc (.cells #[.int .i64 5, .int .i64 dst, .int .i64 frm, .int .i64 site, .int .i64 num, .int .i64 (k : Int), .int .i64 key, .int .i64 PVl, .int .i64 PVr, .int .i64 ask, .bool false, .int .i64 PE] 33) := ⟨_, rfl⟩
          rw [← eX9] at hH9 ⊢
          clear eX9 g0 g1 g2 g3 g4 g5 g6 g7 g8 g9 g10 g11 a4 af4 zA
          have hF := hH9.fin (.slice va0 vn0 vc0) (.slice va1 vn1 vc1) (.slice va2 vn2 vc2) (.slice va3 vn3 vc3) (.slice (some ⟨X4.heap.size, 0, none⟩) 1 1) (.slice va5 vn5 vc5) (.slice va6 vn6 vc6)
          have k0 : X9.cell? ⟨w.heap.size, 0, none⟩ = some (.slice va0 vn0 vc0) := (hH9.A.c 0 (by decide)).1
          have q0 : X9.cell? ⟨w.heap.size + 2, 0, none⟩ = some (.slice none 0 0) := (hH9.Q.c 0 (by decide)).1
          have qf0 := (hH9.Q.c 0 (by decide)).2
          have k1 : X9.cell? ⟨w.heap.size, 1, none⟩ = some (.slice va1 vn1 vc1) := (hH9.A.c 1 (by decide)).1
          have q1 : X9.cell? ⟨w.heap.size + 2, 1, none⟩ = some (.slice none 0 0) := (hH9.Q.c 1 (by decide)).1
          have qf1 := (hH9.Q.c 1 (by decide)).2
          have k2 : X9.cell? ⟨w.heap.size, 2, none⟩ = some (.slice va2 vn2 vc2) := (hH9.A.c 2 (by decide)).1
          have q2 : X9.cell? ⟨w.heap.size + 2, 2, none⟩ = some (.slice none 0 0) := (hH9.Q.c 2 (by decide)).1
          have qf2 := (hH9.Q.c 2 (by decide)).2
          have k3 : X9.cell? ⟨w.heap.size, 3, none⟩ = some (.slice va3 vn3 vc3) := (hH9.A.c 3 (by decide)).1
          have q3 : X9.cell? ⟨w.heap.size + 2, 3, none⟩ = some (.slice none 0 0) := (hH9.Q.c 3 (by decide)).1
          have qf3 := (hH9.Q.c 3 (by decide)).2
          have k4 : X9.cell? ⟨w.heap.size, 4, none⟩ = some (.slice (some ⟨X4.heap.size, 0, none⟩) 1 1) := (hH9.A.c 4 (by decide)).1
          have q4 : X9.cell? ⟨w.heap.size + 2, 4, none⟩ = some (.slice none 0 0) := (hH9.Q.c 4 (by decide)).1
          have qf4 := (hH9.Q.c 4 (by decide)).2
          have k5 : X9.cell? ⟨w.heap.size, 5, none⟩ = some (.slice va5 vn5 vc5) := (hH9.A.c 5 (by decide)).1
          have q5 : X9.cell? ⟨w.heap.size + 2, 5, none⟩ = some (.slice none 0 0) := (hH9.Q.c 5 (by decide)).1
          have qf5 := (hH9.Q.c 5 (by decide)).2
          have k6 : X9.cell? ⟨w.heap.size, 6, none⟩ = some (.slice va6 vn6 vc6) := (hH9.A.c 6 (by decide)).1
          have q6 : X9.cell? ⟨w.heap.size + 2, 6, none⟩ = some (.slice none 0 0) := (hH9.Q.c 6 (by decide)).1
          have qf6 := (hH9.Q.c 6 (by decide)).2
          have zk := hH9.A.lt
          have zq := hH9.Q.lt
          go_wp2
          refine bodyPost_ret (v := .agg #[.slice va0 vn0 vc0, .slice va1 vn1 vc1, .slice va2 vn2 vc2, .slice va3 vn3 vc3, .slice (some ⟨X4.heap.size, 0, none⟩) 1 1, .slice va5 vn5 vc5, .slice va6 vn6 vc6]) (by simp [results, Tryd.results27, go_sem, q0, q1, q2, q3, q4, q5, q6]) rfl ⟨_, rfl, hF.1, by rw [HRD.out]; simp [AnsV.data, hT, hlb], below_of_grown hF.2, hH9.far⟩
        · replace hT : toldE PE = false := by simpa using hT
          have HT9 : Hid (Calls Tryd.prog 66 #[.int .i64 PE] X4 fun e w' => e = .returned (.bool false) ∧ w' = X4) := by
            have := isTold_any PE X4
            rw [hT] at this; exact this
          have g11 : X4.cell? ⟨w1.heap.size, 11, none⟩ = some (.int .i64 PE) := (bxG4.c 11 (by decide)).1
          have zg := bxG4.lt
          go_upto_region 11 with (go_at_call 66; refine HT9.out.mono ?_; rintro e u9 ⟨rfl, hu9⟩; rw [hu9]; clear hu9)
          have hH9 := hH4
          have hF := hH9.fin (.slice va0 vn0 vc0) (.slice va1 vn1 vc1) (.slice va2 vn2 vc2) (.slice va3 vn3 vc3) (.slice va4 vn4 vc4) (.slice va5 vn5 vc5) (.slice va6 vn6 vc6)
          have k0 : X4.cell? ⟨w.heap.size, 0, none⟩ = some (.slice va0 vn0 vc0) := (hH9.A.c 0 (by decide)).1
          have q0 : X4.cell? ⟨w.heap.size + 2, 0, none⟩ = some (.slice none 0 0) := (hH9.Q.c 0 (by decide)).1
          have qf0 := (hH9.Q.c 0 (by decide)).2
          have k1 : X4.cell? ⟨w.heap.size, 1, none⟩ = some (.slice va1 vn1 vc1) := (hH9.A.c 1 (by decide)).1
          have q1 : X4.cell? ⟨w.heap.size + 2, 1, none⟩ = some (.slice none 0 0) := (hH9.Q.c 1 (by decide)).1
          have qf1 := (hH9.Q.c 1 (by decide)).2
          have k2 : X4.cell? ⟨w.heap.size, 2, none⟩ = some (.slice va2 vn2 vc2) := (hH9.A.c 2 (by decide)).1
          have q2 : X4.cell? ⟨w.heap.size + 2, 2, none⟩ = some (.slice none 0 0) := (hH9.Q.c 2 (by decide)).1
          have qf2 := (hH9.Q.c 2 (by decide)).2
          have k3 : X4.cell? ⟨w.heap.size, 3, none⟩ = some (.slice va3 vn3 vc3) := (hH9.A.c 3 (by decide)).1
          have q3 : X4.cell? ⟨w.heap.size + 2, 3, none⟩ = some (.slice none 0 0) := (hH9.Q.c 3 (by decide)).1
          have qf3 := (hH9.Q.c 3 (by decide)).2
          have k4 : X4.cell? ⟨w.heap.size, 4, none⟩ = some (.slice va4 vn4 vc4) := (hH9.A.c 4 (by decide)).1
          have q4 : X4.cell? ⟨w.heap.size + 2, 4, none⟩ = some (.slice none 0 0) := (hH9.Q.c 4 (by decide)).1
          have qf4 := (hH9.Q.c 4 (by decide)).2
          have k5 : X4.cell? ⟨w.heap.size, 5, none⟩ = some (.slice va5 vn5 vc5) := (hH9.A.c 5 (by decide)).1
          have q5 : X4.cell? ⟨w.heap.size + 2, 5, none⟩ = some (.slice none 0 0) := (hH9.Q.c 5 (by decide)).1
          have qf5 := (hH9.Q.c 5 (by decide)).2
          have k6 : X4.cell? ⟨w.heap.size, 6, none⟩ = some (.slice va6 vn6 vc6) := (hH9.A.c 6 (by decide)).1
          have q6 : X4.cell? ⟨w.heap.size + 2, 6, none⟩ = some (.slice none 0 0) := (hH9.Q.c 6 (by decide)).1
          have qf6 := (hH9.Q.c 6 (by decide)).2
          have zk := hH9.A.lt
          have zq := hH9.Q.lt
          go_wp2
          refine bodyPost_ret (v := .agg #[.slice va0 vn0 vc0, .slice va1 vn1 vc1, .slice va2 vn2 vc2, .slice va3 vn3 vc3, .slice va4 vn4 vc4, .slice va5 vn5 vc5, .slice va6 vn6 vc6]) (by simp [results, Tryd.results27, go_sem, q0, q1, q2, q3, q4, q5, q6]) rfl ⟨_, rfl, hF.1, by rw [HRD.out]; simp [AnsV.data, hT, hlb], below_of_grown hF.2, hH9.far⟩
end Go.Proofs.YtcmjcopopkafnaaDoor.Pt
