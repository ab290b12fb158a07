/- The walk of the law NetSends: at any config, lists and messages it returns true and leaves what was in memory. -/
import Derived.Test.YtpkbklhjpaaiiaaDoorNSent
import Derived.Test.YtpkbklhjpaaiiaaDoorNSame
import Derived.Deep.RegionLaw
import Derived.Deep.DeepCutAuto
namespace Go.Proofs.YtpkbklhjpaaiiaaDoor.Nt
open Go.ChangeShapes Go.WideShapes Go.ChangeAt Go.RowKit
set_option linter.unusedVariables false
theorem mss_flyOK {s : Int} {ls : List (Int × Int)} {p : Int} {fs gs : List FL} (h : mss gs = mss fs) : flyOK s ls p gs = flyOK s ls p fs := by
  have hl : gs.length = fs.length := by rw [← mss_len, h, mss_len]
  unfold flyOK
  rw [hl]
  congr 1
  funext i
  rw [← mss_at, ← mss_at, h]
theorem mss_fault {s : Int} {ls : List (Int × Int)} {p : Int} {fs gs : List FL} (h : mss gs = mss fs) : flyFault s ls p gs = flyFault s ls p fs := by
  have hl : gs.length = fs.length := by rw [← mss_len, h, mss_len]
  unfold flyFault
  rw [hl, mss_flyOK h]
theorem mss_send {s : Int} {ls : List (Int × Int)} {p : Int} {fs gs : List FL} (h : mss gs = mss fs) (l : List MV) : sendErr s ls p gs l = sendErr s ls p fs l := by
  unfold sendErr
  rw [mss_fault h]
theorem mss_ms {fs gs : List FL} (h : mss gs = mss fs) (i : Nat) : (gs.getD i default).ms = (fs.getD i default).ms := by rw [← mss_at, ← mss_at, h]
end Go.Proofs.YtpkbklhjpaaiiaaDoor.Nt
namespace Go.Proofs.YtpkbklhjpaaiiaaDoor
open Go.ChangeShapes Go.WideShapes Go.ChangeAt Go.RowKit
set_option linter.unusedVariables false

set_option maxRecDepth 100000 in
set_option maxHeartbeats 4000000 in
theorem netSends_walk (s : Int) (a : Option Addr) (len cap : Nat) (p : Int) (ls : List (Int × Int)) (fa : Option Addr) (fl fc : Nat) (fs : List Nt.FL) (la : Option Addr) (ll lc : Nat) (ms : List MV) (w : World) (_ : (Lit.int .i64 s).wf = true) (h : IsLabs w a len cap ls) (_ : (Lit.int .i64 p).wf = true) (hL : Nt.IsFly w fa fl fc fs) (hby : fl * 24 ≤ 140737488351232 ∧ ∀ f ∈ fs, f.len * 96 ≤ 140737488351232) (hM : Nt.IsMsgs w la ll lc ms) (hlb : ll * 96 ≤ 140737488351232) (hm : HasAt w 0 mHas) (ht : TopsAt w) :
    Calls Tryd.prog 4 #[.agg #[.int .i64 s, .slice a len cap, .int .i64 p], .slice fa fl fc, .slice la ll lc] w fun e w' => e = .returned (.bool true) ∧ Below w.heap.size w w' := by
  obtain ⟨hby, hbs⟩ := hby
  obtain ⟨i0, E⟩ := Nt.msElem
  have hgT : 1 < w.heap.size := World.block_lt_of_cell? w _ ht.1
  have hgM : 0 < w.heap.size := hm.lt (by decide)
  have HCP : Hid (∀ w', Nt.IsFly w' fa fl fc fs → Calls Tryd.prog 8 #[.slice fa fl fc] w' fun e w'' => ∃ a' c' gs, e = .returned (.slice a' fl c') ∧ Nt.OwnFly w'' w'.heap.size (.slice a' fl c') gs ∧ Nt.mss gs = Nt.mss fs ∧ Below w'.heap.size w' w'') := fun w' h' => Nt.flyingCopy_any fa fl fc fs w' h' hby hbs
  have HST : Hid (∀ w', IsLabs w' a len cap ls → Nt.IsFly w' fa fl fc fs → Nt.IsMsgs w' la ll lc ms → Calls Tryd.prog 10 #[.agg #[.int .i64 s, .slice a len cap, .int .i64 p], .slice fa fl fc, .slice la ll lc] w' fun e w'' => Nt.SentAns s ls p fl fs ms w' w'' e ∧ Below w'.heap.size w' w'') := fun w' h1 h2 h3 => Nt.sentOf_any s p a len cap ls fa fl fc fs la ll lc ms w' h1 h2 h3 hby hbs
  obtain ⟨W, hW⟩ : ∃ W : World, W = w.alloc (.cells #[.int .i64 s, .slice a len cap, .int .i64 p] 24) := ⟨_, rfl⟩
  have hB : Below w.heap.size w W := by rw [hW]; exact (Below.refl _ _).alloc (Nat.le_refl _) _
  have z0 : w.heap.size < W.heap.size := by rw [hW]; simp
  have c0 : W.cell? ⟨w.heap.size, 0, none⟩ = some (.int .i64 s) := by rw [hW]; go_simp
  have c1 : W.cell? ⟨w.heap.size, 1, none⟩ = some (.slice a len cap) := by rw [hW]; go_simp
  have c2 : W.cell? ⟨w.heap.size, 2, none⟩ = some (.int .i64 p) := by rw [hW]; go_simp
  have KA : Hid (∀ U : World, Below W.heap.size W U → U.cell? ⟨w.heap.size, 0, none⟩ = some (.int .i64 s) ∧ U.cell? ⟨w.heap.size, 1, none⟩ = some (.slice a len cap) ∧ U.cell? ⟨w.heap.size, 2, none⟩ = some (.int .i64 p)) := fun U hU =>
    ⟨(hU.cell (p := ⟨w.heap.size, 0, none⟩) z0).trans c0, (hU.cell (p := ⟨w.heap.size, 1, none⟩) z0).trans c1, (hU.cell (p := ⟨w.heap.size, 2, none⟩) z0).trans c2⟩
  have HS : Hid (∀ U : World, Below W.heap.size W U → IsLabs U a len cap ls ∧ Nt.IsFly U fa fl fc fs ∧ Nt.IsMsgs U la ll lc ms ∧ HasAt U 0 mHas ∧ TopsAt U) := fun U hU => by
    have hv := hB.trans (hU.mono hB.size)
    exact ⟨h.below hv, hL.below hv, hM.below hv, hm.below hv hgM, ht.below hv hgT⟩
  have hfW := (HS.out W (Below.refl _ _)).2.1
  clear h hL hM hm ht hbs hby
  go_enter Tryd.func4, Tryd.ntmps4
  go_upto_region 1 with (fail)
  rw [← hW]
  clear hW
  go_upto_region 2 with (go_at_call 8; refine (HCP.out _ hfW).mono ?_; rintro e w1 ⟨ka, kc, ks, rfl, hOk, hks, hb1⟩)
  have HK : Hid (Nt.mss ks = Nt.mss fs) := hks
  clear hks c0 c1 c2
  obtain ⟨d0, d1, d2⟩ := KA.out _ hb1
  have hM1 := (HS.out _ hb1).2.2.1
  have z1 : w.heap.size < w1.heap.size := Nat.lt_of_lt_of_le z0 hb1.size
  have HSD : Hid (∀ U, Below w1.heap.size w1 U → ∀ a2 c2, Nt.IsMsgs U a2 ll c2 ms → Calls Tryd.prog 9 #[.agg #[.int .i64 s, .slice a len cap, .int .i64 p], .slice ka fl kc, .slice a2 ll c2] U fun e w' => Nt.SendAns s ls p fl ks ms U w' e ∧ Below U.heap.size U w') := fun U hU a2 c2 h2 => by
    obtain ⟨x1, _, _, x4, x5⟩ := HS.out _ (hb1.trans (hU.mono hb1.size))
    exact Nt.send_any s p a len cap ls ka fl kc ks a2 ll c2 ms U x1 (hOk.below hU).isFly.2.1 h2 x4 x5
  by_cases hE : Nt.sendErr s ls p fs ms = 0
  · have HE : Hid (Nt.sendErr s ls p ks ms = 0) := by show _ = _; rw [Nt.mss_send HK.out]; exact hE
    have HE2 : Hid (Nt.sendErr s ls p fs ms = 0) := hE
    go_cut [8, 9] (fun x e wc => ∃ g gs, x = .slice (some ⟨g, 0, none⟩) fl fl ∧ e = .int .i64 0 ∧ Nt.OwnFly wc w1.heap.size (.slice (some ⟨g, 0, none⟩) fl fl) gs ∧ Nt.mss gs = Nt.sent s (Nt.mss fs) ms ∧ Below w1.heap.size w1 wc)
    case first =>
      go_region_law (first
        | (refine Nt.step_append_row E (by rfl) (.const (.slice none 0 0)) (.tmp 17) (by rfl) w1.heap.size (.slice none 0 0) 0 [] (by rfl) (World.ownsRow_nil _ _ _ _) la ll lc ms (by rfl) (hM1.below (by (with_reducible repeat (first | exact Below.refl _ _ | refine Nt.nD ?_ | refine Nt.nA ?_ _)); done)) (by unfold maxLen; omega) (by omega) (by first | exact Nat.le_refl _ | (simp; done)) ?_; intro a5 c5 w5 own5 gr5 at5; simp only [Nat.zero_add, List.nil_append] at own5 at5 ⊢; have hb5 : Below w1.heap.size w1 w5 := Below.grown (by (with_reducible repeat (first | exact Below.refl _ _ | refine Nt.nD ?_ | refine Nt.nA ?_ _)); done) gr5 (by first | exact Nat.le_refl _ | (simp; done)) (fun m hm => by simp [Value.ownBlock] at hm); have hI5 := (Nt.own_isRow Nt.mcells_len own5 hM1.1).1; obtain ⟨d0', d1', d2'⟩ := KA.out _ (hb1.trans (hb5.mono hb1.size)))
        | (go_simp; go_at_call 9; refine (HSD.out _ (by first | exact hb5 | exact Nt.nD hb5) _ _ (by first | exact hI5 | exact hI5.below (Nt.nD (Below.refl _ _)))).mono ?_; rintro e w6 ⟨hA6, hb6⟩; unfold Nt.SendAns at hA6; rw [if_pos HE.out] at hA6; obtain ⟨g6, gs6, rfl, hO6, hm6⟩ := hA6))
      all_goals
        go_wp2
        go_meet
        case rel => exact ⟨g6, gs6, rfl, rfl, hO6.base (by have := hb5.size; first | exact this | simpa using this), by rw [hm6, HK.out], hb5.trans (hb6.mono (by have := hb5.size; first | exact this | simpa using this))⟩
    case rest =>
      obtain ⟨g, gs, rfl, rfl, hO, hms, hbc'⟩ := hcut
      obtain ⟨X, eX⟩ : ∃ X, X = wc := ⟨_, rfl⟩
      rw [← eX] at hO hbc' ⊢
      clear eX
      have hbc : Below W.heap.size W X := hb1.trans (hbc'.mono hb1.size)
      obtain ⟨e0, e1, e2⟩ := KA.out _ hbc
      obtain ⟨x1, x2, x3, _, _⟩ := HS.out _ hbc
      have HMS : Hid (Nt.mss gs = Nt.sent s (Nt.mss fs) ms) := hms
      clear hms d0 d1 d2
      go_upto_region 4 with (go_at_call 10; refine (HST.out _ x1 x2 x3).mono ?_; rintro e w7 ⟨hA7, hb7⟩; unfold Nt.SentAns at hA7; rw [if_pos HE2.out] at hA7; obtain ⟨a7, c7, gs7, rfl, hO7, hm7⟩ := hA7)
      have f1 := (hO.below hb7).isFly.2.1
      have f2 := hO7.isFly.2.1
      have hb17 : Below w1.heap.size w1 w7 := hbc'.trans (hb7.mono hbc'.size)
      have f3 := (hOk.below hb17).isFly.2.1
      have f4 := (HS.out _ (hb1.trans (hb17.mono hb1.size))).2.1
      have HM7 : Hid (Nt.mss gs7 = Nt.sent s (Nt.mss fs) ms) := hm7
      clear hm7
      have s1 := Nt.sameFlying_any _ _ fl fl c7 gs gs7 w7 f1 f2 (fun i _ => Nt.mss_ms (by rw [HMS.out, HM7.out]) i)
      have s2 := fun U (hU : Below w7.heap.size w7 U) => Nt.sameFlying_any ka fa fl kc fc ks fs U (f3.below hU) (f4.below hU) (fun i _ => Nt.mss_ms HK.out i)
      clear f1 f2 f3 f4
      go_wp2_with (first | (go_at_call 11; refine s1.mono ?_; rintro e w8 ⟨rfl, hb8⟩; clear s1) | (go_at_call 11; refine (s2 _ hb8).mono ?_; rintro e w9 ⟨rfl, hb9⟩))
      go_ret
      exact ⟨rfl, hB.trans ((hb1.trans ((hb17.trans ((hb8.trans (hb9.mono hb8.size)).mono hb17.size)).mono hb1.size)).mono hB.size)⟩
  · have HEq : Hid (Nt.sendErr s ls p ks ms = Nt.sendErr s ls p fs ms) := Nt.mss_send HK.out ms
    obtain ⟨C, eC⟩ : ∃ C, C = Nt.sendErr s ls p fs ms := ⟨_, rfl⟩
    rw [← eC] at hE HEq
    have HC : Hid (Nt.sendErr s ls p fs ms = C) := eC.symm
    clear eC
    go_cut [8, 9] (fun x e wc => x = .slice none 0 0 ∧ e = .int .i64 C ∧ Below w1.heap.size w1 wc)
    case first =>
      go_region_law (first
        | (refine Nt.step_append_row E (by rfl) (.const (.slice none 0 0)) (.tmp 17) (by rfl) w1.heap.size (.slice none 0 0) 0 [] (by rfl) (World.ownsRow_nil _ _ _ _) la ll lc ms (by rfl) (hM1.below (by (with_reducible repeat (first | exact Below.refl _ _ | refine Nt.nD ?_ | refine Nt.nA ?_ _)); done)) (by unfold maxLen; omega) (by omega) (by first | exact Nat.le_refl _ | (simp; done)) ?_; intro a5 c5 w5 own5 gr5 at5; simp only [Nat.zero_add, List.nil_append] at own5 at5 ⊢; have hb5 : Below w1.heap.size w1 w5 := Below.grown (by (with_reducible repeat (first | exact Below.refl _ _ | refine Nt.nD ?_ | refine Nt.nA ?_ _)); done) gr5 (by first | exact Nat.le_refl _ | (simp; done)) (fun m hm => by simp [Value.ownBlock] at hm); have hI5 := (Nt.own_isRow Nt.mcells_len own5 hM1.1).1; obtain ⟨d0', d1', d2'⟩ := KA.out _ (hb1.trans (hb5.mono hb1.size)))
        | (go_simp; go_at_call 9; refine (HSD.out _ (by first | exact hb5 | exact Nt.nD hb5) _ _ (by first | exact hI5 | exact hI5.below (Nt.nD (Below.refl _ _)))).mono ?_; rintro e w6 ⟨hA6, hb6⟩; unfold Nt.SendAns at hA6; rw [if_neg (by rw [HEq.out]; exact hE), HEq.out] at hA6; subst hA6))
      all_goals
        go_wp2
        go_meet
        case rel => exact ⟨rfl, rfl, hb5.trans (hb6.mono (by have := hb5.size; first | exact this | simpa using this))⟩
    case rest =>
      obtain ⟨rfl, rfl, hbc'⟩ := hcut
      obtain ⟨X, eX⟩ : ∃ X, X = wc := ⟨_, rfl⟩
      rw [← eX] at hbc' ⊢
      clear eX
      have hbc : Below W.heap.size W X := hb1.trans (hbc'.mono hb1.size)
      obtain ⟨e0, e1, e2⟩ := KA.out _ hbc
      obtain ⟨x1, x2, x3, _, _⟩ := HS.out _ hbc
      clear d0 d1 d2
      go_upto_region 4 with (go_at_call 10; refine (HST.out _ x1 x2 x3).mono ?_; rintro e w7 ⟨hA7, hb7⟩; unfold Nt.SentAns at hA7; rw [if_neg (by rw [HC.out]; exact hE), HC.out] at hA7; subst hA7)
      have f0 : Nt.IsFly w7 none 0 0 [] := ⟨Nt.isRow_nil _ _ _, by simp⟩
      have hb17 : Below w1.heap.size w1 w7 := hbc'.trans (hb7.mono hbc'.size)
      have f3 := (hOk.below hb17).isFly.2.1
      have f4 := (HS.out _ (hb1.trans (hb17.mono hb1.size))).2.1
      have s1 := Nt.sameFlying_any none none 0 0 0 [] [] w7 f0 f0 (fun i _ => rfl)
      have s2 := fun U (hU : Below w7.heap.size w7 U) => Nt.sameFlying_any ka fa fl kc fc ks fs U (f3.below hU) (f4.below hU) (fun i _ => Nt.mss_ms HK.out i)
      clear f0 f3 f4
      go_wp2_with (first | (go_at_call 11; refine s1.mono ?_; rintro e w8 ⟨rfl, hb8⟩; clear s1) | (go_at_call 11; refine (s2 _ hb8).mono ?_; rintro e w9 ⟨rfl, hb9⟩))
      go_ret
      exact ⟨rfl, hB.trans ((hb1.trans ((hb17.trans ((hb8.trans (hb9.mono hb8.size)).mono hb17.size)).mono hb1.size)).mono hB.size)⟩
end Go.Proofs.YtpkbklhjpaaiiaaDoor
