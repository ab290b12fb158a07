/- The walk of the law MessageBare: at any raw numbers it returns true and leaves what was in memory. -/
import Derived.Test.YtdknpbglmiajoabDoorConfig
import Derived.Test.YtdknpbglmiajoabDoorWMake
import Derived.Test.YtdknpbglmiajoabDoorWCheckM
import Derived.Test.YtdknpbglmiajoabDoorWOpenW
namespace Go.Proofs.YtdknpbglmiajoabDoor
open Go.ChangeShapes Go.WideShapes Go.ChangeAt Go.RowKit
set_option linter.unusedVariables false

theorem bare_form0 : msgForm ⟨8, 0, 0, 0, 1, 0, 0, 0, 0, 0, true, 0⟩ = false := by rw [formB_8]; simp
theorem bare_form1 : msgForm ⟨6, 0, 0, 0, 1, 0, 0, 1, 0, 0, false, 0⟩ = false := by rw [formB_6]; simp
theorem bare_range (S : Int) (n : Nat) (kind value : Int) (yes : Bool) (hS : 1 ≤ S) (hn : 1 ≤ n) (h6 : n ≤ 6) (hv : 0 ≤ value ∧ value ≤ 1) : msgRange S n ⟨kind, 0, 0, 0, 1, 0, 0, value, 0, 0, yes, 0⟩ = true := by
  rcases rangeB_of S n kind 0 0 0 1 0 0 value 0 0 0 yes with e | e
  · rw [e]
    have e1 : inR 0 0 (S - 1) = true := inR_true (by omega) (by omega)
    have e3 : txnOK S 0 1 = true := by unfold txnOK; rw [e1]; rfl
    have e4 : plc 0 n = true := by simp [plc]; omega
    have e5 : inR 0 0 7 = true := rfl
    have e6 : inR value 0 1073741824 = true := inR_true (by omega) (by omega)
    have e7 : inR 0 0 1048576 = true := rfl
    have e9 : isCd 0 = true := rfl
    rw [e1, e3, e4, e5, e6, e7, e9]
    rfl
  · omega
theorem bare_from (S : Int) (n : Nat) (kind dst site num label key value version ask code : Int) (yes : Bool) : msgRange S n ⟨kind, S, dst, site, num, label, key, value, version, ask, yes, code⟩ = false := by
  have e : inR S 0 (S - 1) = false := inR_false (by omega)
  unfold msgRange
  rw [e]
  rfl

set_option maxRecDepth 100000 in
set_option maxHeartbeats 4000000 in
theorem messageBare_walk (s : Int) (a : Option Addr) (len cap : Nat) (zs : List Int) (r : RV) (wh : Int) (w : World) (hs : (Lit.int .i64 s).wf = true) (h : IsInts w a len cap zs) (hr : r.ok) (hwh : (Lit.int .i64 wh).wf = true) (hm : HasAt w 0 mHas) (ht : TopsAt w) :
    Calls Tryd.prog 8 #[.int .i64 s, .slice a len cap, r.val, .int .i64 wh] w fun e w' => e = .returned (.bool true) ∧ Below w.heap.size w w' := by
  have hs' := i64_bd hs
  have hwh' := i64_bd hwh
  obtain ⟨kd, ra, rb, rc, rd, re⟩ := r
  obtain ⟨hkd, hra, hrb, hrc, hrd, hre⟩ := hr
  simp only [RV.val]
  unfold Bd at hkd hra hrb hrc hrd hre
  have bs := cfgS_bd s
  have bp := cfgP_bd 1
  have hg := good_labs zs
  have hCfg := fun w' h' => config_any s 1 a len cap zs w' hs' (by omega) h'
  obtain ⟨S, eS⟩ : ∃ S, S = cfgS s := ⟨_, rfl⟩
  obtain ⟨P, eP⟩ : ∃ P, P = cfgP 1 := ⟨_, rfl⟩
  obtain ⟨L, eL⟩ : ∃ L, L = cfgLabs zs := ⟨_, rfl⟩
  rw [← eS] at bs
  rw [← eP] at bp
  rw [← eL] at hg
  rw [← eS, ← eP, ← eL] at hCfg
  clear eS eP eL
  obtain ⟨hgood, hn1⟩ := hg
  have hn4 := hgood.len
  have hF0 : cfgFault S L P = 0 := cfgFault_good hgood hn1 (by omega) (by omega)
  obtain ⟨n, en⟩ : ∃ n, n = L.length := ⟨_, rfl⟩
  rw [← en] at hn1 hn4 hCfg
  have EN : Hid (n = L.length) := en
  clear en
  have hgT : 3 < w.heap.size := World.block_lt_of_cell? w _ ht.1
  have hgM : 0 < w.heap.size := hm.lt (by decide)
  obtain ⟨W0, hW0⟩ : ∃ W0 : World, W0 = w.alloc (.cells #[.int .i64 kd, .int .i64 ra, .int .i64 rb, .int .i64 rc, .int .i64 rd, .int .i64 re] 24) := ⟨_, rfl⟩
  have hB0 : Below w.heap.size w W0 := by rw [hW0]; exact (Below.refl _ _).alloc (Nat.le_refl _) _
  have zW0 : W0.heap.size = w.heap.size + 1 := by rw [hW0]; simp
  have d0 : W0.cell? ⟨w.heap.size, 0, none⟩ = some (.int .i64 kd) := by rw [hW0]; go_simp
  have d1 : W0.cell? ⟨w.heap.size, 1, none⟩ = some (.int .i64 ra) := by rw [hW0]; go_simp
  have d2 : W0.cell? ⟨w.heap.size, 2, none⟩ = some (.int .i64 rb) := by rw [hW0]; go_simp
  have d3 : W0.cell? ⟨w.heap.size, 3, none⟩ = some (.int .i64 rc) := by rw [hW0]; go_simp
  have d4 : W0.cell? ⟨w.heap.size, 4, none⟩ = some (.int .i64 rd) := by rw [hW0]; go_simp
  have d5 : W0.cell? ⟨w.heap.size, 5, none⟩ = some (.int .i64 re) := by rw [hW0]; go_simp
  have h0 := h.below hB0
  go_enter Tryd.func8, Tryd.ntmps8
  go_upto_region 1 with (fail)
  rw [← hW0]
  clear hW0
  go_upto_region 2 with (go_at_call 9; refine (hCfg _ h0).mono ?_; rintro e w1 ⟨g, cp, rfl, hg1, hg2, hg3, hg4, hb1⟩)
  obtain ⟨W, hW⟩ : ∃ W : World, W = w1.alloc (.cells #[.int .i64 S, .slice (some ⟨g, 0, none⟩) n cp, .int .i64 P] 27) := ⟨_, rfl⟩
  have zW : w1.heap.size < W.heap.size := by rw [hW]; simp
  have c0 : W.cell? ⟨w1.heap.size, 0, none⟩ = some (.int .i64 S) := by rw [hW]; go_simp
  have c1 : W.cell? ⟨w1.heap.size, 1, none⟩ = some (.slice (some ⟨g, 0, none⟩) n cp) := by rw [hW]; go_simp
  have c2 : W.cell? ⟨w1.heap.size, 2, none⟩ = some (.int .i64 P) := by rw [hW]; go_simp
  have hBW : Below w1.heap.size w1 W := by rw [hW]; exact (Below.refl _ _).alloc (Nat.le_refl _) _
  rw [← hW]
  clear hW
  have hLW : IsLabs W (some ⟨g, 0, none⟩) n cp L := ⟨EN.out.symm, by have := EN.out; omega, hg3, fun _ => ⟨g, 0, rfl, hg4.below hBW⟩⟩
  have hb1' : Below W0.heap.size W0 W := hb1.trans (hBW.mono hb1.size)
  have hBw : Below w.heap.size w W := hB0.trans (hb1'.mono hB0.size)
  have z01 := hb1.size
  have k0 : W.cell? ⟨w.heap.size, 0, none⟩ = some (.int .i64 kd) := (hb1'.cell (p := ⟨w.heap.size, 0, none⟩) (by show w.heap.size < _; omega)).trans d0
  have k1 : W.cell? ⟨w.heap.size, 1, none⟩ = some (.int .i64 ra) := (hb1'.cell (p := ⟨w.heap.size, 1, none⟩) (by show w.heap.size < _; omega)).trans d1
  have k2 : W.cell? ⟨w.heap.size, 2, none⟩ = some (.int .i64 rb) := (hb1'.cell (p := ⟨w.heap.size, 2, none⟩) (by show w.heap.size < _; omega)).trans d2
  have k3 : W.cell? ⟨w.heap.size, 3, none⟩ = some (.int .i64 rc) := (hb1'.cell (p := ⟨w.heap.size, 3, none⟩) (by show w.heap.size < _; omega)).trans d3
  have k4 : W.cell? ⟨w.heap.size, 4, none⟩ = some (.int .i64 rd) := (hb1'.cell (p := ⟨w.heap.size, 4, none⟩) (by show w.heap.size < _; omega)).trans d4
  have k5 : W.cell? ⟨w.heap.size, 5, none⟩ = some (.int .i64 re) := (hb1'.cell (p := ⟨w.heap.size, 5, none⟩) (by show w.heap.size < _; omega)).trans d5
  clear hg4 hBW hg1 hg2 hg3 d0 d1 d2 d3 d4 d5 h0 hCfg
  go_upto_region 3 with (go_at_call 10; refine (message_any S P _ n cp kd ra rb rc rd re _ ⟨by omega, by omega⟩ ⟨hn1, by omega⟩ hkd hra hrb hrc hrd hre).mono ?_; rintro e w2 ⟨⟨kind, frm, dst, site, num, label, key, value, version, ask, yes, code⟩, rfl, hmay, hb2⟩; simp only [MV.val])
  obtain ⟨may1, may2, may3⟩ := hmay
  have cM := fun w' h' hm' ht' => checkMessage_any S P (some ⟨g, 0, none⟩) n cp L ⟨kind, frm, dst, site, num, label, key, value, version, ask, yes, code⟩ w' h' hm' ht'
  have hM0 : msgFault S L P ⟨kind, frm, dst, site, num, label, key, value, version, ask, yes, code⟩ = 0 := mf_ok hF0 may1 (by rw [← EN.out]; exact may2) may3
  rw [hM0] at cM
  clear hM0
  have cX0 := fun w' h' hm' ht' => checkMessage_any S P (some ⟨g, 0, none⟩) n cp L ⟨8, 0, 0, 0, 1, 0, 0, 0, 0, 0, true, 0⟩ w' h' hm' ht'
  rw [mf_form hF0 (m := ⟨8, 0, 0, 0, 1, 0, 0, 0, 0, 0, true, 0⟩) rfl (by rw [← EN.out]; exact bare_range S n 8 0 true (by omega) hn1 (by omega) (by omega)) bare_form0] at cX0
  have cX1 := fun w' h' hm' ht' => checkMessage_any S P (some ⟨g, 0, none⟩) n cp L ⟨6, 0, 0, 0, 1, 0, 0, 1, 0, 0, false, 0⟩ w' h' hm' ht'
  rw [mf_form hF0 (m := ⟨6, 0, 0, 0, 1, 0, 0, 1, 0, 0, false, 0⟩) rfl (by rw [← EN.out]; exact bare_range S n 6 1 false (by omega) hn1 (by omega) (by omega)) bare_form1] at cX1
  have cX2 := fun w' h' hm' ht' => checkMessage_any S P (some ⟨g, 0, none⟩) n cp L ⟨10, frm, dst, site, num, label, key, value, version, ask, yes, code⟩ w' h' hm' ht'
  rw [mf_kind hF0 (m := ⟨10, frm, dst, site, num, label, key, value, version, ask, yes, code⟩) rfl] at cX2
  have cX3 := fun w' h' hm' ht' => checkMessage_any S P (some ⟨g, 0, none⟩) n cp L ⟨kind, S, dst, site, num, label, key, value, version, ask, yes, code⟩ w' h' hm' ht'
  rw [mf_range hF0 (m := ⟨kind, S, dst, site, num, label, key, value, version, ask, yes, code⟩) may1 (bare_from S L.length kind dst site num label key value version ask code yes)] at cX3
  simp only [MV.val] at cM cX0 cX1 cX2 cX3
  clear may1 may2 may3 hF0 hgood
  have z12 := hb2.size
  have q0 : w2.cell? ⟨w1.heap.size, 0, none⟩ = some (.int .i64 S) := (hb2.cell (p := ⟨w1.heap.size, 0, none⟩) zW).trans c0
  have q1 : w2.cell? ⟨w1.heap.size, 1, none⟩ = some (.slice (some ⟨g, 0, none⟩) n cp) := (hb2.cell (p := ⟨w1.heap.size, 1, none⟩) zW).trans c1
  have q2 : w2.cell? ⟨w1.heap.size, 2, none⟩ = some (.int .i64 P) := (hb2.cell (p := ⟨w1.heap.size, 2, none⟩) zW).trans c2
  have zq : w1.heap.size < w2.heap.size := by omega
  have zq1 : w1.heap.size < w2.heap.size + 1 := by omega
  have zq2 : w1.heap.size < w2.heap.size + 1 + 1 := by omega
  have cp4 := fun w' => picked_any wh 4 w' hwh' (by decide) (by decide)
  have z4 := pk_bd wh 4 (by decide)
  obtain ⟨Q, eQ⟩ : ∃ Q, Q = pk wh 4 := ⟨_, rfl⟩
  rw [← eQ] at cp4 z4
  clear eQ c0 c1 c2 k0 k1 k2 k3 k4 k5
  have hBw2 : Below w.heap.size w w2 := hBw.trans (hb2.mono hBw.size)
  rcases (by omega : Q = 0 ∨ Q = 1 ∨ Q = 2 ∨ Q = 3) with rfl | rfl | rfl | rfl
  · have tok : True := trivial
    go_wp2_with (first
      | (go_at_call 14; refine (cp4 _).mono ?_; rintro e v ⟨rfl, hv⟩; rw [hv]; clear hv v)
      | (go_at_call 13; have _t := tok; refine (cM _ (hLW.below (by repeat (first | exact hb2 | refine Below.setCell ?_ (by show W.heap.size ≤ _; omega) _ | refine Below.alloc ?_ (by first | omega | (simp; omega)) _))) (hm.below (B := w.heap.size) (by repeat (first | exact hBw2 | refine Below.setCell ?_ (by show w.heap.size ≤ _; have := hBw2.size; omega) _ | refine Below.alloc ?_ (by have := hBw2.size; first | omega | (simp; omega)) _)) hgM) (ht.below (B := w.heap.size) (by repeat (first | exact hBw2 | refine Below.setCell ?_ (by show w.heap.size ≤ _; have := hBw2.size; omega) _ | refine Below.alloc ?_ (by have := hBw2.size; first | omega | (simp; omega)) _)) hgT)).mono ?_; rintro e w3 ⟨rfl, hb3⟩; clear tok; obtain ⟨hc3, hf3⟩ := bcell hb3; have hL3 := IsLabs.below (hLW.below (by repeat (first | exact hb2 | refine Below.setCell ?_ (by show W.heap.size ≤ _; omega) _ | refine Below.alloc ?_ (by first | omega | (simp; omega)) _))) hb3; have hBw3 : Below w.heap.size w w3 := Below.trans (by repeat (first | exact hBw2 | refine Below.setCell ?_ (by show w.heap.size ≤ _; have := hBw2.size; omega) _ | refine Below.alloc ?_ (by have := hBw2.size; first | omega | (simp; omega)) _)) (hb3.mono (by have := hBw2.size; first | omega | (simp; omega))))
      | (go_at_call 13; refine (cX0 _ hL3 (hm.below hBw3 hgM) (ht.below hBw3 hgT)).mono ?_; rintro e w4 ⟨rfl, hb4⟩))
    go_ret
    exact ⟨rfl, hBw3.trans (hb4.mono hBw3.size)⟩
  · have tok : True := trivial
    go_wp2_with (first
      | (go_at_call 14; refine (cp4 _).mono ?_; rintro e v ⟨rfl, hv⟩; rw [hv]; clear hv v)
      | (go_at_call 13; have _t := tok; refine (cM _ (hLW.below (by repeat (first | exact hb2 | refine Below.setCell ?_ (by show W.heap.size ≤ _; omega) _ | refine Below.alloc ?_ (by first | omega | (simp; omega)) _))) (hm.below (B := w.heap.size) (by repeat (first | exact hBw2 | refine Below.setCell ?_ (by show w.heap.size ≤ _; have := hBw2.size; omega) _ | refine Below.alloc ?_ (by have := hBw2.size; first | omega | (simp; omega)) _)) hgM) (ht.below (B := w.heap.size) (by repeat (first | exact hBw2 | refine Below.setCell ?_ (by show w.heap.size ≤ _; have := hBw2.size; omega) _ | refine Below.alloc ?_ (by have := hBw2.size; first | omega | (simp; omega)) _)) hgT)).mono ?_; rintro e w3 ⟨rfl, hb3⟩; clear tok; obtain ⟨hc3, hf3⟩ := bcell hb3; have hL3 := IsLabs.below (hLW.below (by repeat (first | exact hb2 | refine Below.setCell ?_ (by show W.heap.size ≤ _; omega) _ | refine Below.alloc ?_ (by first | omega | (simp; omega)) _))) hb3; have hBw3 : Below w.heap.size w w3 := Below.trans (by repeat (first | exact hBw2 | refine Below.setCell ?_ (by show w.heap.size ≤ _; have := hBw2.size; omega) _ | refine Below.alloc ?_ (by have := hBw2.size; first | omega | (simp; omega)) _)) (hb3.mono (by have := hBw2.size; first | omega | (simp; omega))))
      | (go_at_call 13; refine (cX1 _ hL3 (hm.below hBw3 hgM) (ht.below hBw3 hgT)).mono ?_; rintro e w4 ⟨rfl, hb4⟩))
    go_ret
    exact ⟨rfl, hBw3.trans (hb4.mono hBw3.size)⟩
  · have tok : True := trivial
    go_wp2_with (first
      | (go_at_call 14; refine (cp4 _).mono ?_; rintro e v ⟨rfl, hv⟩; rw [hv]; clear hv v)
      | (go_at_call 13; have _t := tok; refine (cM _ (hLW.below (by repeat (first | exact hb2 | refine Below.setCell ?_ (by show W.heap.size ≤ _; omega) _ | refine Below.alloc ?_ (by first | omega | (simp; omega)) _))) (hm.below (B := w.heap.size) (by repeat (first | exact hBw2 | refine Below.setCell ?_ (by show w.heap.size ≤ _; have := hBw2.size; omega) _ | refine Below.alloc ?_ (by have := hBw2.size; first | omega | (simp; omega)) _)) hgM) (ht.below (B := w.heap.size) (by repeat (first | exact hBw2 | refine Below.setCell ?_ (by show w.heap.size ≤ _; have := hBw2.size; omega) _ | refine Below.alloc ?_ (by have := hBw2.size; first | omega | (simp; omega)) _)) hgT)).mono ?_; rintro e w3 ⟨rfl, hb3⟩; clear tok; obtain ⟨hc3, hf3⟩ := bcell hb3; have hL3 := IsLabs.below (hLW.below (by repeat (first | exact hb2 | refine Below.setCell ?_ (by show W.heap.size ≤ _; omega) _ | refine Below.alloc ?_ (by first | omega | (simp; omega)) _))) hb3; have hBw3 : Below w.heap.size w w3 := Below.trans (by repeat (first | exact hBw2 | refine Below.setCell ?_ (by show w.heap.size ≤ _; have := hBw2.size; omega) _ | refine Below.alloc ?_ (by have := hBw2.size; first | omega | (simp; omega)) _)) (hb3.mono (by have := hBw2.size; first | omega | (simp; omega))))
      | (go_at_call 13; refine (cX2 _ hL3 (hm.below hBw3 hgM) (ht.below hBw3 hgT)).mono ?_; rintro e w4 ⟨rfl, hb4⟩))
    go_ret
    exact ⟨rfl, hBw3.trans (hb4.mono hBw3.size)⟩
  · have tok : True := trivial
    go_wp2_with (first
      | (go_at_call 14; refine (cp4 _).mono ?_; rintro e v ⟨rfl, hv⟩; rw [hv]; clear hv v)
      | (go_at_call 13; have _t := tok; refine (cM _ (hLW.below (by repeat (first | exact hb2 | refine Below.setCell ?_ (by show W.heap.size ≤ _; omega) _ | refine Below.alloc ?_ (by first | omega | (simp; omega)) _))) (hm.below (B := w.heap.size) (by repeat (first | exact hBw2 | refine Below.setCell ?_ (by show w.heap.size ≤ _; have := hBw2.size; omega) _ | refine Below.alloc ?_ (by have := hBw2.size; first | omega | (simp; omega)) _)) hgM) (ht.below (B := w.heap.size) (by repeat (first | exact hBw2 | refine Below.setCell ?_ (by show w.heap.size ≤ _; have := hBw2.size; omega) _ | refine Below.alloc ?_ (by have := hBw2.size; first | omega | (simp; omega)) _)) hgT)).mono ?_; rintro e w3 ⟨rfl, hb3⟩; clear tok; obtain ⟨hc3, hf3⟩ := bcell hb3; have hL3 := IsLabs.below (hLW.below (by repeat (first | exact hb2 | refine Below.setCell ?_ (by show W.heap.size ≤ _; omega) _ | refine Below.alloc ?_ (by first | omega | (simp; omega)) _))) hb3; have hBw3 : Below w.heap.size w w3 := Below.trans (by repeat (first | exact hBw2 | refine Below.setCell ?_ (by show w.heap.size ≤ _; have := hBw2.size; omega) _ | refine Below.alloc ?_ (by have := hBw2.size; first | omega | (simp; omega)) _)) (hb3.mono (by have := hBw2.size; first | omega | (simp; omega))))
      | (go_at_call 13; refine (cX3 _ hL3 (hm.below hBw3 hgM) (ht.below hBw3 hgT)).mono ?_; rintro e w4 ⟨rfl, hb4⟩))
    go_ret
    exact ⟨rfl, hBw3.trans (hb4.mono hBw3.size)⟩
end Go.Proofs.YtdknpbglmiajoabDoor
