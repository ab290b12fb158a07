/- The law TapeRoom at every argument. -/
import Derived.Test.YtacmafecjcldfaaDoorKRec
import Derived.Test.YtacmafecjcldfaaDoorTAppend
import Derived.Test.YtacmafecjcldfaaDoorTRoom
namespace Go.Proofs.YtacmafecjcldfaaDoor
open Go.ChangeShapes Go.WideShapes Go.ChangeAt Go.RowKit
set_option linter.unusedVariables false

set_option maxRecDepth 100000 in
set_option maxHeartbeats 4000000 in
theorem tapeRoom_walk (s : Int) (a : Option Addr) (len cap : Nat) (zs : List Int) (r : RV) (nn : Int) (w : World) (hs : (Lit.int .i64 s).wf = true) (h : IsInts w a len cap zs) (hr : r.ok) (hnn : (Lit.int .i64 nn).wf = true) (hm : HasAt w 1 rHas) (hwd : WidsAt w) (ht : TopsAt w) :
    Calls Tryd.prog 8 #[.int .i64 s, .slice a len cap, r.val, .int .i64 nn] w fun e w' => e = .returned (.bool true) ∧ Below w.heap.size w w' := by
  have hnn' := i64_bd hnn
  obtain ⟨i0, hin, li0, li1, li2⟩ := info_parts byteInfo
  have hs' := i64_bd hs
  obtain ⟨kd, ra, rb, rc, rd, re⟩ := r
  obtain ⟨hkd, hra, hrb, hrc, hrd, hre⟩ := hr
  simp only [RV.val]
  have hgT : 3 < w.heap.size := World.block_lt_of_cell? w _ ht.1
  have hgM : 1 < w.heap.size := hm.lt (by decide)
  have hgW : 2 < w.heap.size := hwd.lt
  have hCfg := fun w' h' => cfg_good s a len cap zs w' hs' h'
  obtain ⟨W0, hW0⟩ : ∃ W0 : World, W0 = w.alloc (.cells #[.int .i64 kd, .int .i64 ra, .int .i64 rb, .int .i64 rc, .int .i64 rd, .int .i64 re] 24) := ⟨_, rfl⟩
  have hB0 : Below w.heap.size w W0 := by rw [hW0]; exact (Below.refl _ _).alloc (Nat.le_refl _) _
  have zW0 : W0.heap.size = w.heap.size + 1 := by rw [hW0]; simp
  have d0 : W0.cell? ⟨w.heap.size, 0, none⟩ = some (.int .i64 kd) := by rw [hW0]; go_simp
  have d1 : W0.cell? ⟨w.heap.size, 1, none⟩ = some (.int .i64 ra) := by rw [hW0]; go_simp
  have d2 : W0.cell? ⟨w.heap.size, 2, none⟩ = some (.int .i64 rb) := by rw [hW0]; go_simp
  have d3 : W0.cell? ⟨w.heap.size, 3, none⟩ = some (.int .i64 rc) := by rw [hW0]; go_simp
  have d4 : W0.cell? ⟨w.heap.size, 4, none⟩ = some (.int .i64 rd) := by rw [hW0]; go_simp
  have d5 : W0.cell? ⟨w.heap.size, 5, none⟩ = some (.int .i64 re) := by rw [hW0]; go_simp
  have h0 := h.below hB0
  go_enter Tryd.func8, Tryd.ntmps8
  go_upto_region 1 with (fail)
  rw [← hW0]
  clear hW0
  go_upto_region 2 with (go_at_call 9; refine (hCfg _ h0).mono ?_; rintro e w1 ⟨S, P, g, n, cp, L, rfl, hC1, hb1⟩)
  obtain ⟨W, hW⟩ : ∃ W : World, W = w1.alloc (.cells #[.int .i64 S, .slice (some ⟨g, 0, none⟩) n cp, .int .i64 P] 27) := ⟨_, rfl⟩
  have zW : W.heap.size = w1.heap.size + 1 := by rw [hW]; simp
  have c0 : W.cell? ⟨w1.heap.size, 0, none⟩ = some (.int .i64 S) := by rw [hW]; go_simp
  have c1 : W.cell? ⟨w1.heap.size, 1, none⟩ = some (.slice (some ⟨g, 0, none⟩) n cp) := by rw [hW]; go_simp
  have c2 : W.cell? ⟨w1.heap.size, 2, none⟩ = some (.int .i64 P) := by rw [hW]; go_simp
  have hBW : Below w1.heap.size w1 W := by rw [hW]; exact (Below.refl _ _).alloc (Nat.le_refl _) _
  rw [← hW]
  clear hW
  have hCW := hC1.below hBW
  have hb1' : Below W0.heap.size W0 W := hb1.trans (hBW.mono hb1.size)
  have hBw : Below w.heap.size w W := hB0.trans (hb1'.mono hB0.size)
  have z01 := hb1.size
  have k0 : W.cell? ⟨w.heap.size, 0, none⟩ = some (.int .i64 kd) := (hb1'.cell (p := ⟨w.heap.size, 0, none⟩) (by show w.heap.size < _; omega)).trans d0
  have k1 : W.cell? ⟨w.heap.size, 1, none⟩ = some (.int .i64 ra) := (hb1'.cell (p := ⟨w.heap.size, 1, none⟩) (by show w.heap.size < _; omega)).trans d1
  have k2 : W.cell? ⟨w.heap.size, 2, none⟩ = some (.int .i64 rb) := (hb1'.cell (p := ⟨w.heap.size, 2, none⟩) (by show w.heap.size < _; omega)).trans d2
  have k3 : W.cell? ⟨w.heap.size, 3, none⟩ = some (.int .i64 rc) := (hb1'.cell (p := ⟨w.heap.size, 3, none⟩) (by show w.heap.size < _; omega)).trans d3
  have k4 : W.cell? ⟨w.heap.size, 4, none⟩ = some (.int .i64 rd) := (hb1'.cell (p := ⟨w.heap.size, 4, none⟩) (by show w.heap.size < _; omega)).trans d4
  have k5 : W.cell? ⟨w.heap.size, 5, none⟩ = some (.int .i64 re) := (hb1'.cell (p := ⟨w.heap.size, 5, none⟩) (by show w.heap.size < _; omega)).trans d5
  clear d0 d1 d2 d3 d4 d5 h0 hCfg hC1 hBW hb1 hb1'
  have hok := hCW.ok
  have hc1 := hCW.s1
  have hc3 := hCW.s3
  go_upto_region 3 with (go_at_call 15; refine (rec_good S P (some ⟨g, 0, none⟩) n cp L kd ra rb rc rd re _ hok hc1 hc3 hkd hra hrb hrc hrd hre).mono ?_; rintro e w2 ⟨⟨kind, site, num, key, value, ask, yes, sa, sl, sc, sites⟩, rfl, hG2, hb2⟩; simp only [RcV.val])
  have KC : Hid (∀ U : World, Below W.heap.size W U → U.cell? ⟨w1.heap.size, 0, none⟩ = some (.int .i64 S) ∧ U.cell? ⟨w1.heap.size, 1, none⟩ = some (.slice (some ⟨g, 0, none⟩) n cp) ∧ U.cell? ⟨w1.heap.size, 2, none⟩ = some (.int .i64 P)) := by
    intro U hU
    exact ⟨(hU.cell (p := ⟨w1.heap.size, 0, none⟩) (by show w1.heap.size < _; omega)).trans c0, (hU.cell (p := ⟨w1.heap.size, 1, none⟩) (by show w1.heap.size < _; omega)).trans c1, (hU.cell (p := ⟨w1.heap.size, 2, none⟩) (by show w1.heap.size < _; omega)).trans c2⟩
  have KL : Hid (∀ U : World, Below W.heap.size W U → IsLabs U (some ⟨g, 0, none⟩) n cp L) := fun U hU => hCW.labs.below hU
  have KB : Hid (∀ U : World, Below W.heap.size W U → Below w.heap.size w U) := fun U hU => hBw.trans (hU.mono hBw.size)
  have KM : Hid (∀ U : World, Below W.heap.size W U → HasAt U 1 rHas) := fun U hU => hm.below (KB.out U hU) hgM
  have KW : Hid (∀ U : World, Below W.heap.size W U → WidsAt U) := fun U hU => hwd.below (KB.out U hU) hgW
  have KT : Hid (∀ U : World, Below W.heap.size W U → TopsAt U) := fun U hU => ht.below (KB.out U hU) hgT
  obtain ⟨V, hV⟩ : ∃ V : World, V = w2.alloc (.cells #[.int .i64 kind, .int .i64 site, .int .i64 num, .int .i64 key, .int .i64 value, .int .i64 ask, .bool yes, .slice sa sl sc] 46) := ⟨_, rfl⟩
  have rbV : BoxN V w2.heap.size 8 [.int .i64 kind, .int .i64 site, .int .i64 num, .int .i64 key, .int .i64 value, .int .i64 ask, .bool yes, .slice sa sl sc] := by rw [hV]; simpa using boxn_new w2 #[.int .i64 kind, .int .i64 site, .int .i64 num, .int .i64 key, .int .i64 value, .int .i64 ask, .bool yes, .slice sa sl sc] 46 8 rfl
  have b2V : Below w2.heap.size w2 V := by rw [hV]; exact (Below.refl _ _).alloc (Nat.le_refl _) _
  have bV : Below W.heap.size W V := bT hb2 b2V
  rw [← hV]
  clear hV c0 c1 c2 k0 k1 k2 k3 k4 k5
  have hIs : IsInts V sa sl sc sites := hG2.ints.below b2V
  have hr0 := hG2.ok
  have hBd := recBytes_bd hr0 hG2.ints.1
  have hEn := fun w' h1 h2 h3 h4 h5 => encodeRecord_any S P (some ⟨g, 0, none⟩) n cp L ⟨kind, site, num, key, value, ask, yes, sa, sl, sc, sites⟩ w' h1 h2 h3 h4 h5
  have hAp := fun ta tl tc tbs y w' h1 h2 h3 h4 h5 h6 => append_any S P (some ⟨g, 0, none⟩) n cp L ta tl tc tbs y ⟨kind, site, num, key, value, ask, yes, sa, sl, sc, sites⟩ w' h1 h2 h3 h4 h5 h6
  rw [hr0] at hEn hAp
  simp only [if_true, RcV.val] at hEn hAp
  obtain ⟨bb, ebb⟩ : ∃ x, x = recBytes ⟨kind, site, num, key, value, ask, yes, sa, sl, sc, sites⟩ := ⟨_, rfl⟩
  rw [← ebb] at hEn hAp hBd
  clear ebb hr0 hG2
  obtain ⟨q0, q1, q2⟩ := KC.out _ bV
  have m0 : V.cell? ⟨w2.heap.size, 0, none⟩ = some (.int .i64 kind) := (rbV.c 0 (by omega)).1
  have m1 : V.cell? ⟨w2.heap.size, 1, none⟩ = some (.int .i64 site) := (rbV.c 1 (by omega)).1
  have m2 : V.cell? ⟨w2.heap.size, 2, none⟩ = some (.int .i64 num) := (rbV.c 2 (by omega)).1
  have m3 : V.cell? ⟨w2.heap.size, 3, none⟩ = some (.int .i64 key) := (rbV.c 3 (by omega)).1
  have m4 : V.cell? ⟨w2.heap.size, 4, none⟩ = some (.int .i64 value) := (rbV.c 4 (by omega)).1
  have m5 : V.cell? ⟨w2.heap.size, 5, none⟩ = some (.int .i64 ask) := (rbV.c 5 (by omega)).1
  have m6 : V.cell? ⟨w2.heap.size, 6, none⟩ = some (.bool yes) := (rbV.c 6 (by omega)).1
  have m7 : V.cell? ⟨w2.heap.size, 7, none⟩ = some (.slice sa sl sc) := (rbV.c 7 (by omega)).1
  go_upto_region 4 with (go_at_call 16; refine (hEn _ (KL.out _ bV) hIs (KM.out _ bV) (KT.out _ bV) (KW.out _ bV)).mono ?_; rintro e w3 ⟨a3, l3, c3, rfl, hI3, hge3, hb3⟩)
  have b3 := bT bV hb3
  have l3e : l3 = bb.length := hI3.1.symm
  have HL : Hid (l3 = bb.length) := l3e
  have hl3 : 5 ≤ l3 ∧ l3 ≤ 24 := by omega
  clear l3e hBd hI3 hge3 q0 q1 q2 m0 m1 m2 m3 m4 m5 m6 m7 hEn
  have hpk := fun w' => picked_any nn 40 w' hnn' (by decide) (by decide)
  have pb := pk_bd nn 40 (by decide)
  obtain ⟨kk, ekk⟩ : ∃ k : Nat, pk nn 40 = k := ⟨(pk nn 40).toNat, by omega⟩
  rw [ekk] at hpk pb
  clear ekk
  have k40 : kk < 40 := by omega
  have k40' : (kk : Int) < 40 := by omega
  go_upto_region 5 with (go_at_call 14; refine (hpk _).mono ?_; rintro e v ⟨rfl, hv⟩; rw [hv]; clear hv v)
  go_upto_region 6 with (at_make; go_loud (refine wpList_make_full _ (by rfl) _ _ 35 (by rfl) w3.heap.size 5 i0 (.int .u8 0) 1 Tryd.underlying35 hin li0 li1 _ _ _ _ (6000 - kk) (by rfl) (by rfl) (by omega) (by omega) (by rw [li2]; omega) (by unfold maxLen; omega) (Nat.le_refl _) ?_))
  intro w4 own4 gr4
  rw [toList_madeCells_one, show List.replicate (6000 - kk) (Value.int .u8 0) = bytesV (List.replicate (6000 - kk) 0) from by simp [bytesV]] at own4
  have hbz : Byt (List.replicate (6000 - kk) (0 : Int)) := fun x hx => by have := List.eq_of_mem_replicate hx; omega
  obtain ⟨hI4, hge4⟩ := isB_slice own4 hbz
  have hb4 : Below w3.heap.size w3 w4 := (Below.refl _ _).grown gr4 (Nat.le_refl _) (fun k hk => by cases hk)
  have b4 := bT b3 hb4
  obtain ⟨tl, etl⟩ : ∃ x, x = 6000 - kk := ⟨_, rfl⟩
  rw [← etl] at hI4 ⊢
  have htl : (tl : Int) = 6000 - (kk : Int) := by omega
  have htl2 : tl ≤ 6000 := by omega
  have htl3 : 5960 < tl := by omega
  have HT : Hid (tl + kk = 6000) := by show tl + kk = 6000; omega
  obtain ⟨tbs, etbs⟩ : ∃ x, x = List.replicate tl (0 : Int) := ⟨_, rfl⟩
  rw [← etl, ← etbs] at own4
  rw [← etbs] at hI4
  clear etbs hbz etl
  have hmay : mayT tl 0 = true := by unfold mayT; simp; omega
  have hRm := fun w' => room_any (some ⟨w3.heap.size, 0, none⟩) tl tl 0 w' (by omega)
  have eRm : roomT tl 0 = (kk : Int) := by unfold roomT; rw [hmay]; simp; omega
  have eSt : stateT tl 0 = 0 := by unfold stateT; rw [hmay]; rfl
  rw [eRm, eSt] at hRm
  have hApp := fun w' h1 h2 h3 h4 h5 h6 => hAp (some ⟨w3.heap.size, 0, none⟩) tl tl tbs 0 w' h1 h2 h3 h4 h5 h6
  have eAp : apErr tl 0 0 bb = if 6000 < tl + 1 + bb.length then 8 else 0 := by unfold apErr; rw [hmay]; simp
  obtain ⟨AE, eAE⟩ : ∃ x, x = apErr tl 0 0 bb := ⟨_, rfl⟩
  rw [← eAE] at hApp eAp
  have EA : Hid (AE = if 6000 < tl + 1 + bb.length then 8 else 0) := eAp
  clear eAE eAp hAp eRm eSt hmay own4 gr4 htl
  go_upto_region 6 with (fail)
  obtain ⟨Y, hY⟩ : ∃ Y : World, Y = w4.alloc (.cells #[.slice (some ⟨w3.heap.size, 0, none⟩) tl tl, .int .i64 0] 54) := ⟨_, rfl⟩
  have y0 : Y.cell? ⟨w4.heap.size, 0, none⟩ = some (.slice (some ⟨w3.heap.size, 0, none⟩) tl tl) := by rw [hY]; go_simp
  have y1 : Y.cell? ⟨w4.heap.size, 1, none⟩ = some (.int .i64 0) := by rw [hY]; go_simp
  have zY : Y.heap.size = w4.heap.size + 1 := by rw [hY]; simp
  have b4Y : Below w4.heap.size w4 Y := by rw [hY]; exact (Below.refl _ _).alloc (Nat.le_refl _) _
  rw [← hY]
  clear hY
  go_upto_region 7 with (go_at_call 19; refine (hRm _).mono ?_; rintro e w5 ⟨rfl, hb5⟩)
  have b4_5 : Below w4.heap.size w4 w5 := b4Y.trans (hb5.mono (by omega))
  have b5 := bT b4 b4_5
  have z0 : w5.cell? ⟨w4.heap.size, 0, none⟩ = some (.slice (some ⟨w3.heap.size, 0, none⟩) tl tl) := (hb5.cell (p := ⟨w4.heap.size, 0, none⟩) (by show w4.heap.size < _; omega)).trans y0
  have z1 : w5.cell? ⟨w4.heap.size, 1, none⟩ = some (.int .i64 0) := (hb5.cell (p := ⟨w4.heap.size, 1, none⟩) (by show w4.heap.size < _; omega)).trans y1
  have hI5 := hI4.below b4_5
  have bV3 : Below V.heap.size V w5 := (hb3.trans (hb4.mono hb3.size)).trans (b4_5.mono (Nat.le_trans hb3.size hb4.size))
  have hIs5 := hIs.below bV3
  have rb5 := rbV.below bV3 rbV.lt
  obtain ⟨q0, q1, q2⟩ := KC.out _ b5
  have m0 : w5.cell? ⟨w2.heap.size, 0, none⟩ = some (.int .i64 kind) := (rb5.c 0 (by omega)).1
  have m1 : w5.cell? ⟨w2.heap.size, 1, none⟩ = some (.int .i64 site) := (rb5.c 1 (by omega)).1
  have m2 : w5.cell? ⟨w2.heap.size, 2, none⟩ = some (.int .i64 num) := (rb5.c 2 (by omega)).1
  have m3 : w5.cell? ⟨w2.heap.size, 3, none⟩ = some (.int .i64 key) := (rb5.c 3 (by omega)).1
  have m4 : w5.cell? ⟨w2.heap.size, 4, none⟩ = some (.int .i64 value) := (rb5.c 4 (by omega)).1
  have m5 : w5.cell? ⟨w2.heap.size, 5, none⟩ = some (.int .i64 ask) := (rb5.c 5 (by omega)).1
  have m6 : w5.cell? ⟨w2.heap.size, 6, none⟩ = some (.bool yes) := (rb5.c 6 (by omega)).1
  have m7 : w5.cell? ⟨w2.heap.size, 7, none⟩ = some (.slice sa sl sc) := (rb5.c 7 (by omega)).1
  clear y0 y1 rbV rb5
  go_upto_region 8 with (go_at_call 20; refine (hApp _ (KL.out _ b5) hI5 hIs5 (KM.out _ b5) (KT.out _ b5) (KW.out _ b5)).mono ?_; rintro e w6 ⟨a6, l6, c6, rfl, hI6, hge6, hb6⟩)
  have b6 := bT b5 hb6
  have hbF : ∀ ob, Below w.heap.size w (w6.alloc ob) := fun ob => KB.out _ (bA b6 ob)
  have hz3 : ¬ (l3 : Int) = 0 := by omega
  have hz4 : ((l3 : Int) == 0) = false := by simp; omega
  have hl24 : (l3 : Int) ≤ 24 := by omega
  have hE := EA.out
  rw [← HL.out] at hE
  clear EA hApp hRm z0 z1 q0 q1 q2 m0 m1 m2 m3 m4 m5 m6 m7
  by_cases hfit : 1 + (l3 : Int) ≤ (kk : Int)
  · have hE0 : AE = 0 := by rw [hE, if_neg (by have := HT.out; omega)]
    subst hE0
    clear hE
    go_wp2
    go_ret
    exact ⟨rfl, hbF _⟩
  · have hE8 : AE = 8 := by rw [hE, if_pos (by have := HT.out; omega)]
    subst hE8
    clear hE
    go_wp2
    go_ret
    exact ⟨rfl, hbF _⟩
end Go.Proofs.YtacmafecjcldfaaDoor
