/- The law RecordBack at every argument. -/
import Derived.Test.YtacmafecjcldfaaDoorKRec
import Derived.Test.YtacmafecjcldfaaDoorWRecOf
import Derived.Test.YtacmafecjcldfaaDoorTAppend
import Derived.Test.YtacmafecjcldfaaDoorWDecodeR
import Derived.Test.YtacmafecjcldfaaDoorWEncR
import Derived.Test.YtacmafecjcldfaaDoorSameR
import Derived.Deep.DeepCutAuto
import Derived.Deep.CutBlock
namespace Go.Proofs.YtacmafecjcldfaaDoor
open Go.ChangeShapes Go.WideShapes Go.ChangeAt Go.RowKit
set_option linter.unusedVariables false

set_option maxRecDepth 100000 in
set_option maxHeartbeats 4000000 in
theorem recordBack_walk (s : Int) (a : Option Addr) (len cap : Nat) (zs : List Int) (r : RV) (tail at' : Int) (w : World) (hs : (Lit.int .i64 s).wf = true) (h : IsInts w a len cap zs) (hr : r.ok) (htl : 0 ≤ tail ∧ tail < 256) (hat : (Lit.int .i64 at').wf = true) (hm : HasAt w 1 rHas) (hwd : WidsAt w) (ht : TopsAt w) :
    Calls Tryd.prog 6 #[.int .i64 s, .slice a len cap, r.val, .int .u8 tail, .int .i64 at'] w fun e w' => e = .returned (.bool true) ∧ Below w.heap.size w w' := by
  have hat' := i64_bd hat
  have hs' := i64_bd hs
  obtain ⟨kd, ra, rb, rc, rd, re⟩ := r
  obtain ⟨hkd, hra, hrb, hrc, hrd, hre⟩ := hr
  simp only [RV.val]
  have hgT : 3 < w.heap.size := World.block_lt_of_cell? w _ ht.1
  have hgM : 1 < w.heap.size := hm.lt (by decide)
  have hgW : 2 < w.heap.size := hwd.lt
  have hCfg := fun w' h' => cfg_good s a len cap zs w' hs' h'
  obtain ⟨W0, hW0⟩ : ∃ W0 : World, W0 = w.alloc (.cells #[.int .i64 kd, .int .i64 ra, .int .i64 rb, .int .i64 rc, .int .i64 rd, .int .i64 re] 24) := ⟨_, rfl⟩
  have hB0 : Below w.heap.size w W0 := by rw [hW0]; exact (Below.refl _ _).alloc (Nat.le_refl _) _
  have zW0 : W0.heap.size = w.heap.size + 1 := by rw [hW0]; simp
  have d0 : W0.cell? ⟨w.heap.size, 0, none⟩ = some (.int .i64 kd) := by rw [hW0]; go_simp
  have d1 : W0.cell? ⟨w.heap.size, 1, none⟩ = some (.int .i64 ra) := by rw [hW0]; go_simp
  have d2 : W0.cell? ⟨w.heap.size, 2, none⟩ = some (.int .i64 rb) := by rw [hW0]; go_simp
  have d3 : W0.cell? ⟨w.heap.size, 3, none⟩ = some (.int .i64 rc) := by rw [hW0]; go_simp
  have d4 : W0.cell? ⟨w.heap.size, 4, none⟩ = some (.int .i64 rd) := by rw [hW0]; go_simp
  have d5 : W0.cell? ⟨w.heap.size, 5, none⟩ = some (.int .i64 re) := by rw [hW0]; go_simp
  have h0 := h.below hB0
  go_enter Tryd.func6, Tryd.ntmps6
  go_upto_region 1 with (fail)
  rw [← hW0]
  clear hW0
  go_upto_region 2 with (go_at_call 9; refine (hCfg _ h0).mono ?_; rintro e w1 ⟨S, P, g, n, cp, L, rfl, hC1, hb1⟩)
  obtain ⟨W, hW⟩ : ∃ W : World, W = w1.alloc (.cells #[.int .i64 S, .slice (some ⟨g, 0, none⟩) n cp, .int .i64 P] 27) := ⟨_, rfl⟩
  have zW : W.heap.size = w1.heap.size + 1 := by rw [hW]; simp
  have c0 : W.cell? ⟨w1.heap.size, 0, none⟩ = some (.int .i64 S) := by rw [hW]; go_simp
  have c1 : W.cell? ⟨w1.heap.size, 1, none⟩ = some (.slice (some ⟨g, 0, none⟩) n cp) := by rw [hW]; go_simp
  have c2 : W.cell? ⟨w1.heap.size, 2, none⟩ = some (.int .i64 P) := by rw [hW]; go_simp
  have hBW : Below w1.heap.size w1 W := by rw [hW]; exact (Below.refl _ _).alloc (Nat.le_refl _) _
  rw [← hW]
  clear hW
  have hCW := hC1.below hBW
  have hb1' : Below W0.heap.size W0 W := hb1.trans (hBW.mono hb1.size)
  have hBw : Below w.heap.size w W := hB0.trans (hb1'.mono hB0.size)
  have z01 := hb1.size
  have k0 : W.cell? ⟨w.heap.size, 0, none⟩ = some (.int .i64 kd) := (hb1'.cell (p := ⟨w.heap.size, 0, none⟩) (by show w.heap.size < _; omega)).trans d0
  have k1 : W.cell? ⟨w.heap.size, 1, none⟩ = some (.int .i64 ra) := (hb1'.cell (p := ⟨w.heap.size, 1, none⟩) (by show w.heap.size < _; omega)).trans d1
  have k2 : W.cell? ⟨w.heap.size, 2, none⟩ = some (.int .i64 rb) := (hb1'.cell (p := ⟨w.heap.size, 2, none⟩) (by show w.heap.size < _; omega)).trans d2
  have k3 : W.cell? ⟨w.heap.size, 3, none⟩ = some (.int .i64 rc) := (hb1'.cell (p := ⟨w.heap.size, 3, none⟩) (by show w.heap.size < _; omega)).trans d3
  have k4 : W.cell? ⟨w.heap.size, 4, none⟩ = some (.int .i64 rd) := (hb1'.cell (p := ⟨w.heap.size, 4, none⟩) (by show w.heap.size < _; omega)).trans d4
  have k5 : W.cell? ⟨w.heap.size, 5, none⟩ = some (.int .i64 re) := (hb1'.cell (p := ⟨w.heap.size, 5, none⟩) (by show w.heap.size < _; omega)).trans d5
  clear d0 d1 d2 d3 d4 d5 h0 hCfg hC1 hBW hb1 hb1'
  have hok := hCW.ok
  have hc1 := hCW.s1
  have hc3 := hCW.s3
  go_upto_region 3 with (go_at_call 15; refine (rec_good S P (some ⟨g, 0, none⟩) n cp L kd ra rb rc rd re _ hok hc1 hc3 hkd hra hrb hrc hrd hre).mono ?_; rintro e w2 ⟨⟨kind, site, num, key, value, ask, yes, sa, sl, sc, sites⟩, rfl, hG2, hb2⟩; simp only [RcV.val])
  have KC : Hid (∀ U : World, Below W.heap.size W U → U.cell? ⟨w1.heap.size, 0, none⟩ = some (.int .i64 S) ∧ U.cell? ⟨w1.heap.size, 1, none⟩ = some (.slice (some ⟨g, 0, none⟩) n cp) ∧ U.cell? ⟨w1.heap.size, 2, none⟩ = some (.int .i64 P)) := by
    intro U hU
    exact ⟨(hU.cell (p := ⟨w1.heap.size, 0, none⟩) (by show w1.heap.size < _; omega)).trans c0, (hU.cell (p := ⟨w1.heap.size, 1, none⟩) (by show w1.heap.size < _; omega)).trans c1, (hU.cell (p := ⟨w1.heap.size, 2, none⟩) (by show w1.heap.size < _; omega)).trans c2⟩
  have KL : Hid (∀ U : World, Below W.heap.size W U → IsLabs U (some ⟨g, 0, none⟩) n cp L) := fun U hU => hCW.labs.below hU
  have KB : Hid (∀ U : World, Below W.heap.size W U → Below w.heap.size w U) := fun U hU => hBw.trans (hU.mono hBw.size)
  have KM : Hid (∀ U : World, Below W.heap.size W U → HasAt U 1 rHas) := fun U hU => hm.below (KB.out U hU) hgM
  have KW : Hid (∀ U : World, Below W.heap.size W U → WidsAt U) := fun U hU => hwd.below (KB.out U hU) hgW
  have KT : Hid (∀ U : World, Below W.heap.size W U → TopsAt U) := fun U hU => ht.below (KB.out U hU) hgT
  obtain ⟨V, hV⟩ : ∃ V : World, V = w2.alloc (.cells #[.int .i64 kind, .int .i64 site, .int .i64 num, .int .i64 key, .int .i64 value, .int .i64 ask, .bool yes, .slice sa sl sc] 46) := ⟨_, rfl⟩
  have rbV : BoxN V w2.heap.size 8 [.int .i64 kind, .int .i64 site, .int .i64 num, .int .i64 key, .int .i64 value, .int .i64 ask, .bool yes, .slice sa sl sc] := by rw [hV]; simpa using boxn_new w2 #[.int .i64 kind, .int .i64 site, .int .i64 num, .int .i64 key, .int .i64 value, .int .i64 ask, .bool yes, .slice sa sl sc] 46 8 rfl
  have b2V : Below w2.heap.size w2 V := by rw [hV]; exact (Below.refl _ _).alloc (Nat.le_refl _) _
  have bV : Below W.heap.size W V := bT hb2 b2V
  rw [← hV]
  clear hV c0 c1 c2 k0 k1 k2 k3 k4 k5
  have hIs : IsInts V sa sl sc sites := hG2.ints.below b2V
  have hr0 := hG2.ok
  have hln : sites.length = sl := hIs.1
  have hBd := recBytes_bd hr0 hln
  have hEn := fun w' h1 h2 h3 h4 h5 => encodeRecord_any S P (some ⟨g, 0, none⟩) n cp L ⟨kind, site, num, key, value, ask, yes, sa, sl, sc, sites⟩ w' h1 h2 h3 h4 h5
  have hDec := fun ba bl bc bs w' h1 h2 h3 h4 h5 h6 => decodeRecord_any S P (some ⟨g, 0, none⟩) n cp L ba bl bc bs w' h1 h2 h3 h4 h5 h6
  have hDec1 := fun ba bl bc w' h1 h2 h3 h4 h5 h6 => hDec ba bl bc (recBytes ⟨kind, site, num, key, value, ask, yes, sa, sl, sc, sites⟩) w' h1 h2 h3 h4 h5 h6
  have hDec2 := fun ba bl bc w' h1 h2 h3 h4 h5 h6 => hDec ba bl bc (recBytes ⟨kind, site, num, key, value, ask, yes, sa, sl, sc, sites⟩ ++ [tail]) w' h1 h2 h3 h4 h5 h6
  have hDec3 : Hid (∀ (j : Nat) (hj : j < (recBytes ⟨kind, site, num, key, value, ask, yes, sa, sl, sc, sites⟩).length) (ba : Option Addr) (bl bc : Nat) (w' : World), IsLabs w' (some ⟨g, 0, none⟩) n cp L → IsB w' ba bl bc ((recBytes ⟨kind, site, num, key, value, ask, yes, sa, sl, sc, sites⟩).take j) → (∀ b off, ba = some ⟨b, off, none⟩ → b < w'.heap.size) → HasAt w' 1 rHas → TopsAt w' → WidsAt w' →
      Calls Tryd.prog 17 #[.agg #[.int .i64 S, .slice (some ⟨g, 0, none⟩) n cp, .int .i64 P], .slice ba bl bc] w' fun e w'' => DecRPost w' w'' e (RcV.zero, 5)) := by
    intro j hj ba bl bc w' h1 h2 h3 h4 h5 h6
    have h7 := hDec ba bl bc _ w' h1 h2 h3 h4 h5 h6
    rw [recOf_torn hr0 hln j hj] at h7
    exact h7
  rw [hr0] at hEn
  rw [recOf_back hr0 hln] at hDec1
  rw [recOf_more hr0 hln tail] at hDec2
  simp only [if_true, RcV.val] at hEn
  obtain ⟨mb, emb⟩ : ∃ x, x = recBytes ⟨kind, site, num, key, value, ask, yes, sa, sl, sc, sites⟩ := ⟨_, rfl⟩
  rw [← emb] at hEn hDec1 hDec2 hDec3 hBd
  clear emb hr0 hG2 hDec hln
  simp only [DecRPost, RcV.pl, RcV.val, RcV.zero] at hDec1 hDec2
  obtain ⟨q0, q1, q2⟩ := KC.out _ bV
  have m0 : V.cell? ⟨w2.heap.size, 0, none⟩ = some (.int .i64 kind) := (rbV.c 0 (by omega)).1
  have m1 : V.cell? ⟨w2.heap.size, 1, none⟩ = some (.int .i64 site) := (rbV.c 1 (by omega)).1
  have m2 : V.cell? ⟨w2.heap.size, 2, none⟩ = some (.int .i64 num) := (rbV.c 2 (by omega)).1
  have m3 : V.cell? ⟨w2.heap.size, 3, none⟩ = some (.int .i64 key) := (rbV.c 3 (by omega)).1
  have m4 : V.cell? ⟨w2.heap.size, 4, none⟩ = some (.int .i64 value) := (rbV.c 4 (by omega)).1
  have m5 : V.cell? ⟨w2.heap.size, 5, none⟩ = some (.int .i64 ask) := (rbV.c 5 (by omega)).1
  have m6 : V.cell? ⟨w2.heap.size, 6, none⟩ = some (.bool yes) := (rbV.c 6 (by omega)).1
  have m7 : V.cell? ⟨w2.heap.size, 7, none⟩ = some (.slice sa sl sc) := (rbV.c 7 (by omega)).1
  go_upto_region 4 with (go_at_call 16; refine (hEn _ (KL.out _ bV) hIs (KM.out _ bV) (KT.out _ bV) (KW.out _ bV)).mono ?_; rintro e w3 ⟨a3, l3, c3, rfl, hI3, hge3, hb3⟩)
  have b3 := bT bV hb3
  have l3u : l3 ≤ 24 := by have := hI3.1; omega
  have l3l : 5 ≤ l3 := by have := hI3.1; omega
  have hlt3 : ∀ b off, a3 = some ⟨b, off, none⟩ → b < w3.heap.size := fun b off e => isB_lt hI3 b off (by omega) e
  clear q0 q1 q2 m0 m1 m2 m3 m4 m5 m6 m7 hEn hBd
  obtain ⟨q0, q1, q2⟩ := KC.out _ b3
  go_upto_region 5 with (go_at_call 17; refine (hDec1 a3 l3 c3 _ (KL.out _ b3) hI3 hlt3 (KM.out _ b3) (KT.out _ b3) (KW.out _ b3)).mono ?_; rintro e w4 ⟨sa4, sc4, rfl, hI4, hf4, hb4⟩)
  have b4 := bT b3 hb4
  obtain ⟨X, hX⟩ : ∃ X : World, X = w4.alloc (.cells #[.int .i64 kind, .int .i64 site, .int .i64 num, .int .i64 key, .int .i64 value, .int .i64 ask, .bool yes, .slice sa4 sl sc4] 46) := ⟨_, rfl⟩
  have xbX : BoxN X w4.heap.size 8 [.int .i64 kind, .int .i64 site, .int .i64 num, .int .i64 key, .int .i64 value, .int .i64 ask, .bool yes, .slice sa4 sl sc4] := by rw [hX]; simpa using boxn_new w4 #[.int .i64 kind, .int .i64 site, .int .i64 num, .int .i64 key, .int .i64 value, .int .i64 ask, .bool yes, .slice sa4 sl sc4] 46 8 rfl
  have bX : Below W.heap.size W X := by rw [hX]; exact bA b4 _
  have b4X : Below w4.heap.size w4 X := by rw [hX]; exact (Below.refl _ _).alloc (Nat.le_refl _) _
  rw [← hX]
  clear hX q0 q1 q2
  have hb34 : Below w3.heap.size w3 X := hb4.trans (b4X.mono hb4.size)
  have hI5 := hI3.below hb34
  have hVX' : Below V.heap.size V X := hb3.trans (hb34.mono hb3.size)
  have hIsX : IsInts X sa sl sc sites := hIs.below hVX'
  have hIs4 : IsInts X sa4 sl sc4 sites := hI4.below b4X
  have mbX := rbV.below hVX' rbV.lt
  have hVX : V.heap.size ≤ X.heap.size := hVX'.size
  have HI1 : Hid (IsInts X sa sl sc sites) := hIsX
  have HI2 : Hid (IsInts X sa4 sl sc4 sites) := hIs4
  have hltX : ∀ b off, a3 = some ⟨b, off, none⟩ → b < X.heap.size := fun b off e => Nat.lt_of_lt_of_le (hlt3 b off e) hb34.size
  clear hI3 rbV hb3 hb4 b4X hb34 hIs hI4 hIsX hIs4 hVX'
  obtain ⟨q0, q1, q2⟩ := KC.out _ bX
  have KX : Hid (∀ U : World, Below X.heap.size X U → U.cell? ⟨w1.heap.size, 0, none⟩ = some (.int .i64 S) ∧ U.cell? ⟨w1.heap.size, 1, none⟩ = some (.slice (some ⟨g, 0, none⟩) n cp) ∧ U.cell? ⟨w1.heap.size, 2, none⟩ = some (.int .i64 P)) := fun U hU => KC.out U (bT bX hU)
  have KI : Hid (∀ U : World, Below X.heap.size X U → IsB U a3 l3 c3 mb) := fun U hU => hI5.below hU
  have hD : Below X.heap.size X X.drew := (Below.refl _ _).drew
  obtain ⟨t0, t1⟩ := htl
  have HI5 : Hid (IsB X a3 l3 c3 mb) := hI5
  clear hI5
  go_cut [18] (fun s18 wc => s18 = .int .i64 4 ∧ Below X.heap.size X wc)
  case first =>
    go_region_held3 (fun U => U.cell? ⟨w1.heap.size, 0, none⟩ = some (.int .i64 S) ∧ U.cell? ⟨w1.heap.size, 1, none⟩ = some (.slice (some ⟨g, 0, none⟩) n cp) ∧ U.cell? ⟨w1.heap.size, 2, none⟩ = some (.int .i64 P))
      (exact KX.out _ (by (with_reducible repeat (first | exact hu3 | exact hu2 | exact hu1 | exact hD | exact Below.refl _ _ | refine bD ?_ | refine bA ?_ _ | refine bS ?_ (by omega) _)); done))
      (first
        | ((refine step_append_bytes (by rfl) (.const (.slice none 0 0)) (.tmp 41) (by rfl) X.heap.size (.slice none 0 0) 0 [] (by rfl) (World.ownsRow_nil _ _ _ _) a3 l3 c3 mb (by rfl) (KI.out _ (by (with_reducible repeat (first | exact hu3 | exact hu2 | exact hu1 | exact hD | exact Below.refl _ _ | refine bD ?_ | refine bA ?_ _ | refine bS ?_ (by omega) _)); done)) (by omega) (by first | exact Nat.le_refl _ | (simp; done) | (simp; omega)) ?_; intro a6 c6 u1 own1 gr1 at1; have hu1 : Below X.heap.size X u1 := bG (by (with_reducible repeat (first | exact hu3 | exact hu2 | exact hu1 | exact hD | exact Below.refl _ _ | refine bD ?_ | refine bA ?_ _ | refine bS ?_ (by omega) _)); done) gr1 (fun k hk => by cases hk); have kt := fun (q : Nat) (v : Value) hh => gr1.cell (a := ⟨q, 0, none⟩) (v := v) hh (by simp [Value.ownBlock]); have z1 : X.heap.size ≤ u1.heap.size := hu1.size; (first | (have bx1 : BoxN u1 X.heap.size 8 [.int .i64 0, .int .i64 0, .int .i64 0, .int .i64 0, .int .i64 0, .int .i64 0, .bool false, .slice none 0 0] := (boxn_new X.drew #[.int .i64 0, .int .i64 0, .int .i64 0, .int .i64 0, .int .i64 0, .int .i64 0, .bool false, .slice none 0 0] 46 8 rfl).grown gr1 (by simp [Value.ownBlock]); have nb1 : some X.heap.size ≠ (Value.slice a6 (0 + l3) c6).ownBlock := (by rcases at1 with hh | hh <;> rw [hh] <;> simp [Value.ownBlock] <;> omega)) | (have bx1 : BoxN u1 X.heap.size 8 [.int .i64 0, .int .i64 0, .int .i64 0, .int .i64 0, .int .i64 0, .int .i64 0, .bool false, .slice none 0 0] := ((boxn_new X.drew #[.int .i64 0, .int .i64 0, .int .i64 0, .int .i64 0, .int .i64 0, .int .i64 0, .bool false, .slice none 0 0] 46 8 rfl).below ((Below.refl _ _).alloc (Nat.le_refl _) _) (by simp)).grown gr1 (by simp [Value.ownBlock]); have nb1 : some X.heap.size ≠ (Value.slice a6 (0 + l3) c6).ownBlock := (by rcases at1 with hh | hh <;> rw [hh] <;> simp [Value.ownBlock] <;> omega)) | (have bx1 : BoxN u1 (X.heap.size + 1) 8 [.int .i64 0, .int .i64 0, .int .i64 0, .int .i64 0, .int .i64 0, .int .i64 0, .bool false, .slice none 0 0] := (by have hbx := (boxn_new (X.drew.alloc _) #[.int .i64 0, .int .i64 0, .int .i64 0, .int .i64 0, .int .i64 0, .int .i64 0, .bool false, .slice none 0 0] 46 8 rfl).grown gr1 (by simp [Value.ownBlock]); simpa using hbx); have nb1 : some (X.heap.size + 1) ≠ (Value.slice a6 (0 + l3) c6).ownBlock := (by rcases at1 with hh | hh <;> rw [hh] <;> simp [Value.ownBlock] <;> omega)) | skip); simp only [Nat.zero_add, List.nil_append] at own1 ⊢; (try simp only [Nat.zero_add] at nb1)))
        | ((refine step_append_bytes (by rfl) (.tmp 42) (.tmp 44) (by rfl) X.heap.size (.slice a6 l3 c6) l3 mb (by rfl) (by first | exact own1 | exact own1.alloc _ | exact (own1.alloc _).alloc _) _ 1 1 [tail] (by rfl) (by first | exact isB_one _ tail t0 t1 | (refine isB_cell t0 t1 ?_; go_simp; done) | (refine isB_cell t0 t1 (kt _ _ ?_); go_simp; done) | (refine (isB_cell t0 t1 (kt _ _ ?_)).below ((Below.refl _ _).alloc (Nat.le_refl _) _); go_simp; done) | exact (isB_one _ tail t0 t1).below ((Below.refl _ _).alloc (Nat.le_refl _) _)) (by omega) (by first | exact z1 | (simp; omega)) ?_; intro a7 c7 u2 own2 gr2 at2; have hu2 : Below X.heap.size X u2 := bG (by (with_reducible repeat (first | exact hu3 | exact hu2 | exact hu1 | exact hD | exact Below.refl _ _ | refine bD ?_ | refine bA ?_ _ | refine bS ?_ (by omega) _)); done) gr2 (fun k hk => (own1.lt k hk).1); have z2 : X.heap.size ≤ u2.heap.size := hu2.size; obtain ⟨hI2, hge2⟩ := isB_slice own2 (Byt.app HI5.out.2.2.2.1 (fun x hx => by simp at hx; omega)); have hlt2 : ∀ b off, a7 = some ⟨b, off, none⟩ → b < u2.heap.size := fun b off e => isB_lt hI2 b off (by omega) e; (first | have bx2 := bx1.grown gr2 nb1 | have bx2 := (bx1.below ((Below.refl _ _).alloc (Nat.le_refl _) _) bx1.lt).grown gr2 nb1 | have bx2 : BoxN u2 u1.heap.size 8 [.int .i64 0, .int .i64 0, .int .i64 0, .int .i64 0, .int .i64 0, .int .i64 0, .bool false, .slice none 0 0] := (boxn_new u1 #[.int .i64 0, .int .i64 0, .int .i64 0, .int .i64 0, .int .i64 0, .int .i64 0, .bool false, .slice none 0 0] 46 8 rfl).grown gr2 (by intro e; have hq := (own1.lt _ e.symm).2; first | omega | (simp at hq; omega)) | have bx2 : BoxN u2 u1.heap.size 8 [.int .i64 0, .int .i64 0, .int .i64 0, .int .i64 0, .int .i64 0, .int .i64 0, .bool false, .slice none 0 0] := ((boxn_new u1 #[.int .i64 0, .int .i64 0, .int .i64 0, .int .i64 0, .int .i64 0, .int .i64 0, .bool false, .slice none 0 0] 46 8 rfl).below ((Below.refl _ _).alloc (Nat.le_refl _) _) (by simp)).grown gr2 (by intro e; have hq := (own1.lt _ e.symm).2; first | omega | (simp at hq; omega)) | have bx2 : BoxN u2 (u1.heap.size + 1) 8 [.int .i64 0, .int .i64 0, .int .i64 0, .int .i64 0, .int .i64 0, .int .i64 0, .bool false, .slice none 0 0] := (by have hbx := (boxn_new (u1.alloc _) #[.int .i64 0, .int .i64 0, .int .i64 0, .int .i64 0, .int .i64 0, .int .i64 0, .bool false, .slice none 0 0] 46 8 rfl).grown gr2 (by intro e; have hq := (own1.lt _ e.symm).2; first | omega | (simp at hq; omega)); simpa using hbx) | skip)))
        | ((go_at_call 17; refine (hDec2 a7 (l3 + 1) c7 _ (KL.out _ (bT bX (by (with_reducible repeat (first | exact hu3 | exact hu2 | exact hu1 | exact hD | exact Below.refl _ _ | refine bD ?_ | refine bA ?_ _ | refine bS ?_ (by omega) _)); done))) (by first | exact hI2 | exact hI2.below ((Below.refl _ _).alloc (Nat.le_refl _) _)) (by first | exact hlt2 | exact fun b off e => Nat.lt_of_lt_of_le (hlt2 b off e) (by simp)) (KM.out _ (bT bX (by (with_reducible repeat (first | exact hu3 | exact hu2 | exact hu1 | exact hD | exact Below.refl _ _ | refine bD ?_ | refine bA ?_ _ | refine bS ?_ (by omega) _)); done))) (KT.out _ (bT bX (by (with_reducible repeat (first | exact hu3 | exact hu2 | exact hu1 | exact hD | exact Below.refl _ _ | refine bD ?_ | refine bA ?_ _ | refine bS ?_ (by omega) _)); done))) (KW.out _ (bT bX (by (with_reducible repeat (first | exact hu3 | exact hu2 | exact hu1 | exact hD | exact Below.refl _ _ | refine bD ?_ | refine bA ?_ _ | refine bS ?_ (by omega) _)); done)))).mono ?_; rintro e u3 ⟨sa5, sc5, rfl, hI5', hf5, hb3'⟩; have hu3 : Below X.heap.size X u3 := bT (by (with_reducible repeat (first | exact hu2 | exact hu1 | exact hD | exact Below.refl _ _ | refine bD ?_ | refine bA ?_ _ | refine bS ?_ (by omega) _)); done) hb3'; have z3 : X.heap.size ≤ u3.heap.size := hu3.size; (first | (have bx3 := bx2.below hb3' bx2.lt; have s0 : _ = some (Value.int .i64 0) := (bx3.c 0 (by omega)).1; have g0 := (bx3.c 0 (by omega)).2; have s1 : _ = some (Value.int .i64 0) := (bx3.c 1 (by omega)).1; have g1 := (bx3.c 1 (by omega)).2; have s2 : _ = some (Value.int .i64 0) := (bx3.c 2 (by omega)).1; have g2 := (bx3.c 2 (by omega)).2; have s3 : _ = some (Value.int .i64 0) := (bx3.c 3 (by omega)).1; have g3 := (bx3.c 3 (by omega)).2; have s4 : _ = some (Value.int .i64 0) := (bx3.c 4 (by omega)).1; have g4 := (bx3.c 4 (by omega)).2; have s5 : _ = some (Value.int .i64 0) := (bx3.c 5 (by omega)).1; have g5 := (bx3.c 5 (by omega)).2; have s6 : _ = some (Value.bool false) := (bx3.c 6 (by omega)).1; have g6 := (bx3.c 6 (by omega)).2; have s7 : _ = some (Value.slice none 0 0) := (bx3.c 7 (by omega)).1; have g7 := (bx3.c 7 (by omega)).2) | (have bx3 : BoxN u3 u2.heap.size 8 [.int .i64 0, .int .i64 0, .int .i64 0, .int .i64 0, .int .i64 0, .int .i64 0, .bool false, .slice none 0 0] := (boxn_new u2 #[.int .i64 0, .int .i64 0, .int .i64 0, .int .i64 0, .int .i64 0, .int .i64 0, .bool false, .slice none 0 0] 46 8 rfl).below hb3' (by simp); have s0 : _ = some (Value.int .i64 0) := (bx3.c 0 (by omega)).1; have g0 := (bx3.c 0 (by omega)).2; have s1 : _ = some (Value.int .i64 0) := (bx3.c 1 (by omega)).1; have g1 := (bx3.c 1 (by omega)).2; have s2 : _ = some (Value.int .i64 0) := (bx3.c 2 (by omega)).1; have g2 := (bx3.c 2 (by omega)).2; have s3 : _ = some (Value.int .i64 0) := (bx3.c 3 (by omega)).1; have g3 := (bx3.c 3 (by omega)).2; have s4 : _ = some (Value.int .i64 0) := (bx3.c 4 (by omega)).1; have g4 := (bx3.c 4 (by omega)).2; have s5 : _ = some (Value.int .i64 0) := (bx3.c 5 (by omega)).1; have g5 := (bx3.c 5 (by omega)).2; have s6 : _ = some (Value.bool false) := (bx3.c 6 (by omega)).1; have g6 := (bx3.c 6 (by omega)).2; have s7 : _ = some (Value.slice none 0 0) := (bx3.c 7 (by omega)).1; have g7 := (bx3.c 7 (by omega)).2) | skip))))
    all_goals
      go_wp2_with fail
      go_meet
      case rel => exact ⟨rfl, (by (with_reducible repeat (first | exact hu3 | refine bD ?_ | refine bA ?_ _ | refine bS ?_ (by omega) _)); done)⟩
  case rest =>
    obtain ⟨rfl, hbc⟩ := hcut
    obtain ⟨Y, eY⟩ : ∃ Y, Y = wc := ⟨_, rfl⟩
    rw [← eY] at hbc ⊢
    clear eY
    have bY := bT bX hbc
    have x1 : ¬ (l3 : Int) < 1 := by omega
    have x2 : (1 : Int) < (l3 : Int) := by omega
    have x3 : ¬ (l3 : Int) ≤ 1 := by omega
    have x4 : (1 : Int) ≤ (l3 : Int) := by omega
    have l3c : l3 ≤ c3 := HI5.out.2.1
    have hlt3 : ∀ b off, a3 = some ⟨b, off, none⟩ → b < Y.heap.size := fun b off e => Nat.lt_of_lt_of_le (hltX b off e) hbc.size
    have hpk := fun w' => picked_any at' (l3 : Int) w' hat' (by omega) (by omega)
    have pb := pk_bd at' (l3 : Int) (by omega)
    obtain ⟨j, ej⟩ : ∃ j : Nat, pk at' (l3 : Int) = j := ⟨(pk at' (l3 : Int)).toNat, by omega⟩
    rw [ej] at hpk pb
    clear ej
    have hjl : j < l3 := by omega
    have hjm : j < mb.length := by have := HI5.out.1; omega
    have hjc : j ≤ c3 := by omega
    have hjc' : (j : Int) ≤ (c3 : Int) := by omega
    have hDj := hDec3.out j hjm a3 j c3
    simp only [DecRPost, RcV.val, RcV.zero] at hDj
    have hIj := (HI5.out.below hbc).take j c3 (by omega) hjc (Nat.le_refl _)
    have KJ : Hid (∀ U : World, Below Y.heap.size Y U → IsB U a3 j c3 (mb.take j)) := fun U hU => hIj.below hU
    have KY : Hid (∀ U : World, Below Y.heap.size Y U → U.cell? ⟨w1.heap.size, 0, none⟩ = some (.int .i64 S) ∧ U.cell? ⟨w1.heap.size, 1, none⟩ = some (.slice (some ⟨g, 0, none⟩) n cp) ∧ U.cell? ⟨w1.heap.size, 2, none⟩ = some (.int .i64 P)) := fun U hU => KC.out U (bT bY hU)
    clear q0 q1 q2
    obtain ⟨q0, q1, q2⟩ := KC.out _ bY
    have hDY : Below Y.heap.size Y Y.drew := (Below.refl _ _).drew
    have mbY := mbX.below hbc mbX.lt
    have xbY := xbX.below hbc xbX.lt
    clear hIj hjm hDec2 hDec1 hCW mbX xbX
    go_upto_region 6 with (fail)
    go_cut [20] (fun s20 wc => s20 = .int .i64 5 ∧ Below Y.heap.size Y wc)
    case first =>
      go_region_held3 (fun U => U.cell? ⟨w1.heap.size, 0, none⟩ = some (.int .i64 S) ∧ U.cell? ⟨w1.heap.size, 1, none⟩ = some (.slice (some ⟨g, 0, none⟩) n cp) ∧ U.cell? ⟨w1.heap.size, 2, none⟩ = some (.int .i64 P))
        (exact KY.out _ (by (with_reducible repeat (first | exact hu3 | exact hDY | exact Below.refl _ _ | refine bD ?_ | refine bA ?_ _ | refine bS ?_ (by omega) _)); done))
        (first
          | ((go_at_call 14; refine (hpk _).mono ?_; rintro e v ⟨rfl, hv⟩; rw [hv]; clear hv v))
          | ((go_at_call 17; refine (hDj _ (KL.out _ (bT bY (by (with_reducible repeat (first | exact hDY | exact Below.refl _ _ | refine bD ?_ | refine bA ?_ _ | refine bS ?_ (by omega) _)); done))) (KJ.out _ (by (with_reducible repeat (first | exact hDY | exact Below.refl _ _ | refine bD ?_ | refine bA ?_ _ | refine bS ?_ (by omega) _)); done)) (by first | exact hlt3 | exact fun b off e => Nat.lt_of_lt_of_le (hlt3 b off e) (by simp)) (KM.out _ (bT bY (by (with_reducible repeat (first | exact hDY | exact Below.refl _ _ | refine bD ?_ | refine bA ?_ _ | refine bS ?_ (by omega) _)); done))) (KT.out _ (bT bY (by (with_reducible repeat (first | exact hDY | exact Below.refl _ _ | refine bD ?_ | refine bA ?_ _ | refine bS ?_ (by omega) _)); done))) (KW.out _ (bT bY (by (with_reducible repeat (first | exact hDY | exact Below.refl _ _ | refine bD ?_ | refine bA ?_ _ | refine bS ?_ (by omega) _)); done)))).mono ?_; rintro e u3 ⟨sa5, sc5, rfl, hI5', hf5, hb3'⟩; have hu3 : Below Y.heap.size Y u3 := bT (by (with_reducible repeat (first | exact hDY | exact Below.refl _ _ | refine bD ?_ | refine bA ?_ _ | refine bS ?_ (by omega) _)); done) hb3'; have z3 : Y.heap.size ≤ u3.heap.size := hu3.size; (first | (have bx3 : BoxN u3 Y.heap.size 8 [.int .i64 0, .int .i64 0, .int .i64 0, .int .i64 0, .int .i64 0, .int .i64 0, .bool false, .slice none 0 0] := (boxn_new Y.drew #[.int .i64 0, .int .i64 0, .int .i64 0, .int .i64 0, .int .i64 0, .int .i64 0, .bool false, .slice none 0 0] 46 8 rfl).below hb3' (by simp); have s0 : _ = some (Value.int .i64 0) := (bx3.c 0 (by omega)).1; have g0 := (bx3.c 0 (by omega)).2; have s1 : _ = some (Value.int .i64 0) := (bx3.c 1 (by omega)).1; have g1 := (bx3.c 1 (by omega)).2; have s2 : _ = some (Value.int .i64 0) := (bx3.c 2 (by omega)).1; have g2 := (bx3.c 2 (by omega)).2; have s3 : _ = some (Value.int .i64 0) := (bx3.c 3 (by omega)).1; have g3 := (bx3.c 3 (by omega)).2; have s4 : _ = some (Value.int .i64 0) := (bx3.c 4 (by omega)).1; have g4 := (bx3.c 4 (by omega)).2; have s5 : _ = some (Value.int .i64 0) := (bx3.c 5 (by omega)).1; have g5 := (bx3.c 5 (by omega)).2; have s6 : _ = some (Value.bool false) := (bx3.c 6 (by omega)).1; have g6 := (bx3.c 6 (by omega)).2; have s7 : _ = some (Value.slice none 0 0) := (bx3.c 7 (by omega)).1; have g7 := (bx3.c 7 (by omega)).2) | (have bx3 : BoxN u3 Y.heap.size 8 [.int .i64 0, .int .i64 0, .int .i64 0, .int .i64 0, .int .i64 0, .int .i64 0, .bool false, .slice none 0 0] := (boxn_new Y #[.int .i64 0, .int .i64 0, .int .i64 0, .int .i64 0, .int .i64 0, .int .i64 0, .bool false, .slice none 0 0] 46 8 rfl).below hb3' (by simp); have s0 : _ = some (Value.int .i64 0) := (bx3.c 0 (by omega)).1; have g0 := (bx3.c 0 (by omega)).2; have s1 : _ = some (Value.int .i64 0) := (bx3.c 1 (by omega)).1; have g1 := (bx3.c 1 (by omega)).2; have s2 : _ = some (Value.int .i64 0) := (bx3.c 2 (by omega)).1; have g2 := (bx3.c 2 (by omega)).2; have s3 : _ = some (Value.int .i64 0) := (bx3.c 3 (by omega)).1; have g3 := (bx3.c 3 (by omega)).2; have s4 : _ = some (Value.int .i64 0) := (bx3.c 4 (by omega)).1; have g4 := (bx3.c 4 (by omega)).2; have s5 : _ = some (Value.int .i64 0) := (bx3.c 5 (by omega)).1; have g5 := (bx3.c 5 (by omega)).2; have s6 : _ = some (Value.bool false) := (bx3.c 6 (by omega)).1; have g6 := (bx3.c 6 (by omega)).2; have s7 : _ = some (Value.slice none 0 0) := (bx3.c 7 (by omega)).1; have g7 := (bx3.c 7 (by omega)).2) | skip))))
      all_goals
        go_wp2_with fail
        go_meet
        case rel => exact ⟨rfl, (by (with_reducible repeat (first | exact hu3 | exact hDY | exact Below.refl _ _ | refine bD ?_ | refine bA ?_ _ | refine bS ?_ (by omega) _)); done)⟩
    case rest =>
      obtain ⟨rfl, hbd⟩ := hcut
      have bF := bT bY hbd
      have mbF := mbY.below hbd mbY.lt
      have xbF := xbY.below hbd xbY.lt
      have hXF : Below X.heap.size X wc := bT hbc hbd
      have hSm := sameRecord_any kind site num key value ask yes sa sa4 sl sc sc4 sites wc (HI1.out.below hXF) (HI2.out.below hXF)
      clear mbY xbY
      have m0 : wc.cell? ⟨w2.heap.size, 0, none⟩ = some (.int .i64 kind) := (mbF.c 0 (by omega)).1
      have m1 : wc.cell? ⟨w2.heap.size, 1, none⟩ = some (.int .i64 site) := (mbF.c 1 (by omega)).1
      have m2 : wc.cell? ⟨w2.heap.size, 2, none⟩ = some (.int .i64 num) := (mbF.c 2 (by omega)).1
      have m3 : wc.cell? ⟨w2.heap.size, 3, none⟩ = some (.int .i64 key) := (mbF.c 3 (by omega)).1
      have m4 : wc.cell? ⟨w2.heap.size, 4, none⟩ = some (.int .i64 value) := (mbF.c 4 (by omega)).1
      have m5 : wc.cell? ⟨w2.heap.size, 5, none⟩ = some (.int .i64 ask) := (mbF.c 5 (by omega)).1
      have m6 : wc.cell? ⟨w2.heap.size, 6, none⟩ = some (.bool yes) := (mbF.c 6 (by omega)).1
      have m7 : wc.cell? ⟨w2.heap.size, 7, none⟩ = some (.slice sa sl sc) := (mbF.c 7 (by omega)).1
      have y0 : wc.cell? ⟨w4.heap.size, 0, none⟩ = some (.int .i64 kind) := (xbF.c 0 (by omega)).1
      have y1 : wc.cell? ⟨w4.heap.size, 1, none⟩ = some (.int .i64 site) := (xbF.c 1 (by omega)).1
      have y2 : wc.cell? ⟨w4.heap.size, 2, none⟩ = some (.int .i64 num) := (xbF.c 2 (by omega)).1
      have y3 : wc.cell? ⟨w4.heap.size, 3, none⟩ = some (.int .i64 key) := (xbF.c 3 (by omega)).1
      have y4 : wc.cell? ⟨w4.heap.size, 4, none⟩ = some (.int .i64 value) := (xbF.c 4 (by omega)).1
      have y5 : wc.cell? ⟨w4.heap.size, 5, none⟩ = some (.int .i64 ask) := (xbF.c 5 (by omega)).1
      have y6 : wc.cell? ⟨w4.heap.size, 6, none⟩ = some (.bool yes) := (xbF.c 6 (by omega)).1
      have y7 : wc.cell? ⟨w4.heap.size, 7, none⟩ = some (.slice sa4 sl sc4) := (xbF.c 7 (by omega)).1
      clear mbF xbF
      go_wp2_with (go_at_call 18; refine hSm.mono ?_; rintro e u ⟨rfl, hbu⟩)
      go_ret
      exact ⟨rfl, KB.out _ (bT bF hbu)⟩
end Go.Proofs.YtacmafecjcldfaaDoor
