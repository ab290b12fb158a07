/- The law MessageBack at every argument. -/
import Derived.Test.YtacmafecjcldfaaDoorKCfg
import Derived.Test.YtacmafecjcldfaaDoorWMsgOf
import Derived.Test.YtacmafecjcldfaaDoorWEncR
import Derived.Test.YtacmafecjcldfaaDoorWDecodeM
import Derived.Deep.DeepCutAuto
import Derived.Deep.CutBlock
namespace Go.Proofs.YtacmafecjcldfaaDoor
open Go.ChangeShapes Go.WideShapes Go.ChangeAt Go.RowKit
set_option linter.unusedVariables false

theorem isB_lt' {w : World} {a : Option Addr} {len cap : Nat} {bs : List Int} (h : IsB w a len cap bs) (hp : 7 ≤ bs.length) : ∀ b off, a = some ⟨b, off, none⟩ → b < w.heap.size :=
  fun b off e => isB_lt h b off (by have := h.1; omega) e

theorem msgBytes_le (m : MV) : (msgBytes m).length ≤ 22 := by
  have := encParts_len (mHasOf m.kind) widL m.parts
  rw [show widthL widL = 15 from rfl] at this
  simp [msgBytes, be_len]
  omega

set_option maxRecDepth 100000 in
set_option maxHeartbeats 4000000 in
theorem messageBack_walk (s : Int) (a : Option Addr) (len cap : Nat) (zs : List Int) (r : RV) (tail : Int) (w : World) (hs : (Lit.int .i64 s).wf = true) (h : IsInts w a len cap zs) (hr : r.ok) (htl : 0 ≤ tail ∧ tail < 256) (hm : HasAt w 0 mHas) (hwd : WidsAt w) (ht : TopsAt w) :
    Calls Tryd.prog 3 #[.int .i64 s, .slice a len cap, r.val, .int .u8 tail] w fun e w' => e = .returned (.bool true) ∧ Below w.heap.size w w' := by
  have hs' := i64_bd hs
  obtain ⟨kd, ra, rb, rc, rd, re⟩ := r
  obtain ⟨hkd, hra, hrb, hrc, hrd, hre⟩ := hr
  simp only [RV.val]
  have hgT : 3 < w.heap.size := World.block_lt_of_cell? w _ ht.1
  have hgM : 0 < w.heap.size := hm.lt (by decide)
  have hgW : 2 < w.heap.size := hwd.lt
  have hCfg := fun w' h' => cfg_good s a len cap zs w' hs' h'
  obtain ⟨W0, hW0⟩ : ∃ W0 : World, W0 = w.alloc (.cells #[.int .i64 kd, .int .i64 ra, .int .i64 rb, .int .i64 rc, .int .i64 rd, .int .i64 re] 24) := ⟨_, rfl⟩
  have hB0 : Below w.heap.size w W0 := by rw [hW0]; exact (Below.refl _ _).alloc (Nat.le_refl _) _
  have zW0 : W0.heap.size = w.heap.size + 1 := by rw [hW0]; simp
  have d0 : W0.cell? ⟨w.heap.size, 0, none⟩ = some (.int .i64 kd) := by rw [hW0]; go_simp
  have d1 : W0.cell? ⟨w.heap.size, 1, none⟩ = some (.int .i64 ra) := by rw [hW0]; go_simp
  have d2 : W0.cell? ⟨w.heap.size, 2, none⟩ = some (.int .i64 rb) := by rw [hW0]; go_simp
  have d3 : W0.cell? ⟨w.heap.size, 3, none⟩ = some (.int .i64 rc) := by rw [hW0]; go_simp
  have d4 : W0.cell? ⟨w.heap.size, 4, none⟩ = some (.int .i64 rd) := by rw [hW0]; go_simp
  have d5 : W0.cell? ⟨w.heap.size, 5, none⟩ = some (.int .i64 re) := by rw [hW0]; go_simp
  have h0 := h.below hB0
  go_enter Tryd.func3, Tryd.ntmps3
  go_upto_region 1 with (fail)
  rw [← hW0]
  clear hW0
  go_upto_region 2 with (go_at_call 9; refine (hCfg _ h0).mono ?_; rintro e w1 ⟨S, P, g, n, cp, L, rfl, hC1, hb1⟩)
  obtain ⟨W, hW⟩ : ∃ W : World, W = w1.alloc (.cells #[.int .i64 S, .slice (some ⟨g, 0, none⟩) n cp, .int .i64 P] 27) := ⟨_, rfl⟩
  have zW : W.heap.size = w1.heap.size + 1 := by rw [hW]; simp
  have c0 : W.cell? ⟨w1.heap.size, 0, none⟩ = some (.int .i64 S) := by rw [hW]; go_simp
  have c1 : W.cell? ⟨w1.heap.size, 1, none⟩ = some (.slice (some ⟨g, 0, none⟩) n cp) := by rw [hW]; go_simp
  have c2 : W.cell? ⟨w1.heap.size, 2, none⟩ = some (.int .i64 P) := by rw [hW]; go_simp
  have hBW : Below w1.heap.size w1 W := by rw [hW]; exact (Below.refl _ _).alloc (Nat.le_refl _) _
  rw [← hW]
  clear hW
  have hCW := hC1.below hBW
  have hb1' : Below W0.heap.size W0 W := hb1.trans (hBW.mono hb1.size)
  have hBw : Below w.heap.size w W := hB0.trans (hb1'.mono hB0.size)
  have z01 := hb1.size
  have k0 : W.cell? ⟨w.heap.size, 0, none⟩ = some (.int .i64 kd) := (hb1'.cell (p := ⟨w.heap.size, 0, none⟩) (by show w.heap.size < _; omega)).trans d0
  have k1 : W.cell? ⟨w.heap.size, 1, none⟩ = some (.int .i64 ra) := (hb1'.cell (p := ⟨w.heap.size, 1, none⟩) (by show w.heap.size < _; omega)).trans d1
  have k2 : W.cell? ⟨w.heap.size, 2, none⟩ = some (.int .i64 rb) := (hb1'.cell (p := ⟨w.heap.size, 2, none⟩) (by show w.heap.size < _; omega)).trans d2
  have k3 : W.cell? ⟨w.heap.size, 3, none⟩ = some (.int .i64 rc) := (hb1'.cell (p := ⟨w.heap.size, 3, none⟩) (by show w.heap.size < _; omega)).trans d3
  have k4 : W.cell? ⟨w.heap.size, 4, none⟩ = some (.int .i64 rd) := (hb1'.cell (p := ⟨w.heap.size, 4, none⟩) (by show w.heap.size < _; omega)).trans d4
  have k5 : W.cell? ⟨w.heap.size, 5, none⟩ = some (.int .i64 re) := (hb1'.cell (p := ⟨w.heap.size, 5, none⟩) (by show w.heap.size < _; omega)).trans d5
  clear d0 d1 d2 d3 d4 d5 h0 hCfg hC1 hBW hb1 hb1'
  go_upto_region 3 with (go_at_call 10; refine (msg_good S P g n cp L kd ra rb rc rd re _ hCW hkd hra hrb hrc hrd hre).mono ?_; rintro e w2 ⟨⟨kind, frm, dst, site, num, label, key, value, version, ask, yes, code⟩, rfl, hm0, hb2⟩; simp only [MV.val])
  have hEnc := fun w' h1 h2 h3 h4 => encodeMessage_any S P (some ⟨g, 0, none⟩) n cp L ⟨kind, frm, dst, site, num, label, key, value, version, ask, yes, code⟩ w' h1 h2 h3 h4
  have hDec := fun ba bl bc bs w' h1 h2 h3 h4 h5 h6 => decodeMessage_any S P (some ⟨g, 0, none⟩) n cp L ba bl bc bs w' h1 h2 h3 h4 h5 h6
  have hChk := fun w' h1 h2 h3 => checkMessage_any S P (some ⟨g, 0, none⟩) n cp L ⟨kind, frm, dst, site, num, label, key, value, version, ask, yes, code⟩ w' h1 h2 h3
  have eBack := msgOf_back hm0
  have eMore := msgOf_more hm0 tail
  have hbu := msgBytes_le ⟨kind, frm, dst, site, num, label, key, value, version, ask, yes, code⟩
  have hbl : 7 ≤ (msgBytes ⟨kind, frm, dst, site, num, label, key, value, version, ask, yes, code⟩).length := msgBytes_pos ⟨kind, frm, dst, site, num, label, key, value, version, ask, yes, code⟩
  have hDec1 := fun ba bl bc w' h1 h2 h3 h4 h5 h6 => hDec ba bl bc (msgBytes ⟨kind, frm, dst, site, num, label, key, value, version, ask, yes, code⟩) w' h1 h2 h3 h4 h5 h6
  have hDec2 := fun ba bl bc w' h1 h2 h3 h4 h5 h6 => hDec ba bl bc (msgBytes ⟨kind, frm, dst, site, num, label, key, value, version, ask, yes, code⟩ ++ [tail]) w' h1 h2 h3 h4 h5 h6
  rw [hm0] at hEnc hChk
  rw [eBack] at hDec1
  rw [eMore] at hDec2
  simp only [if_true] at hEnc
  obtain ⟨mb, emb⟩ : ∃ x, x = msgBytes ⟨kind, frm, dst, site, num, label, key, value, version, ask, yes, code⟩ := ⟨_, rfl⟩
  rw [← emb] at hEnc hDec1 hDec2 hbl hbu
  clear emb eBack eMore hDec hm0
  simp only [MV.val, MV.zero] at hEnc hDec1 hDec2 hChk
  obtain ⟨V, hV⟩ : ∃ V : World, V = w2.alloc (.cells #[.int .i64 kind, .int .i64 frm, .int .i64 dst, .int .i64 site, .int .i64 num, .int .i64 label, .int .i64 key, .int .i64 value, .int .i64 version, .int .i64 ask, .bool yes, .int .i64 code] 33) := ⟨_, rfl⟩
  have mbV : BoxN V w2.heap.size 12 [.int .i64 kind, .int .i64 frm, .int .i64 dst, .int .i64 site, .int .i64 num, .int .i64 label, .int .i64 key, .int .i64 value, .int .i64 version, .int .i64 ask, .bool yes, .int .i64 code] := by rw [hV]; simpa using boxn_new w2 #[.int .i64 kind, .int .i64 frm, .int .i64 dst, .int .i64 site, .int .i64 num, .int .i64 label, .int .i64 key, .int .i64 value, .int .i64 version, .int .i64 ask, .bool yes, .int .i64 code] 33 12 rfl
  have bV : Below W.heap.size W V := by rw [hV]; exact bA hb2 _
  rw [← hV]
  clear hV
  have KC : Hid (∀ U : World, Below W.heap.size W U → U.cell? ⟨w1.heap.size, 0, none⟩ = some (.int .i64 S) ∧ U.cell? ⟨w1.heap.size, 1, none⟩ = some (.slice (some ⟨g, 0, none⟩) n cp) ∧ U.cell? ⟨w1.heap.size, 2, none⟩ = some (.int .i64 P)) := by
    intro U hU
    exact ⟨(hU.cell (p := ⟨w1.heap.size, 0, none⟩) (by show w1.heap.size < _; omega)).trans c0, (hU.cell (p := ⟨w1.heap.size, 1, none⟩) (by show w1.heap.size < _; omega)).trans c1, (hU.cell (p := ⟨w1.heap.size, 2, none⟩) (by show w1.heap.size < _; omega)).trans c2⟩
  have KL : Hid (∀ U : World, Below W.heap.size W U → IsLabs U (some ⟨g, 0, none⟩) n cp L) := fun U hU => hCW.labs.below hU
  have KB : Hid (∀ U : World, Below W.heap.size W U → Below w.heap.size w U) := fun U hU => hBw.trans (hU.mono hBw.size)
  have KM : Hid (∀ U : World, Below W.heap.size W U → HasAt U 0 mHas) := fun U hU => hm.below (KB.out U hU) hgM
  have KW : Hid (∀ U : World, Below W.heap.size W U → WidsAt U) := fun U hU => hwd.below (KB.out U hU) hgW
  have KT : Hid (∀ U : World, Below W.heap.size W U → TopsAt U) := fun U hU => ht.below (KB.out U hU) hgT
  clear c0 c1 c2 k0 k1 k2 k3 k4 k5
  obtain ⟨q0, q1, q2⟩ := KC.out _ bV
  have m0 : V.cell? ⟨w2.heap.size, 0, none⟩ = some (.int .i64 kind) := (mbV.c 0 (by omega)).1
  have m1 : V.cell? ⟨w2.heap.size, 1, none⟩ = some (.int .i64 frm) := (mbV.c 1 (by omega)).1
  have m2 : V.cell? ⟨w2.heap.size, 2, none⟩ = some (.int .i64 dst) := (mbV.c 2 (by omega)).1
  have m3 : V.cell? ⟨w2.heap.size, 3, none⟩ = some (.int .i64 site) := (mbV.c 3 (by omega)).1
  have m4 : V.cell? ⟨w2.heap.size, 4, none⟩ = some (.int .i64 num) := (mbV.c 4 (by omega)).1
  have m5 : V.cell? ⟨w2.heap.size, 5, none⟩ = some (.int .i64 label) := (mbV.c 5 (by omega)).1
  have m6 : V.cell? ⟨w2.heap.size, 6, none⟩ = some (.int .i64 key) := (mbV.c 6 (by omega)).1
  have m7 : V.cell? ⟨w2.heap.size, 7, none⟩ = some (.int .i64 value) := (mbV.c 7 (by omega)).1
  have m8 : V.cell? ⟨w2.heap.size, 8, none⟩ = some (.int .i64 version) := (mbV.c 8 (by omega)).1
  have m9 : V.cell? ⟨w2.heap.size, 9, none⟩ = some (.int .i64 ask) := (mbV.c 9 (by omega)).1
  have m10 : V.cell? ⟨w2.heap.size, 10, none⟩ = some (.bool yes) := (mbV.c 10 (by omega)).1
  have m11 : V.cell? ⟨w2.heap.size, 11, none⟩ = some (.int .i64 code) := (mbV.c 11 (by omega)).1
  go_upto_region 4 with (go_at_call 11; refine (hEnc _ (KL.out _ bV) (KM.out _ bV) (KT.out _ bV) (KW.out _ bV)).mono ?_; rintro e w3 ⟨a3, l3, c3, rfl, hI3, hge3, hb3⟩)
  have b3 := bT bV hb3
  have hlt3 : ∀ b off, a3 = some ⟨b, off, none⟩ → b < w3.heap.size := isB_lt' hI3 hbl
  clear q0 q1 q2 m0 m1 m2 m3 m4 m5 m6 m7 m8 m9 m10 m11
  obtain ⟨q0, q1, q2⟩ := KC.out _ b3
  go_upto_region 5 with (go_at_call 12; refine (hDec1 a3 l3 c3 _ (KL.out _ b3) hI3 hlt3 (KM.out _ b3) (KT.out _ b3) (KW.out _ b3)).mono ?_; rintro e w4 ⟨rfl, hb4⟩)
  have b4 := bT b3 hb4
  obtain ⟨X, hX⟩ : ∃ X : World, X = w4.alloc (.cells #[.int .i64 kind, .int .i64 frm, .int .i64 dst, .int .i64 site, .int .i64 num, .int .i64 label, .int .i64 key, .int .i64 value, .int .i64 version, .int .i64 ask, .bool yes, .int .i64 code] 33) := ⟨_, rfl⟩
  have xbX : BoxN X w4.heap.size 12 [.int .i64 kind, .int .i64 frm, .int .i64 dst, .int .i64 site, .int .i64 num, .int .i64 label, .int .i64 key, .int .i64 value, .int .i64 version, .int .i64 ask, .bool yes, .int .i64 code] := by rw [hX]; simpa using boxn_new w4 #[.int .i64 kind, .int .i64 frm, .int .i64 dst, .int .i64 site, .int .i64 num, .int .i64 label, .int .i64 key, .int .i64 value, .int .i64 version, .int .i64 ask, .bool yes, .int .i64 code] 33 12 rfl
  have bX : Below W.heap.size W X := by rw [hX]; exact bA b4 _
  have b4X : Below w4.heap.size w4 X := by rw [hX]; exact (Below.refl _ _).alloc (Nat.le_refl _) _
  rw [← hX]
  clear hX q0 q1 q2
  have hb34 : Below w3.heap.size w3 X := hb4.trans (b4X.mono hb4.size)
  have hI5 := hI3.below hb34
  have mbX := (mbV.below hb3 mbV.lt).below hb34 (Nat.lt_of_lt_of_le mbV.lt hb3.size)
  have hVX : V.heap.size ≤ X.heap.size := Nat.le_trans hb3.size hb34.size
  clear hI3 mbV hb3 hb4 b4X hb34
  obtain ⟨q0, q1, q2⟩ := KC.out _ bX
  have KX : Hid (∀ U : World, Below X.heap.size X U → U.cell? ⟨w1.heap.size, 0, none⟩ = some (.int .i64 S) ∧ U.cell? ⟨w1.heap.size, 1, none⟩ = some (.slice (some ⟨g, 0, none⟩) n cp) ∧ U.cell? ⟨w1.heap.size, 2, none⟩ = some (.int .i64 P)) := fun U hU => KC.out U (bT bX hU)
  have KI : Hid (∀ U : World, Below X.heap.size X U → IsB U a3 l3 c3 mb) := fun U hU => hI5.below hU
  have hD : Below X.heap.size X X.drew := (Below.refl _ _).drew
  obtain ⟨t0, t1⟩ := htl
  have l3u : l3 ≤ 22 := by have := hI5.1; omega
  have l3l : 7 ≤ l3 := by have := hI5.1; omega
  have HI5 : Hid (IsB X a3 l3 c3 mb) := hI5
  clear hI5 hbl hbu
  go_cut [16] (fun s16 wc => s16 = .int .i64 4 ∧ Below X.heap.size X wc)
  case first =>
    go_region_held3 (fun U => U.cell? ⟨w1.heap.size, 0, none⟩ = some (.int .i64 S) ∧ U.cell? ⟨w1.heap.size, 1, none⟩ = some (.slice (some ⟨g, 0, none⟩) n cp) ∧ U.cell? ⟨w1.heap.size, 2, none⟩ = some (.int .i64 P))
      (exact KX.out _ (by (with_reducible repeat (first | exact hu3 | exact hu2 | exact hu1 | exact hD | exact Below.refl _ _ | refine bD ?_ | refine bA ?_ _ | refine bS ?_ (by omega) _)); done))
      (first
        | ((refine step_append_bytes (by rfl) (.const (.slice none 0 0)) (.tmp 37) (by rfl) X.heap.size (.slice none 0 0) 0 [] (by rfl) (World.ownsRow_nil _ _ _ _) a3 l3 c3 mb (by rfl) (KI.out _ (by (with_reducible repeat (first | exact hu3 | exact hu2 | exact hu1 | exact hD | exact Below.refl _ _ | refine bD ?_ | refine bA ?_ _ | refine bS ?_ (by omega) _)); done)) (by omega) (by first | exact Nat.le_refl _ | (simp; done) | (simp; omega)) ?_; intro a6 c6 u1 own1 gr1 at1; have hu1 : Below X.heap.size X u1 := bG (by (with_reducible repeat (first | exact hu3 | exact hu2 | exact hu1 | exact hD | exact Below.refl _ _ | refine bD ?_ | refine bA ?_ _ | refine bS ?_ (by omega) _)); done) gr1 (fun k hk => by cases hk); have kt := fun (q : Nat) (v : Value) hh => gr1.cell (a := ⟨q, 0, none⟩) (v := v) hh (by simp [Value.ownBlock]); have z1 : X.heap.size ≤ u1.heap.size := hu1.size; (first | (have bx1 : BoxN u1 X.heap.size 12 [.int .i64 0, .int .i64 0, .int .i64 0, .int .i64 0, .int .i64 0, .int .i64 0, .int .i64 0, .int .i64 0, .int .i64 0, .int .i64 0, .bool false, .int .i64 0] := (boxn_new X.drew #[.int .i64 0, .int .i64 0, .int .i64 0, .int .i64 0, .int .i64 0, .int .i64 0, .int .i64 0, .int .i64 0, .int .i64 0, .int .i64 0, .bool false, .int .i64 0] 33 12 rfl).grown gr1 (by simp [Value.ownBlock]); have nb1 : some X.heap.size ≠ (Value.slice a6 (0 + l3) c6).ownBlock := (by rcases at1 with hh | hh <;> rw [hh] <;> simp [Value.ownBlock] <;> omega)) | (have bx1 : BoxN u1 X.heap.size 12 [.int .i64 0, .int .i64 0, .int .i64 0, .int .i64 0, .int .i64 0, .int .i64 0, .int .i64 0, .int .i64 0, .int .i64 0, .int .i64 0, .bool false, .int .i64 0] := ((boxn_new X.drew #[.int .i64 0, .int .i64 0, .int .i64 0, .int .i64 0, .int .i64 0, .int .i64 0, .int .i64 0, .int .i64 0, .int .i64 0, .int .i64 0, .bool false, .int .i64 0] 33 12 rfl).below ((Below.refl _ _).alloc (Nat.le_refl _) _) (by simp)).grown gr1 (by simp [Value.ownBlock]); have nb1 : some X.heap.size ≠ (Value.slice a6 (0 + l3) c6).ownBlock := (by rcases at1 with hh | hh <;> rw [hh] <;> simp [Value.ownBlock] <;> omega)) | (have bx1 : BoxN u1 (X.heap.size + 1) 12 [.int .i64 0, .int .i64 0, .int .i64 0, .int .i64 0, .int .i64 0, .int .i64 0, .int .i64 0, .int .i64 0, .int .i64 0, .int .i64 0, .bool false, .int .i64 0] := (by have hbx := (boxn_new (X.drew.alloc _) #[.int .i64 0, .int .i64 0, .int .i64 0, .int .i64 0, .int .i64 0, .int .i64 0, .int .i64 0, .int .i64 0, .int .i64 0, .int .i64 0, .bool false, .int .i64 0] 33 12 rfl).grown gr1 (by simp [Value.ownBlock]); simpa using hbx); have nb1 : some (X.heap.size + 1) ≠ (Value.slice a6 (0 + l3) c6).ownBlock := (by rcases at1 with hh | hh <;> rw [hh] <;> simp [Value.ownBlock] <;> omega)) | skip); simp only [Nat.zero_add, List.nil_append] at own1 ⊢; (try simp only [Nat.zero_add] at nb1)))
        | ((refine step_append_bytes (by rfl) (.tmp 38) (.tmp 40) (by rfl) X.heap.size (.slice a6 l3 c6) l3 mb (by rfl) (by first | exact own1 | exact own1.alloc _ | exact (own1.alloc _).alloc _) _ 1 1 [tail] (by rfl) (by first | exact isB_one _ tail t0 t1 | (refine isB_cell t0 t1 ?_; go_simp; done) | (refine isB_cell t0 t1 (kt _ _ ?_); go_simp; done) | (refine (isB_cell t0 t1 (kt _ _ ?_)).below ((Below.refl _ _).alloc (Nat.le_refl _) _); go_simp; done) | exact (isB_one _ tail t0 t1).below ((Below.refl _ _).alloc (Nat.le_refl _) _)) (by omega) (by first | exact z1 | (simp; omega)) ?_; intro a7 c7 u2 own2 gr2 at2; have hu2 : Below X.heap.size X u2 := bG (by (with_reducible repeat (first | exact hu3 | exact hu2 | exact hu1 | exact hD | exact Below.refl _ _ | refine bD ?_ | refine bA ?_ _ | refine bS ?_ (by omega) _)); done) gr2 (fun k hk => (own1.lt k hk).1); have z2 : X.heap.size ≤ u2.heap.size := hu2.size; obtain ⟨hI2, hge2⟩ := isB_slice own2 (Byt.app HI5.out.2.2.2.1 (fun x hx => by simp at hx; omega)); have hlt2 : ∀ b off, a7 = some ⟨b, off, none⟩ → b < u2.heap.size := fun b off e => isB_lt hI2 b off (by omega) e; (first | have bx2 := bx1.grown gr2 nb1 | have bx2 := (bx1.below ((Below.refl _ _).alloc (Nat.le_refl _) _) bx1.lt).grown gr2 nb1 | have bx2 : BoxN u2 u1.heap.size 12 [.int .i64 0, .int .i64 0, .int .i64 0, .int .i64 0, .int .i64 0, .int .i64 0, .int .i64 0, .int .i64 0, .int .i64 0, .int .i64 0, .bool false, .int .i64 0] := (boxn_new u1 #[.int .i64 0, .int .i64 0, .int .i64 0, .int .i64 0, .int .i64 0, .int .i64 0, .int .i64 0, .int .i64 0, .int .i64 0, .int .i64 0, .bool false, .int .i64 0] 33 12 rfl).grown gr2 (by intro e; have hq := (own1.lt _ e.symm).2; first | omega | (simp at hq; omega)) | have bx2 : BoxN u2 u1.heap.size 12 [.int .i64 0, .int .i64 0, .int .i64 0, .int .i64 0, .int .i64 0, .int .i64 0, .int .i64 0, .int .i64 0, .int .i64 0, .int .i64 0, .bool false, .int .i64 0] := ((boxn_new u1 #[.int .i64 0, .int .i64 0, .int .i64 0, .int .i64 0, .int .i64 0, .int .i64 0, .int .i64 0, .int .i64 0, .int .i64 0, .int .i64 0, .bool false, .int .i64 0] 33 12 rfl).below ((Below.refl _ _).alloc (Nat.le_refl _) _) (by simp)).grown gr2 (by intro e; have hq := (own1.lt _ e.symm).2; first | omega | (simp at hq; omega)) | have bx2 : BoxN u2 (u1.heap.size + 1) 12 [.int .i64 0, .int .i64 0, .int .i64 0, .int .i64 0, .int .i64 0, .int .i64 0, .int .i64 0, .int .i64 0, .int .i64 0, .int .i64 0, .bool false, .int .i64 0] := (by have hbx := (boxn_new (u1.alloc _) #[.int .i64 0, .int .i64 0, .int .i64 0, .int .i64 0, .int .i64 0, .int .i64 0, .int .i64 0, .int .i64 0, .int .i64 0, .int .i64 0, .bool false, .int .i64 0] 33 12 rfl).grown gr2 (by intro e; have hq := (own1.lt _ e.symm).2; first | omega | (simp at hq; omega)); simpa using hbx) | skip)))
        | ((go_at_call 12; refine (hDec2 a7 (l3 + 1) c7 _ (KL.out _ (bT bX (by (with_reducible repeat (first | exact hu3 | exact hu2 | exact hu1 | exact hD | exact Below.refl _ _ | refine bD ?_ | refine bA ?_ _ | refine bS ?_ (by omega) _)); done))) (by first | exact hI2 | exact hI2.below ((Below.refl _ _).alloc (Nat.le_refl _) _)) (by first | exact hlt2 | exact fun b off e => Nat.lt_of_lt_of_le (hlt2 b off e) (by simp)) (KM.out _ (bT bX (by (with_reducible repeat (first | exact hu3 | exact hu2 | exact hu1 | exact hD | exact Below.refl _ _ | refine bD ?_ | refine bA ?_ _ | refine bS ?_ (by omega) _)); done))) (KT.out _ (bT bX (by (with_reducible repeat (first | exact hu3 | exact hu2 | exact hu1 | exact hD | exact Below.refl _ _ | refine bD ?_ | refine bA ?_ _ | refine bS ?_ (by omega) _)); done))) (KW.out _ (bT bX (by (with_reducible repeat (first | exact hu3 | exact hu2 | exact hu1 | exact hD | exact Below.refl _ _ | refine bD ?_ | refine bA ?_ _ | refine bS ?_ (by omega) _)); done)))).mono ?_; rintro e u3 ⟨rfl, hb3'⟩; have hu3 : Below X.heap.size X u3 := bT (by (with_reducible repeat (first | exact hu2 | exact hu1 | exact hD | exact Below.refl _ _ | refine bD ?_ | refine bA ?_ _ | refine bS ?_ (by omega) _)); done) hb3'; have z3 : X.heap.size ≤ u3.heap.size := hu3.size; (first | (have bx3 := bx2.below hb3' bx2.lt; have s0 : _ = some (Value.int .i64 0) := (bx3.c 0 (by omega)).1; have g0 := (bx3.c 0 (by omega)).2; have s1 : _ = some (Value.int .i64 0) := (bx3.c 1 (by omega)).1; have g1 := (bx3.c 1 (by omega)).2; have s2 : _ = some (Value.int .i64 0) := (bx3.c 2 (by omega)).1; have g2 := (bx3.c 2 (by omega)).2; have s3 : _ = some (Value.int .i64 0) := (bx3.c 3 (by omega)).1; have g3 := (bx3.c 3 (by omega)).2; have s4 : _ = some (Value.int .i64 0) := (bx3.c 4 (by omega)).1; have g4 := (bx3.c 4 (by omega)).2; have s5 : _ = some (Value.int .i64 0) := (bx3.c 5 (by omega)).1; have g5 := (bx3.c 5 (by omega)).2; have s6 : _ = some (Value.int .i64 0) := (bx3.c 6 (by omega)).1; have g6 := (bx3.c 6 (by omega)).2; have s7 : _ = some (Value.int .i64 0) := (bx3.c 7 (by omega)).1; have g7 := (bx3.c 7 (by omega)).2; have s8 : _ = some (Value.int .i64 0) := (bx3.c 8 (by omega)).1; have g8 := (bx3.c 8 (by omega)).2; have s9 : _ = some (Value.int .i64 0) := (bx3.c 9 (by omega)).1; have g9 := (bx3.c 9 (by omega)).2; have s10 : _ = some (Value.bool false) := (bx3.c 10 (by omega)).1; have g10 := (bx3.c 10 (by omega)).2; have s11 : _ = some (Value.int .i64 0) := (bx3.c 11 (by omega)).1; have g11 := (bx3.c 11 (by omega)).2) | (have bx3 : BoxN u3 u2.heap.size 12 [.int .i64 0, .int .i64 0, .int .i64 0, .int .i64 0, .int .i64 0, .int .i64 0, .int .i64 0, .int .i64 0, .int .i64 0, .int .i64 0, .bool false, .int .i64 0] := (boxn_new u2 #[.int .i64 0, .int .i64 0, .int .i64 0, .int .i64 0, .int .i64 0, .int .i64 0, .int .i64 0, .int .i64 0, .int .i64 0, .int .i64 0, .bool false, .int .i64 0] 33 12 rfl).below hb3' (by simp); have s0 : _ = some (Value.int .i64 0) := (bx3.c 0 (by omega)).1; have g0 := (bx3.c 0 (by omega)).2; have s1 : _ = some (Value.int .i64 0) := (bx3.c 1 (by omega)).1; have g1 := (bx3.c 1 (by omega)).2; have s2 : _ = some (Value.int .i64 0) := (bx3.c 2 (by omega)).1; have g2 := (bx3.c 2 (by omega)).2; have s3 : _ = some (Value.int .i64 0) := (bx3.c 3 (by omega)).1; have g3 := (bx3.c 3 (by omega)).2; have s4 : _ = some (Value.int .i64 0) := (bx3.c 4 (by omega)).1; have g4 := (bx3.c 4 (by omega)).2; have s5 : _ = some (Value.int .i64 0) := (bx3.c 5 (by omega)).1; have g5 := (bx3.c 5 (by omega)).2; have s6 : _ = some (Value.int .i64 0) := (bx3.c 6 (by omega)).1; have g6 := (bx3.c 6 (by omega)).2; have s7 : _ = some (Value.int .i64 0) := (bx3.c 7 (by omega)).1; have g7 := (bx3.c 7 (by omega)).2; have s8 : _ = some (Value.int .i64 0) := (bx3.c 8 (by omega)).1; have g8 := (bx3.c 8 (by omega)).2; have s9 : _ = some (Value.int .i64 0) := (bx3.c 9 (by omega)).1; have g9 := (bx3.c 9 (by omega)).2; have s10 : _ = some (Value.bool false) := (bx3.c 10 (by omega)).1; have g10 := (bx3.c 10 (by omega)).2; have s11 : _ = some (Value.int .i64 0) := (bx3.c 11 (by omega)).1; have g11 := (bx3.c 11 (by omega)).2) | skip))))
    all_goals
      go_wp2_with fail
      go_meet
      case rel => exact ⟨rfl, (by (with_reducible repeat (first | exact hu3 | refine bD ?_ | refine bA ?_ _ | refine bS ?_ (by omega) _)); done)⟩
  case rest =>
    obtain ⟨rfl, hbc⟩ := hcut
    have bF := bT bX hbc
    have mbF := mbX.below hbc mbX.lt
    have xbF := xbX.below hbc xbX.lt
    obtain ⟨y0, y1, y2⟩ := KC.out _ bF
    clear q0 q1 q2 KX KI hD HI5 mbX xbX hDec1 hDec2 hEnc
    have m0 : wc.cell? ⟨w2.heap.size, 0, none⟩ = some (.int .i64 kind) := (mbF.c 0 (by omega)).1
    have x0 : wc.cell? ⟨w4.heap.size, 0, none⟩ = some (.int .i64 kind) := (xbF.c 0 (by omega)).1
    have m1 : wc.cell? ⟨w2.heap.size, 1, none⟩ = some (.int .i64 frm) := (mbF.c 1 (by omega)).1
    have x1 : wc.cell? ⟨w4.heap.size, 1, none⟩ = some (.int .i64 frm) := (xbF.c 1 (by omega)).1
    have m2 : wc.cell? ⟨w2.heap.size, 2, none⟩ = some (.int .i64 dst) := (mbF.c 2 (by omega)).1
    have x2 : wc.cell? ⟨w4.heap.size, 2, none⟩ = some (.int .i64 dst) := (xbF.c 2 (by omega)).1
    have m3 : wc.cell? ⟨w2.heap.size, 3, none⟩ = some (.int .i64 site) := (mbF.c 3 (by omega)).1
    have x3 : wc.cell? ⟨w4.heap.size, 3, none⟩ = some (.int .i64 site) := (xbF.c 3 (by omega)).1
    have m4 : wc.cell? ⟨w2.heap.size, 4, none⟩ = some (.int .i64 num) := (mbF.c 4 (by omega)).1
    have x4 : wc.cell? ⟨w4.heap.size, 4, none⟩ = some (.int .i64 num) := (xbF.c 4 (by omega)).1
    have m5 : wc.cell? ⟨w2.heap.size, 5, none⟩ = some (.int .i64 label) := (mbF.c 5 (by omega)).1
    have x5 : wc.cell? ⟨w4.heap.size, 5, none⟩ = some (.int .i64 label) := (xbF.c 5 (by omega)).1
    have m6 : wc.cell? ⟨w2.heap.size, 6, none⟩ = some (.int .i64 key) := (mbF.c 6 (by omega)).1
    have x6 : wc.cell? ⟨w4.heap.size, 6, none⟩ = some (.int .i64 key) := (xbF.c 6 (by omega)).1
    have m7 : wc.cell? ⟨w2.heap.size, 7, none⟩ = some (.int .i64 value) := (mbF.c 7 (by omega)).1
    have x7 : wc.cell? ⟨w4.heap.size, 7, none⟩ = some (.int .i64 value) := (xbF.c 7 (by omega)).1
    have m8 : wc.cell? ⟨w2.heap.size, 8, none⟩ = some (.int .i64 version) := (mbF.c 8 (by omega)).1
    have x8 : wc.cell? ⟨w4.heap.size, 8, none⟩ = some (.int .i64 version) := (xbF.c 8 (by omega)).1
    have m9 : wc.cell? ⟨w2.heap.size, 9, none⟩ = some (.int .i64 ask) := (mbF.c 9 (by omega)).1
    have x9 : wc.cell? ⟨w4.heap.size, 9, none⟩ = some (.int .i64 ask) := (xbF.c 9 (by omega)).1
    have m10 : wc.cell? ⟨w2.heap.size, 10, none⟩ = some (.bool yes) := (mbF.c 10 (by omega)).1
    have x10 : wc.cell? ⟨w4.heap.size, 10, none⟩ = some (.bool yes) := (xbF.c 10 (by omega)).1
    have m11 : wc.cell? ⟨w2.heap.size, 11, none⟩ = some (.int .i64 code) := (mbF.c 11 (by omega)).1
    have x11 : wc.cell? ⟨w4.heap.size, 11, none⟩ = some (.int .i64 code) := (xbF.c 11 (by omega)).1
    clear mbF xbF
    go_wp2_with (go_at_call 13; refine (hChk _ (KL.out _ bF) (KM.out _ bF) (KT.out _ bF)).mono ?_; rintro e u ⟨rfl, hbu⟩)
    go_ret
    exact ⟨rfl, KB.out _ (bT bF hbu)⟩
end Go.Proofs.YtacmafecjcldfaaDoor
