/- The contract of wire.DecodeMessage: what msgOf tells. -/
import Derived.Test.YtpikiaepomjmgaaDoorWReadM
import Derived.Test.YtpikiaepomjmgaaDoorWDecM
namespace Go.Proofs.YtpikiaepomjmgaaDoor
open Go.ChangeShapes Go.WideShapes Go.ChangeAt Go.RowKit
set_option linter.unusedVariables false

theorem boxn_new (u : World) (cs : Array Value) (t : TypeId) (n : Nat) (hn : cs.size = n) : BoxN (u.alloc (.cells cs t)) u.heap.size n cs.toList := by
  refine ⟨by simpa using hn, by simp, fun i hi => ?_⟩
  have hb : (u.alloc (.cells cs t)).heap[u.heap.size]? = some (.cells cs t (0, 0)) := heap_alloc_new u _
  refine ⟨?_, ?_⟩
  · rw [cell_of_row _ u.heap.size i cs t (0, 0) hb]
    rw [Array.getElem?_eq_getElem (by omega)]
    simp [List.getD, show i < cs.size by omega]
  · simp only [World.frozen?, hb]
    simp
theorem BoxN.below {u u' : World} {b n B : Nat} {vs : List Value} (h : BoxN u b n vs) (hb : Below B u u') (hB : b < B) : BoxN u' b n vs := by
  have e := hb.block b hB
  refine ⟨h.len, Nat.lt_of_lt_of_le h.lt hb.size, fun i hi => ⟨?_, ?_⟩⟩
  · rw [World.cell?_of_block (a := ⟨b, i, none⟩) e]; exact (h.c i hi).1
  · rw [World.frozen?_of_block (a := ⟨b, i, none⟩) e]; exact (h.c i hi).2
theorem kind_nonneg (r : RS) (hb : Byt r.rest) (top : Int) : 0 ≤ (r.kind top).1 := by
  have hn : 0 ≤ (r.num 1).1 := by
    by_cases h0 : r.wrong = 0
    · by_cases hk : 1 ≤ r.rest.length
      · rw [num_ok h0 hk]
        exact (bval_bd 1 (r.rest.take 1) (by simp; omega) (hb.take 1)).1
      · rw [num_short h0 (by omega)]; exact Int.le_refl _
    · rw [num_wrong h0]; exact Int.le_refl _
  unfold RS.kind
  split
  · exact Int.le_refl _
  · exact hn

/-- What the reader is when it begins. -/
theorem rd_new {u : World} {L : Nat} {a : Option Addr} {len cap : Nat} {bs : List Int} (h : IsB u a len cap bs) (hL : L ≤ u.heap.size) (hf : ∀ b off, a = some ⟨b, off, none⟩ → b < L) :
    RdTo (u.alloc (.cells #[.slice a len cap, .int .i64 0] 52)) u.heap.size L ⟨bs, 0⟩ :=
  ⟨a, len, cap, by go_simp, by go_simp, by go_simp, by go_simp, h.below ((Below.refl _ _).alloc (Nat.le_refl _) _), hf, hL, by simp⟩
theorem isB_lt {w : World} {a : Option Addr} {len cap : Nat} {bs : List Int} (h : IsB w a len cap bs) : ∀ b off, 0 < len → a = some ⟨b, off, none⟩ → b < w.heap.size := by
  intro b off hl e
  obtain ⟨b', off', e', hlt, _⟩ := h.2.2.2.2.2 hl
  rw [e] at e'
  cases e'
  exact hlt

set_option maxRecDepth 100000 in
set_option maxHeartbeats 4000000 in
theorem decodeMessage_any (s p : Int) (a : Option Addr) (len cap : Nat) (ls : List (Int × Int)) (ba : Option Addr) (bl bc : Nat) (bs : List Int) (w : World) (h : IsLabs w a len cap ls) (hI : IsB w ba bl bc bs) (hfb : ∀ b off, ba = some ⟨b, off, none⟩ → b < w.heap.size) (hm : HasAt w 0 mHas) (ht : TopsAt w) (hwd : WidsAt w) :
    Calls Tryd.prog 6 #[.agg #[.int .i64 s, .slice a len cap, .int .i64 p], .slice ba bl bc] w fun e w' => e = .returned (.tuple #[(msgOf s ls p bs).1.val, .int .i64 (msgOf s ls p bs).2]) ∧ Below w.heap.size w w' := by
  have hgT : 3 < w.heap.size := World.block_lt_of_cell? w _ ht.1
  have hgM : 0 < w.heap.size := hm.lt (by decide)
  have hgW : 2 < w.heap.size := hwd.lt
  have hbyt := hI.2.2.2.1
  have hkn := kind_nonneg ⟨bs, 0⟩ hbyt 10
  have hRd := fun R L w' h1 h2 h3 h4 h5 => readMessage_any R L ⟨bs, 0⟩ w' h1 h2 h3 h4 h5 hkn
  have EO : Hid (msgOf s ls p bs = if cfgFault s ls p ≠ 0 then (MV.zero, cfgFault s ls p) else if (decMsgRS ⟨bs, 0⟩).2.fin.wrong ≠ 0 then (MV.zero, (decMsgRS ⟨bs, 0⟩).2.fin.wrong) else if msgFault s ls p (decMsgRS ⟨bs, 0⟩).1 ≠ 0 then (MV.zero, msgFault s ls p (decMsgRS ⟨bs, 0⟩).1) else ((decMsgRS ⟨bs, 0⟩).1, 0)) := rfl
  obtain ⟨MO, eMO⟩ : ∃ x, x = msgOf s ls p bs := ⟨_, rfl⟩
  rw [← eMO] at EO ⊢
  clear eMO
  obtain ⟨m, rE, eD⟩ : ∃ m r, decMsgRS ⟨bs, 0⟩ = (m, r) := ⟨_, _, rfl⟩
  rw [eD] at EO hRd
  simp only at EO hRd
  clear eD hkn
  have hCk := fun w' h1 h2 h3 => checkMessage_any s p a len cap ls m w' h1 h2 h3
  obtain ⟨FE, eFE⟩ : ∃ x, x = rE.fin.wrong := ⟨_, rfl⟩
  obtain ⟨FM, eFM⟩ : ∃ x, x = msgFault s ls p m := ⟨_, rfl⟩
  obtain ⟨FC, eFC⟩ : ∃ x, x = cfgFault s ls p := ⟨_, rfl⟩
  have hEnd := fun R L w' hh => endR_any R L rE w' hh
  have hLc := fun w' hh => check_any s p a len cap ls w' hh
  rw [← eFE] at EO hEnd
  rw [← eFM] at EO hCk
  rw [← eFC] at EO hLc
  clear eFE eFM eFC
  obtain ⟨kind, frm, dst, site, num, label, key, value, version, ask, yes, code⟩ := m
  simp only [MV.val] at hCk hRd
  obtain ⟨W, hW⟩ : ∃ W : World, W = (w.alloc (.cells #[.int .i64 s, .slice a len cap, .int .i64 p] 24)).alloc (.cells #[.int .i64 0, .int .i64 0, .int .i64 0, .int .i64 0, .int .i64 0, .int .i64 0, .int .i64 0, .int .i64 0, .int .i64 0, .int .i64 0, .bool false, .int .i64 0] 30) := ⟨_, rfl⟩
  have hB : Below w.heap.size w W := by rw [hW]; exact ((Below.refl _ _).alloc (Nat.le_refl _) _).alloc (by simp) _
  have zW : W.heap.size = w.heap.size + 2 := by rw [hW]; simp
  have c0 : W.cell? ⟨w.heap.size, 0, none⟩ = some (.int .i64 s) := by rw [hW]; go_simp
  have c1 : W.cell? ⟨w.heap.size, 1, none⟩ = some (.slice a len cap) := by rw [hW]; go_simp
  have c2 : W.cell? ⟨w.heap.size, 2, none⟩ = some (.int .i64 p) := by rw [hW]; go_simp
  have rbW : BoxN W (w.heap.size + 1) 12 [.int .i64 0, .int .i64 0, .int .i64 0, .int .i64 0, .int .i64 0, .int .i64 0, .int .i64 0, .int .i64 0, .int .i64 0, .int .i64 0, .bool false, .int .i64 0] := by
    have := boxn_new (w.alloc (.cells #[.int .i64 s, .slice a len cap, .int .i64 p] 24)) #[.int .i64 0, .int .i64 0, .int .i64 0, .int .i64 0, .int .i64 0, .int .i64 0, .int .i64 0, .int .i64 0, .int .i64 0, .int .i64 0, .bool false, .int .i64 0] 30 12 rfl
    rw [hW]
    simpa using this
  have hLW := h.below hB
  have KC : Hid (∀ V : World, Below W.heap.size W V → V.cell? ⟨w.heap.size, 0, none⟩ = some (.int .i64 s) ∧ V.cell? ⟨w.heap.size, 1, none⟩ = some (.slice a len cap) ∧ V.cell? ⟨w.heap.size, 2, none⟩ = some (.int .i64 p) ∧ BoxN V (w.heap.size + 1) 12 [.int .i64 0, .int .i64 0, .int .i64 0, .int .i64 0, .int .i64 0, .int .i64 0, .int .i64 0, .int .i64 0, .int .i64 0, .int .i64 0, .bool false, .int .i64 0]) := by
    intro V hV
    exact ⟨(hV.cell (p := ⟨w.heap.size, 0, none⟩) (by show w.heap.size < _; omega)).trans c0, (hV.cell (p := ⟨w.heap.size, 1, none⟩) (by show w.heap.size < _; omega)).trans c1, (hV.cell (p := ⟨w.heap.size, 2, none⟩) (by show w.heap.size < _; omega)).trans c2, rbW.below hV (by omega)⟩
  go_enter Tryd.func6, Tryd.ntmps6
  go_upto_region 1 with (fail)
  rw [← hW]
  clear hW
  go_upto_region 2 with (go_at_call 17; refine (hLc _ hLW).mono ?_; rintro e w1 ⟨rfl, hb1⟩)
  clear c0 c1 c2 rbW
  have hw1 := hB.trans (hb1.mono hB.size)
  by_cases hF : FC = 0
  · subst hF
    go_upto_region 4 with (fail)
    go_upto_region 5 with (fail)
    obtain ⟨V, hV⟩ : ∃ V : World, V = w1.alloc (.cells #[.slice ba bl bc, .int .i64 0] 52) := ⟨_, rfl⟩
    have hRV : RdTo V w1.heap.size w.heap.size ⟨bs, 0⟩ := by rw [hV]; exact rd_new (hI.below hw1) hw1.size hfb
    have hWV : Below W.heap.size W V := by rw [hV]; exact hb1.alloc hb1.size _
    have hwV := hB.trans (hWV.mono hB.size)
    rw [← hV]
    clear hV
    have hmV := hm.below hwV hgM
    have wdV := hwd.below hwV hgW
    have hRs : W.heap.size ≤ w1.heap.size := hb1.size
    go_upto_region 6 with (go_at_call 18; refine (hRd _ _ _ hRV hmV wdV hgM hgW).mono ?_; rintro e w2 ⟨v, rfl, rfl, hR2, hg2⟩)
    have hW2 : Below W.heap.size W w2 := hWV.grown hg2 hWV.size (fun q hq => by simp at hq; omega)
    obtain ⟨U, hU⟩ : ∃ U : World, U = w2.alloc (.cells #[.int .i64 kind, .int .i64 frm, .int .i64 dst, .int .i64 site, .int .i64 num, .int .i64 label, .int .i64 key, .int .i64 value, .int .i64 version, .int .i64 ask, .bool yes, .int .i64 code] 30) := ⟨_, rfl⟩
    have mbU : BoxN U w2.heap.size 12 [.int .i64 kind, .int .i64 frm, .int .i64 dst, .int .i64 site, .int .i64 num, .int .i64 label, .int .i64 key, .int .i64 value, .int .i64 version, .int .i64 ask, .bool yes, .int .i64 code] := by rw [hU]; simpa using boxn_new w2 #[.int .i64 kind, .int .i64 frm, .int .i64 dst, .int .i64 site, .int .i64 num, .int .i64 label, .int .i64 key, .int .i64 value, .int .i64 version, .int .i64 ask, .bool yes, .int .i64 code] 30 12 rfl
    have hWU : Below W.heap.size W U := by rw [hU]; exact hW2.alloc hW2.size _
    have hRU : RdTo U w1.heap.size w.heap.size rE := by rw [hU]; exact hR2.grown (World.grownBy_alloc w2 _ none) (fun q hq => by cases hq)
    have hR2lt := hR2.lt
    rw [← hU]
    clear hU hR2 hRV
    go_upto_region 7 with (go_at_call 19; refine (hEnd _ _ _ hRU).mono ?_; rintro e w3 ⟨rfl, hg3⟩)
    have hW3 : Below W.heap.size W w3 := hWU.grown hg3 hWU.size (fun q hq => by simp at hq; omega)
    have mb3 := mbU.grown hg3 (by simp; omega)
    have hw3 := hB.trans (hW3.mono hB.size)
    obtain ⟨c0, c1, c2, rb3⟩ := KC.out _ hW3
    clear mbU hRU hg2 hg3
    by_cases hE : FE = 0
    · subst hE
      have m0 : w3.cell? ⟨w2.heap.size, 0, none⟩ = some (.int .i64 kind) := (mb3.c 0 (by omega)).1
      have m1 : w3.cell? ⟨w2.heap.size, 1, none⟩ = some (.int .i64 frm) := (mb3.c 1 (by omega)).1
      have m2 : w3.cell? ⟨w2.heap.size, 2, none⟩ = some (.int .i64 dst) := (mb3.c 2 (by omega)).1
      have m3 : w3.cell? ⟨w2.heap.size, 3, none⟩ = some (.int .i64 site) := (mb3.c 3 (by omega)).1
      have m4 : w3.cell? ⟨w2.heap.size, 4, none⟩ = some (.int .i64 num) := (mb3.c 4 (by omega)).1
      have m5 : w3.cell? ⟨w2.heap.size, 5, none⟩ = some (.int .i64 label) := (mb3.c 5 (by omega)).1
      have m6 : w3.cell? ⟨w2.heap.size, 6, none⟩ = some (.int .i64 key) := (mb3.c 6 (by omega)).1
      have m7 : w3.cell? ⟨w2.heap.size, 7, none⟩ = some (.int .i64 value) := (mb3.c 7 (by omega)).1
      have m8 : w3.cell? ⟨w2.heap.size, 8, none⟩ = some (.int .i64 version) := (mb3.c 8 (by omega)).1
      have m9 : w3.cell? ⟨w2.heap.size, 9, none⟩ = some (.int .i64 ask) := (mb3.c 9 (by omega)).1
      have m10 : w3.cell? ⟨w2.heap.size, 10, none⟩ = some (.bool yes) := (mb3.c 10 (by omega)).1
      have m11 : w3.cell? ⟨w2.heap.size, 11, none⟩ = some (.int .i64 code) := (mb3.c 11 (by omega)).1
      have hL3 := h.below hw3
      have hm3 := hm.below hw3 hgM
      have ht3 := ht.below hw3 hgT
      go_upto_region 9 with (fail)
      go_upto_region 10 with (go_at_call 20; refine (hCk _ hL3 hm3 ht3).mono ?_; rintro e w4 ⟨rfl, hb4⟩)
      have hW4 := hW3.trans (hb4.mono hW3.size)
      have mb4 := mb3.below hb4 mb3.lt
      have hw4 := hB.trans (hW4.mono hB.size)
      have mlt : w.heap.size + 1 < w2.heap.size := by have := hW2.size; omega
      have mlt' : w.heap.size + 1 ≠ w2.heap.size := by omega
      clear c0 c1 c2 rb3 m0 m1 m2 m3 m4 m5 m6 m7 m8 m9 m10 m11
      obtain ⟨c0, c1, c2, rb4⟩ := KC.out _ hW4
      have s0 : w4.cell? ⟨w.heap.size + 1, 0, none⟩ = some (.int .i64 0) := (rb4.c 0 (by omega)).1
      have g0 : w4.frozen? ⟨w.heap.size + 1, 0, none⟩ = false := (rb4.c 0 (by omega)).2
      have s1 : w4.cell? ⟨w.heap.size + 1, 1, none⟩ = some (.int .i64 0) := (rb4.c 1 (by omega)).1
      have g1 : w4.frozen? ⟨w.heap.size + 1, 1, none⟩ = false := (rb4.c 1 (by omega)).2
      have s2 : w4.cell? ⟨w.heap.size + 1, 2, none⟩ = some (.int .i64 0) := (rb4.c 2 (by omega)).1
      have g2 : w4.frozen? ⟨w.heap.size + 1, 2, none⟩ = false := (rb4.c 2 (by omega)).2
      have s3 : w4.cell? ⟨w.heap.size + 1, 3, none⟩ = some (.int .i64 0) := (rb4.c 3 (by omega)).1
      have g3 : w4.frozen? ⟨w.heap.size + 1, 3, none⟩ = false := (rb4.c 3 (by omega)).2
      have s4 : w4.cell? ⟨w.heap.size + 1, 4, none⟩ = some (.int .i64 0) := (rb4.c 4 (by omega)).1
      have g4 : w4.frozen? ⟨w.heap.size + 1, 4, none⟩ = false := (rb4.c 4 (by omega)).2
      have s5 : w4.cell? ⟨w.heap.size + 1, 5, none⟩ = some (.int .i64 0) := (rb4.c 5 (by omega)).1
      have g5 : w4.frozen? ⟨w.heap.size + 1, 5, none⟩ = false := (rb4.c 5 (by omega)).2
      have s6 : w4.cell? ⟨w.heap.size + 1, 6, none⟩ = some (.int .i64 0) := (rb4.c 6 (by omega)).1
      have g6 : w4.frozen? ⟨w.heap.size + 1, 6, none⟩ = false := (rb4.c 6 (by omega)).2
      have s7 : w4.cell? ⟨w.heap.size + 1, 7, none⟩ = some (.int .i64 0) := (rb4.c 7 (by omega)).1
      have g7 : w4.frozen? ⟨w.heap.size + 1, 7, none⟩ = false := (rb4.c 7 (by omega)).2
      have s8 : w4.cell? ⟨w.heap.size + 1, 8, none⟩ = some (.int .i64 0) := (rb4.c 8 (by omega)).1
      have g8 : w4.frozen? ⟨w.heap.size + 1, 8, none⟩ = false := (rb4.c 8 (by omega)).2
      have s9 : w4.cell? ⟨w.heap.size + 1, 9, none⟩ = some (.int .i64 0) := (rb4.c 9 (by omega)).1
      have g9 : w4.frozen? ⟨w.heap.size + 1, 9, none⟩ = false := (rb4.c 9 (by omega)).2
      have s10 : w4.cell? ⟨w.heap.size + 1, 10, none⟩ = some (.bool false) := (rb4.c 10 (by omega)).1
      have g10 : w4.frozen? ⟨w.heap.size + 1, 10, none⟩ = false := (rb4.c 10 (by omega)).2
      have s11 : w4.cell? ⟨w.heap.size + 1, 11, none⟩ = some (.int .i64 0) := (rb4.c 11 (by omega)).1
      have g11 : w4.frozen? ⟨w.heap.size + 1, 11, none⟩ = false := (rb4.c 11 (by omega)).2
      by_cases hX : FM = 0
      · subst hX
        have m0 : w4.cell? ⟨w2.heap.size, 0, none⟩ = some (.int .i64 kind) := (mb4.c 0 (by omega)).1
        have m1 : w4.cell? ⟨w2.heap.size, 1, none⟩ = some (.int .i64 frm) := (mb4.c 1 (by omega)).1
        have m2 : w4.cell? ⟨w2.heap.size, 2, none⟩ = some (.int .i64 dst) := (mb4.c 2 (by omega)).1
        have m3 : w4.cell? ⟨w2.heap.size, 3, none⟩ = some (.int .i64 site) := (mb4.c 3 (by omega)).1
        have m4 : w4.cell? ⟨w2.heap.size, 4, none⟩ = some (.int .i64 num) := (mb4.c 4 (by omega)).1
        have m5 : w4.cell? ⟨w2.heap.size, 5, none⟩ = some (.int .i64 label) := (mb4.c 5 (by omega)).1
        have m6 : w4.cell? ⟨w2.heap.size, 6, none⟩ = some (.int .i64 key) := (mb4.c 6 (by omega)).1
        have m7 : w4.cell? ⟨w2.heap.size, 7, none⟩ = some (.int .i64 value) := (mb4.c 7 (by omega)).1
        have m8 : w4.cell? ⟨w2.heap.size, 8, none⟩ = some (.int .i64 version) := (mb4.c 8 (by omega)).1
        have m9 : w4.cell? ⟨w2.heap.size, 9, none⟩ = some (.int .i64 ask) := (mb4.c 9 (by omega)).1
        have m10 : w4.cell? ⟨w2.heap.size, 10, none⟩ = some (.bool yes) := (mb4.c 10 (by omega)).1
        have m11 : w4.cell? ⟨w2.heap.size, 11, none⟩ = some (.int .i64 code) := (mb4.c 11 (by omega)).1
        clear mb4 mb3 rb4
        go_wp2
        refine bodyPost_ret (v := .tuple #[.agg #[.int .i64 kind, .int .i64 frm, .int .i64 dst, .int .i64 site, .int .i64 num, .int .i64 label, .int .i64 key, .int .i64 value, .int .i64 version, .int .i64 ask, .bool yes, .int .i64 code], .int .i64 0]) (by simp [results, Tryd.results6, go_sem, s0, s1, s2, s3, s4, s5, s6, s7, s8, s9, s10, s11]) rfl ⟨by rw [EO.out]; rfl, ?_⟩
        exact (Below.setCell (p := ⟨w.heap.size + 1, 11, none⟩) (Below.setCell (p := ⟨w.heap.size + 1, 10, none⟩) (Below.setCell (p := ⟨w.heap.size + 1, 9, none⟩) (Below.setCell (p := ⟨w.heap.size + 1, 8, none⟩) (Below.setCell (p := ⟨w.heap.size + 1, 7, none⟩) (Below.setCell (p := ⟨w.heap.size + 1, 6, none⟩) (Below.setCell (p := ⟨w.heap.size + 1, 5, none⟩) (Below.setCell (p := ⟨w.heap.size + 1, 4, none⟩) (Below.setCell (p := ⟨w.heap.size + 1, 3, none⟩) (Below.setCell (p := ⟨w.heap.size + 1, 2, none⟩) (Below.setCell (p := ⟨w.heap.size + 1, 1, none⟩) (Below.setCell (p := ⟨w.heap.size + 1, 0, none⟩) hw4 (by simp) (.int .i64 kind)) (by simp) (.int .i64 frm)) (by simp) (.int .i64 dst)) (by simp) (.int .i64 site)) (by simp) (.int .i64 num)) (by simp) (.int .i64 label)) (by simp) (.int .i64 key)) (by simp) (.int .i64 value)) (by simp) (.int .i64 version)) (by simp) (.int .i64 ask)) (by simp) (.bool yes)) (by simp) (.int .i64 code))
      · clear mb4 mb3 rb4
        go_wp2
        refine bodyPost_ret (v := .tuple #[.agg #[.int .i64 0, .int .i64 0, .int .i64 0, .int .i64 0, .int .i64 0, .int .i64 0, .int .i64 0, .int .i64 0, .int .i64 0, .int .i64 0, .bool false, .int .i64 0], .int .i64 FM]) (by simp [results, Tryd.results6, go_sem, s0, s1, s2, s3, s4, s5, s6, s7, s8, s9, s10, s11]) rfl ⟨by rw [EO.out, if_neg (by simp), if_neg (by simp), if_pos hX]; rfl, ?_⟩
        exact (Below.setCell (p := ⟨w.heap.size + 1, 11, none⟩) (Below.setCell (p := ⟨w.heap.size + 1, 10, none⟩) (Below.setCell (p := ⟨w.heap.size + 1, 9, none⟩) (Below.setCell (p := ⟨w.heap.size + 1, 8, none⟩) (Below.setCell (p := ⟨w.heap.size + 1, 7, none⟩) (Below.setCell (p := ⟨w.heap.size + 1, 6, none⟩) (Below.setCell (p := ⟨w.heap.size + 1, 5, none⟩) (Below.setCell (p := ⟨w.heap.size + 1, 4, none⟩) (Below.setCell (p := ⟨w.heap.size + 1, 3, none⟩) (Below.setCell (p := ⟨w.heap.size + 1, 2, none⟩) (Below.setCell (p := ⟨w.heap.size + 1, 1, none⟩) (Below.setCell (p := ⟨w.heap.size + 1, 0, none⟩) hw4 (by simp) (.int .i64 0)) (by simp) (.int .i64 0)) (by simp) (.int .i64 0)) (by simp) (.int .i64 0)) (by simp) (.int .i64 0)) (by simp) (.int .i64 0)) (by simp) (.int .i64 0)) (by simp) (.int .i64 0)) (by simp) (.int .i64 0)) (by simp) (.int .i64 0)) (by simp) (.bool false)) (by simp) (.int .i64 0))
    · have hw3b := hw3
      have s0 : w3.cell? ⟨w.heap.size + 1, 0, none⟩ = some (.int .i64 0) := (rb3.c 0 (by omega)).1
      have g0 : w3.frozen? ⟨w.heap.size + 1, 0, none⟩ = false := (rb3.c 0 (by omega)).2
      have s1 : w3.cell? ⟨w.heap.size + 1, 1, none⟩ = some (.int .i64 0) := (rb3.c 1 (by omega)).1
      have g1 : w3.frozen? ⟨w.heap.size + 1, 1, none⟩ = false := (rb3.c 1 (by omega)).2
      have s2 : w3.cell? ⟨w.heap.size + 1, 2, none⟩ = some (.int .i64 0) := (rb3.c 2 (by omega)).1
      have g2 : w3.frozen? ⟨w.heap.size + 1, 2, none⟩ = false := (rb3.c 2 (by omega)).2
      have s3 : w3.cell? ⟨w.heap.size + 1, 3, none⟩ = some (.int .i64 0) := (rb3.c 3 (by omega)).1
      have g3 : w3.frozen? ⟨w.heap.size + 1, 3, none⟩ = false := (rb3.c 3 (by omega)).2
      have s4 : w3.cell? ⟨w.heap.size + 1, 4, none⟩ = some (.int .i64 0) := (rb3.c 4 (by omega)).1
      have g4 : w3.frozen? ⟨w.heap.size + 1, 4, none⟩ = false := (rb3.c 4 (by omega)).2
      have s5 : w3.cell? ⟨w.heap.size + 1, 5, none⟩ = some (.int .i64 0) := (rb3.c 5 (by omega)).1
      have g5 : w3.frozen? ⟨w.heap.size + 1, 5, none⟩ = false := (rb3.c 5 (by omega)).2
      have s6 : w3.cell? ⟨w.heap.size + 1, 6, none⟩ = some (.int .i64 0) := (rb3.c 6 (by omega)).1
      have g6 : w3.frozen? ⟨w.heap.size + 1, 6, none⟩ = false := (rb3.c 6 (by omega)).2
      have s7 : w3.cell? ⟨w.heap.size + 1, 7, none⟩ = some (.int .i64 0) := (rb3.c 7 (by omega)).1
      have g7 : w3.frozen? ⟨w.heap.size + 1, 7, none⟩ = false := (rb3.c 7 (by omega)).2
      have s8 : w3.cell? ⟨w.heap.size + 1, 8, none⟩ = some (.int .i64 0) := (rb3.c 8 (by omega)).1
      have g8 : w3.frozen? ⟨w.heap.size + 1, 8, none⟩ = false := (rb3.c 8 (by omega)).2
      have s9 : w3.cell? ⟨w.heap.size + 1, 9, none⟩ = some (.int .i64 0) := (rb3.c 9 (by omega)).1
      have g9 : w3.frozen? ⟨w.heap.size + 1, 9, none⟩ = false := (rb3.c 9 (by omega)).2
      have s10 : w3.cell? ⟨w.heap.size + 1, 10, none⟩ = some (.bool false) := (rb3.c 10 (by omega)).1
      have g10 : w3.frozen? ⟨w.heap.size + 1, 10, none⟩ = false := (rb3.c 10 (by omega)).2
      have s11 : w3.cell? ⟨w.heap.size + 1, 11, none⟩ = some (.int .i64 0) := (rb3.c 11 (by omega)).1
      have g11 : w3.frozen? ⟨w.heap.size + 1, 11, none⟩ = false := (rb3.c 11 (by omega)).2
      clear mb3 rb3
      go_wp2
      refine bodyPost_ret (v := .tuple #[.agg #[.int .i64 0, .int .i64 0, .int .i64 0, .int .i64 0, .int .i64 0, .int .i64 0, .int .i64 0, .int .i64 0, .int .i64 0, .int .i64 0, .bool false, .int .i64 0], .int .i64 FE]) (by simp [results, Tryd.results6, go_sem, s0, s1, s2, s3, s4, s5, s6, s7, s8, s9, s10, s11]) rfl ⟨by rw [EO.out, if_neg (by simp), if_pos hE]; rfl, ?_⟩
      exact (Below.setCell (p := ⟨w.heap.size + 1, 11, none⟩) (Below.setCell (p := ⟨w.heap.size + 1, 10, none⟩) (Below.setCell (p := ⟨w.heap.size + 1, 9, none⟩) (Below.setCell (p := ⟨w.heap.size + 1, 8, none⟩) (Below.setCell (p := ⟨w.heap.size + 1, 7, none⟩) (Below.setCell (p := ⟨w.heap.size + 1, 6, none⟩) (Below.setCell (p := ⟨w.heap.size + 1, 5, none⟩) (Below.setCell (p := ⟨w.heap.size + 1, 4, none⟩) (Below.setCell (p := ⟨w.heap.size + 1, 3, none⟩) (Below.setCell (p := ⟨w.heap.size + 1, 2, none⟩) (Below.setCell (p := ⟨w.heap.size + 1, 1, none⟩) (Below.setCell (p := ⟨w.heap.size + 1, 0, none⟩) hw3 (by simp) (.int .i64 0)) (by simp) (.int .i64 0)) (by simp) (.int .i64 0)) (by simp) (.int .i64 0)) (by simp) (.int .i64 0)) (by simp) (.int .i64 0)) (by simp) (.int .i64 0)) (by simp) (.int .i64 0)) (by simp) (.int .i64 0)) (by simp) (.int .i64 0)) (by simp) (.bool false)) (by simp) (.int .i64 0))
  · obtain ⟨c0, c1, c2, rb1⟩ := KC.out _ hb1
    have s0 : w1.cell? ⟨w.heap.size + 1, 0, none⟩ = some (.int .i64 0) := (rb1.c 0 (by omega)).1
    have g0 : w1.frozen? ⟨w.heap.size + 1, 0, none⟩ = false := (rb1.c 0 (by omega)).2
    have s1 : w1.cell? ⟨w.heap.size + 1, 1, none⟩ = some (.int .i64 0) := (rb1.c 1 (by omega)).1
    have g1 : w1.frozen? ⟨w.heap.size + 1, 1, none⟩ = false := (rb1.c 1 (by omega)).2
    have s2 : w1.cell? ⟨w.heap.size + 1, 2, none⟩ = some (.int .i64 0) := (rb1.c 2 (by omega)).1
    have g2 : w1.frozen? ⟨w.heap.size + 1, 2, none⟩ = false := (rb1.c 2 (by omega)).2
    have s3 : w1.cell? ⟨w.heap.size + 1, 3, none⟩ = some (.int .i64 0) := (rb1.c 3 (by omega)).1
    have g3 : w1.frozen? ⟨w.heap.size + 1, 3, none⟩ = false := (rb1.c 3 (by omega)).2
    have s4 : w1.cell? ⟨w.heap.size + 1, 4, none⟩ = some (.int .i64 0) := (rb1.c 4 (by omega)).1
    have g4 : w1.frozen? ⟨w.heap.size + 1, 4, none⟩ = false := (rb1.c 4 (by omega)).2
    have s5 : w1.cell? ⟨w.heap.size + 1, 5, none⟩ = some (.int .i64 0) := (rb1.c 5 (by omega)).1
    have g5 : w1.frozen? ⟨w.heap.size + 1, 5, none⟩ = false := (rb1.c 5 (by omega)).2
    have s6 : w1.cell? ⟨w.heap.size + 1, 6, none⟩ = some (.int .i64 0) := (rb1.c 6 (by omega)).1
    have g6 : w1.frozen? ⟨w.heap.size + 1, 6, none⟩ = false := (rb1.c 6 (by omega)).2
    have s7 : w1.cell? ⟨w.heap.size + 1, 7, none⟩ = some (.int .i64 0) := (rb1.c 7 (by omega)).1
    have g7 : w1.frozen? ⟨w.heap.size + 1, 7, none⟩ = false := (rb1.c 7 (by omega)).2
    have s8 : w1.cell? ⟨w.heap.size + 1, 8, none⟩ = some (.int .i64 0) := (rb1.c 8 (by omega)).1
    have g8 : w1.frozen? ⟨w.heap.size + 1, 8, none⟩ = false := (rb1.c 8 (by omega)).2
    have s9 : w1.cell? ⟨w.heap.size + 1, 9, none⟩ = some (.int .i64 0) := (rb1.c 9 (by omega)).1
    have g9 : w1.frozen? ⟨w.heap.size + 1, 9, none⟩ = false := (rb1.c 9 (by omega)).2
    have s10 : w1.cell? ⟨w.heap.size + 1, 10, none⟩ = some (.bool false) := (rb1.c 10 (by omega)).1
    have g10 : w1.frozen? ⟨w.heap.size + 1, 10, none⟩ = false := (rb1.c 10 (by omega)).2
    have s11 : w1.cell? ⟨w.heap.size + 1, 11, none⟩ = some (.int .i64 0) := (rb1.c 11 (by omega)).1
    have g11 : w1.frozen? ⟨w.heap.size + 1, 11, none⟩ = false := (rb1.c 11 (by omega)).2
    clear rb1
    go_wp2
    refine bodyPost_ret (v := .tuple #[.agg #[.int .i64 0, .int .i64 0, .int .i64 0, .int .i64 0, .int .i64 0, .int .i64 0, .int .i64 0, .int .i64 0, .int .i64 0, .int .i64 0, .bool false, .int .i64 0], .int .i64 FC]) (by simp [results, Tryd.results6, go_sem, s0, s1, s2, s3, s4, s5, s6, s7, s8, s9, s10, s11]) rfl ⟨by rw [EO.out, if_pos hF]; rfl, ?_⟩
    exact (Below.setCell (p := ⟨w.heap.size + 1, 11, none⟩) (Below.setCell (p := ⟨w.heap.size + 1, 10, none⟩) (Below.setCell (p := ⟨w.heap.size + 1, 9, none⟩) (Below.setCell (p := ⟨w.heap.size + 1, 8, none⟩) (Below.setCell (p := ⟨w.heap.size + 1, 7, none⟩) (Below.setCell (p := ⟨w.heap.size + 1, 6, none⟩) (Below.setCell (p := ⟨w.heap.size + 1, 5, none⟩) (Below.setCell (p := ⟨w.heap.size + 1, 4, none⟩) (Below.setCell (p := ⟨w.heap.size + 1, 3, none⟩) (Below.setCell (p := ⟨w.heap.size + 1, 2, none⟩) (Below.setCell (p := ⟨w.heap.size + 1, 1, none⟩) (Below.setCell (p := ⟨w.heap.size + 1, 0, none⟩) hw1 (by simp) (.int .i64 0)) (by simp) (.int .i64 0)) (by simp) (.int .i64 0)) (by simp) (.int .i64 0)) (by simp) (.int .i64 0)) (by simp) (.int .i64 0)) (by simp) (.int .i64 0)) (by simp) (.int .i64 0)) (by simp) (.int .i64 0)) (by simp) (.int .i64 0)) (by simp) (.bool false)) (by simp) (.int .i64 0))
end Go.Proofs.YtpikiaepomjmgaaDoor