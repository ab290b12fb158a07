/- Texts of this claim, one behind the other. -/
import Derived.Test.YtfloplkepmpaiaaDoorM16TapeKeeps
import Derived.Test.YtfloplkepmpaiaaDoorM19TapeKeeps
import Derived.LoopTactic
import Derived.Test.YtfloplkepmpaiaaDoorM17TapeKeeps
/- The contract of reredoskeep.taped: a tape with the records' bytes, each behind its number. -/
namespace Go.Proofs.YtfloplkepmpaiaaDoor
open Go.ChangeShapes Go.WideShapes Go.ChangeAt Go.RowKit
set_option linter.unusedVariables false

/-- The bytes of a tape with these records. -/
def tapeOf (ys : List RcV) : List Int := ys.flatMap fun r => ((recBytes r).length : Int) :: recBytes r
theorem tapeOf_snoc (ys : List RcV) (k : Nat) (hk : k < ys.length) : tapeOf (ys.take (k + 1)) = tapeOf (ys.take k) ++ (((recBytes (ys.getD k default)).length : Int) :: recBytes (ys.getD k default)) := by
  have e : ys.take (k + 1) = ys.take k ++ [ys.getD k default] := by
    rw [List.take_succ_eq_append_getElem hk]
    simp [List.getD, hk]
  rw [e]
  simp [tapeOf]

set_option maxHeartbeats 4000000 in
set_option maxRecDepth 100000 in
theorem taped_any (S P : Int) (ad : Option Addr) (n cp0 : Nat) (L : List (Int × Int)) (aa : Option Addr) (alen acap : Nat) (ys : List RcV) (w : World) (h : IsLabs w ad n cp0 L) (hx : IsRecs w aa alen acap ys) (hg : ∀ y ∈ ys, recFault S L P y = 0) (h25 : alen ≤ 25) (hm : HasAt w 2 rHas) (ht : TopsAt w) (hwd : WidsAt w) :
    Calls Tryd.prog 14 #[.agg #[.int .i64 S, .slice ad n cp0, .int .i64 P], .slice aa alen acap] w fun e w' => ∃ (ta : Option Addr) (tl tc : Nat),
      e = .returned (.tuple #[.agg #[.slice ta tl tc, .int .i64 0], .bool true]) ∧ IsB w' ta tl tc (tapeOf ys) ∧ tl ≤ 625 ∧ (∀ b off, ta = some ⟨b, off, none⟩ → w.heap.size ≤ b ∧ b < w'.heap.size) ∧ Below w.heap.size w w' := by
  have hgT : 3 < w.heap.size := World.block_lt_of_cell? w _ ht.1
  have hgM : 2 < w.heap.size := hm.lt (by decide)
  have hgW : 1 < w.heap.size := hwd.lt
  obtain ⟨W, hW⟩ : ∃ W : World, W = ((w.alloc (.cells #[.int .i64 S, .slice ad n cp0, .int .i64 P] 27)).alloc (.cells #[.slice none 0 0, .int .i64 0] 46)).alloc (.cells #[.slice none 0 0, .int .i64 0] 46) := ⟨_, rfl⟩
  have hA : Below w.heap.size w W := by rw [hW]; exact (((Below.refl _ _).alloc (Nat.le_refl _) _).alloc (by simp) _).alloc (by simp; omega) _
  have zW : w.heap.size + 2 < W.heap.size := by rw [hW]; simp
  have cb : BoxN W w.heap.size 3 [.int .i64 S, .slice ad n cp0, .int .i64 P] := by
    rw [hW]
    exact ((boxn_new w #[.int .i64 S, .slice ad n cp0, .int .i64 P] 27 3 rfl).below ((Below.refl _ _).alloc (Nat.le_refl _) _) (by simp)).below ((Below.refl _ _).alloc (Nat.le_refl _) _) (by simp; omega)
  have rb : BoxN W (w.heap.size + 1) 2 [.slice none 0 0, .int .i64 0] := by
    rw [hW]
    have := (boxn_new (w.alloc (.cells #[.int .i64 S, .slice ad n cp0, .int .i64 P] 27)) #[.slice none 0 0, .int .i64 0] 46 2 rfl).below ((Below.refl _ _).alloc (Nat.le_refl _) (.cells #[.slice none 0 0, .int .i64 0] 46)) (by simp)
    simpa using this
  have tb : BoxN W (w.heap.size + 2) 2 [.slice none 0 0, .int .i64 0] := by
    rw [hW]
    have := boxn_new ((w.alloc (.cells #[.int .i64 S, .slice ad n cp0, .int .i64 P] 27)).alloc (.cells #[.slice none 0 0, .int .i64 0] 46)) #[.slice none 0 0, .int .i64 0] 46 2 rfl
    simpa using this
  go_enter Tryd.func14, Tryd.ntmps14
  go_wp2
  rw [← hW]
  clear hW
  go_loopw [13] (fun i wr => ∃ (k : Nat) (ta : Option Addr) (tl tc : Nat), i = .int .i64 (k : Int) ∧ k ≤ alen ∧ IsB wr ta tl tc (tapeOf (ys.take k)) ∧ tl ≤ 25 * k ∧ (∀ b off, ta = some ⟨b, off, none⟩ → W.heap.size ≤ b ∧ b < wr.heap.size) ∧ BoxN wr w.heap.size 3 [.int .i64 S, .slice ad n cp0, .int .i64 P] ∧ BoxN wr (w.heap.size + 1) 2 [.slice none 0 0, .int .i64 0] ∧ BoxN wr (w.heap.size + 2) 2 [.slice ta tl tc, .int .i64 0] ∧ W.heap.size ≤ wr.heap.size ∧ Below w.heap.size w wr) (fun i _ => alen - (intOf i).toNat)
  case atStart => exact ⟨0, none, 0, 0, rfl, Nat.zero_le _, by simpa [tapeOf] using isB_nil _, by omega, fun b off e => by simp at e, cb, rb, tb, Nat.le_refl _, hA⟩
  case round =>
    obtain ⟨k, ta, tl, tc, rfl, hk, hT, htl, hta, cbr, rbr, tbr, zr, hb⟩ := hrel
    clear cb rb tb
    have c0 : wr.cell? ⟨w.heap.size, 0, none⟩ = some (.int .i64 S) := (cbr.c 0 (by omega)).1
    have c1 : wr.cell? ⟨w.heap.size, 1, none⟩ = some (.slice ad n cp0) := (cbr.c 1 (by omega)).1
    have c2 : wr.cell? ⟨w.heap.size, 2, none⟩ = some (.int .i64 P) := (cbr.c 2 (by omega)).1
    have t0 : wr.cell? ⟨w.heap.size + 2, 0, none⟩ = some (.slice ta tl tc) := (tbr.c 0 (by omega)).1
    have t1 : wr.cell? ⟨w.heap.size + 2, 1, none⟩ = some (.int .i64 0) := (tbr.c 1 (by omega)).1
    by_cases hlt : k < alen
    · have hlt' : (k : Int) < (alen : Int) := by omega
      have hxr := hx.below hb
      obtain ⟨b, off, rfl, zb, hcells0⟩ := hxr.2.2.2.2 (by omega)
      have hcells := hcells0 k hlt
      have hky : k < ys.length := by have := hx.1; omega
      have hmem : ys.getD k default ∈ ys := by simp [List.getD, hky]
      have hI0 := hxr.2.2.2.1 _ hmem
      have hf0 := hg _ hmem
      have eS := tapeOf_snoc ys k hky
      obtain ⟨r, er⟩ : ∃ r, r = ys.getD k default := ⟨_, rfl⟩
      rw [← er] at hcells hI0 hf0 eS
      clear er hmem hcells0
      have hbd := recBytes_bd hf0 hI0.1
      have hAp := fun w' h1 h2 h3 h4 h5 h6 => append_any S P ad n cp0 L ta tl tc (tapeOf (ys.take k)) 0 r w' h1 h2 h3 h4 h5 h6
      have eE : apErr tl 0 (recFault S L P r) (recBytes r) = 0 := by
        unfold apErr
        rw [hf0, show mayT tl 0 = true from by simp [mayT]; omega]
        simp
        omega
      rw [eE] at hAp
      simp only [apBs, apY, if_true] at hAp
      rw [← eS] at hAp
      have hlen : Hid ((tapeOf (ys.take (k + 1))).length = tl + 1 + (recBytes r).length) := by
        show _ = _
        rw [eS]
        simp
        have := hT.1
        omega
      clear eS eE hf0
      obtain ⟨kind, site, num, key, value, ask, yes, sa, sl, sc, sites⟩ := r
      simp only [RcV.val] at hAp
      have a0 := hcells 0 (by decide)
      have a1 := hcells 1 (by decide)
      have a2 := hcells 2 (by decide)
      have a3 := hcells 3 (by decide)
      have a4 := hcells 4 (by decide)
      have a5 := hcells 5 (by decide)
      have a6 := hcells 6 (by decide)
      have a7 := hcells 7 (by decide)
      simp [RcV.cells] at a0 a1 a2 a3 a4 a5 a6 a7
      clear hcells
      go_upto_region 5 with (fail)
      obtain ⟨V, hV⟩ : ∃ V : World, V = wr.alloc (.cells #[.int .i64 kind, .int .i64 site, .int .i64 num, .int .i64 key, .int .i64 value, .int .i64 ask, .bool yes, .slice sa sl sc] 53) := ⟨_, rfl⟩
      have bV : Below wr.heap.size wr V := by rw [hV]; exact (Below.refl _ _).alloc (Nat.le_refl _) _
      have vb : BoxN V wr.heap.size 8 [.int .i64 kind, .int .i64 site, .int .i64 num, .int .i64 key, .int .i64 value, .int .i64 ask, .bool yes, .slice sa sl sc] := by rw [hV]; simpa using boxn_new wr #[.int .i64 kind, .int .i64 site, .int .i64 num, .int .i64 key, .int .i64 value, .int .i64 ask, .bool yes, .slice sa sl sc] 53 8 rfl
      rw [← hV]
      clear hV
      have zV := bV.size
      have hbV : Below w.heap.size w V := hb.trans (bV.mono hb.size)
      have cbV := cbr.below bV (by omega)
      have rbV := rbr.below bV (by omega)
      have tbV := tbr.below bV (by omega)
      clear c0 c1 c2 t0 t1 a0 a1 a2 a3 a4 a5 a6 a7
      have c0 : V.cell? ⟨w.heap.size, 0, none⟩ = some (.int .i64 S) := (cbV.c 0 (by omega)).1
      have c1 : V.cell? ⟨w.heap.size, 1, none⟩ = some (.slice ad n cp0) := (cbV.c 1 (by omega)).1
      have c2 : V.cell? ⟨w.heap.size, 2, none⟩ = some (.int .i64 P) := (cbV.c 2 (by omega)).1
      have t0 : V.cell? ⟨w.heap.size + 2, 0, none⟩ = some (.slice ta tl tc) := (tbV.c 0 (by omega)).1
      have t1 : V.cell? ⟨w.heap.size + 2, 1, none⟩ = some (.int .i64 0) := (tbV.c 1 (by omega)).1
      have m0 : V.cell? ⟨wr.heap.size, 0, none⟩ = some (.int .i64 kind) := (vb.c 0 (by omega)).1
      have m1 : V.cell? ⟨wr.heap.size, 1, none⟩ = some (.int .i64 site) := (vb.c 1 (by omega)).1
      have m2 : V.cell? ⟨wr.heap.size, 2, none⟩ = some (.int .i64 num) := (vb.c 2 (by omega)).1
      have m3 : V.cell? ⟨wr.heap.size, 3, none⟩ = some (.int .i64 key) := (vb.c 3 (by omega)).1
      have m4 : V.cell? ⟨wr.heap.size, 4, none⟩ = some (.int .i64 value) := (vb.c 4 (by omega)).1
      have m5 : V.cell? ⟨wr.heap.size, 5, none⟩ = some (.int .i64 ask) := (vb.c 5 (by omega)).1
      have m6 : V.cell? ⟨wr.heap.size, 6, none⟩ = some (.bool yes) := (vb.c 6 (by omega)).1
      have m7 : V.cell? ⟨wr.heap.size, 7, none⟩ = some (.slice sa sl sc) := (vb.c 7 (by omega)).1
      have hTV := hT.below bV
      have hIV := hI0.below bV
      go_upto_region 6 with (go_at_call 16; refine (hAp _ (h.below hbV) hTV hIV (hm.below hbV hgM) (ht.below hbV hgT) (hwd.below hbV hgW)).mono ?_; rintro e w2 ⟨a2, l2, cc2, rfl, hI2, hnew2, hb2⟩)
      obtain ⟨X, hX⟩ : ∃ X : World, X = w2.alloc (.cells #[.slice a2 l2 cc2, .int .i64 0] 46) := ⟨_, rfl⟩
      have b2X : Below w2.heap.size w2 X := by rw [hX]; exact (Below.refl _ _).alloc (Nat.le_refl _) _
      have xb : BoxN X w2.heap.size 2 [.slice a2 l2 cc2, .int .i64 0] := by rw [hX]; simpa using boxn_new w2 #[.slice a2 l2 cc2, .int .i64 0] 46 2 rfl
      rw [← hX]
      clear hX
      have z2 := hb2.size
      have zX := b2X.size
      have bX : Below V.heap.size V X := hb2.trans (b2X.mono hb2.size)
      have hl2 : tl + 6 ≤ l2 ∧ l2 ≤ tl + 25 := by have := hI2.1; have := hlen.out; omega
      have hIX := hI2.below b2X
      have hlX : ∀ b off, a2 = some ⟨b, off, none⟩ → b < X.heap.size := fun b off e => by
        obtain ⟨b', off', e', hlt2, _⟩ := hIX.2.2.2.2.2 (by omega)
        rw [e] at e'
        cases e'
        exact hlt2
      have hgt : ¬ (l2 : Int) ≤ (tl : Int) := by omega
      have hgt' : (tl : Int) < (l2 : Int) := by omega
      have cbX := cbV.below bX (by omega)
      have rbX := rbV.below bX (by omega)
      have tbX := tbV.below bX (by omega)
      clear c0 c1 c2 t0 t1 m0 m1 m2 m3 m4 m5 m6 m7
      have t0 : X.cell? ⟨w.heap.size + 2, 0, none⟩ = some (.slice ta tl tc) := (tbX.c 0 (by omega)).1
      have t1 : X.cell? ⟨w.heap.size + 2, 1, none⟩ = some (.int .i64 0) := (tbX.c 1 (by omega)).1
      have f0 : X.frozen? ⟨w.heap.size + 2, 0, none⟩ = false := (tbX.c 0 (by omega)).2
      have f1 : X.frozen? ⟨w.heap.size + 2, 1, none⟩ = false := (tbX.c 1 (by omega)).2
      have n0 : X.cell? ⟨w2.heap.size, 0, none⟩ = some (.slice a2 l2 cc2) := (xb.c 0 (by omega)).1
      have n1 : X.cell? ⟨w2.heap.size, 1, none⟩ = some (.int .i64 0) := (xb.c 1 (by omega)).1
      have hnz : w2.heap.size ≠ w.heap.size + 2 := by omega
      have hbX : Below w.heap.size w X := hbV.trans (bX.mono hbV.size)
      have hne2 : ∀ b off, a2 = some ⟨b, off, none⟩ → b ≠ w.heap.size + 2 := fun b off e => by have := hnew2 b off e; omega
      go_wp2
      go_roundw
      case rel =>
        refine ⟨k + 1, a2, l2, cc2, by go_num, by omega, (hIX.set _ _ hne2).set _ _ hne2, by omega, fun b off e => ⟨by have := hnew2 b off e; omega, by simpa using hlX b off e⟩, (cbX.far (by omega)).far (by omega), (rbX.far (by omega)).far (by omega), (tbX.set 0 (by omega) (.slice a2 l2 cc2)).set 1 (by omega) (.int .i64 0), by simp; omega, (hbX.setCell (p := ⟨w.heap.size + 1 + 1, 0, none⟩) (by show w.heap.size ≤ w.heap.size + 1 + 1; omega) _).setCell (p := ⟨w.heap.size + 1 + 1, 1, none⟩) (by show w.heap.size ≤ w.heap.size + 1 + 1; omega) _⟩
      case measure => simp [intOf]; omega
    · have hkl : k = alen := by omega
      have etk : tapeOf (ys.take k) = tapeOf ys := by rw [List.take_of_length_le (by have := hx.1; omega)]
      rw [etk] at hT
      clear etk
      have hkl' : ¬ (k : Int) < (alen : Int) := by omega
      have r0 : wr.cell? ⟨w.heap.size + 1, 0, none⟩ = some (.slice none 0 0) := (rbr.c 0 (by omega)).1
      have r1 : wr.cell? ⟨w.heap.size + 1, 1, none⟩ = some (.int .i64 0) := (rbr.c 1 (by omega)).1
      have rf0 : wr.frozen? ⟨w.heap.size + 1, 0, none⟩ = false := (rbr.c 0 (by omega)).2
      have rf1 : wr.frozen? ⟨w.heap.size + 1, 1, none⟩ = false := (rbr.c 1 (by omega)).2
      have hne1 : ∀ b off, ta = some ⟨b, off, none⟩ → b ≠ w.heap.size + 1 := fun b off e => by have := hta b off e; omega
      clear hkl
      go_wp2
      refine bodyPost_ret (v := .tuple #[.agg #[.slice ta tl tc, .int .i64 0], .bool true]) (by simp [results, Tryd.results14, go_sem, r0, r1]) rfl ⟨ta, tl, tc, rfl, (hT.set _ _ hne1).set _ _ hne1, by omega, fun b off e => ⟨by have := hta b off e; omega, by simpa using (hta b off e).2⟩, ?_⟩
      exact (hb.setCell (by simp) _).setCell (by simp) _
end Go.Proofs.YtfloplkepmpaiaaDoor
/- The contract of tape.cut: the first bytes, in new memory. -/
namespace Go.Proofs.YtfloplkepmpaiaaDoor
open Go.ChangeShapes Go.WideShapes Go.ChangeAt Go.RowKit
set_option linter.unusedVariables false

theorem grown_none {w w' : World} (h : w.grownBy w' none) : Below w.heap.size w w' := by
  refine (Below.refl w.heap.size w).grown h (Nat.le_refl _) (fun k hk => by cases hk)

theorem cut_any (a : Option Addr) (len cap : Nat) (bs : List Int) (n : Nat) (w : World) (h : IsB w a len cap bs) (hl : len ≤ 140737488355328) (hn : n ≤ len) :
    Calls Tryd.prog 32 #[.slice a len cap, .int .i64 n] w fun e w' => ∃ a', e = .returned (.slice a' n n) ∧ IsB w' a' n n (bs.take n) ∧ Below w.heap.size w w' ∧ (∀ b off, a' = some ⟨b, off, none⟩ → w.heap.size ≤ b) := by
  go_enter Tryd.func32, Tryd.ntmps32
  go_wp2_with (at_builtin; go_loud (refine wpList_append_bytes (by rfl) _ _ (by rfl) w.heap.size (.slice none 0 0) 0 [] (by rfl) (World.ownsRow_nil _ _ _ _) a len cap bs (by rfl) h (by omega) (Nat.le_refl _) ?_))
  intro v' w1 hown hgrow hat
  obtain ⟨a', cap', rfl, hB, hge, _⟩ := isB_own hown (by simpa using h.2.2.2.1)
  have hbel := grown_none hgrow
  have hc : n ≤ cap' := Nat.le_trans hn hB.2.1
  go_wp2
  go_ret
  exact ⟨a', rfl, hB.take n n hn (Nat.le_refl _) hc, hbel, hge⟩
end Go.Proofs.YtfloplkepmpaiaaDoor
/- The contract of tape.Sync: all bytes, in new memory, all synced; or what is refused. -/
namespace Go.Proofs.YtfloplkepmpaiaaDoor
open Go.ChangeShapes Go.WideShapes Go.ChangeAt Go.RowKit
set_option linter.unusedVariables false

theorem sync_any (a : Option Addr) (len cap : Nat) (bs : List Int) (y : Int) (w : World) (h : IsB w a len cap bs) :
    Calls Tryd.prog 15 #[.agg #[.slice a len cap, .int .i64 y]] w fun e w' => TapeAns w w' e (if mayT len y then bs else []) (if mayT len y then (len : Int) else 0) (if mayT len y then 0 else 9) := by
  have hl : len ≤ 9223372036854775807 := by have := h.2.1; have := h.2.2.1; unfold maxLen at this; omega
  obtain ⟨W, hW⟩ : ∃ W : World, W = (w.alloc (.cells #[.slice a len cap, .int .i64 y] 46)).alloc (.cells #[.slice none 0 0, .int .i64 0] 46) := ⟨_, rfl⟩
  have hB : Below w.heap.size w W := by rw [hW]; exact ((Below.refl _ _).alloc (Nat.le_refl _) _).alloc (by simp) _
  have zW : W.heap.size = w.heap.size + 2 := by rw [hW]; simp
  have d0 : W.cell? ⟨w.heap.size, 0, none⟩ = some (.slice a len cap) := by rw [hW]; go_simp
  have d1 : W.cell? ⟨w.heap.size, 1, none⟩ = some (.int .i64 y) := by rw [hW]; go_simp
  have r0 : W.cell? ⟨w.heap.size + 1, 0, none⟩ = some (.slice none 0 0) := by rw [hW]; go_simp
  have r1 : W.cell? ⟨w.heap.size + 1, 1, none⟩ = some (.int .i64 0) := by rw [hW]; go_simp
  have f0 : W.frozen? ⟨w.heap.size + 1, 0, none⟩ = false := by rw [hW]; go_simp
  have f1 : W.frozen? ⟨w.heap.size + 1, 1, none⟩ = false := by rw [hW]; go_simp
  have KC : Hid (∀ V : World, Below W.heap.size W V → V.cell? ⟨w.heap.size, 0, none⟩ = some (.slice a len cap) ∧ V.cell? ⟨w.heap.size, 1, none⟩ = some (.int .i64 y) ∧ V.cell? ⟨w.heap.size + 1, 0, none⟩ = some (.slice none 0 0) ∧ V.cell? ⟨w.heap.size + 1, 1, none⟩ = some (.int .i64 0) ∧ V.frozen? ⟨w.heap.size + 1, 0, none⟩ = false ∧ V.frozen? ⟨w.heap.size + 1, 1, none⟩ = false) := by
    intro V hV
    exact ⟨(hV.cell (p := ⟨w.heap.size, 0, none⟩) (by show w.heap.size < _; omega)).trans d0, (hV.cell (p := ⟨w.heap.size, 1, none⟩) (by show w.heap.size < _; omega)).trans d1, (hV.cell (p := ⟨w.heap.size + 1, 0, none⟩) (by show w.heap.size + 1 < _; omega)).trans r0, (hV.cell (p := ⟨w.heap.size + 1, 1, none⟩) (by show w.heap.size + 1 < _; omega)).trans r1, (hV.frozen (p := ⟨w.heap.size + 1, 0, none⟩) (by show w.heap.size + 1 < _; omega)).trans f0, (hV.frozen (p := ⟨w.heap.size + 1, 1, none⟩) (by show w.heap.size + 1 < _; omega)).trans f1⟩
  cases hm : mayT len y with
  | true =>
    simp only [if_true]
    have := mayT_of hm
    have h6 : (len : Int) ≤ 6000 := by omega
    go_enter Tryd.func15, Tryd.ntmps15
    go_upto_region 1 with (fail)
    rw [← hW]
    clear hW
    go_upto_region 3 with (go_at_call 31; refine (mayBe_any _ _ _ _ _ hl).mono ?_; rintro e w1 ⟨rfl, hb1⟩; rw [hm])
    clear d0 d1 r0 r1 f0 f1
    obtain ⟨k0, k1, k2, k3, k4, k5⟩ := KC.out _ hb1
    have hIB := h.below (hB.trans (hb1.mono hB.size))
    go_upto_region 4 with (fail)
    go_wp2_with (go_at_call 32; refine (cut_any a len cap bs len _ hIB (by omega) (Nat.le_refl _)).mono ?_; rintro e w2 ⟨a', rfl, hB2, hb2, hge⟩; have hW2 : Below W.heap.size W w2 := hb1.trans (hb2.mono hb1.size); clear k0 k1 k2 k3 k4 k5; obtain ⟨k0, k1, k2, k3, k4, k5⟩ := KC.out _ hW2)
    have hsz := hb1.size
    have hne : ∀ b off, a' = some ⟨b, off, none⟩ → b ≠ w.heap.size + 1 := fun b off e => by have := hge b off e; omega
    have htk : bs.take len = bs := List.take_of_length_le (by have := h.1; omega)
    rw [htk] at hB2
    refine bodyPost_ret (v := .tuple #[.agg #[.slice a' len len, .int .i64 len], .int .i64 0]) (by simp [results, Tryd.results15, go_sem, k2, k3]) rfl ⟨a', len, len, rfl, (hB2.set _ _ hne).set _ _ hne, fun b off e => by have := hge b off e; omega, ?_⟩
    exact ((hB.trans (hW2.mono hB.size)).setCell (by simp) _).setCell (by simp) _
  | false =>
    simp only [Bool.false_eq_true, if_false]
    go_enter Tryd.func15, Tryd.ntmps15
    go_upto_region 1 with (fail)
    rw [← hW]
    clear hW
    go_upto_region 2 with (go_at_call 31; refine (mayBe_any _ _ _ _ _ hl).mono ?_; rintro e w1 ⟨rfl, hb1⟩; rw [hm])
    clear d0 d1 r0 r1 f0 f1
    obtain ⟨k0, k1, k2, k3, k4, k5⟩ := KC.out _ hb1
    go_wp2
    refine bodyPost_ret (v := .tuple #[.agg #[.slice none 0 0, .int .i64 0], .int .i64 9]) (by simp [results, Tryd.results15, go_sem, k2, k3]) rfl ⟨none, 0, 0, rfl, isB_nil _, fun b off e => by simp at e, ?_⟩
    exact ((hB.trans (hb1.mono hB.size)).setCell (by simp) _).setCell (by simp) _
end Go.Proofs.YtfloplkepmpaiaaDoor
