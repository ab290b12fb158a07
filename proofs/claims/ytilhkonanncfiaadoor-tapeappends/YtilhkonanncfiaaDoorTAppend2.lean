/- The contract of tape.Append. -/
import Derived.Test.YtilhkonanncfiaaDoorTAns
import Derived.Test.YtilhkonanncfiaaDoorWEncR
import Derived.Test.YtilhkonanncfiaaDoorNBox
import Derived.Deep.RegionHeld3
import Derived.ArgAppend
namespace Go.Proofs.YtilhkonanncfiaaDoor
open Go.ChangeShapes Go.WideShapes Go.ChangeAt Go.RowKit
set_option linter.unusedVariables false

theorem recBytes_bd {s : Int} {ls : List (Int × Int)} {p : Int} {r : RcV} (h : recFault s ls p r = 0) (hl : r.sites.length = r.sl) : 5 ≤ (recBytes r).length ∧ (recBytes r).length ≤ 24 := by
  obtain ⟨_, _, hr, _⟩ := may_rec h
  simp only [recRange, partsOK, inTops, topL, Bool.and_eq_true] at hr
  have bl := inR_of hr.1.2.1.1.2.2.2.2.2.2.2.1
  have := encParts_len (rHasOf r.kind) widL r.parts
  rw [show widthL widL = 15 from rfl] at this
  simp [recBytes, be_len]
  omega

/-- What Append answers. -/
def apErr (tl : Nat) (y : Int) (f : Int) (rb : List Int) : Int := if mayT tl y then (if f ≠ 0 then f else if 6000 < tl + 1 + rb.length then 8 else 0) else 9
def apBs (tbs : List Int) (e : Int) (rb : List Int) : List Int := if e = 0 then tbs ++ ((rb.length : Int) :: rb) else []
def apY (y e : Int) : Int := if e = 0 then y else 0

set_option maxRecDepth 100000 in
set_option maxHeartbeats 4000000 in
theorem append_any (s p : Int) (a : Option Addr) (len cap : Nat) (ls : List (Int × Int)) (ta : Option Addr) (tl tc : Nat) (tbs : List Int) (y : Int) (r : RcV) (w : World) (h : IsLabs w a len cap ls) (hT : IsB w ta tl tc tbs) (hi : IsInts w r.sa r.sl r.sc r.sites) (hm : HasAt w 1 rHas) (ht : TopsAt w) (hwd : WidsAt w) :
    Calls Tryd.prog 11 #[.agg #[.int .i64 s, .slice a len cap, .int .i64 p], .agg #[.slice ta tl tc, .int .i64 y], r.val] w fun e w' => TapeAns w w' e (apBs tbs (apErr tl y (recFault s ls p r) (recBytes r)) (recBytes r)) (apY y (apErr tl y (recFault s ls p r) (recBytes r))) (apErr tl y (recFault s ls p r) (recBytes r)) := by
  have hgT : 3 < w.heap.size := World.block_lt_of_cell? w _ ht.1
  have hgM : 1 < w.heap.size := hm.lt (by decide)
  have hgW : 2 < w.heap.size := hwd.lt
  obtain ⟨i0, hin, li0, li1, li2⟩ := info_parts byteInfo
  have hl : tl ≤ 9223372036854775807 := by have := hT.2.1; have := hT.2.2.1; unfold maxLen at this; omega
  have hMb := fun w' => mayBe_any ta tl tc y w' hl
  have hEn := fun w' h1 h2 h3 h4 h5 => encodeRecord_any s p a len cap ls r w' h1 h2 h3 h4 h5
  have hBd := @recBytes_bd s ls p r
  have hil := hi.1
  obtain ⟨FV, eFV⟩ : ∃ x, x = recFault s ls p r := ⟨_, rfl⟩
  obtain ⟨rb, erb⟩ : ∃ x, x = recBytes r := ⟨_, rfl⟩
  rw [← eFV, ← erb] at hEn hBd ⊢
  clear eFV erb
  obtain ⟨kind, site, num, key, value, ask, yes, sa, sl, sc, sites⟩ := r
  simp only [RcV.val] at hEn hi hil hBd ⊢
  obtain ⟨W, hW⟩ : ∃ W : World, W = (((w.alloc (.cells #[.int .i64 s, .slice a len cap, .int .i64 p] 24)).alloc (.cells #[.slice ta tl tc, .int .i64 y] 40)).alloc (.cells #[.int .i64 kind, .int .i64 site, .int .i64 num, .int .i64 key, .int .i64 value, .int .i64 ask, .bool yes, .slice sa sl sc] 36)).alloc (.cells #[.slice none 0 0, .int .i64 0] 40) := ⟨_, rfl⟩
  have hB : Below w.heap.size w W := by rw [hW]; exact ((((Below.refl _ _).alloc (Nat.le_refl _) _).alloc (by simp) _).alloc (by simp; omega) _).alloc (by simp; omega) _
  have zW : w.heap.size + 3 < W.heap.size := by rw [hW]; simp
  have c0 : W.cell? ⟨w.heap.size, 0, none⟩ = some (.int .i64 s) := by rw [hW]; go_simp
  have c1 : W.cell? ⟨w.heap.size, 1, none⟩ = some (.slice a len cap) := by rw [hW]; go_simp
  have c2 : W.cell? ⟨w.heap.size, 2, none⟩ = some (.int .i64 p) := by rw [hW]; go_simp
  have t0 : W.cell? ⟨w.heap.size + 1, 0, none⟩ = some (.slice ta tl tc) := by rw [hW]; go_simp
  have t1 : W.cell? ⟨w.heap.size + 1, 1, none⟩ = some (.int .i64 y) := by rw [hW]; go_simp
  have d0 : W.cell? ⟨w.heap.size + 2, 0, none⟩ = some (.int .i64 kind) := by rw [hW]; go_simp
  have d1 : W.cell? ⟨w.heap.size + 2, 1, none⟩ = some (.int .i64 site) := by rw [hW]; go_simp
  have d2 : W.cell? ⟨w.heap.size + 2, 2, none⟩ = some (.int .i64 num) := by rw [hW]; go_simp
  have d3 : W.cell? ⟨w.heap.size + 2, 3, none⟩ = some (.int .i64 key) := by rw [hW]; go_simp
  have d4 : W.cell? ⟨w.heap.size + 2, 4, none⟩ = some (.int .i64 value) := by rw [hW]; go_simp
  have d5 : W.cell? ⟨w.heap.size + 2, 5, none⟩ = some (.int .i64 ask) := by rw [hW]; go_simp
  have d6 : W.cell? ⟨w.heap.size + 2, 6, none⟩ = some (.bool yes) := by rw [hW]; go_simp
  have d7 : W.cell? ⟨w.heap.size + 2, 7, none⟩ = some (.slice sa sl sc) := by rw [hW]; go_simp
  have rbW : Nt.BoxN W (w.heap.size + 3) 2 [.slice none 0 0, .int .i64 0] := by
    have := Nt.boxn_new (((w.alloc (.cells #[.int .i64 s, .slice a len cap, .int .i64 p] 24)).alloc (.cells #[.slice ta tl tc, .int .i64 y] 40)).alloc (.cells #[.int .i64 kind, .int .i64 site, .int .i64 num, .int .i64 key, .int .i64 value, .int .i64 ask, .bool yes, .slice sa sl sc] 36)) #[.slice none 0 0, .int .i64 0] 40 2 rfl
    rw [hW]
    simpa using this
  have KC : Hid (∀ V : World, Below W.heap.size W V → ∀ b o, b < W.heap.size → V.cell? ⟨b, o, none⟩ = W.cell? ⟨b, o, none⟩) := fun V hV b o hb => hV.cell (p := ⟨b, o, none⟩) hb
  have KR : Hid (∀ V : World, Below W.heap.size W V → V.cell? ⟨w.heap.size + 3, 0, none⟩ = some (.slice none 0 0) ∧ V.cell? ⟨w.heap.size + 3, 1, none⟩ = some (.int .i64 0) ∧ V.frozen? ⟨w.heap.size + 3, 0, none⟩ = false ∧ V.frozen? ⟨w.heap.size + 3, 1, none⟩ = false) := by
    intro V hV
    have hb := rbW.below hV (by omega)
    exact ⟨(hb.c 0 (by omega)).1, (hb.c 1 (by omega)).1, (hb.c 0 (by omega)).2, (hb.c 1 (by omega)).2⟩
  have z0 : w.heap.size < W.heap.size := by omega
  have z1 : w.heap.size + 1 < W.heap.size := by omega
  have z2 : w.heap.size + 2 < W.heap.size := by omega
  obtain ⟨AE, eAE⟩ : ∃ x, x = apErr tl y FV rb := ⟨_, rfl⟩
  obtain ⟨AB, eAB⟩ : ∃ x, x = apBs tbs AE rb := ⟨_, rfl⟩
  obtain ⟨AY, eAY⟩ : ∃ x, x = apY y AE := ⟨_, rfl⟩
  rw [← eAE, ← eAB, ← eAY]
  have EA : Hid (AE = apErr tl y FV rb) := eAE
  have EB : Hid (AB = apBs tbs AE rb) := eAB
  have EY : Hid (AY = apY y AE) := eAY
  clear eAE eAB eAY
  go_enter Tryd.func11, Tryd.ntmps11
  go_upto_region 1 with (fail)
  rw [← hW]
  clear hW rbW
  cases hmay : mayT tl y with
  | false =>
    have e0 : apErr tl y FV rb = 9 := by unfold apErr; rw [hmay]; simp
    have fE : AE = 9 := EA.out.trans e0
    have fB : Hid (AB = []) := by show AB = []; rw [EB.out, fE]; rfl
    have fY : Hid (AY = 0) := by show AY = 0; rw [EY.out, fE]; rfl
    have fH : Hid (AE = 9) := fE
    clear e0 fE
    go_upto_region 2 with (go_at_call 27; refine (hMb _).mono ?_; rintro e w1 ⟨rfl, hb1⟩; rw [hmay])
    obtain ⟨r0, r1, f0, f1⟩ := KR.out _ hb1
    have hw1 := hB.trans (hb1.mono hB.size)
    go_wp2
    refine bodyPost_ret (v := .tuple #[.agg #[.slice none 0 0, .int .i64 0], .int .i64 9]) (by simp [results, Tryd.results11, go_sem, r0, r1]) rfl ⟨none, 0, 0, by rw [fH.out, fY.out], by rw [fB.out]; exact isB_nil _, fun b off e => by simp at e, ?_⟩
    exact (hw1.setCell (by show w.heap.size ≤ w.heap.size + 3; omega) _).setCell (by show w.heap.size ≤ w.heap.size + 3; omega) _
  | true =>
    have hm6 := mayT_of hmay
    go_upto_region 3 with (go_at_call 27; refine (hMb _).mono ?_; rintro e w1 ⟨rfl, hb1⟩; rw [hmay])
    have hc1 := KC.out _ hb1
    have hw1 := hB.trans (hb1.mono hB.size)
    go_upto_region 4 with (go_at_call 8; refine (hEn _ (h.below hw1) (hi.below hw1) (hm.below hw1 hgM) (ht.below hw1 hgT) (hwd.below hw1 hgW)).mono ?_; rintro e w2 ⟨a2, l2, q2, rfl, hI2, hge2, hb2⟩)
    have hW2 : Below W.heap.size W w2 := hb1.trans (hb2.mono hb1.size)
    have hw2 := hB.trans (hW2.mono hB.size)
    have hc2 := KC.out _ hW2
    clear hc1
    by_cases hF : FV = 0
    · subst hF
      simp only [if_true] at hI2
      obtain ⟨b5, b24⟩ := hBd rfl hil
      have l2e : l2 = rb.length := hI2.1.symm
      have hl2 : 5 ≤ l2 ∧ l2 ≤ 24 := by omega
      by_cases hfull : 6000 < tl + 1 + rb.length
      · have e0 : apErr tl y 0 rb = 8 := by unfold apErr; rw [hmay]; simp [hfull]
        have fE : AE = 8 := EA.out.trans e0
        have fB : Hid (AB = []) := by show AB = []; rw [EB.out, fE]; rfl
        have fY : Hid (AY = 0) := by show AY = 0; rw [EY.out, fE]; rfl
        have fH : Hid (AE = 8) := fE
        clear e0 fE
        have hf' : (6000 : Int) < (tl : Int) + 1 + (l2 : Int) := by omega
        clear l2e
        go_upto_region 8 with (fail)
        obtain ⟨r0, r1, f0, f1⟩ := KR.out _ hW2
        clear hc2
        go_wp2
        refine bodyPost_ret (v := .tuple #[.agg #[.slice none 0 0, .int .i64 0], .int .i64 8]) (by simp [results, Tryd.results11, go_sem, r0, r1]) rfl ⟨none, 0, 0, by rw [fH.out, fY.out], by rw [fB.out]; exact isB_nil _, fun b off e => by simp at e, ?_⟩
        exact (hw2.setCell (by show w.heap.size ≤ w.heap.size + 3; omega) _).setCell (by show w.heap.size ≤ w.heap.size + 3; omega) _
      · have e0 : apErr tl y 0 rb = 0 := by unfold apErr; rw [hmay]; simp [hfull]
        have fE : AE = 0 := EA.out.trans e0
        have fB : Hid (AB = tbs ++ ((rb.length : Int) :: rb)) := by show AB = _; rw [EB.out, fE]; rfl
        have fY : Hid (AY = y) := by show AY = y; rw [EY.out, fE]; rfl
        have fH : Hid (AE = 0) := fE
        clear e0 fE
        have hf' : ¬ (6000 : Int) < (tl : Int) + 1 + (l2 : Int) := by omega
        have hl6 : (tl : Int) ≤ 6000 := by omega
        have HL2 : Hid (l2 = rb.length) := l2e
        have hl24 : (l2 : Int) ≤ 24 := by omega
        have hu8 := u8_id (n := (l2 : Int)) (by omega) (by omega)
        clear l2e b5 b24
        have hT2 := hT.below hw2
        have htc : tl ≤ tc := hT.2.1
        have htc' : (tl : Int) ≤ (tc : Int) := by omega
        go_upto_region 9 with (fail)
        have hone := isB_one w2 (l2 : Int) (by omega) (by omega)
        go_upto_region 10 with (at_builtin; go_loud (refine wpList_append_grows _ (by rfl) (.tmp 40) (.tmp 44) 30 (by rfl) 5 i0 (.int .u8 0) 1 1 Tryd.underlying30 hin li0 li1 li2 rfl (by decide) ta tl tl (bytesV tbs) (by rfl) ?g1 ?g2 ?g3 ⟨w2.heap.size, 0, none⟩ 1 1 [.int .u8 (l2 : Int)] (by rfl) rfl (cell_one_new w2 _ _) (by intro u hu; simp at hu; subst hu; rfl) (by omega) (by unfold maxLen; omega) (by omega) ?g4))
        case g1 => exact fun e => by have := hT.2.2.2.2.1 e; omega
        case g2 => have := hT.1; simp [bytesV]; omega
        case g3 =>
          intro b e jj u hu
          have hjt : jj < tbs.length := by have := (List.getElem?_eq_some_iff.1 hu).1; simpa [bytesV] using this
          obtain ⟨bb, off, e', hlt, hc⟩ := hT2.2.2.2.2.2 (by have := hT.1; omega)
          rw [e] at e'
          cases e'
          have hal : Below w2.heap.size w2 (w2.alloc (.cells #[.int .u8 (l2 : Int)] 5)) := (Below.refl _ _).alloc (Nat.le_refl _) _
          rw [adr_add, hal.cell (p := ⟨bb, off + jj, none⟩) hlt, hc jj (by have := hT.1; omega), ← hu]
          simp [bytesV, List.getD, hjt]
        intro v' w3 own3 gr3
        obtain ⟨a3, c3, rfl⟩ := own_slice own3
        have eV : bytesV tbs ++ [Value.int .u8 (l2 : Int)] = bytesV (tbs ++ [(l2 : Int)]) := by simp [bytesV]
        rw [eV] at own3
        clear eV
        have hAl : Below w2.heap.size w2 (w2.alloc (.cells #[.int .u8 (l2 : Int)] 5)) := (Below.refl _ _).alloc (Nat.le_refl _) _
        have hb3 : Below w2.heap.size w2 w3 := hAl.grown gr3 hAl.size (fun k hk => by cases hk)
        have hW3 : Below W.heap.size W w3 := hW2.trans (hb3.mono hW2.size)
        have z3 := hb3.size
        have zW2 := hW2.size
        have g3z := gr3.size
        have hI3 := hI2.below hb3
        clear hc2 gr3
        have hc3 := KC.out _ hW3
        have hD : Below w3.heap.size w3 w3.drew := (Below.refl _ _).drew
        have hWD : Below W.heap.size W w3.drew := hW3.trans (hD.mono hW3.size)
        have oD := own_bel own3 hD
        have hID := hI3.below hD
        go_upto_region 10 with (fail)
        have zb : w2.heap.size + 1 ≤ w3.drew.heap.size := by simpa using g3z
        go_region_held3 (fun V => ∀ b o, b < W.heap.size → b ≠ w.heap.size + 3 → V.cell? ⟨b, o, none⟩ = W.cell? ⟨b, o, none⟩)
          (first | exact fun b o hb _ => KC.out _ hWD b o hb | exact fun b o hb _ => KC.out _ hW4 b o hb | exact fun b o hb hne => by rw [World.cell?_of_block (a := ⟨b, o, none⟩) (Below.heap_setCell _ _ _ b (by exact hne)), World.cell?_of_block (a := ⟨b, o, none⟩) (Below.heap_setCell _ _ _ b (by exact hne))]; exact KC.out _ hW4 b o hb)
          (first
            | ((refine step_append_bytes (by rfl) (.tmp 46) (.tmp 47) (by rfl) (w2.heap.size + 1) (.slice a3 (tl + 1) c3) (tl + 1) (tbs ++ [(l2 : Int)]) (by rfl) oD a2 l2 q2 rb (by rfl) hID (by omega) zb ?_; intro a4 c4 w4 own4 gr4 at4; have hW4 : Below W.heap.size W w4 := hWD.grown gr4 hWD.size (fun k hk => by have := (oD.lt k hk).1; omega); obtain ⟨r0, r1, f0, f1⟩ := KR.out _ hW4)))
        all_goals
          have hbyt : Byt ((tbs ++ [(l2 : Int)]) ++ rb) := (hT.2.2.2.1.app (fun x hx => by simp at hx; omega)).app hI3.2.2.2.1
          obtain ⟨hIF, hgeF⟩ := isB_slice own4 hbyt
          have hne : ∀ b off, a4 = some ⟨b, off, none⟩ → b ≠ w.heap.size + 3 := fun b off e => by have := hgeF b off e; omega
          have hwF := hB.trans (hW4.mono hB.size)
          have eL : (tbs ++ [(l2 : Int)]) ++ rb = tbs ++ ((rb.length : Int) :: rb) := by rw [← HL2.out]; simp
          rw [eL] at hIF
          go_wp2
          refine bodyPost_ret (v := .tuple #[.agg #[.slice a4 (tl + 1 + l2) c4, .int .i64 y], .int .i64 0]) (by simp [results, Tryd.results11, go_sem, r0, r1]) rfl ⟨a4, tl + 1 + l2, c4, by rw [fH.out, fY.out], by rw [fB.out]; exact (hIF.set _ _ hne).set _ _ hne, fun b off e => by have := hgeF b off e; omega, ?_⟩
          exact (hwF.setCell (by show w.heap.size ≤ w.heap.size + 3; omega) _).setCell (by show w.heap.size ≤ w.heap.size + 3; omega) _
    · have e0 : apErr tl y FV rb = FV := by unfold apErr; rw [hmay]; simp [hF]
      have e1 : apBs tbs FV rb = [] := by unfold apBs; rw [if_neg hF]
      have e2 : apY y FV = 0 := by unfold apY; rw [if_neg hF]
      have fE : AE = FV := EA.out.trans e0
      have fB : Hid (AB = []) := by show AB = []; rw [EB.out, fE]; exact e1
      have fY : Hid (AY = 0) := by show AY = 0; rw [EY.out, fE]; exact e2
      have fH : Hid (AE = FV) := fE
      clear e0 e1 e2 fE
      go_upto_region 5 with (fail)
      obtain ⟨r0, r1, f0, f1⟩ := KR.out _ hW2
      clear hc2
      go_wp2
      refine bodyPost_ret (v := .tuple #[.agg #[.slice none 0 0, .int .i64 0], .int .i64 FV]) (by simp [results, Tryd.results11, go_sem, r0, r1]) rfl ⟨none, 0, 0, by rw [fH.out, fY.out], by rw [fB.out]; exact isB_nil _, fun b off e => by simp at e, ?_⟩
      exact (hw2.setCell (by show w.heap.size ≤ w.heap.size + 3; omega) _).setCell (by show w.heap.size ≤ w.heap.size + 3; omega) _
end Go.Proofs.YtilhkonanncfiaaDoor
