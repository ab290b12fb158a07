/- Texts of this claim, one behind the other. -/
import Derived.Test.YtgohpgollpjlnaaDoorM30ConsoleShows
import Derived.Test.YtgohpgollpjlnaaDoorA31ConsoleShows
import Derived.Test.YtgohpgollpjlnaaDoorA32ConsoleShows
import Derived.Test.YtgohpgollpjlnaaDoorM28ConsoleShows
import Derived.Test.YtgohpgollpjlnaaDoorM23ConsoleShows
import Derived.Test.YtgohpgollpjlnaaDoorM5ConsoleShows
import Derived.OwnWalk
/- The document's ShownOf: what an operator is told. -/
namespace Go.Proofs.YtgohpgollpjlnaaDoor.Cn
open Go.ChangeShapes Go.WideShapes Go.ChangeAt Go.RowKit
open Go.Proofs.YtgohpgollpjlnaaDoor.St (BoxN boxn_new SV IsStore IsRow DbV LkV storeOK TxWf own_below txOK ofT storeMay_any plainTxn_any locksOK lockOK doubtsOK)
open Go.Proofs.YtgohpgollpjlnaaDoor.Pt (IsStores NV IsNotes labelMay_any)
open Go.Proofs.YtgohpgollpjlnaaDoor.Dc (decS dec_ref decS_size)
set_option linter.unusedVariables false

set_option maxRecDepth 100000 in
set_option maxHeartbeats 16000000 in
theorem shownRest_any (s p : Int) (a : Option Addr) (len cap : Nat) (ls : List (Int × Int)) (l : Int) (sa : Option Addr) (n sc : Nat) (ss : List SV) (na : Option Addr) (m nc : Nat) (nl : List NL) (xk xl xs xn : Int) (xy : Bool) (w : World) (hl : IsLabs w a len cap ls) (hS : IsStores w sa n sc ss) (hN : IsNLs w na m nc nl) (hSE : shErr s ls p l ss nl = 0) (hkind : Hid (xk ≠ 1 ∧ xk ≠ 4)) :
    Calls Tryd.prog 12 #[.agg #[.int .i64 s, .slice a len cap, .int .i64 p], .int .i64 l, .slice sa n sc, .slice na m nc, .agg #[.int .i64 xk, .int .i64 xl, .int .i64 xs, .int .i64 xn, .bool xy]] w fun e w' => e = .returned (.tuple #[.string (showOut s ls p l ss nl ⟨xk, xl, xs, xn, xy⟩), .int .i64 (showErr s ls p l ss nl ⟨xk, xl, xs, xn, xy⟩)]) ∧ Below w.heap.size w w' := by
  obtain ⟨W, hW⟩ : ∃ W : World, W = (w.alloc (.cells #[.int .i64 s, .slice a len cap, .int .i64 p] 32)).alloc (.cells #[.int .i64 xk, .int .i64 xl, .int .i64 xs, .int .i64 xn, .bool xy] 25) := ⟨_, rfl⟩
  have oC : ObAt W w.heap.size #[.int .i64 s, .slice a len cap, .int .i64 p] 32 := by rw [hW]; exact (ObAt.new w _ _).below ((Below.refl _ _).alloc (Nat.le_refl _) _)
  have oX : ObAt W (w.heap.size + 1) #[.int .i64 xk, .int .i64 xl, .int .i64 xs, .int .i64 xn, .bool xy] 25 := by rw [hW]; have h8 := ObAt.new (w.alloc (.cells #[.int .i64 s, .slice a len cap, .int .i64 p] 32)) #[.int .i64 xk, .int .i64 xl, .int .i64 xs, .int .i64 xn, .bool xy] 25; simpa using h8
  have bW : Below w.heap.size w W := by rw [hW]; exact ((Below.refl _ _).alloc (Nat.le_refl _) _).alloc (by simp) _
  have HO : Hid (showOut s ls p l ss nl ⟨xk, xl, xs, xn, xy⟩ = if shErr s ls p l ss nl = 0 then showTxt ls l ss nl ⟨xk, xl, xs, xn, xy⟩ else ⟨#[]⟩) := rfl
  have HE : Hid (showErr s ls p l ss nl ⟨xk, xl, xs, xn, xy⟩ = if shErr s ls p l ss nl = 0 then kindErr xk else shErr s ls p l ss nl) := rfl
  have KV : Hid (∀ U, Below W.heap.size W U → ObAt U w.heap.size #[.int .i64 s, .slice a len cap, .int .i64 p] 32 ∧ ObAt U (w.heap.size + 1) #[.int .i64 xk, .int .i64 xl, .int .i64 xs, .int .i64 xn, .bool xy] 25 ∧ IsLabs U a len cap ls ∧ IsStores U sa n sc ss ∧ IsNLs U na m nc nl ∧ Below w.heap.size w U) := fun U hU => ⟨oC.below hU, oX.below hU, (hl.below bW).below hU, (hS.below bW).below hU, (hN.below bW).below hU, bW.trans (hU.mono bW.size)⟩
  have hlen := hl.1
  have hsl := hS.row.1
  have hnl := hN.row.1
  have HS : Hid (shErr s ls p l ss nl = if cfgFault s ls p = 0 then (if inR l 0 ((len : Int) - 1) = true then (if n = len ∧ m = len then (if okAll ss nl len then 0 else 9) else 9) else 6) else cfgFault s ls p) := by show _ = _; unfold shErr; rw [hlen, hsl, hnl]
  have H6 : Hid (cfgFault s ls p = 0 → len ≤ 6) := fun h => by have := (cfg_zero h).2.2.2.1; omega
  have hCf := fault_any s p a len cap ls W (hl.below bW)
  obtain ⟨OUT, eOUT⟩ : ∃ x, x = showOut s ls p l ss nl ⟨xk, xl, xs, xn, xy⟩ := ⟨_, rfl⟩
  obtain ⟨ERR, eERR⟩ : ∃ x, x = showErr s ls p l ss nl ⟨xk, xl, xs, xn, xy⟩ := ⟨_, rfl⟩
  rw [← eOUT] at HO ⊢
  rw [← eERR] at HE ⊢
  have HB : Hid (∀ e : Int, e ≠ 0 → shErr s ls p l ss nl = e → OUT = ⟨#[]⟩ ∧ ERR = e) := fun e h1 h2 => by rw [HO.out, HE.out, h2, if_neg h1, if_neg h1]; exact ⟨rfl, rfl⟩
  have HG : Hid (shErr s ls p l ss nl = 0 → OUT = showTxt ls l ss nl ⟨xk, xl, xs, xn, xy⟩ ∧ ERR = kindErr xk) := fun h2 => by rw [HO.out, HE.out, if_pos h2, if_pos h2]; exact ⟨rfl, rfl⟩
  obtain ⟨SE, eSE⟩ : ∃ x, x = shErr s ls p l ss nl := ⟨_, rfl⟩
  rw [← eSE] at HS HB HG hSE
  clear HO HE eSE eOUT eERR
  obtain ⟨C, eC⟩ : ∃ x, x = cfgFault s ls p := ⟨_, rfl⟩
  rw [← eC] at HS H6 hCf
  clear eC hl hS hN
  have c0 : W.cell? ⟨w.heap.size, 0, none⟩ = some (.int .i64 s) := oC.cell 0
  have c1 : W.cell? ⟨w.heap.size, 1, none⟩ = some (.slice a len cap) := oC.cell 1
  have c2 : W.cell? ⟨w.heap.size, 2, none⟩ = some (.int .i64 p) := oC.cell 2
  have zc := oC.lt
  have b0 : Below W.heap.size W W := Below.refl _ _
  clear oC oX
  go_enter Tryd.func12, Tryd.ntmps12
  go_upto_region 1 with (fail)
  rw [← hW]
  clear hW
  go_upto_region 2 with (go_at_call 27; refine hCf.mono ?_; rintro e u1 ⟨rfl, hb1⟩)
  clear hCf b0 c0 c1 c2 zc bW
  by_cases hC : C = 0
  · subst hC
    rw [if_pos rfl] at HS
    have h6 := H6.out rfl
    clear H6
    obtain ⟨oC1, -, -, -, -, hbw⟩ := KV.out u1 hb1
    have c0 : u1.cell? ⟨w.heap.size, 0, none⟩ = some (.int .i64 s) := oC1.cell 0
    have c1 : u1.cell? ⟨w.heap.size, 1, none⟩ = some (.slice a len cap) := oC1.cell 1
    have c2 : u1.cell? ⟨w.heap.size, 2, none⟩ = some (.int .i64 p) := oC1.cell 2
    have zc := oC1.lt
    have hLa := labelMay_any s p a len cap l u1 h6
    rw [plc_in] at hLa
    clear oC1
    obtain ⟨IN, eIN⟩ : ∃ x, x = inR l 0 ((len : Int) - 1) := ⟨_, rfl⟩
    have HIN : Hid (IN = true → 0 ≤ l ∧ l < (len : Int)) := fun h => by have := inR_bd (eIN.symm.trans h); omega
    rw [← eIN] at HS hLa
    clear eIN
    cases IN with
    | false =>
      simp only [Bool.false_eq_true, if_false] at HS
      exact absurd HS.out (by omega)
    | true =>
      rw [if_pos rfl] at HS
      obtain ⟨hl0, hl1⟩ := HIN.out rfl
      clear HIN
      go_upto_region 4 with (go_at_call 28; refine hLa.mono ?_; rintro e u2 ⟨rfl, hb2⟩)
      clear c0 c1 c2 zc hLa hbw
      have hb12 := hb1.trans (hb2.mono hb1.size)
      clear hb1 hb2
      obtain ⟨oC1, -, -, -, -, hbw⟩ := KV.out u2 hb12
      have c1 : u2.cell? ⟨w.heap.size, 1, none⟩ = some (.slice a len cap) := oC1.cell 1
      have zc := oC1.lt
      clear oC1
      by_cases hnn : n = len
      · by_cases hmm : m = len
        · obtain rfl := hnn
          obtain rfl := hmm
          rw [if_pos ⟨rfl, rfl⟩] at HS
          have hBad : Hid (¬ okAll ss nl m → OUT = ⟨#[]⟩ ∧ ERR = 9) := fun h => HB.out 9 (by decide) (by rw [HS.out, if_neg h])
          have hGood : Hid (okAll ss nl m → OUT = showTxt ls l ss nl ⟨xk, xl, xs, xn, xy⟩ ∧ ERR = kindErr xk) := fun h => HG.out (by rw [HS.out, if_pos h])
          have HOKA : Hid (okAll ss nl m) := by
            by_cases h9 : okAll ss nl m
            · exact h9
            · have h8 := HS.out
              rw [if_neg h9] at h8
              exact absurd h8 (by omega)
          clear HS HB HG
          go_upto_region 6 with (fail)
          clear c1 zc
          go_wp2
          go_loopw [12, 13] (fun s12 s13 wr => ∃ (k : Nat) (e : Int), s12 = .int .i64 e ∧ s13 = .int .i64 (k : Int) ∧ k ≤ m ∧ Below W.heap.size W wr ∧ Hid ((e = 0 ∧ ∀ i, i < k → storeOK (ss.getD i default) = true) ∨ (e = 9 ∧ ∃ i, i < m ∧ storeOK (ss.getD i default) = false))) (fun _ s13 _ => m - (intOf s13).toNat)
          case atStart => exact ⟨0, 0, rfl, rfl, by omega, hb12, Or.inl ⟨rfl, fun i hi => absurd hi (by omega)⟩⟩
          case round =>
            obtain ⟨k, e, rfl, rfl, hk, hb, hI⟩ := hrel
            clear hbw
            have hbw := (KV.out wr hb).2.2.2.2.2
            rcases hI.out with ⟨rfl, hI1⟩ | ⟨rfl, hI9⟩
            · by_cases hlt : k < m
              · have hlt' : (k : Int) < (m : Int) := by omega
                have HJ : Hid (k + 1 ≤ m) := hlt
                obtain ⟨-, -, -, hSr, -, -⟩ := KV.out wr hb
                have hSk := hSr.each k hlt
                obtain ⟨b1, o1, rfl, zb1, e0, e1, e2, e3⟩ := hSr.at hlt
                have HOk : Hid (storeOK (ss.getD k default) = true → ∀ i, i < k + 1 → storeOK (ss.getD i default) = true) := fun g i hi => by
                  by_cases hik : i < k
                  · exact hI1 i hik
                  · obtain rfl : i = k := by omega
                    exact g
                have HBk : Hid (storeOK (ss.getD k default) = false → ∃ i, i < m ∧ storeOK (ss.getD i default) = false) := fun g => ⟨k, hlt, g⟩
                have hMay := storeMay_any (ss.getD k default) wr hSk.1
                obtain ⟨OK, eOK⟩ : ∃ x, x = storeOK (ss.getD k default) := ⟨_, rfl⟩
                rw [← eOK] at HOk HBk hMay
                obtain ⟨r, er⟩ : ∃ r, r = ss.getD k default := ⟨_, rfl⟩
                rw [← er] at e0 e1 e2 e3 hMay
                clear er eOK hI hI1 hSr hSk
                obtain ⟨ra0, rn0, rc0, ra1, rn1, rc1, ra2, rn2, rc2, ra3, rn3, rc3, ri, rl, rd, ro⟩ := r
                simp only [SV.val] at e0 e1 e2 e3 hMay
                cases OK with
                | true =>
                  have HO2 := HOk.out rfl
                  have HO3 : Hid (∀ i, i < k + 1 → storeOK (ss.getD i default) = true) := HO2
                  clear HOk HBk HO2
                  go_wp2_with (go_at_call 29; refine hMay.mono ?_; rintro e u3 ⟨rfl, bU3⟩)
                  go_roundw
                  case rel => exact ⟨k + 1, 0, rfl, by go_num, HJ.out, hb.trans (bU3.mono hb.size), Or.inl ⟨rfl, HO3.out⟩⟩
                  case measure => have := HJ.out; simp [intOf]; omega
                | false =>
                  have HO2 := HBk.out rfl
                  have HO3 : Hid (∃ i, i < m ∧ storeOK (ss.getD i default) = false) := HO2
                  clear HOk HBk HO2
                  obtain ⟨i, hi, h9⟩ := HO3.out
                  have h8 := (HOKA.out i hi).1
                  rw [h9] at h8
                  cases h8
              · obtain rfl : k = m := by omega
                have hnl2 : ¬ ((k : Int) < (k : Int)) := by omega
                have HSt : Hid (∀ i, i < k → storeOK (ss.getD i default) = true) := hI1
                clear hI hI1
                go_wp2
                go_loopw [12, 14] (fun s12 s14 wr => ∃ (q : Nat) (e : Int), s12 = .int .i64 e ∧ s14 = .int .i64 (q : Int) ∧ q ≤ k ∧ Below W.heap.size W wr ∧ Hid ((e = 0 ∧ ∀ i, i < q → notesOK (nl.getD i default).ns = true) ∨ (e = 9 ∧ ∃ i, i < k ∧ notesOK (nl.getD i default).ns = false))) (fun _ s14 _ => k - (intOf s14).toNat)
                case atStart => exact ⟨0, 0, rfl, rfl, by omega, hb, Or.inl ⟨rfl, fun i hi => absurd hi (by omega)⟩⟩
                case round =>
                  clear hbw hb
                  obtain ⟨q, e, rfl, rfl, hq, hb, hI⟩ := hrel
                  have hbw := (KV.out wr hb).2.2.2.2.2
                  rcases hI.out with ⟨rfl, hI1⟩ | ⟨rfl, hI9⟩
                  · by_cases hlt : q < k
                    · have hlt' : (q : Int) < (k : Int) := by omega
                      have HJ : Hid (q + 1 ≤ k) := hlt
                      have HOk : Hid (notesOK (nl.getD q default).ns = true → ∀ i, i < q + 1 → notesOK (nl.getD i default).ns = true) := fun g i hi => by
                        by_cases hik : i < q
                        · exact hI1 i hik
                        · obtain rfl : i = q := by omega
                          exact g
                      have HBk : Hid (notesOK (nl.getD q default).ns = false → ∃ i, i < k ∧ notesOK (nl.getD i default).ns = false) := fun g => ⟨q, hlt, g⟩
                      obtain ⟨y, ey⟩ : ∃ y, y = nl.getD q default := ⟨_, rfl⟩
                      have KN : Hid (∀ U, Below W.heap.size W U → (∃ b3 o3, na = some ⟨b3, o3, none⟩ ∧ b3 < U.heap.size ∧ U.cell? ⟨b3, o3 + q, none⟩ = some (.slice y.a y.n y.c)) ∧ IsNotes U y.a y.n y.c y.ns) := fun U hU => by
                        obtain ⟨-, -, -, -, hNr, -⟩ := KV.out U hU
                        obtain ⟨b3, o3, e3, zb3, f0⟩ := hNr.at hlt
                        have h8 := hNr.each q hlt
                        rw [ey]
                        exact ⟨⟨b3, o3, e3, zb3, f0⟩, h8⟩
                      rw [← ey] at HOk HBk
                      clear ey hI hI1
                      obtain ⟨ya, yn, yc, ys⟩ := y
                      simp only [] at KN HOk HBk
                      go_wp2
                      go_loopw [12, 15] (fun s12 s15 wy => ∃ (j : Nat) (e : Int), s12 = .int .i64 e ∧ s15 = .int .i64 (j : Int) ∧ j ≤ yn ∧ Below W.heap.size W wy ∧ Hid ((e = 0 ∧ ∀ i, i < j → txOK ((ys.getD i default).site, (ys.getD i default).num) = true) ∨ (e = 9 ∧ ∃ i, i < yn ∧ txOK ((ys.getD i default).site, (ys.getD i default).num) = false))) (fun _ s15 _ => yn - (intOf s15).toNat)
                      case atStart => exact ⟨0, 0, rfl, rfl, by omega, hb, Or.inl ⟨rfl, fun i hi => absurd hi (by omega)⟩⟩
                      case round =>
                        clear hbw hb
                        obtain ⟨j, e, rfl, rfl, hj, hb, hI⟩ := hrel
                        have hbw := (KV.out wr hb).2.2.2.2.2
                        obtain ⟨⟨b3, o3, rfl, zb3, f0⟩, hNs⟩ := KN.out wr hb
                        by_cases hjl : j < yn
                        · have hjl' : (j : Int) < (yn : Int) := by omega
                          have HJ2 : Hid (j + 1 ≤ yn) := hjl
                          have hjm : (j : Int) + 1 ≤ 9223372036854775807 := by have h8 := hNs.2.1; have h9 := hNs.2.2.1; unfold maxLen at h9; omega
                          obtain ⟨b2, o2, rfl, zb2, hc⟩ := hNs.2.2.2.2 (by omega)
                          have e0 := hc j hjl 0 (by decide)
                          have e1 := hc j hjl 1 (by decide)
                          have hPl := plainTxn_any ((ys.getD j default).site, (ys.getD j default).num) wr
                          have HG2 : Hid (e = 0 → txOK ((ys.getD j default).site, (ys.getD j default).num) = true → (e = 0 ∧ ∀ i, i < j + 1 → txOK ((ys.getD i default).site, (ys.getD i default).num) = true)) := fun he g => ⟨he, fun i hi => by
                            by_cases hik : i < j
                            · rcases hI.out with ⟨_, h1⟩ | ⟨h9, _⟩
                              · exact h1 i hik
                              · rw [he] at h9; cases h9
                            · obtain rfl : i = j := by omega
                              exact g⟩
                          have HB2 : Hid (txOK ((ys.getD j default).site, (ys.getD j default).num) = false → ∃ i, i < yn ∧ txOK ((ys.getD i default).site, (ys.getD i default).num) = false) := fun g => ⟨j, hjl, g⟩
                          obtain ⟨TX, eTX⟩ : ∃ x, x = txOK ((ys.getD j default).site, (ys.getD j default).num) := ⟨_, rfl⟩
                          rw [← eTX] at hPl HG2 HB2
                          obtain ⟨d, ed⟩ : ∃ d, d = ys.getD j default := ⟨_, rfl⟩
                          rw [← ed] at e0 e1 hPl
                          clear ed eTX hc hNs
                          obtain ⟨t1, t2, ty, tg⟩ := d
                          simp only [NV.cells, List.getElem?_cons_zero, List.getElem?_cons_succ, Nat.add_zero] at e0 e1 hPl
                          cases TX with
                          | true =>
                            have HI3 : Hid ((e = 0 ∧ ∀ i, i < j + 1 → txOK ((ys.getD i default).site, (ys.getD i default).num) = true) ∨ (e = 9 ∧ ∃ i, i < yn ∧ txOK ((ys.getD i default).site, (ys.getD i default).num) = false)) := by
                              rcases hI.out with ⟨h0, _⟩ | h9
                              · exact Or.inl (HG2.out h0 rfl)
                              · exact Or.inr h9
                            clear hI HG2 HB2
                            go_wp2_with (go_at_call 30; refine hPl.mono ?_; rintro e4 u4 ⟨rfl, bU4⟩)
                            go_roundw
                            case rel => exact ⟨j + 1, e, rfl, by go_num, HJ2.out, hb.trans (bU4.mono hb.size), HI3⟩
                            case measure => have := HJ2.out; simp [intOf]; omega
                          | false =>
                            have HI3 := HB2.out rfl
                            have HI4 : Hid (∃ i, i < yn ∧ txOK ((ys.getD i default).site, (ys.getD i default).num) = false) := HI3
                            clear hI HG2 HB2 HI3
                            go_wp2_with (go_at_call 30; refine hPl.mono ?_; rintro e4 u4 ⟨rfl, bU4⟩)
                            go_roundw
                            case rel => exact ⟨j + 1, 9, rfl, by go_num, HJ2.out, hb.trans (bU4.mono hb.size), Or.inr ⟨rfl, HI4.out⟩⟩
                            case measure => have := HJ2.out; simp [intOf]; omega
                        · obtain rfl : j = yn := by omega
                          have hnl3 : ¬ ((j : Int) < (j : Int)) := by omega
                          have hyl := hNs.1
                          have HI3 : Hid ((e = 0 ∧ ∀ i, i < q + 1 → notesOK (nl.getD i default).ns = true) ∨ (e = 9 ∧ ∃ i, i < k ∧ notesOK (nl.getD i default).ns = false)) := by
                            rcases hI.out with ⟨h0, h1⟩ | ⟨h9, i, hi, h2⟩
                            · exact Or.inl ⟨h0, HOk.out (notes_all (fun i hi => h1 i (by omega)))⟩
                            · exact Or.inr ⟨h9, HBk.out (notes_not (i := i) (by omega) h2)⟩
                          clear hI HOk HBk hNs
                          go_wp2
                          go_roundw
                          case rel => exact ⟨q + 1, e, rfl, by go_num, HJ.out, hb, HI3⟩
                          case measure => have := HJ.out; simp [intOf]; omega
                    · obtain rfl : q = k := by omega
                      have hnl3 : ¬ ((q : Int) < (q : Int)) := by omega
                      have hok : okAll ss nl q := fun i hi => ⟨HSt.out i hi, hI1 i hi⟩
                      obtain ⟨hOUT, hERR⟩ := hGood.out hok
                      have HOK : Hid (okAll ss nl q) := hok
                      have HOUT0 : Hid (OUT = showTxt ls l ss nl ⟨xk, xl, xs, xn, xy⟩) := hOUT
                      have HERR0 : Hid (ERR = kindErr xk) := hERR
                      clear hI hI1 HSt hok hOUT hERR hGood hBad
                      obtain ⟨oC1, oX1, -, -, -, -⟩ := KV.out wr hb
                      have c0 : wr.cell? ⟨w.heap.size, 0, none⟩ = some (.int .i64 s) := oC1.cell 0
                      have c1 : wr.cell? ⟨w.heap.size, 1, none⟩ = some (.slice a q cap) := oC1.cell 1
                      have c2 : wr.cell? ⟨w.heap.size, 2, none⟩ = some (.int .i64 p) := oC1.cell 2
                      have zc := oC1.lt
                      have d0 : wr.cell? ⟨w.heap.size + 1, 0, none⟩ = some (.int .i64 xk) := oX1.cell 0
                      have d1 : wr.cell? ⟨w.heap.size + 1, 1, none⟩ = some (.int .i64 xl) := oX1.cell 1
                      have d2 : wr.cell? ⟨w.heap.size + 1, 2, none⟩ = some (.int .i64 xs) := oX1.cell 2
                      have d3 : wr.cell? ⟨w.heap.size + 1, 3, none⟩ = some (.int .i64 xn) := oX1.cell 3
                      have d4 : wr.cell? ⟨w.heap.size + 1, 4, none⟩ = some (.bool xy) := oX1.cell 4
                      have zx := oX1.lt
                      clear oC1 oX1
                      obtain ⟨k1, k4⟩ := hkind.out
                      by_cases k2 : xk = 2
                      · subst k2
                        have HOUT : Hid (OUT = stText ls l ss xl xs xn) := HOUT0.out
                        have HERR : Hid (ERR = 0) := HERR0.out
                        have m0 := fun d os => cell_regrown c0 d os
                        have m1 := fun d os => cell_regrown c1 d os
                        have m2 := fun d os => cell_regrown c2 d os
                        have m4 := fun d os => cell_regrown d1 d os
                        have m5 := fun d os => cell_regrown d2 d os
                        have m6 := fun d os => cell_regrown d3 d os
                        have hL : ∀ U, Calls Tryd.prog 28 #[.agg #[.int .i64 s, .slice a q cap, .int .i64 p], .int .i64 xl] U fun e w' => e = .returned (.bool (inR xl 0 ((q : Int) - 1))) ∧ Below U.heap.size U w' := fun U => by have h8 := labelMay_any s p a q cap xl U h6; rwa [plc_in] at h8
                        have HX : stText ls l ss xl xs xn = if (inR xl 0 ((q : Int) - 1) && abv (ls.getD l.toNat (0, 0)).1 (ls.getD l.toNat (0, 0)).2 (ls.getD xl.toNat (0, 0)).1 (ls.getD xl.toNat (0, 0)).2) && prepB (ss.getD xl.toNat default) (xs, xn) then ⟨#[112, 114, 101, 112, 97, 114, 101, 100, 10]⟩ else ⟨#[117, 110, 107, 110, 111, 119, 110, 10]⟩ := by rw [← hlen]; rfl
                        obtain ⟨-, -, hlr, hSr, -, -⟩ := KV.out wr hb
                        clear HOUT0 HERR0
                        by_cases hx : 0 ≤ xl ∧ xl ≤ (q : Int) - 1
                        · have ep : inR xl 0 ((q : Int) - 1) = true := by unfold inR; simpa using hx
                          rw [ep] at hL HX
                          have cL : ∀ w', Calls Tryd.prog 28 #[.agg #[.int .i64 s, .slice a q cap, .int .i64 p], .int .i64 xl] w' fun e w'' => e = .returned (.bool true) ∧ Below w'.heap.size w' w'' := hL
                          obtain ⟨bk, off, hae, hL2⟩ := hlr.2.2.2 (by omega)
                          subst hae
                          obtain ⟨i, rfl⟩ : ∃ i : Nat, l = i := ⟨l.toNat, by omega⟩
                          obtain ⟨j, rfl⟩ : ∃ j : Nat, xl = j := ⟨xl.toNat, by omega⟩
                          have hil : (i : Int) < (q : Int) := by omega
                          have hjl : (j : Int) < (q : Int) := by omega
                          have hjn : j < q := by omega
                          simp only [Int.toNat_natCast, Bool.true_and] at HX
                          obtain ⟨x, hxe⟩ : ∃ x, x = ls.getD i (0, 0) := ⟨_, rfl⟩
                          obtain ⟨y, hye⟩ : ∃ y, y = ls.getD j (0, 0) := ⟨_, rfl⟩
                          have hri := hL2.2 i (by omega)
                          have hrj := hL2.2 j (by omega)
                          rw [← hxe] at hri HX
                          rw [← hye] at hrj HX
                          obtain ⟨r0, r1⟩ := hri
                          obtain ⟨r2, r3⟩ := hrj
                          have q0 := fun d os => cell_regrown r0 d os
                          have q1 := fun d os => cell_regrown r1 d os
                          have q2 := fun d os => cell_regrown r2 d os
                          have q3 := fun d os => cell_regrown r3 d os
                          have cA := fun w' => dominates_any x.1 x.2 y.1 y.2 w'
                          obtain ⟨V, eV⟩ : ∃ V, V = abv x.1 x.2 y.1 y.2 := ⟨_, rfl⟩
                          rw [← eV] at cA HX
                          cases V with
                          | false =>
                            simp only [Bool.false_and, Bool.false_eq_true, if_false] at HX
                            have HR : Hid (OUT = ⟨#[117, 110, 107, 110, 111, 119, 110, 10]⟩) := by show _ = _; rw [HOUT.out]; exact HX
                            clear HX eV hxe hye hL2 hL hlr hSr hx ep
                            go_upto_region 24 with (fail)
                            refine wp_region_quiet_below (by kernel_rfl) (by kernel_rfl) ?_
                            repeat (go_big_quiet_step (first | (go_at_call 28; exact Calls.regrown_of (cL _)) | (go_at_call 31; exact Calls.regrown_of (cA _))))
                            refine wpQuiet_nil ?_
                            intro _ hw'
                            obtain ⟨⟨dq, osq⟩, hw''⟩ := hw'
                            subst hw''
                            have bQ := hbw.trans ((below_regrown wr dq osq).mono hbw.size)
                            go_wp2
                            go_ret2
                            exact ⟨by rw [HR.out, HERR.out]; rfl, bQ⟩
                          | true =>
                            simp only [Bool.true_and] at HX
                            obtain ⟨b1, o1, rfl, zb1, e0, e1, e2, e3⟩ := hSr.at hjn
                            have KP : ∀ U, Below wr.heap.size wr U → Calls Tryd.prog 32 #[(ss.getD j default).val, .agg #[.int .i64 xs, .int .i64 xn]] U fun e w' => e = .returned (.bool (prepB (ss.getD j default) (xs, xn))) ∧ Below U.heap.size U w' := fun U hU => prepRef_any _ xs xn U ((hSr.each j hjn).1.below hU) (HOK.out j hjn).1
                            obtain ⟨r, er⟩ : ∃ r, r = ss.getD j default := ⟨_, rfl⟩
                            rw [← er] at e0 e1 e2 e3 HX KP
                            clear er
                            obtain ⟨ra0, rn0, rc0, ra1, rn1, rc1, ra2, rn2, rc2, ra3, rn3, rc3, ri, rl, rd, ro⟩ := r
                            simp only [SV.val] at e0 e1 e2 e3 KP
                            have q4 := fun d os => cell_regrown e0 d os
                            have q5 := fun d os => cell_regrown e1 d os
                            have q6 := fun d os => cell_regrown e2 d os
                            have q7 := fun d os => cell_regrown e3 d os
                            obtain ⟨PB, ePB⟩ : ∃ x, x = prepB ⟨ra0, rn0, rc0, ra1, rn1, rc1, ra2, rn2, rc2, ra3, rn3, rc3, ri, rl, rd, ro⟩ (xs, xn) := ⟨_, rfl⟩
                            rw [← ePB] at HX KP
                            have hP2 := fun d os => KP _ (below_regrown wr d os)
                            cases PB with
                            | true =>
                              simp only [if_true] at HX
                              have HR : Hid (OUT = ⟨#[112, 114, 101, 112, 97, 114, 101, 100, 10]⟩) := by show _ = _; rw [HOUT.out]; exact HX
                              clear HX ePB eV hxe hye hL2 hL hlr hSr hx ep KP
                              go_upto_region 24 with (fail)
                              refine wp_region_quiet_below (by kernel_rfl) (by kernel_rfl) ?_
                              repeat (go_big_quiet_step (first | (go_at_call 28; exact Calls.regrown_of (cL _)) | (go_at_call 31; exact Calls.regrown_of (cA _)) | (go_at_call 32; exact Calls.regrown_of (hP2 _ _))))
                              refine wpQuiet_nil ?_
                              intro _ hw'
                              obtain ⟨⟨dq, osq⟩, hw''⟩ := hw'
                              subst hw''
                              have bQ := hbw.trans ((below_regrown wr dq osq).mono hbw.size)
                              go_wp2
                              go_ret2
                              exact ⟨by rw [HR.out, HERR.out]; rfl, bQ⟩
                            | false =>
                              simp only [Bool.false_eq_true, if_false] at HX
                              have HR : Hid (OUT = ⟨#[117, 110, 107, 110, 111, 119, 110, 10]⟩) := by show _ = _; rw [HOUT.out]; exact HX
                              clear HX ePB eV hxe hye hL2 hL hlr hSr hx ep KP
                              go_upto_region 24 with (fail)
                              refine wp_region_quiet_below (by kernel_rfl) (by kernel_rfl) ?_
                              repeat (go_big_quiet_step (first | (go_at_call 28; exact Calls.regrown_of (cL _)) | (go_at_call 31; exact Calls.regrown_of (cA _)) | (go_at_call 32; exact Calls.regrown_of (hP2 _ _))))
                              refine wpQuiet_nil ?_
                              intro _ hw'
                              obtain ⟨⟨dq, osq⟩, hw''⟩ := hw'
                              subst hw''
                              have bQ := hbw.trans ((below_regrown wr dq osq).mono hbw.size)
                              go_wp2
                              go_ret2
                              exact ⟨by rw [HR.out, HERR.out]; rfl, bQ⟩
                        · have ep : inR xl 0 ((q : Int) - 1) = false := by unfold inR; simp only [decide_eq_false_iff_not]; exact hx
                          rw [ep] at hL HX
                          simp only [Bool.false_and, Bool.false_eq_true, if_false] at HX
                          have cL : ∀ w', Calls Tryd.prog 28 #[.agg #[.int .i64 s, .slice a q cap, .int .i64 p], .int .i64 xl] w' fun e w'' => e = .returned (.bool false) ∧ Below w'.heap.size w' w'' := hL
                          have HR : Hid (OUT = ⟨#[117, 110, 107, 110, 111, 119, 110, 10]⟩) := by show _ = _; rw [HOUT.out]; exact HX
                          clear HX hL hlr hSr hx ep
                          go_upto_region 24 with (fail)
                          refine wp_region_quiet_below (by kernel_rfl) (by kernel_rfl) ?_
                          repeat (go_big_quiet_step (first | (go_at_call 28; exact Calls.regrown_of (cL _))))
                          refine wpQuiet_nil ?_
                          intro _ hw'
                          obtain ⟨⟨dq, osq⟩, hw''⟩ := hw'
                          subst hw''
                          have bQ := hbw.trans ((below_regrown wr dq osq).mono hbw.size)
                          go_wp2
                          go_ret2
                          exact ⟨by rw [HR.out, HERR.out]; rfl, bQ⟩
                      · have HOUT : Hid (OUT = ⟨#[]⟩) := by show _ = _; rw [HOUT0.out]; unfold showTxt; rw [if_neg k1, if_neg k2, if_neg k4]
                        have HERR : Hid (ERR = 3) := by show _ = _; rw [HERR0.out]; unfold kindErr; rw [if_neg (by omega)]
                        have e1 : ((xk : Int) != 1) = true := by simpa using k1
                        have e2 : ((xk : Int) != 2) = true := by simpa using k2
                        have e4 : ((xk : Int) != 4) = true := by simpa using k4
                        clear HOUT0 HERR0 HOK k1 k2 k4 KV
                        go_wp2
                        go_ret2
                        exact ⟨by rw [HOUT.out, HERR.out]; rfl, hbw⟩

                  · have hnok : ¬ okAll ss nl k := fun g => by obtain ⟨i, hi, h9⟩ := hI9; have := (g i hi).2; rw [h9] at this; cases this
                    exact absurd HOKA.out hnok
            · have hnok : ¬ okAll ss nl m := fun g => by obtain ⟨i, hi, h9⟩ := hI9; have := (g i hi).1; rw [h9] at this; cases this
              exact absurd HOKA.out hnok
        · have hne : ((m : Int) != (len : Int)) = true := by simp; omega
          have h9 := HS.out
          rw [if_neg (fun g => hmm g.2)] at h9
          exact absurd h9 (by omega)
      · have hne : ((n : Int) != (len : Int)) = true := by simp; omega
        have h9 := HS.out
        rw [if_neg (fun g => hnn g.1)] at h9
        exact absurd h9 (by omega)
  · rw [if_neg hC] at HS
    exact absurd HS.out (by omega)
end Go.Proofs.YtgohpgollpjlnaaDoor.Cn
/- The document's ShownOf, whole. -/
namespace Go.Proofs.YtgohpgollpjlnaaDoor.Cn
open Go.ChangeShapes Go.WideShapes Go.ChangeAt Go.RowKit
open Go.Proofs.YtgohpgollpjlnaaDoor.St (SV)
open Go.Proofs.YtgohpgollpjlnaaDoor.Pt (IsStores)
set_option linter.unusedVariables false

theorem shown_any (s p : Int) (a : Option Addr) (len cap : Nat) (ls : List (Int × Int)) (l : Int) (sa : Option Addr) (n sc : Nat) (ss : List SV) (na : Option Addr) (m nc : Nat) (nl : List NL) (xk xl xs xn : Int) (xy : Bool) (w : World) (hl : IsLabs w a len cap ls) (hS : IsStores w sa n sc ss) (hN : IsNLs w na m nc nl)
    (hZ : xk = 4 → shErr s ls p l ss nl = 0 → (auditGo ls l 0 nl).length ≤ 140737488355328) :
    Calls Tryd.prog 12 #[.agg #[.int .i64 s, .slice a len cap, .int .i64 p], .int .i64 l, .slice sa n sc, .slice na m nc, .agg #[.int .i64 xk, .int .i64 xl, .int .i64 xs, .int .i64 xn, .bool xy]] w fun e w' => e = .returned (.tuple #[.string (showOut s ls p l ss nl ⟨xk, xl, xs, xn, xy⟩), .int .i64 (showErr s ls p l ss nl ⟨xk, xl, xs, xn, xy⟩)]) ∧ Below w.heap.size w w' := by
  by_cases h : shErr s ls p l ss nl = 0
  · by_cases k1 : xk = 1
    · exact shownList_any s p a len cap ls l sa n sc ss na m nc nl xk xl xs xn xy w hl hS hN h k1
    · by_cases k4 : xk = 4
      · exact shownAudit_any s p a len cap ls l sa n sc ss na m nc nl xk xl xs xn xy w hl hS hN (fun k => hZ k h) h k4
      · exact shownRest_any s p a len cap ls l sa n sc ss na m nc nl xk xl xs xn xy w hl hS hN h ⟨k1, k4⟩
  · exact shownBad_any s p a len cap ls l sa n sc ss na m nc nl xk xl xs xn xy w hl hS hN h
end Go.Proofs.YtgohpgollpjlnaaDoor.Cn
/- The walk of the law ConsoleShows: it returns true and leaves what was in memory. -/
namespace Go.Proofs.YtgohpgollpjlnaaDoor.Cn
open Go.ChangeShapes Go.WideShapes Go.ChangeAt Go.RowKit
open Go.Proofs.YtgohpgollpjlnaaDoor.St (BoxN boxn_new SV IsStore IsRow Elem flat own_isRow TxWf storeOK txOK)
open Go.Proofs.YtgohpgollpjlnaaDoor.Pt (IsStores NV IsNotes)
set_option linter.unusedVariables false

namespace Sto
theorem stInfo : (Tryd.prog.info? 55).map (fun i => (i.zero, i.size, i.bytes)) = some (some (.agg #[.slice none 0 0, .slice none 0 0, .slice none 0 0, .slice none 0 0]), 4, 96) := by kernel_rfl
theorem box_len (s : SV) : s.box.length = 4 := rfl
theorem box_one (s : SV) : ∀ u ∈ s.box, u.oneCell' = true := by
  intro u hu
  simp only [SV.box, List.mem_cons, List.not_mem_nil, or_false] at hu
  rcases hu with rfl | rfl | rfl | rfl <;> rfl
theorem stElem : ∃ i, Elem 4 SV.box 55 33 i (.agg #[.slice none 0 0, .slice none 0 0, .slice none 0 0, .slice none 0 0]) 96 := by
  obtain ⟨j0, hj, lj0, lj1, lj2⟩ := info_parts stInfo
  exact ⟨j0, box_len, by decide, box_one, Tryd.underlying33, hj, lj0, lj1, lj2, rfl⟩
end Sto
theorem nl_len (x : NL) : (nlC x).length = 1 := rfl
theorem nl_one (y : NL) : ∀ u ∈ nlC y, u.oneCell' = true := by
  intro u hu
  simp only [nlC, List.mem_cons, List.not_mem_nil, or_false] at hu
  rcases hu with rfl
  rfl
theorem nlInfo : (Tryd.prog.info? 49).map (fun i => (i.zero, i.size, i.bytes)) = some (some (.slice none 0 0), 1, 24) := by kernel_rfl
theorem nlElem : ∃ i, Elem 1 nlC 49 34 i (.slice none 0 0) 24 := by
  obtain ⟨j0, hj, lj0, lj1, lj2⟩ := info_parts nlInfo
  exact ⟨j0, nl_len, by decide, nl_one, Tryd.underlying34, hj, lj0, lj1, lj2, rfl⟩
theorem auditNs_len {k : Int} (hk : i64 k) : ∀ (ns : List NV), (∀ x ∈ ns, i64 x.site ∧ i64 x.num) → (auditNs k ns).length ≤ 218 * ns.length := by
  intro ns
  induction ns with
  | nil => intro _; simp [auditNs]
  | cons x r ih =>
    intro h
    have h1 := h x (by simp)
    have h2 := ih (fun y hy => h y (by simp [hy]))
    have h3 : (ntLine k x).length ≤ 218 := line_size hk h1.1 h1.2 (by have := (verdB_len x.yes x.dmg).1; omega) (verdB_len x.yes x.dmg).2
    rw [auditNs, List.length_append, List.length_cons]
    omega
theorem auditGo_len {ls : List (Int × Int)} {l : Int} : ∀ (nl : List NL) (k : Nat), k + nl.length ≤ 6 → (∀ y ∈ nl, y.ns.length ≤ 1048576 ∧ ∀ x ∈ y.ns, i64 x.site ∧ i64 x.num) → (auditGo ls l k nl).length ≤ 228589568 * nl.length := by
  intro nl
  induction nl with
  | nil => intro k _ _; simp [auditGo]
  | cons y r ih =>
    intro k hk h
    have h1 := h y (by simp)
    have h2 := ih (k + 1) (by simp at hk; omega) (fun x hx => h x (by simp [hx]))
    have h3 := auditNs_len (k := (k : Int)) (by simp at hk; unfold i64; omega) y.ns h1.2
    rw [auditGo, List.length_append, List.length_cons]
    split
    · omega
    · simp only [List.length_nil]; omega
theorem nT9 {u v z : World} (h : Below u.heap.size u v) (k : Below v.heap.size v z) : Below u.heap.size u z := h.trans (k.mono h.size)
theorem grownN9 {w w' : World} (h : w.grownBy w' none) : Below w.heap.size w w' := (Below.refl w.heap.size w).grown h (Nat.le_refl _) (fun k hk => by cases hk)
set_option maxRecDepth 100000 in
set_option maxHeartbeats 4000000 in
theorem consoleShows_walk (s : Int) (a : Option Addr) (len cap : Nat) (p : Int) (ls : List (Int × Int)) (l : Int) (sa : Option Addr) (n sc : Nat) (ss : List SV) (na : Option Addr) (m nc : Nat) (nl : List NL) (xk xl xs xn : Int) (xy : Bool) (w : World) (hs0 : (Lit.int .i64 s).wf = true) (hl : IsLabs w a len cap ls) (hp0 : (Lit.int .i64 p).wf = true) (hl0 : (Lit.int .i64 l).wf = true) (hS : IsStores w sa n sc ss) (hsb : n * 96 ≤ 140737488351232) (hN : IsNLs w na m nc nl) (hnb : m * 24 ≤ 140737488351232) (hB : ∀ y ∈ nl, y.n ≤ 1048576)
    (hT : ∀ U, Below w.heap.size w U → Lib.TabIs Tryd.prog U "internal/strconv.uint64pow10" .u64 Lib.pow10Tab) :
    Calls Tryd.prog 4 #[.agg #[.int .i64 s, .slice a len cap, .int .i64 p], .int .i64 l, .slice sa n sc, .slice na m nc, .agg #[.int .i64 xk, .int .i64 xl, .int .i64 xs, .int .i64 xn, .bool xy]] w fun e w' => e = .returned (.bool true) ∧ Below w.heap.size w w' := by
  obtain ⟨iS, ES⟩ := Sto.stElem
  obtain ⟨iN, EN⟩ := nlElem
  have HZ : Hid (xk = 4 → shErr s ls p l ss nl = 0 → (auditGo ls l 0 nl).length ≤ 140737488355328) := fun _ h0 => by
    obtain ⟨hcf, _, _, h4, h5⟩ := sh_zero h0
    have h6 := (cfg_zero hcf).2.2.2.1
    have h8 := auditGo_len (ls := ls) (l := l) nl 0 (by omega) (fun y hy => by
      obtain ⟨i, hi, rfl⟩ := List.getElem_of_mem hy
      have e9 : nl.getD i default = nl[i] := by simp [List.getD, hi]
      have h9 := (h5 i (by omega)).2
      have h10 := (hN.each i (by rw [← hN.row.1]; exact hi)).1
      have h11 := hB nl[i] hy
      rw [e9] at h9 h10
      refine ⟨by omega, fun x hx => ?_⟩
      unfold notesOK at h9
      exact tx_i64 (List.all_eq_true.1 h9 x hx))
    omega
  obtain ⟨W, hW⟩ : ∃ W : World, W = (w.alloc (.cells #[.int .i64 s, .slice a len cap, .int .i64 p] 32)).alloc (.cells #[.int .i64 xk, .int .i64 xl, .int .i64 xs, .int .i64 xn, .bool xy] 25) := ⟨_, rfl⟩
  have oC : ObAt W w.heap.size #[.int .i64 s, .slice a len cap, .int .i64 p] 32 := by rw [hW]; exact (ObAt.new w _ _).below ((Below.refl _ _).alloc (Nat.le_refl _) _)
  have oX : ObAt W (w.heap.size + 1) #[.int .i64 xk, .int .i64 xl, .int .i64 xs, .int .i64 xn, .bool xy] 25 := by rw [hW]; have h8 := ObAt.new (w.alloc (.cells #[.int .i64 s, .slice a len cap, .int .i64 p] 32)) #[.int .i64 xk, .int .i64 xl, .int .i64 xs, .int .i64 xn, .bool xy] 25; simpa using h8
  have bW : Below w.heap.size w W := by rw [hW]; exact ((Below.refl _ _).alloc (Nat.le_refl _) _).alloc (by simp) _
  have KV : Hid (∀ U, Below W.heap.size W U → IsLabs U a len cap ls ∧ IsStores U sa n sc ss ∧ IsNLs U na m nc nl ∧ Below w.heap.size w U) := fun U hU => ⟨(hl.below bW).below hU, (hS.below bW).below hU, (hN.below bW).below hU, bW.trans (hU.mono bW.size)⟩
  have KC : Hid (∀ U, Below W.heap.size W U → (U.cell? ⟨w.heap.size, 0, none⟩ = some (.int .i64 s) ∧ U.cell? ⟨w.heap.size, 1, none⟩ = some (.slice a len cap) ∧ U.cell? ⟨w.heap.size, 2, none⟩ = some (.int .i64 p) ∧ w.heap.size < U.heap.size) ∧ U.cell? ⟨w.heap.size + 1, 0, none⟩ = some (.int .i64 xk) ∧ U.cell? ⟨w.heap.size + 1, 1, none⟩ = some (.int .i64 xl) ∧ U.cell? ⟨w.heap.size + 1, 2, none⟩ = some (.int .i64 xs) ∧ U.cell? ⟨w.heap.size + 1, 3, none⟩ = some (.int .i64 xn) ∧ U.cell? ⟨w.heap.size + 1, 4, none⟩ = some (.bool xy) ∧ w.heap.size + 1 < U.heap.size) := fun U hU => by
    have h1 := oC.below hU
    have h2 := oX.below hU
    exact ⟨⟨h1.cell 0, h1.cell 1, h1.cell 2, h1.lt⟩, h2.cell 0, h2.cell 1, h2.cell 2, h2.cell 3, h2.cell 4, h2.lt⟩
  have HSh : Hid (∀ U a6 c6 a7 c7, Below W.heap.size W U → IsRow 4 SV.box U a6 n c6 ss → IsRow 1 nlC U a7 m c7 nl → Calls Tryd.prog 11 #[.agg #[.int .i64 s, .slice a len cap, .int .i64 p], .int .i64 l, .slice a6 n c6, .slice a7 m c7, .agg #[.int .i64 xk, .int .i64 xl, .int .i64 xs, .int .i64 xn, .bool xy]] U fun e w' => e = .returned (.tuple #[.string (showOut s ls p l ss nl ⟨xk, xl, xs, xn, xy⟩), .int .i64 (showErr s ls p l ss nl ⟨xk, xl, xs, xn, xy⟩)]) ∧ Below U.heap.size U w') := fun U a6 c6 a7 c7 hU r6 r7 => by
    obtain ⟨h1, h2, h3, h4⟩ := KV.out U hU
    exact show_all s p a len cap ls l a6 n c6 ss a7 m c7 nl xk xl xs xn xy U h1 ⟨r6, h2.each⟩ ⟨r7, h3.each⟩ HZ.out (fun X hX => hT X (h4.trans (hX.mono h4.size)))
  have HRf : Hid (∀ U, Below W.heap.size W U → Calls Tryd.prog 12 #[.agg #[.int .i64 s, .slice a len cap, .int .i64 p], .int .i64 l, .slice sa n sc, .slice na m nc, .agg #[.int .i64 xk, .int .i64 xl, .int .i64 xs, .int .i64 xn, .bool xy]] U fun e w' => e = .returned (.tuple #[.string (showOut s ls p l ss nl ⟨xk, xl, xs, xn, xy⟩), .int .i64 (showErr s ls p l ss nl ⟨xk, xl, xs, xn, xy⟩)]) ∧ Below U.heap.size U w') := fun U hU => by
    obtain ⟨h1, h2, h3, h4⟩ := KV.out U hU
    exact shown_any s p a len cap ls l sa n sc ss na m nc nl xk xl xs xn xy U h1 h2 h3 HZ.out
  obtain ⟨OUT, eO⟩ : ∃ x, x = showOut s ls p l ss nl ⟨xk, xl, xs, xn, xy⟩ := ⟨_, rfl⟩
  obtain ⟨ERR, eE⟩ : ∃ x, x = showErr s ls p l ss nl ⟨xk, xl, xs, xn, xy⟩ := ⟨_, rfl⟩
  rw [← eO, ← eE] at HSh HRf
  have HSl : Hid (ss.length = n) := hS.row.1
  have HNl : Hid (nl.length = m) := hN.row.1
  have KS : Hid (∀ U, Below W.heap.size W U → IsRow 4 SV.box U sa n sc ss) := fun U hU => (KV.out U hU).2.1.row
  have KN : Hid (∀ U, Below W.heap.size W U → IsRow 1 nlC U na m nc nl) := fun U hU => (KV.out U hU).2.2.1.row
  clear eO eE hs0 hp0 hl0 hl hS hN hB hT oC oX HZ KV
  go_enter Tryd.func4, Tryd.ntmps4
  go_upto_region 1 with (fail)
  rw [← hW]
  clear hW
  refine wp_region_inv (by kernel_rfl) [16, 17, 18, 19, 20, 21, 22, 23, 15, 24, 25, 11, 12] (fun L T u => ∃ (a6 : Option Addr) (c6 : Nat) (a7 : Option Addr) (c7 : Nat), Below W.heap.size W u ∧ (L 0 = true → T 16 = .agg #[.int .i64 s, .slice a len cap, .int .i64 p]) ∧ (L 1 = true → T 17 = .int .i64 l) ∧ (L 2 = true → T 18 = .slice sa n sc) ∧ (L 3 = true → T 19 = .slice a6 n c6) ∧ (L 4 = true → T 20 = .slice na m nc) ∧ (L 5 = true → T 21 = .slice a7 m c7) ∧ (L 6 = true → T 22 = .agg #[.int .i64 xk, .int .i64 xl, .int .i64 xs, .int .i64 xn, .bool xy]) ∧ (L 7 = true → T 23 = .tuple #[.string OUT, .int .i64 ERR]) ∧ (L 8 = true → T 15 = .tuple #[.string OUT, .int .i64 ERR]) ∧ (L 9 = true → T 24 = .string OUT) ∧ (L 10 = true → T 25 = .int .i64 ERR) ∧ (L 11 = true → T 11 = .string OUT) ∧ (L 12 = true → T 12 = .int .i64 ERR) ∧ (L 3 = true → IsRow 4 SV.box u a6 n c6 ss) ∧ (L 5 = true → IsRow 1 nlC u a7 m c7 nl)) (by decide) (by kernel_rfl) (by kernel_rfl) ?_ ?_ ?_
  · exact ⟨none, 0, none, 0, (Below.refl _ _).drew, nofun, nofun, nofun, nofun, nofun, nofun, nofun, nofun, nofun, nofun, nofun, nofun, nofun, nofun, nofun⟩
  · refine ⟨?_, ?_, ?_, ?_, ?_, ?_, ?_, ?_, ?_, ?_, ?_, ?_, ?_, trivial⟩
    · rintro L T u hd hk hcl ⟨a6, c6, a7, c7, hb, f0, f1, f2, f3, f4, f5, f6, f7, f8, f9, f10, f11, f12, r3, r5⟩ K hK
      simp only [fr, Act.put, List.setIfInBounds_toArray, List.set_cons_zero, List.set_cons_succ, updO] at hK ⊢
      simp [Region.binds] at hd
      obtain ⟨⟨c0, c1, c2, zc⟩, d0, d1, d2, d3, d4, zx⟩ := KC.out u hb
      rw [if_pos (by rfl)]
      simp only [Oper.wpv]
      go_simp
      exact hK _ _ ⟨a6, c6, a7, c7, hb, fun _ => rfl, f1, f2, f3, f4, f5, f6, f7, f8, f9, f10, f11, f12, r3, r5⟩
    · rintro L T u hd hk hcl ⟨a6, c6, a7, c7, hb, f0, f1, f2, f3, f4, f5, f6, f7, f8, f9, f10, f11, f12, r3, r5⟩ K hK
      simp only [fr, Act.put, List.setIfInBounds_toArray, List.set_cons_zero, List.set_cons_succ, updO] at hK ⊢
      simp [Region.binds] at hd
      rw [if_pos (by rfl)]
      simp only [Oper.wpv]
      go_simp
      exact hK _ _ ⟨a6, c6, a7, c7, hb, f0, fun _ => rfl, f2, f3, f4, f5, f6, f7, f8, f9, f10, f11, f12, r3, r5⟩
    · rintro L T u hd hk hcl ⟨a6, c6, a7, c7, hb, f0, f1, f2, f3, f4, f5, f6, f7, f8, f9, f10, f11, f12, r3, r5⟩ K hK
      simp only [fr, Act.put, List.setIfInBounds_toArray, List.set_cons_zero, List.set_cons_succ, updO] at hK ⊢
      simp [Region.binds] at hd
      rw [if_pos (by rfl)]
      simp only [Oper.wpv]
      go_simp
      exact hK _ _ ⟨a6, c6, a7, c7, hb, f0, f1, fun _ => rfl, f3, f4, f5, f6, f7, f8, f9, f10, f11, f12, r3, r5⟩
    · rintro L T u hd hk hcl ⟨a6, c6, a7, c7, hb, f0, f1, f2, f3, f4, f5, f6, f7, f8, f9, f10, f11, f12, r3, r5⟩ K hK
      simp only [fr, Act.put, List.setIfInBounds_toArray, List.set_cons_zero, List.set_cons_succ, updO] at hK ⊢
      simp [Region.binds] at hd
      have g2 := f2 (by simp [hd])
      have k7 := hcl 7 _ rfl
      simp [Region.binds] at k7
      rw [if_pos (by rfl)]
      simp only [Oper.wpv]
      refine St.wpv_append_row ES (.const (.slice none 0 0)) (.tmp 18) (by rfl) W.heap.size (.slice none 0 0) 0 [] (by rfl) (World.ownsRow_nil _ _ _ _) sa n sc ss g2 (KS.out _ hb) (by unfold maxLen; omega) (by omega) hb.size ?_
      intro b6 d6 u1 own1 gr1 at1
      have hg := grownN9 gr1
      simp only [Nat.zero_add, List.nil_append] at own1 ⊢
      have hR1 := (own_isRow Sto.box_len own1 HSl.out).1
      exact hK _ _ ⟨b6, d6, a7, c7, (nT9 hb hg), f0, f1, f2, fun _ => rfl, f4, f5, f6, f7, f8, f9, f10, f11, f12, fun _ => hR1, fun h0 => St.IsRow.below (r5 h0) hg⟩
    · rintro L T u hd hk hcl ⟨a6, c6, a7, c7, hb, f0, f1, f2, f3, f4, f5, f6, f7, f8, f9, f10, f11, f12, r3, r5⟩ K hK
      simp only [fr, Act.put, List.setIfInBounds_toArray, List.set_cons_zero, List.set_cons_succ, updO] at hK ⊢
      simp [Region.binds] at hd
      rw [if_pos (by rfl)]
      simp only [Oper.wpv]
      go_simp
      exact hK _ _ ⟨a6, c6, a7, c7, hb, f0, f1, f2, f3, fun _ => rfl, f5, f6, f7, f8, f9, f10, f11, f12, r3, r5⟩
    · rintro L T u hd hk hcl ⟨a6, c6, a7, c7, hb, f0, f1, f2, f3, f4, f5, f6, f7, f8, f9, f10, f11, f12, r3, r5⟩ K hK
      simp only [fr, Act.put, List.setIfInBounds_toArray, List.set_cons_zero, List.set_cons_succ, updO] at hK ⊢
      simp [Region.binds] at hd
      have g4 := f4 (by simp [hd])
      rw [if_pos (by rfl)]
      simp only [Oper.wpv]
      refine St.wpv_append_row EN (.const (.slice none 0 0)) (.tmp 20) (by rfl) W.heap.size (.slice none 0 0) 0 [] (by rfl) (World.ownsRow_nil _ _ _ _) na m nc nl g4 (KN.out _ hb) (by unfold maxLen; omega) (by omega) hb.size ?_
      intro b6 d6 u1 own1 gr1 at1
      have hg := grownN9 gr1
      simp only [Nat.zero_add, List.nil_append] at own1 ⊢
      have hR1 := (own_isRow nl_len own1 HNl.out).1
      exact hK _ _ ⟨a6, c6, b6, d6, (nT9 hb hg), f0, f1, f2, f3, f4, fun _ => rfl, f6, f7, f8, f9, f10, f11, f12, fun h0 => St.IsRow.below (r3 h0) hg, fun _ => hR1⟩
    · rintro L T u hd hk hcl ⟨a6, c6, a7, c7, hb, f0, f1, f2, f3, f4, f5, f6, f7, f8, f9, f10, f11, f12, r3, r5⟩ K hK
      simp only [fr, Act.put, List.setIfInBounds_toArray, List.set_cons_zero, List.set_cons_succ, updO] at hK ⊢
      simp [Region.binds] at hd
      obtain ⟨⟨c0, c1, c2, zc⟩, d0, d1, d2, d3, d4, zx⟩ := KC.out u hb
      rw [if_pos (by rfl)]
      simp only [Oper.wpv]
      go_simp
      exact hK _ _ ⟨a6, c6, a7, c7, hb, f0, f1, f2, f3, f4, f5, fun _ => rfl, f7, f8, f9, f10, f11, f12, r3, r5⟩
    · rintro L T u hd hk hcl ⟨a6, c6, a7, c7, hb, f0, f1, f2, f3, f4, f5, f6, f7, f8, f9, f10, f11, f12, r3, r5⟩ K hK
      simp only [fr, Act.put, List.setIfInBounds_toArray, List.set_cons_zero, List.set_cons_succ, updO] at hK ⊢
      simp [Region.binds] at hd
      have g0 := f0 (by simp [hd])
      have g1 := f1 (by simp [hd])
      have g3 := f3 (by simp [hd])
      have g5 := f5 (by simp [hd])
      have g6 := f6 (by simp [hd])
      have q3 := r3 (by simp [hd])
      have q5 := r5 (by simp [hd])
      rw [if_pos (by rfl)]
      simp only [Oper.wpv]
      go_simp
      refine (HSh.out u a6 c6 a7 c7 hb q3 q5).mono ?_
      rintro e u3 ⟨rfl, hg⟩
      exact hK _ _ ⟨a6, c6, a7, c7, (nT9 hb hg), f0, f1, f2, f3, f4, f5, f6, fun _ => rfl, f8, f9, f10, f11, f12, fun h0 => St.IsRow.below (r3 h0) hg, fun h0 => St.IsRow.below (r5 h0) hg⟩
    · rintro L T u hd hk hcl ⟨a6, c6, a7, c7, hb, f0, f1, f2, f3, f4, f5, f6, f7, f8, f9, f10, f11, f12, r3, r5⟩ K hK
      simp only [fr, Act.put, List.setIfInBounds_toArray, List.set_cons_zero, List.set_cons_succ, updO] at hK ⊢
      simp [Region.binds] at hd
      have g7 := f7 (by simp [hd])
      rw [if_pos (by rfl)]
      simp only [Oper.wpv]
      go_simp
      exact hK _ _ ⟨a6, c6, a7, c7, hb, f0, f1, f2, f3, f4, f5, f6, f7, fun _ => rfl, f9, f10, f11, f12, r3, r5⟩
    · rintro L T u hd hk hcl ⟨a6, c6, a7, c7, hb, f0, f1, f2, f3, f4, f5, f6, f7, f8, f9, f10, f11, f12, r3, r5⟩ K hK
      simp only [fr, Act.put, List.setIfInBounds_toArray, List.set_cons_zero, List.set_cons_succ, updO] at hK ⊢
      simp [Region.binds] at hd
      have g8 := f8 (by simp [hd])
      rw [if_pos (by rfl)]
      simp only [Oper.wpv]
      go_simp
      exact hK _ _ ⟨a6, c6, a7, c7, hb, f0, f1, f2, f3, f4, f5, f6, f7, f8, fun _ => rfl, f10, f11, f12, r3, r5⟩
    · rintro L T u hd hk hcl ⟨a6, c6, a7, c7, hb, f0, f1, f2, f3, f4, f5, f6, f7, f8, f9, f10, f11, f12, r3, r5⟩ K hK
      simp only [fr, Act.put, List.setIfInBounds_toArray, List.set_cons_zero, List.set_cons_succ, updO] at hK ⊢
      simp [Region.binds] at hd
      have g8 := f8 (by simp [hd])
      rw [if_pos (by rfl)]
      simp only [Oper.wpv]
      go_simp
      exact hK _ _ ⟨a6, c6, a7, c7, hb, f0, f1, f2, f3, f4, f5, f6, f7, f8, f9, fun _ => rfl, f11, f12, r3, r5⟩
    · rintro L T u hd hk hcl ⟨a6, c6, a7, c7, hb, f0, f1, f2, f3, f4, f5, f6, f7, f8, f9, f10, f11, f12, r3, r5⟩ K hK
      simp only [fr, Act.put, List.setIfInBounds_toArray, List.set_cons_zero, List.set_cons_succ, updO] at hK ⊢
      simp [Region.binds] at hd
      have g9 := f9 (by simp [hd])
      rw [if_pos (by rfl)]
      simp only [Oper.wpv]
      go_simp
      exact hK _ _ ⟨a6, c6, a7, c7, hb, f0, f1, f2, f3, f4, f5, f6, f7, f8, f9, f10, fun _ => rfl, f12, r3, r5⟩
    · rintro L T u hd hk hcl ⟨a6, c6, a7, c7, hb, f0, f1, f2, f3, f4, f5, f6, f7, f8, f9, f10, f11, f12, r3, r5⟩ K hK
      simp only [fr, Act.put, List.setIfInBounds_toArray, List.set_cons_zero, List.set_cons_succ, updO] at hK ⊢
      simp [Region.binds] at hd
      have g10 := f10 (by simp [hd])
      rw [if_pos (by rfl)]
      simp only [Oper.wpv]
      go_simp
      exact hK _ _ ⟨a6, c6, a7, c7, hb, f0, f1, f2, f3, f4, f5, f6, f7, f8, f9, f10, f11, fun _ => rfl, r3, r5⟩
  · rintro L T u hl ⟨a6, c6, a7, c7, hb, f0, f1, f2, f3, f4, f5, f6, f7, f8, f9, f10, f11, f12, r3, r5⟩
    simp only [fr, Act.put, List.setIfInBounds_toArray, List.set_cons_zero, List.set_cons_succ]
    have h11 := f11 (hl 11 (by decide))
    have h12 := f12 (hl 12 (by decide))
    clear f0 f1 f2 f3 f4 f5 f6 f7 f8 f9 f10 f11 f12 r3 r5 HSh KS KN HSl HNl
    rw [h11, h12]
    obtain ⟨⟨c0, c1, c2, zc⟩, d0, d1, d2, d3, d4, zx⟩ := KC.out u hb
    have hRf := HRf.out u hb
    go_upto_region 3 with (go_at_call 12; refine hRf.mono ?_; rintro e u4 ⟨rfl, bU4⟩)
    have bF := bW.trans ((nT9 hb bU4).mono bW.size)
    clear c0 c1 c2 zc d0 d1 d2 d3 d4 zx hRf HRf KC
    go_wp2
    go_ret
    exact ⟨rfl, bF⟩
end Go.Proofs.YtgohpgollpjlnaaDoor.Cn
