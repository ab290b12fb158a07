/- The document's ShownOf: what an operator is told. -/
import Derived.Test.YtgohpgollpjlnaaDoorM30ConsoleShows
namespace Go.Proofs.YtgohpgollpjlnaaDoor.Cn
open Go.ChangeShapes Go.WideShapes Go.ChangeAt Go.RowKit
open Go.Proofs.YtgohpgollpjlnaaDoor.St (BoxN boxn_new SV IsStore IsRow DbV LkV storeOK TxWf own_below txOK ofT storeMay_any plainTxn_any locksOK lockOK doubtsOK)
open Go.Proofs.YtgohpgollpjlnaaDoor.Pt (IsStores NV IsNotes labelMay_any)
open Go.Proofs.YtgohpgollpjlnaaDoor.Dc (decS dec_ref decS_size)
set_option linter.unusedVariables false

set_option maxRecDepth 100000 in
set_option maxHeartbeats 16000000 in
theorem shownAudit_any (s p : Int) (a : Option Addr) (len cap : Nat) (ls : List (Int × Int)) (l : Int) (sa : Option Addr) (n sc : Nat) (ss : List SV) (na : Option Addr) (m nc : Nat) (nl : List NL) (xk xl xs xn : Int) (xy : Bool) (w : World) (hl : IsLabs w a len cap ls) (hS : IsStores w sa n sc ss) (hN : IsNLs w na m nc nl)
    (hZ : xk = 4 → (auditGo ls l 0 nl).length ≤ 140737488355328) (hSE : shErr s ls p l ss nl = 0) (hkind : Hid (xk = 4)) :
    Calls Tryd.prog 12 #[.agg #[.int .i64 s, .slice a len cap, .int .i64 p], .int .i64 l, .slice sa n sc, .slice na m nc, .agg #[.int .i64 xk, .int .i64 xl, .int .i64 xs, .int .i64 xn, .bool xy]] w fun e w' => e = .returned (.tuple #[.string (showOut s ls p l ss nl ⟨xk, xl, xs, xn, xy⟩), .int .i64 (showErr s ls p l ss nl ⟨xk, xl, xs, xn, xy⟩)]) ∧ Below w.heap.size w w' := by
  obtain ⟨W, hW⟩ : ∃ W : World, W = (w.alloc (.cells #[.int .i64 s, .slice a len cap, .int .i64 p] 32)).alloc (.cells #[.int .i64 xk, .int .i64 xl, .int .i64 xs, .int .i64 xn, .bool xy] 25) := ⟨_, rfl⟩
  have oC : ObAt W w.heap.size #[.int .i64 s, .slice a len cap, .int .i64 p] 32 := by rw [hW]; exact (ObAt.new w _ _).below ((Below.refl _ _).alloc (Nat.le_refl _) _)
  have oX : ObAt W (w.heap.size + 1) #[.int .i64 xk, .int .i64 xl, .int .i64 xs, .int .i64 xn, .bool xy] 25 := by rw [hW]; have h8 := ObAt.new (w.alloc (.cells #[.int .i64 s, .slice a len cap, .int .i64 p] 32)) #[.int .i64 xk, .int .i64 xl, .int .i64 xs, .int .i64 xn, .bool xy] 25; simpa using h8
  have bW : Below w.heap.size w W := by rw [hW]; exact ((Below.refl _ _).alloc (Nat.le_refl _) _).alloc (by simp) _
  have HO : Hid (showOut s ls p l ss nl ⟨xk, xl, xs, xn, xy⟩ = if shErr s ls p l ss nl = 0 then showTxt ls l ss nl ⟨xk, xl, xs, xn, xy⟩ else ⟨#[]⟩) := rfl
  have HE : Hid (showErr s ls p l ss nl ⟨xk, xl, xs, xn, xy⟩ = if shErr s ls p l ss nl = 0 then kindErr xk else shErr s ls p l ss nl) := rfl
  have KV : Hid (∀ U, Below W.heap.size W U → ObAt U w.heap.size #[.int .i64 s, .slice a len cap, .int .i64 p] 32 ∧ ObAt U (w.heap.size + 1) #[.int .i64 xk, .int .i64 xl, .int .i64 xs, .int .i64 xn, .bool xy] 25 ∧ IsLabs U a len cap ls ∧ IsStores U sa n sc ss ∧ IsNLs U na m nc nl ∧ Below w.heap.size w U) := fun U hU => ⟨oC.below hU, oX.below hU, (hl.below bW).below hU, (hS.below bW).below hU, (hN.below bW).below hU, bW.trans (hU.mono bW.size)⟩
  have HZl : Hid (xk = 4 → (auditGo ls l 0 nl).length ≤ 140737488355328) := hZ
  have hlen := hl.1
  have hsl := hS.row.1
  have hnl := hN.row.1
  have HS : Hid (shErr s ls p l ss nl = if cfgFault s ls p = 0 then (if inR l 0 ((len : Int) - 1) = true then (if n = len ∧ m = len then (if okAll ss nl len then 0 else 9) else 9) else 6) else cfgFault s ls p) := by show _ = _; unfold shErr; rw [hlen, hsl, hnl]
  have H6 : Hid (cfgFault s ls p = 0 → len ≤ 6) := fun h => by have := (cfg_zero h).2.2.2.1; omega
  have hCf := fault_any s p a len cap ls W (hl.below bW)
  obtain ⟨OUT, eOUT⟩ : ∃ x, x = showOut s ls p l ss nl ⟨xk, xl, xs, xn, xy⟩ := ⟨_, rfl⟩
  obtain ⟨ERR, eERR⟩ : ∃ x, x = showErr s ls p l ss nl ⟨xk, xl, xs, xn, xy⟩ := ⟨_, rfl⟩
  rw [← eOUT] at HO ⊢
  rw [← eERR] at HE ⊢
  have HB : Hid (∀ e : Int, e ≠ 0 → shErr s ls p l ss nl = e → OUT = ⟨#[]⟩ ∧ ERR = e) := fun e h1 h2 => by rw [HO.out, HE.out, h2, if_neg h1, if_neg h1]; exact ⟨rfl, rfl⟩
  have HG : Hid (shErr s ls p l ss nl = 0 → OUT = showTxt ls l ss nl ⟨xk, xl, xs, xn, xy⟩ ∧ ERR = kindErr xk) := fun h2 => by rw [HO.out, HE.out, if_pos h2, if_pos h2]; exact ⟨rfl, rfl⟩
  obtain ⟨SE, eSE⟩ : ∃ x, x = shErr s ls p l ss nl := ⟨_, rfl⟩
  rw [← eSE] at HS HB HG hSE
  clear HO HE eSE eOUT eERR
  obtain ⟨C, eC⟩ : ∃ x, x = cfgFault s ls p := ⟨_, rfl⟩
  rw [← eC] at HS H6 hCf
  clear eC hZ hl hS hN
  have c0 : W.cell? ⟨w.heap.size, 0, none⟩ = some (.int .i64 s) := oC.cell 0
  have c1 : W.cell? ⟨w.heap.size, 1, none⟩ = some (.slice a len cap) := oC.cell 1
  have c2 : W.cell? ⟨w.heap.size, 2, none⟩ = some (.int .i64 p) := oC.cell 2
  have zc := oC.lt
  have b0 : Below W.heap.size W W := Below.refl _ _
  clear oC oX
  go_enter Tryd.func12, Tryd.ntmps12
  go_upto_region 1 with (fail)
  rw [← hW]
  clear hW
  go_upto_region 2 with (go_at_call 27; refine hCf.mono ?_; rintro e u1 ⟨rfl, hb1⟩)
  clear hCf b0 c0 c1 c2 zc bW
  by_cases hC : C = 0
  · subst hC
    rw [if_pos rfl] at HS
    have h6 := H6.out rfl
    clear H6
    obtain ⟨oC1, -, -, -, -, hbw⟩ := KV.out u1 hb1
    have c0 : u1.cell? ⟨w.heap.size, 0, none⟩ = some (.int .i64 s) := oC1.cell 0
    have c1 : u1.cell? ⟨w.heap.size, 1, none⟩ = some (.slice a len cap) := oC1.cell 1
    have c2 : u1.cell? ⟨w.heap.size, 2, none⟩ = some (.int .i64 p) := oC1.cell 2
    have zc := oC1.lt
    have hLa := labelMay_any s p a len cap l u1 h6
    rw [plc_in] at hLa
    clear oC1
    obtain ⟨IN, eIN⟩ : ∃ x, x = inR l 0 ((len : Int) - 1) := ⟨_, rfl⟩
    have HIN : Hid (IN = true → 0 ≤ l ∧ l < (len : Int)) := fun h => by have := inR_bd (eIN.symm.trans h); omega
    rw [← eIN] at HS hLa
    clear eIN
    cases IN with
    | false =>
      simp only [Bool.false_eq_true, if_false] at HS
      exact absurd HS.out (by omega)
    | true =>
      rw [if_pos rfl] at HS
      obtain ⟨hl0, hl1⟩ := HIN.out rfl
      clear HIN
      go_upto_region 4 with (go_at_call 28; refine hLa.mono ?_; rintro e u2 ⟨rfl, hb2⟩)
      clear c0 c1 c2 zc hLa hbw
      have hb12 := hb1.trans (hb2.mono hb1.size)
      clear hb1 hb2
      obtain ⟨oC1, -, -, -, -, hbw⟩ := KV.out u2 hb12
      have c1 : u2.cell? ⟨w.heap.size, 1, none⟩ = some (.slice a len cap) := oC1.cell 1
      have zc := oC1.lt
      clear oC1
      by_cases hnn : n = len
      · by_cases hmm : m = len
        · obtain rfl := hnn
          obtain rfl := hmm
          rw [if_pos ⟨rfl, rfl⟩] at HS
          have hBad : Hid (¬ okAll ss nl m → OUT = ⟨#[]⟩ ∧ ERR = 9) := fun h => HB.out 9 (by decide) (by rw [HS.out, if_neg h])
          have hGood : Hid (okAll ss nl m → OUT = showTxt ls l ss nl ⟨xk, xl, xs, xn, xy⟩ ∧ ERR = kindErr xk) := fun h => HG.out (by rw [HS.out, if_pos h])
          have HOKA : Hid (okAll ss nl m) := by
            by_cases h9 : okAll ss nl m
            · exact h9
            · have h8 := HS.out
              rw [if_neg h9] at h8
              exact absurd h8 (by omega)
          clear HS HB HG
          go_upto_region 6 with (fail)
          clear c1 zc
          go_wp2
          go_loopw [12, 13] (fun s12 s13 wr => ∃ (k : Nat) (e : Int), s12 = .int .i64 e ∧ s13 = .int .i64 (k : Int) ∧ k ≤ m ∧ Below W.heap.size W wr ∧ Hid ((e = 0 ∧ ∀ i, i < k → storeOK (ss.getD i default) = true) ∨ (e = 9 ∧ ∃ i, i < m ∧ storeOK (ss.getD i default) = false))) (fun _ s13 _ => m - (intOf s13).toNat)
          case atStart => exact ⟨0, 0, rfl, rfl, by omega, hb12, Or.inl ⟨rfl, fun i hi => absurd hi (by omega)⟩⟩
          case round =>
            obtain ⟨k, e, rfl, rfl, hk, hb, hI⟩ := hrel
            clear hbw
            have hbw := (KV.out wr hb).2.2.2.2.2
            rcases hI.out with ⟨rfl, hI1⟩ | ⟨rfl, hI9⟩
            · by_cases hlt : k < m
              · have hlt' : (k : Int) < (m : Int) := by omega
                have HJ : Hid (k + 1 ≤ m) := hlt
                obtain ⟨-, -, -, hSr, -, -⟩ := KV.out wr hb
                have hSk := hSr.each k hlt
                obtain ⟨b1, o1, rfl, zb1, e0, e1, e2, e3⟩ := hSr.at hlt
                have HOk : Hid (storeOK (ss.getD k default) = true → ∀ i, i < k + 1 → storeOK (ss.getD i default) = true) := fun g i hi => by
                  by_cases hik : i < k
                  · exact hI1 i hik
                  · obtain rfl : i = k := by omega
                    exact g
                have HBk : Hid (storeOK (ss.getD k default) = false → ∃ i, i < m ∧ storeOK (ss.getD i default) = false) := fun g => ⟨k, hlt, g⟩
                have hMay := storeMay_any (ss.getD k default) wr hSk.1
                obtain ⟨OK, eOK⟩ : ∃ x, x = storeOK (ss.getD k default) := ⟨_, rfl⟩
                rw [← eOK] at HOk HBk hMay
                obtain ⟨r, er⟩ : ∃ r, r = ss.getD k default := ⟨_, rfl⟩
                rw [← er] at e0 e1 e2 e3 hMay
                clear er eOK hI hI1 hSr hSk
                obtain ⟨ra0, rn0, rc0, ra1, rn1, rc1, ra2, rn2, rc2, ra3, rn3, rc3, ri, rl, rd, ro⟩ := r
                simp only [SV.val] at e0 e1 e2 e3 hMay
                cases OK with
                | true =>
                  have HO2 := HOk.out rfl
                  have HO3 : Hid (∀ i, i < k + 1 → storeOK (ss.getD i default) = true) := HO2
                  clear HOk HBk HO2
                  go_wp2_with (go_at_call 29; refine hMay.mono ?_; rintro e u3 ⟨rfl, bU3⟩)
                  go_roundw
                  case rel => exact ⟨k + 1, 0, rfl, by go_num, HJ.out, hb.trans (bU3.mono hb.size), Or.inl ⟨rfl, HO3.out⟩⟩
                  case measure => have := HJ.out; simp [intOf]; omega
                | false =>
                  have HO2 := HBk.out rfl
                  have HO3 : Hid (∃ i, i < m ∧ storeOK (ss.getD i default) = false) := HO2
                  clear HOk HBk HO2
                  obtain ⟨i, hi, h9⟩ := HO3.out
                  have h8 := (HOKA.out i hi).1
                  rw [h9] at h8
                  cases h8
              · obtain rfl : k = m := by omega
                have hnl2 : ¬ ((k : Int) < (k : Int)) := by omega
                have HSt : Hid (∀ i, i < k → storeOK (ss.getD i default) = true) := hI1
                clear hI hI1
                go_wp2
                go_loopw [12, 14] (fun s12 s14 wr => ∃ (q : Nat) (e : Int), s12 = .int .i64 e ∧ s14 = .int .i64 (q : Int) ∧ q ≤ k ∧ Below W.heap.size W wr ∧ Hid ((e = 0 ∧ ∀ i, i < q → notesOK (nl.getD i default).ns = true) ∨ (e = 9 ∧ ∃ i, i < k ∧ notesOK (nl.getD i default).ns = false))) (fun _ s14 _ => k - (intOf s14).toNat)
                case atStart => exact ⟨0, 0, rfl, rfl, by omega, hb, Or.inl ⟨rfl, fun i hi => absurd hi (by omega)⟩⟩
                case round =>
                  clear hbw hb
                  obtain ⟨q, e, rfl, rfl, hq, hb, hI⟩ := hrel
                  have hbw := (KV.out wr hb).2.2.2.2.2
                  rcases hI.out with ⟨rfl, hI1⟩ | ⟨rfl, hI9⟩
                  · by_cases hlt : q < k
                    · have hlt' : (q : Int) < (k : Int) := by omega
                      have HJ : Hid (q + 1 ≤ k) := hlt
                      have HOk : Hid (notesOK (nl.getD q default).ns = true → ∀ i, i < q + 1 → notesOK (nl.getD i default).ns = true) := fun g i hi => by
                        by_cases hik : i < q
                        · exact hI1 i hik
                        · obtain rfl : i = q := by omega
                          exact g
                      have HBk : Hid (notesOK (nl.getD q default).ns = false → ∃ i, i < k ∧ notesOK (nl.getD i default).ns = false) := fun g => ⟨q, hlt, g⟩
                      obtain ⟨y, ey⟩ : ∃ y, y = nl.getD q default := ⟨_, rfl⟩
                      have KN : Hid (∀ U, Below W.heap.size W U → (∃ b3 o3, na = some ⟨b3, o3, none⟩ ∧ b3 < U.heap.size ∧ U.cell? ⟨b3, o3 + q, none⟩ = some (.slice y.a y.n y.c)) ∧ IsNotes U y.a y.n y.c y.ns) := fun U hU => by
                        obtain ⟨-, -, -, -, hNr, -⟩ := KV.out U hU
                        obtain ⟨b3, o3, e3, zb3, f0⟩ := hNr.at hlt
                        have h8 := hNr.each q hlt
                        rw [ey]
                        exact ⟨⟨b3, o3, e3, zb3, f0⟩, h8⟩
                      rw [← ey] at HOk HBk
                      clear ey hI hI1
                      obtain ⟨ya, yn, yc, ys⟩ := y
                      simp only [] at KN HOk HBk
                      go_wp2
                      go_loopw [12, 15] (fun s12 s15 wy => ∃ (j : Nat) (e : Int), s12 = .int .i64 e ∧ s15 = .int .i64 (j : Int) ∧ j ≤ yn ∧ Below W.heap.size W wy ∧ Hid ((e = 0 ∧ ∀ i, i < j → txOK ((ys.getD i default).site, (ys.getD i default).num) = true) ∨ (e = 9 ∧ ∃ i, i < yn ∧ txOK ((ys.getD i default).site, (ys.getD i default).num) = false))) (fun _ s15 _ => yn - (intOf s15).toNat)
                      case atStart => exact ⟨0, 0, rfl, rfl, by omega, hb, Or.inl ⟨rfl, fun i hi => absurd hi (by omega)⟩⟩
                      case round =>
                        clear hbw hb
                        obtain ⟨j, e, rfl, rfl, hj, hb, hI⟩ := hrel
                        have hbw := (KV.out wr hb).2.2.2.2.2
                        obtain ⟨⟨b3, o3, rfl, zb3, f0⟩, hNs⟩ := KN.out wr hb
                        by_cases hjl : j < yn
                        · have hjl' : (j : Int) < (yn : Int) := by omega
                          have HJ2 : Hid (j + 1 ≤ yn) := hjl
                          have hjm : (j : Int) + 1 ≤ 9223372036854775807 := by have h8 := hNs.2.1; have h9 := hNs.2.2.1; unfold maxLen at h9; omega
                          obtain ⟨b2, o2, rfl, zb2, hc⟩ := hNs.2.2.2.2 (by omega)
                          have e0 := hc j hjl 0 (by decide)
                          have e1 := hc j hjl 1 (by decide)
                          have hPl := plainTxn_any ((ys.getD j default).site, (ys.getD j default).num) wr
                          have HG2 : Hid (e = 0 → txOK ((ys.getD j default).site, (ys.getD j default).num) = true → (e = 0 ∧ ∀ i, i < j + 1 → txOK ((ys.getD i default).site, (ys.getD i default).num) = true)) := fun he g => ⟨he, fun i hi => by
                            by_cases hik : i < j
                            · rcases hI.out with ⟨_, h1⟩ | ⟨h9, _⟩
                              · exact h1 i hik
                              · rw [he] at h9; cases h9
                            · obtain rfl : i = j := by omega
                              exact g⟩
                          have HB2 : Hid (txOK ((ys.getD j default).site, (ys.getD j default).num) = false → ∃ i, i < yn ∧ txOK ((ys.getD i default).site, (ys.getD i default).num) = false) := fun g => ⟨j, hjl, g⟩
                          obtain ⟨TX, eTX⟩ : ∃ x, x = txOK ((ys.getD j default).site, (ys.getD j default).num) := ⟨_, rfl⟩
                          rw [← eTX] at hPl HG2 HB2
                          obtain ⟨d, ed⟩ : ∃ d, d = ys.getD j default := ⟨_, rfl⟩
                          rw [← ed] at e0 e1 hPl
                          clear ed eTX hc hNs
                          obtain ⟨t1, t2, ty, tg⟩ := d
                          simp only [NV.cells, List.getElem?_cons_zero, List.getElem?_cons_succ, Nat.add_zero] at e0 e1 hPl
                          cases TX with
                          | true =>
                            have HI3 : Hid ((e = 0 ∧ ∀ i, i < j + 1 → txOK ((ys.getD i default).site, (ys.getD i default).num) = true) ∨ (e = 9 ∧ ∃ i, i < yn ∧ txOK ((ys.getD i default).site, (ys.getD i default).num) = false)) := by
                              rcases hI.out with ⟨h0, _⟩ | h9
                              · exact Or.inl (HG2.out h0 rfl)
                              · exact Or.inr h9
                            clear hI HG2 HB2
                            go_wp2_with (go_at_call 30; refine hPl.mono ?_; rintro e4 u4 ⟨rfl, bU4⟩)
                            go_roundw
                            case rel => exact ⟨j + 1, e, rfl, by go_num, HJ2.out, hb.trans (bU4.mono hb.size), HI3⟩
                            case measure => have := HJ2.out; simp [intOf]; omega
                          | false =>
                            have HI3 := HB2.out rfl
                            have HI4 : Hid (∃ i, i < yn ∧ txOK ((ys.getD i default).site, (ys.getD i default).num) = false) := HI3
                            clear hI HG2 HB2 HI3
                            go_wp2_with (go_at_call 30; refine hPl.mono ?_; rintro e4 u4 ⟨rfl, bU4⟩)
                            go_roundw
                            case rel => exact ⟨j + 1, 9, rfl, by go_num, HJ2.out, hb.trans (bU4.mono hb.size), Or.inr ⟨rfl, HI4.out⟩⟩
                            case measure => have := HJ2.out; simp [intOf]; omega
                        · obtain rfl : j = yn := by omega
                          have hnl3 : ¬ ((j : Int) < (j : Int)) := by omega
                          have hyl := hNs.1
                          have HI3 : Hid ((e = 0 ∧ ∀ i, i < q + 1 → notesOK (nl.getD i default).ns = true) ∨ (e = 9 ∧ ∃ i, i < k ∧ notesOK (nl.getD i default).ns = false)) := by
                            rcases hI.out with ⟨h0, h1⟩ | ⟨h9, i, hi, h2⟩
                            · exact Or.inl ⟨h0, HOk.out (notes_all (fun i hi => h1 i (by omega)))⟩
                            · exact Or.inr ⟨h9, HBk.out (notes_not (i := i) (by omega) h2)⟩
                          clear hI HOk HBk hNs
                          go_wp2
                          go_roundw
                          case rel => exact ⟨q + 1, e, rfl, by go_num, HJ.out, hb, HI3⟩
                          case measure => have := HJ.out; simp [intOf]; omega
                    · obtain rfl : q = k := by omega
                      have hnl3 : ¬ ((q : Int) < (q : Int)) := by omega
                      have hok : okAll ss nl q := fun i hi => ⟨HSt.out i hi, hI1 i hi⟩
                      obtain ⟨hOUT, hERR⟩ := hGood.out hok
                      have HOK : Hid (okAll ss nl q) := hok
                      have HOUT0 : Hid (OUT = showTxt ls l ss nl ⟨xk, xl, xs, xn, xy⟩) := hOUT
                      have HERR0 : Hid (ERR = kindErr xk) := hERR
                      clear hI hI1 HSt hok hOUT hERR hGood hBad
                      obtain ⟨oC1, oX1, -, -, -, -⟩ := KV.out wr hb
                      have c0 : wr.cell? ⟨w.heap.size, 0, none⟩ = some (.int .i64 s) := oC1.cell 0
                      have c1 : wr.cell? ⟨w.heap.size, 1, none⟩ = some (.slice a q cap) := oC1.cell 1
                      have c2 : wr.cell? ⟨w.heap.size, 2, none⟩ = some (.int .i64 p) := oC1.cell 2
                      have zc := oC1.lt
                      have d0 : wr.cell? ⟨w.heap.size + 1, 0, none⟩ = some (.int .i64 xk) := oX1.cell 0
                      have d1 : wr.cell? ⟨w.heap.size + 1, 1, none⟩ = some (.int .i64 xl) := oX1.cell 1
                      have d2 : wr.cell? ⟨w.heap.size + 1, 2, none⟩ = some (.int .i64 xs) := oX1.cell 2
                      have d3 : wr.cell? ⟨w.heap.size + 1, 3, none⟩ = some (.int .i64 xn) := oX1.cell 3
                      have d4 : wr.cell? ⟨w.heap.size + 1, 4, none⟩ = some (.bool xy) := oX1.cell 4
                      have zx := oX1.lt
                      clear oC1 oX1
                      have hk0 := hkind.out
                      subst hk0
                      have HOUT : Hid (OUT = ⟨(auditGo ls l 0 nl).toArray⟩) := HOUT0.out
                      have HERR : Hid (ERR = 0) := HERR0.out
                      have HZ : Hid ((auditGo ls l 0 nl).length ≤ 140737488355328) := HZl.out rfl
                      clear HOUT0 HERR0
                      obtain ⟨TOT, eTOT⟩ : ∃ x, x = auditGo ls l 0 nl := ⟨_, rfl⟩
                      rw [← eTOT] at HOUT HZ
                      have HT0 : Hid (((⟨#[]⟩ : ByteArray).data.toList) ++ auditGo ls l ((0 : Nat)) (nl.drop 0) = TOT) := by show _ = _; rw [eTOT]; rfl
                      clear eTOT
                      go_wp2
                      clear c0 c1 c2 zc d0 d1 d2 d3 d4 zx
                      go_loopw [16, 17] (fun s16 s17 wx => ∃ (k : Nat) (T : ByteArray), s16 = .string T ∧ s17 = .int .i64 (k : Int) ∧ k ≤ q ∧ Below W.heap.size W wx ∧ Hid (T.data.toList ++ auditGo ls l k (nl.drop k) = TOT)) (fun _ s17 _ => q - (intOf s17).toNat)
                      case atStart => exact ⟨0, ⟨#[]⟩, rfl, rfl, by omega, hb, HT0⟩
                      case round =>
                        clear hb hbw HT0
                        obtain ⟨k, T, rfl, rfl, hk, hb, hT⟩ := hrel
                        obtain ⟨wo, ewo⟩ : ∃ X : World, X = wr := ⟨_, rfl⟩
                        subst ewo
                        obtain ⟨oC1, oX1, hlr, -, -, hbw⟩ := KV.out wo hb
                        have c1 : wo.cell? ⟨w.heap.size, 1, none⟩ = some (.slice a q cap) := oC1.cell 1
                        have zc := oC1.lt
                        clear oX1 oC1
                        by_cases hlt : k < q
                        · have hlt' : (k : Int) < (q : Int) := by omega
                          have HJ : Hid (k + 1 ≤ q) := hlt
                          have hT2 : Hid (T.data.toList ++ ((if seesP ls l k then auditNs k (nl.getD k default).ns else []) ++ auditGo ls l (k + 1) (nl.drop (k + 1))) = TOT) := by show _ = _; rw [← auditGo_at (by omega)]; exact hT.out
                          obtain ⟨bk, off, hae, hL2⟩ := hlr.2.2.2 (by omega)
                          subst hae
                          obtain ⟨i, rfl⟩ : ∃ i : Nat, l = i := ⟨l.toNat, by omega⟩
                          have hil : (i : Int) < (q : Int) := by omega
                          obtain ⟨x, hxe⟩ : ∃ x, x = ls.getD i (0, 0) := ⟨_, rfl⟩
                          obtain ⟨y, hye⟩ : ∃ y, y = ls.getD k (0, 0) := ⟨_, rfl⟩
                          have hSP : seesP ls i k = abv x.1 x.2 y.1 y.2 := by
                            unfold seesP
                            rw [hlen, show inR (k : Int) 0 ((q : Int) - 1) = true by unfold inR; simp; omega, Bool.true_and, hxe, hye]
                            rfl
                          have hri := hL2.2 i (by omega)
                          have hrj := hL2.2 k (by omega)
                          rw [← hxe] at hri
                          rw [← hye] at hrj
                          obtain ⟨r0, r1⟩ := hri
                          obtain ⟨r2, r3⟩ := hrj
                          have m1 := fun d os => cell_regrown c1 d os
                          have q0 := fun d os => cell_regrown r0 d os
                          have q1 := fun d os => cell_regrown r1 d os
                          have q2 := fun d os => cell_regrown r2 d os
                          have q3 := fun d os => cell_regrown r3 d os
                          have cA := fun w' => dominates_any x.1 x.2 y.1 y.2 w'
                          rw [hSP] at hT2
                          obtain ⟨V, eV⟩ : ∃ V, V = abv x.1 x.2 y.1 y.2 := ⟨_, rfl⟩
                          rw [← eV] at cA hT2
                          clear eV hxe hye hSP hL2 hT
                          go_upto_region 31 with (fail)
                          cases V with
                          | false =>
                            simp only [Bool.false_eq_true, if_false, List.nil_append] at hT2
                            refine wp_region_quiet_below (by kernel_rfl) (by kernel_rfl) ?_
                            repeat (go_big_quiet_step (first | (go_at_call 31; exact Calls.regrown_of (cA _))))
                            refine wpQuiet_nil ?_
                            intro _ hw'
                            obtain ⟨⟨dq, osq⟩, hw''⟩ := hw'
                            subst hw''
                            have bQ := hb.trans ((below_regrown wo dq osq).mono hb.size)
                            clear m1 q0 q1 q2 q3 r0 r1 r2 r3 c1 zc cA
                            go_wp2
                            go_roundw
                            case rel => exact ⟨k + 1, T, rfl, by go_num, HJ.out, bQ, hT2⟩
                            case measure => have := HJ.out; simp [intOf]; omega
                          | true =>
                            simp only [if_true] at hT2
                            refine wp_region_quiet_below (by kernel_rfl) (by kernel_rfl) ?_
                            repeat (go_big_quiet_step (first | (go_at_call 31; exact Calls.regrown_of (cA _))))
                            refine wpQuiet_nil ?_
                            intro _ hw'
                            obtain ⟨⟨dq, osq⟩, hw''⟩ := hw'
                            subst hw''
                            have bQ := hb.trans ((below_regrown wo dq osq).mono hb.size)
                            obtain ⟨X, eX⟩ : ∃ X : World, X = Go.Sort.grow (Go.redrawn wo dq) osq := ⟨_, rfl⟩
                            rw [← eX] at bQ
                            rw [← eX]
                            clear eX m1 q0 q1 q2 q3 r0 r1 r2 r3 c1 zc cA
                            go_wp2
                            have HNN : Hid (notesOK (nl.getD k default).ns = true) := (HOK.out k hlt).2
                            have KD : Hid (∀ U, Below W.heap.size W U → IsNotes U (nl.getD k default).a (nl.getD k default).n (nl.getD k default).c (nl.getD k default).ns) := fun U hU => (KV.out U hU).2.2.2.2.1.each k hlt
                            have KN : Hid (∀ U, Below W.heap.size W U → ∃ b3 o3, na = some ⟨b3, o3, none⟩ ∧ b3 < U.heap.size ∧ U.cell? ⟨b3, o3 + k, none⟩ = some (.slice (nl.getD k default).a (nl.getD k default).n (nl.getD k default).c)) := fun U hU => (KV.out U hU).2.2.2.2.1.at hlt
                            have KC : Hid (∀ U, Below W.heap.size W U → ∃ b1 o1, sa = some ⟨b1, o1, none⟩ ∧ b1 < U.heap.size ∧ U.cell? ⟨b1, o1 + k * 4, none⟩ = some (.slice (ss.getD k default).ia (ss.getD k default).il (ss.getD k default).ic) ∧ U.cell? ⟨b1, o1 + k * 4 + 1, none⟩ = some (.slice (ss.getD k default).la (ss.getD k default).ll (ss.getD k default).lc) ∧ U.cell? ⟨b1, o1 + k * 4 + 2, none⟩ = some (.slice (ss.getD k default).da (ss.getD k default).dl (ss.getD k default).dc) ∧ U.cell? ⟨b1, o1 + k * 4 + 3, none⟩ = some (.slice (ss.getD k default).oa (ss.getD k default).ol (ss.getD k default).oc)) := fun U hU => (KV.out U hU).2.2.2.1.at hlt
                            have KX : Hid (∀ U, Below W.heap.size W U → U.cell? ⟨w.heap.size + 1, 0, none⟩ = some (.int .i64 4) ∧ w.heap.size + 1 < U.heap.size) := fun U hU => ⟨(KV.out U hU).2.1.cell 0, (KV.out U hU).2.1.lt⟩
                            have HT3 : Hid (T.data.toList ++ auditNs k ((nl.getD k default).ns.drop 0) ++ auditGo ls i (k + 1) (nl.drop (k + 1)) = TOT) := by show _ = _; rw [List.append_assoc]; exact hT2.out
                            obtain ⟨yr, eyr⟩ : ∃ y, y = nl.getD k default := ⟨_, rfl⟩
                            rw [← eyr] at KN KD HNN HT3
                            have hDl : Hid (yr.ns.length = yr.n) := (KD.out X bQ).1
                            obtain ⟨r, er⟩ : ∃ r, r = ss.getD k default := ⟨_, rfl⟩
                            rw [← er] at KC
                            clear er eyr hT2
                            obtain ⟨ra0, rn0, rc0, ra1, rn1, rc1, ra2, rn2, rc2, ra3, rn3, rc3, ri, rl, rd, ro⟩ := r
                            obtain ⟨ya, yn, yc, ys⟩ := yr
                            simp only [] at KD KC HNN hDl HT3 KN
                            go_loopw [16, 18] (fun s16 s18 wz => s16 = .string T ∧ s18 = .int .i64 0 ∧ Below W.heap.size W wz) (fun _ _ _ => 0)
                            case atStart => exact ⟨rfl, rfl, bQ⟩
                            case round =>
                              clear bQ hb hbw
                              obtain ⟨rfl, rfl, hb⟩ := hrel
                              obtain ⟨b1, o1, rfl, zb1, e0, e1, e2, e3⟩ := KC.out wr hb
                              obtain ⟨x0, zx⟩ := KX.out wr hb
                              by_cases hy0 : (0 : Int) < (rn2 : Int)
                              · go_wp2
                                go_loopw [16, 20] (fun s16 s20 wy => ∃ (j : Nat) (T : ByteArray), s16 = .string T ∧ s20 = .int .i64 (j : Int) ∧ j ≤ yn ∧ Below W.heap.size W wy ∧ Hid (T.data.toList ++ auditNs k (ys.drop j) ++ auditGo ls i (k + 1) (nl.drop (k + 1)) = TOT)) (fun _ s20 _ => yn - (intOf s20).toNat)
                                case atStart => exact ⟨0, T, rfl, rfl, by omega, hb, HT3⟩
                                case round =>
                                  clear HT3 hb x0 zx e0 e1 e2 e3
                                  obtain ⟨j, T0, rfl, rfl, hj, hb, hT⟩ := hrel
                                  obtain ⟨b3, o3, rfl, zb3, f0⟩ := KN.out wr hb
                                  obtain ⟨x0, zx⟩ := KX.out wr hb
                                  by_cases hjl : j < yn
                                  · have hjl' : (j : Int) < (yn : Int) := by omega
                                    have HJ2 : Hid (j + 1 ≤ yn) := hjl
                                    have hdl := hDl.out
                                    have hjm : (j : Int) + 1 ≤ 9223372036854775807 := by have h8 := (KD.out wr hb).2.1; have h9 := (KD.out wr hb).2.2.1; unfold maxLen at h9; omega
                                    obtain ⟨b2, o2, rfl, zb2, hc⟩ := (KD.out wr hb).2.2.2.2 (by omega)
                                    have g0 := hc j hjl 0 (by decide)
                                    have g1 := hc j hjl 1 (by decide)
                                    have g2 := hc j hjl 2 (by decide)
                                    have g3 := hc j hjl 3 (by decide)
                                    have hT4 : Hid (T0.data.toList ++ (ntLine k (ys.getD j default) ++ auditNs k (ys.drop (j + 1))) ++ auditGo ls i (k + 1) (nl.drop (k + 1)) = TOT) := by show _ = _; rw [← auditNs_at (by omega)]; exact hT.out
                                    have hI := tx_nn (notes_has HNN.out (i := j) (by omega))
                                    obtain ⟨d, ed⟩ : ∃ d, d = ys.getD j default := ⟨_, rfl⟩
                                    rw [← ed] at g0 g1 g2 g3 hT4 hI
                                    clear ed hT hc
                                    obtain ⟨t1, t2, ty, tg⟩ := d
                                    simp only [NV.cells, List.getElem?_cons_zero, List.getElem?_cons_succ, Nat.add_zero] at g0 g1 g2 g3 hI
                                    obtain ⟨⟨i1, i1'⟩, ⟨i2, i2'⟩⟩ := hI
                                    obtain ⟨n1, rfl⟩ : ∃ n : Nat, t1 = n := ⟨t1.toNat, by omega⟩
                                    obtain ⟨n2, rfl⟩ : ∃ n : Nat, t2 = n := ⟨t2.toNat, by omega⟩
                                    obtain ⟨Y, eY⟩ : ∃ X : World, X = wr.alloc (.cells #[.int .i64 (n1 : Int), .int .i64 (n2 : Int), .bool ty, .bool tg] 48) := ⟨_, rfl⟩
                                    have bY : Below wr.heap.size wr Y := by rw [eY]; exact (Below.refl _ _).alloc (Nat.le_refl _) _
                                    have oD : ObAt Y wr.heap.size #[.int .i64 (n1 : Int), .int .i64 (n2 : Int), .bool ty, .bool tg] 48 := by rw [eY]; exact ObAt.new wr _ _
                                    go_upto_region 42 with (fail)
                                    rw [← eY]
                                    clear eY g0 g1 g2 g3 x0 zx f0
                                    have hbY := hb.trans (bY.mono hb.size)
                                    have y0 : Y.cell? ⟨wr.heap.size, 0, none⟩ = some (.int .i64 (n1 : Int)) := oD.cell 0
                                    have y1 : Y.cell? ⟨wr.heap.size, 1, none⟩ = some (.int .i64 (n2 : Int)) := oD.cell 1
                                    have zy := oD.lt
                                    have q0 := fun d os => cell_regrown y0 d os
                                    have q1 := fun d os => cell_regrown y1 d os
                                    have hsz : (T0 ++ decS k ++ ⟨#[32]⟩ ++ decS n1 ++ ⟨#[32]⟩ ++ decS n2).size ≤ 140737488355400 := by
                                      have h8 := congrArg List.length hT4.out
                                      have h9 := HZ.out
                                      simp only [List.length_append] at h8
                                      have h10 : T0.data.toList.length = T0.size := rfl
                                      have h11 := decS_size (n := k) (by omega)
                                      have h12 := decS_size (n := n1) (by omega)
                                      have h13 := decS_size (n := n2) (by omega)
                                      have u1 : (⟨#[32]⟩ : ByteArray).size = 1 := rfl
                                      simp only [ByteArray.size_append, u1]
                                      omega
                                    simp only [ByteArray.size_append] at hsz
                                    have u1 : (⟨#[32]⟩ : ByteArray).size = 1 := rfl
                                    rw [u1] at hsz
                                    obtain ⟨T1, t1⟩ : ∃ x, T0 ++ decS k = x := ⟨_, rfl⟩
                                    have s1 : T1.size = T0.size + (decS k).size := by rw [← t1]; simp
                                    obtain ⟨T2, t2⟩ : ∃ x, T1 ++ ⟨#[32]⟩ = x := ⟨_, rfl⟩
                                    have s2 : T2.size = T1.size + 1 := by rw [← t2]; simp [u1]
                                    obtain ⟨T3, t3⟩ : ∃ x, T2 ++ decS n1 = x := ⟨_, rfl⟩
                                    have s3 : T3.size = T2.size + (decS n1).size := by rw [← t3]; simp
                                    obtain ⟨T4, t4⟩ : ∃ x, T3 ++ ⟨#[32]⟩ = x := ⟨_, rfl⟩
                                    have s4 : T4.size = T3.size + 1 := by rw [← t4]; simp [u1]
                                    obtain ⟨T5, t5⟩ : ∃ x, T4 ++ decS n2 = x := ⟨_, rfl⟩
                                    have s5 : T5.size = T4.size + (decS n2).size := by rw [← t5]; simp
                                    have z1 : ¬ (9223372036854775807 < T0.size + (decS k).size) := by omega
                                    have z2 : ¬ (9223372036854775807 < T1.size + 1) := by omega
                                    have z3 : ¬ (9223372036854775807 < T2.size + (decS n1).size) := by omega
                                    have z4 : ¬ (9223372036854775807 < T3.size + 1) := by omega
                                    have z5 : ¬ (9223372036854775807 < T4.size + (decS n2).size) := by omega
                                    have HE5 : Hid (T5 = T0 ++ decS k ++ ⟨#[32]⟩ ++ decS n1 ++ ⟨#[32]⟩ ++ decS n2) := by show _ = _; rw [t1, t2, t3, t4, t5]
                                    replace s5 : T5.size ≤ 140737488355400 := by omega
                                    clear hsz s1 s2 s3 s4
                                    refine wp_region_quiet_below (by kernel_rfl) (by kernel_rfl) ?_
                                    repeat (go_big_quiet_step (first | (go_at_call 33; exact Calls.regrown_of (dec_ref _ _ _ (Nat.le_refl _) (by omega)))))
                                    refine wpQuiet_nil ?_
                                    intro _ hw'
                                    obtain ⟨⟨dq, osq⟩, hw''⟩ := hw'
                                    subst hw''
                                    have bQ2 := below_regrown Y dq osq
                                    have oD2 := oD.below bQ2
                                    obtain ⟨Z, eZ⟩ : ∃ X : World, X = Go.Sort.grow (Go.redrawn Y dq) osq := ⟨_, rfl⟩
                                    rw [← eZ] at bQ2 oD2
                                    rw [← eZ]
                                    clear eZ q0 q1 y0 y1 zy oD t1 t2 t3 t4 t5 z1 z2 z3 z4 z5
                                    have bQ3 := hbY.trans (bQ2.mono hbY.size)
                                    have y2 : Z.cell? ⟨wr.heap.size, 2, none⟩ = some (.bool ty) := oD2.cell 2
                                    have y3 : Z.cell? ⟨wr.heap.size, 3, none⟩ = some (.bool tg) := oD2.cell 3
                                    have zy := oD2.lt
                                    clear oD2
                                    cases ty with
                                    | true =>
                                      cases tg with
                                      | true =>
                                        have hLn := line_true_true T0 k n1 n2
                                        rw [← HE5.out] at hLn
                                        obtain ⟨T6, t6⟩ : ∃ x, T5 ++ ⟨#[32, 99, 111, 109, 109, 105, 116]⟩ = x := ⟨_, rfl⟩
                                        rw [t6] at hLn
                                        have s6 : T6.size = T5.size + 7 := by rw [← t6, ByteArray.size_append]; rfl
                                        have z6 : ¬ (9223372036854775807 < T5.size + 7) := by omega
                                        obtain ⟨T7, t7⟩ : ∃ x, T6 ++ ⟨#[32, 100, 97, 109, 97, 103, 101]⟩ = x := ⟨_, rfl⟩
                                        rw [t7] at hLn
                                        have s7 : T7.size = T6.size + 7 := by rw [← t7, ByteArray.size_append]; rfl
                                        have z7 : ¬ (9223372036854775807 < T6.size + 7) := by omega
                                        obtain ⟨T8, t8⟩ : ∃ x, T7 ++ ⟨#[10]⟩ = x := ⟨_, rfl⟩
                                        rw [t8] at hLn
                                        have s8 : T8.size = T7.size + 1 := by rw [← t8, ByteArray.size_append]; rfl
                                        have z8 : ¬ (9223372036854775807 < T7.size + 1) := by omega
                                        have HL8 : Hid (T8.data.toList ++ auditNs k (ys.drop (j + 1)) ++ auditGo ls i (k + 1) (nl.drop (k + 1)) = TOT) := by show _ = _; rw [hLn, ← hT4.out]; simp only [List.append_assoc]
                                        clear hLn hT4 s6 s7 s8 s5 HE5
                                        go_wp2
                                        go_roundw
                                        case rel => exact ⟨j + 1, T8, rfl, by go_num, HJ2.out, bQ3, HL8⟩
                                        case measure => have := HJ2.out; simp [intOf]; omega
                                      | false =>
                                        have hLn := line_true_false T0 k n1 n2
                                        rw [← HE5.out] at hLn
                                        obtain ⟨T6, t6⟩ : ∃ x, T5 ++ ⟨#[32, 99, 111, 109, 109, 105, 116]⟩ = x := ⟨_, rfl⟩
                                        rw [t6] at hLn
                                        have s6 : T6.size = T5.size + 7 := by rw [← t6, ByteArray.size_append]; rfl
                                        have z6 : ¬ (9223372036854775807 < T5.size + 7) := by omega
                                        obtain ⟨T7, t7⟩ : ∃ x, T6 ++ ⟨#[10]⟩ = x := ⟨_, rfl⟩
                                        rw [t7] at hLn
                                        have s7 : T7.size = T6.size + 1 := by rw [← t7, ByteArray.size_append]; rfl
                                        have z7 : ¬ (9223372036854775807 < T6.size + 1) := by omega
                                        have HL8 : Hid (T7.data.toList ++ auditNs k (ys.drop (j + 1)) ++ auditGo ls i (k + 1) (nl.drop (k + 1)) = TOT) := by show _ = _; rw [hLn, ← hT4.out]; simp only [List.append_assoc]
                                        clear hLn hT4 s6 s7 s5 HE5
                                        go_wp2
                                        go_roundw
                                        case rel => exact ⟨j + 1, T7, rfl, by go_num, HJ2.out, bQ3, HL8⟩
                                        case measure => have := HJ2.out; simp [intOf]; omega
                                    | false =>
                                      cases tg with
                                      | true =>
                                        have hLn := line_false_true T0 k n1 n2
                                        rw [← HE5.out] at hLn
                                        obtain ⟨T6, t6⟩ : ∃ x, T5 ++ ⟨#[32, 97, 98, 111, 114, 116]⟩ = x := ⟨_, rfl⟩
                                        rw [t6] at hLn
                                        have s6 : T6.size = T5.size + 6 := by rw [← t6, ByteArray.size_append]; rfl
                                        have z6 : ¬ (9223372036854775807 < T5.size + 6) := by omega
                                        obtain ⟨T7, t7⟩ : ∃ x, T6 ++ ⟨#[32, 100, 97, 109, 97, 103, 101]⟩ = x := ⟨_, rfl⟩
                                        rw [t7] at hLn
                                        have s7 : T7.size = T6.size + 7 := by rw [← t7, ByteArray.size_append]; rfl
                                        have z7 : ¬ (9223372036854775807 < T6.size + 7) := by omega
                                        obtain ⟨T8, t8⟩ : ∃ x, T7 ++ ⟨#[10]⟩ = x := ⟨_, rfl⟩
                                        rw [t8] at hLn
                                        have s8 : T8.size = T7.size + 1 := by rw [← t8, ByteArray.size_append]; rfl
                                        have z8 : ¬ (9223372036854775807 < T7.size + 1) := by omega
                                        have HL8 : Hid (T8.data.toList ++ auditNs k (ys.drop (j + 1)) ++ auditGo ls i (k + 1) (nl.drop (k + 1)) = TOT) := by show _ = _; rw [hLn, ← hT4.out]; simp only [List.append_assoc]
                                        clear hLn hT4 s6 s7 s8 s5 HE5
                                        go_wp2
                                        go_roundw
                                        case rel => exact ⟨j + 1, T8, rfl, by go_num, HJ2.out, bQ3, HL8⟩
                                        case measure => have := HJ2.out; simp [intOf]; omega
                                      | false =>
                                        have hLn := line_false_false T0 k n1 n2
                                        rw [← HE5.out] at hLn
                                        obtain ⟨T6, t6⟩ : ∃ x, T5 ++ ⟨#[32, 97, 98, 111, 114, 116]⟩ = x := ⟨_, rfl⟩
                                        rw [t6] at hLn
                                        have s6 : T6.size = T5.size + 6 := by rw [← t6, ByteArray.size_append]; rfl
                                        have z6 : ¬ (9223372036854775807 < T5.size + 6) := by omega
                                        obtain ⟨T7, t7⟩ : ∃ x, T6 ++ ⟨#[10]⟩ = x := ⟨_, rfl⟩
                                        rw [t7] at hLn
                                        have s7 : T7.size = T6.size + 1 := by rw [← t7, ByteArray.size_append]; rfl
                                        have z7 : ¬ (9223372036854775807 < T6.size + 1) := by omega
                                        have HL8 : Hid (T7.data.toList ++ auditNs k (ys.drop (j + 1)) ++ auditGo ls i (k + 1) (nl.drop (k + 1)) = TOT) := by show _ = _; rw [hLn, ← hT4.out]; simp only [List.append_assoc]
                                        clear hLn hT4 s6 s7 s5 HE5
                                        go_wp2
                                        go_roundw
                                        case rel => exact ⟨j + 1, T7, rfl, by go_num, HJ2.out, bQ3, HL8⟩
                                        case measure => have := HJ2.out; simp [intOf]; omega
                                  · obtain rfl : j = yn := by omega
                                    have hnl7 : ¬ ((j : Int) < (j : Int)) := by omega
                                    have HT5 : Hid (T0.data.toList ++ auditGo ls i (k + 1) (nl.drop (k + 1)) = TOT) := by
                                      show _ = _
                                      have h9 : ys.drop j = [] := List.drop_of_length_le (by have := hDl.out; omega)
                                      rw [← hT.out, h9]
                                      simp [auditNs]
                                    clear hT
                                    go_wp2
                                    go_roundw
                                    case rel => exact ⟨k + 1, T0, rfl, by go_num, HJ.out, hb, HT5⟩
                                    case measure => have := HJ.out; simp [intOf]; omega
                              · go_wp2
                                go_loopw [16, 20] (fun s16 s20 wy => ∃ (j : Nat) (T : ByteArray), s16 = .string T ∧ s20 = .int .i64 (j : Int) ∧ j ≤ yn ∧ Below W.heap.size W wy ∧ Hid (T.data.toList ++ auditNs k (ys.drop j) ++ auditGo ls i (k + 1) (nl.drop (k + 1)) = TOT)) (fun _ s20 _ => yn - (intOf s20).toNat)
                                case atStart => exact ⟨0, T, rfl, rfl, by omega, hb, HT3⟩
                                case round =>
                                  clear HT3 hb x0 zx e0 e1 e2 e3
                                  obtain ⟨j, T0, rfl, rfl, hj, hb, hT⟩ := hrel
                                  obtain ⟨b3, o3, rfl, zb3, f0⟩ := KN.out wr hb
                                  obtain ⟨x0, zx⟩ := KX.out wr hb
                                  by_cases hjl : j < yn
                                  · have hjl' : (j : Int) < (yn : Int) := by omega
                                    have HJ2 : Hid (j + 1 ≤ yn) := hjl
                                    have hdl := hDl.out
                                    have hjm : (j : Int) + 1 ≤ 9223372036854775807 := by have h8 := (KD.out wr hb).2.1; have h9 := (KD.out wr hb).2.2.1; unfold maxLen at h9; omega
                                    obtain ⟨b2, o2, rfl, zb2, hc⟩ := (KD.out wr hb).2.2.2.2 (by omega)
                                    have g0 := hc j hjl 0 (by decide)
                                    have g1 := hc j hjl 1 (by decide)
                                    have g2 := hc j hjl 2 (by decide)
                                    have g3 := hc j hjl 3 (by decide)
                                    have hT4 : Hid (T0.data.toList ++ (ntLine k (ys.getD j default) ++ auditNs k (ys.drop (j + 1))) ++ auditGo ls i (k + 1) (nl.drop (k + 1)) = TOT) := by show _ = _; rw [← auditNs_at (by omega)]; exact hT.out
                                    have hI := tx_nn (notes_has HNN.out (i := j) (by omega))
                                    obtain ⟨d, ed⟩ : ∃ d, d = ys.getD j default := ⟨_, rfl⟩
                                    rw [← ed] at g0 g1 g2 g3 hT4 hI
                                    clear ed hT hc
                                    obtain ⟨t1, t2, ty, tg⟩ := d
                                    simp only [NV.cells, List.getElem?_cons_zero, List.getElem?_cons_succ, Nat.add_zero] at g0 g1 g2 g3 hI
                                    obtain ⟨⟨i1, i1'⟩, ⟨i2, i2'⟩⟩ := hI
                                    obtain ⟨n1, rfl⟩ : ∃ n : Nat, t1 = n := ⟨t1.toNat, by omega⟩
                                    obtain ⟨n2, rfl⟩ : ∃ n : Nat, t2 = n := ⟨t2.toNat, by omega⟩
                                    obtain ⟨Y, eY⟩ : ∃ X : World, X = wr.alloc (.cells #[.int .i64 (n1 : Int), .int .i64 (n2 : Int), .bool ty, .bool tg] 48) := ⟨_, rfl⟩
                                    have bY : Below wr.heap.size wr Y := by rw [eY]; exact (Below.refl _ _).alloc (Nat.le_refl _) _
                                    have oD : ObAt Y wr.heap.size #[.int .i64 (n1 : Int), .int .i64 (n2 : Int), .bool ty, .bool tg] 48 := by rw [eY]; exact ObAt.new wr _ _
                                    go_upto_region 42 with (fail)
                                    rw [← eY]
                                    clear eY g0 g1 g2 g3 x0 zx f0
                                    have hbY := hb.trans (bY.mono hb.size)
                                    have y0 : Y.cell? ⟨wr.heap.size, 0, none⟩ = some (.int .i64 (n1 : Int)) := oD.cell 0
                                    have y1 : Y.cell? ⟨wr.heap.size, 1, none⟩ = some (.int .i64 (n2 : Int)) := oD.cell 1
                                    have zy := oD.lt
                                    have q0 := fun d os => cell_regrown y0 d os
                                    have q1 := fun d os => cell_regrown y1 d os
                                    have hsz : (T0 ++ decS k ++ ⟨#[32]⟩ ++ decS n1 ++ ⟨#[32]⟩ ++ decS n2).size ≤ 140737488355400 := by
                                      have h8 := congrArg List.length hT4.out
                                      have h9 := HZ.out
                                      simp only [List.length_append] at h8
                                      have h10 : T0.data.toList.length = T0.size := rfl
                                      have h11 := decS_size (n := k) (by omega)
                                      have h12 := decS_size (n := n1) (by omega)
                                      have h13 := decS_size (n := n2) (by omega)
                                      have u1 : (⟨#[32]⟩ : ByteArray).size = 1 := rfl
                                      simp only [ByteArray.size_append, u1]
                                      omega
                                    simp only [ByteArray.size_append] at hsz
                                    have u1 : (⟨#[32]⟩ : ByteArray).size = 1 := rfl
                                    rw [u1] at hsz
                                    obtain ⟨T1, t1⟩ : ∃ x, T0 ++ decS k = x := ⟨_, rfl⟩
                                    have s1 : T1.size = T0.size + (decS k).size := by rw [← t1]; simp
                                    obtain ⟨T2, t2⟩ : ∃ x, T1 ++ ⟨#[32]⟩ = x := ⟨_, rfl⟩
                                    have s2 : T2.size = T1.size + 1 := by rw [← t2]; simp [u1]
                                    obtain ⟨T3, t3⟩ : ∃ x, T2 ++ decS n1 = x := ⟨_, rfl⟩
                                    have s3 : T3.size = T2.size + (decS n1).size := by rw [← t3]; simp
                                    obtain ⟨T4, t4⟩ : ∃ x, T3 ++ ⟨#[32]⟩ = x := ⟨_, rfl⟩
                                    have s4 : T4.size = T3.size + 1 := by rw [← t4]; simp [u1]
                                    obtain ⟨T5, t5⟩ : ∃ x, T4 ++ decS n2 = x := ⟨_, rfl⟩
                                    have s5 : T5.size = T4.size + (decS n2).size := by rw [← t5]; simp
                                    have z1 : ¬ (9223372036854775807 < T0.size + (decS k).size) := by omega
                                    have z2 : ¬ (9223372036854775807 < T1.size + 1) := by omega
                                    have z3 : ¬ (9223372036854775807 < T2.size + (decS n1).size) := by omega
                                    have z4 : ¬ (9223372036854775807 < T3.size + 1) := by omega
                                    have z5 : ¬ (9223372036854775807 < T4.size + (decS n2).size) := by omega
                                    have HE5 : Hid (T5 = T0 ++ decS k ++ ⟨#[32]⟩ ++ decS n1 ++ ⟨#[32]⟩ ++ decS n2) := by show _ = _; rw [t1, t2, t3, t4, t5]
                                    replace s5 : T5.size ≤ 140737488355400 := by omega
                                    clear hsz s1 s2 s3 s4
                                    refine wp_region_quiet_below (by kernel_rfl) (by kernel_rfl) ?_
                                    repeat (go_big_quiet_step (first | (go_at_call 33; exact Calls.regrown_of (dec_ref _ _ _ (Nat.le_refl _) (by omega)))))
                                    refine wpQuiet_nil ?_
                                    intro _ hw'
                                    obtain ⟨⟨dq, osq⟩, hw''⟩ := hw'
                                    subst hw''
                                    have bQ2 := below_regrown Y dq osq
                                    have oD2 := oD.below bQ2
                                    obtain ⟨Z, eZ⟩ : ∃ X : World, X = Go.Sort.grow (Go.redrawn Y dq) osq := ⟨_, rfl⟩
                                    rw [← eZ] at bQ2 oD2
                                    rw [← eZ]
                                    clear eZ q0 q1 y0 y1 zy oD t1 t2 t3 t4 t5 z1 z2 z3 z4 z5
                                    have bQ3 := hbY.trans (bQ2.mono hbY.size)
                                    have y2 : Z.cell? ⟨wr.heap.size, 2, none⟩ = some (.bool ty) := oD2.cell 2
                                    have y3 : Z.cell? ⟨wr.heap.size, 3, none⟩ = some (.bool tg) := oD2.cell 3
                                    have zy := oD2.lt
                                    clear oD2
                                    cases ty with
                                    | true =>
                                      cases tg with
                                      | true =>
                                        have hLn := line_true_true T0 k n1 n2
                                        rw [← HE5.out] at hLn
                                        obtain ⟨T6, t6⟩ : ∃ x, T5 ++ ⟨#[32, 99, 111, 109, 109, 105, 116]⟩ = x := ⟨_, rfl⟩
                                        rw [t6] at hLn
                                        have s6 : T6.size = T5.size + 7 := by rw [← t6, ByteArray.size_append]; rfl
                                        have z6 : ¬ (9223372036854775807 < T5.size + 7) := by omega
                                        obtain ⟨T7, t7⟩ : ∃ x, T6 ++ ⟨#[32, 100, 97, 109, 97, 103, 101]⟩ = x := ⟨_, rfl⟩
                                        rw [t7] at hLn
                                        have s7 : T7.size = T6.size + 7 := by rw [← t7, ByteArray.size_append]; rfl
                                        have z7 : ¬ (9223372036854775807 < T6.size + 7) := by omega
                                        obtain ⟨T8, t8⟩ : ∃ x, T7 ++ ⟨#[10]⟩ = x := ⟨_, rfl⟩
                                        rw [t8] at hLn
                                        have s8 : T8.size = T7.size + 1 := by rw [← t8, ByteArray.size_append]; rfl
                                        have z8 : ¬ (9223372036854775807 < T7.size + 1) := by omega
                                        have HL8 : Hid (T8.data.toList ++ auditNs k (ys.drop (j + 1)) ++ auditGo ls i (k + 1) (nl.drop (k + 1)) = TOT) := by show _ = _; rw [hLn, ← hT4.out]; simp only [List.append_assoc]
                                        clear hLn hT4 s6 s7 s8 s5 HE5
                                        go_wp2
                                        go_roundw
                                        case rel => exact ⟨j + 1, T8, rfl, by go_num, HJ2.out, bQ3, HL8⟩
                                        case measure => have := HJ2.out; simp [intOf]; omega
                                      | false =>
                                        have hLn := line_true_false T0 k n1 n2
                                        rw [← HE5.out] at hLn
                                        obtain ⟨T6, t6⟩ : ∃ x, T5 ++ ⟨#[32, 99, 111, 109, 109, 105, 116]⟩ = x := ⟨_, rfl⟩
                                        rw [t6] at hLn
                                        have s6 : T6.size = T5.size + 7 := by rw [← t6, ByteArray.size_append]; rfl
                                        have z6 : ¬ (9223372036854775807 < T5.size + 7) := by omega
                                        obtain ⟨T7, t7⟩ : ∃ x, T6 ++ ⟨#[10]⟩ = x := ⟨_, rfl⟩
                                        rw [t7] at hLn
                                        have s7 : T7.size = T6.size + 1 := by rw [← t7, ByteArray.size_append]; rfl
                                        have z7 : ¬ (9223372036854775807 < T6.size + 1) := by omega
                                        have HL8 : Hid (T7.data.toList ++ auditNs k (ys.drop (j + 1)) ++ auditGo ls i (k + 1) (nl.drop (k + 1)) = TOT) := by show _ = _; rw [hLn, ← hT4.out]; simp only [List.append_assoc]
                                        clear hLn hT4 s6 s7 s5 HE5
                                        go_wp2
                                        go_roundw
                                        case rel => exact ⟨j + 1, T7, rfl, by go_num, HJ2.out, bQ3, HL8⟩
                                        case measure => have := HJ2.out; simp [intOf]; omega
                                    | false =>
                                      cases tg with
                                      | true =>
                                        have hLn := line_false_true T0 k n1 n2
                                        rw [← HE5.out] at hLn
                                        obtain ⟨T6, t6⟩ : ∃ x, T5 ++ ⟨#[32, 97, 98, 111, 114, 116]⟩ = x := ⟨_, rfl⟩
                                        rw [t6] at hLn
                                        have s6 : T6.size = T5.size + 6 := by rw [← t6, ByteArray.size_append]; rfl
                                        have z6 : ¬ (9223372036854775807 < T5.size + 6) := by omega
                                        obtain ⟨T7, t7⟩ : ∃ x, T6 ++ ⟨#[32, 100, 97, 109, 97, 103, 101]⟩ = x := ⟨_, rfl⟩
                                        rw [t7] at hLn
                                        have s7 : T7.size = T6.size + 7 := by rw [← t7, ByteArray.size_append]; rfl
                                        have z7 : ¬ (9223372036854775807 < T6.size + 7) := by omega
                                        obtain ⟨T8, t8⟩ : ∃ x, T7 ++ ⟨#[10]⟩ = x := ⟨_, rfl⟩
                                        rw [t8] at hLn
                                        have s8 : T8.size = T7.size + 1 := by rw [← t8, ByteArray.size_append]; rfl
                                        have z8 : ¬ (9223372036854775807 < T7.size + 1) := by omega
                                        have HL8 : Hid (T8.data.toList ++ auditNs k (ys.drop (j + 1)) ++ auditGo ls i (k + 1) (nl.drop (k + 1)) = TOT) := by show _ = _; rw [hLn, ← hT4.out]; simp only [List.append_assoc]
                                        clear hLn hT4 s6 s7 s8 s5 HE5
                                        go_wp2
                                        go_roundw
                                        case rel => exact ⟨j + 1, T8, rfl, by go_num, HJ2.out, bQ3, HL8⟩
                                        case measure => have := HJ2.out; simp [intOf]; omega
                                      | false =>
                                        have hLn := line_false_false T0 k n1 n2
                                        rw [← HE5.out] at hLn
                                        obtain ⟨T6, t6⟩ : ∃ x, T5 ++ ⟨#[32, 97, 98, 111, 114, 116]⟩ = x := ⟨_, rfl⟩
                                        rw [t6] at hLn
                                        have s6 : T6.size = T5.size + 6 := by rw [← t6, ByteArray.size_append]; rfl
                                        have z6 : ¬ (9223372036854775807 < T5.size + 6) := by omega
                                        obtain ⟨T7, t7⟩ : ∃ x, T6 ++ ⟨#[10]⟩ = x := ⟨_, rfl⟩
                                        rw [t7] at hLn
                                        have s7 : T7.size = T6.size + 1 := by rw [← t7, ByteArray.size_append]; rfl
                                        have z7 : ¬ (9223372036854775807 < T6.size + 1) := by omega
                                        have HL8 : Hid (T7.data.toList ++ auditNs k (ys.drop (j + 1)) ++ auditGo ls i (k + 1) (nl.drop (k + 1)) = TOT) := by show _ = _; rw [hLn, ← hT4.out]; simp only [List.append_assoc]
                                        clear hLn hT4 s6 s7 s5 HE5
                                        go_wp2
                                        go_roundw
                                        case rel => exact ⟨j + 1, T7, rfl, by go_num, HJ2.out, bQ3, HL8⟩
                                        case measure => have := HJ2.out; simp [intOf]; omega
                                  · obtain rfl : j = yn := by omega
                                    have hnl7 : ¬ ((j : Int) < (j : Int)) := by omega
                                    have HT5 : Hid (T0.data.toList ++ auditGo ls i (k + 1) (nl.drop (k + 1)) = TOT) := by
                                      show _ = _
                                      have h9 : ys.drop j = [] := List.drop_of_length_le (by have := hDl.out; omega)
                                      rw [← hT.out, h9]
                                      simp [auditNs]
                                    clear hT
                                    go_wp2
                                    go_roundw
                                    case rel => exact ⟨k + 1, T0, rfl, by go_num, HJ.out, hb, HT5⟩
                                    case measure => have := HJ.out; simp [intOf]; omega
                        · obtain rfl : k = q := by omega
                          have hnl9 : ¬ ((k : Int) < (k : Int)) := by omega
                          have HEnd : Hid (T.data.toList = TOT) := by
                            show _ = _
                            have h8 := hT.out
                            rw [List.drop_of_length_le (by omega)] at h8
                            simpa [auditGo] using h8
                          clear hT
                          go_wp2
                          go_ret2
                          exact ⟨by rw [HOUT.out, HERR.out, ← HEnd.out]; rfl, hbw⟩
                  · have hnok : ¬ okAll ss nl k := fun g => by obtain ⟨i, hi, h9⟩ := hI9; have := (g i hi).2; rw [h9] at this; cases this
                    exact absurd HOKA.out hnok
            · have hnok : ¬ okAll ss nl m := fun g => by obtain ⟨i, hi, h9⟩ := hI9; have := (g i hi).1; rw [h9] at this; cases this
              exact absurd HOKA.out hnok
        · have hne : ((m : Int) != (len : Int)) = true := by simp; omega
          have h9 := HS.out
          rw [if_neg (fun g => hmm g.2)] at h9
          exact absurd h9 (by omega)
      · have hne : ((n : Int) != (len : Int)) = true := by simp; omega
        have h9 := HS.out
        rw [if_neg (fun g => hnn g.1)] at h9
        exact absurd h9 (by omega)
  · rw [if_neg hC] at HS
    exact absurd HS.out (by omega)
end Go.Proofs.YtgohpgollpjlnaaDoor.Cn
