/- Texts of this claim, one behind the other. -/
import Derived.Test.YtgohpgollpjlnaaDoorM27ConsoleShows
import Derived.Test.YtgohpgollpjlnaaDoorProg
import Derived.WalkKit
import Derived.ProofKit
import Derived.Below
import Derived.OpenShut
import Derived.Test.YtgohpgollpjlnaaDoorA0ConsoleShows
/- console's status, refuse and Show. -/
namespace Go.Proofs.YtgohpgollpjlnaaDoor.Cn
open Go.ChangeShapes Go.WideShapes Go.ChangeAt Go.RowKit
open Go.Proofs.YtgohpgollpjlnaaDoor.St (BoxN boxn_new SV IsStore IsRow DbV storeOK TxWf own_below txOK)
open Go.Proofs.YtgohpgollpjlnaaDoor.Pt (IsStores NV IsNotes)
set_option linter.unusedVariables false

set_option maxRecDepth 100000 in
set_option maxHeartbeats 4000000 in
theorem status_any (s p : Int) (a : Option Addr) (len cap : Nat) (ls : List (Int × Int)) (l : Int) (sa : Option Addr) (n sc : Nat) (ss : List SV) (xk xl xs xn : Int) (xy : Bool) (w : World) (hl : IsLabs w a len cap ls) (h6 : len ≤ 6) (hl0 : 0 ≤ l) (hl1 : l < (len : Int)) (hS : IsStores w sa n sc ss) (hn : n = len) :
    Calls Tryd.prog 25 #[.agg #[.int .i64 s, .slice a len cap, .int .i64 p], .int .i64 l, .slice sa n sc, .agg #[.int .i64 xk, .int .i64 xl, .int .i64 xs, .int .i64 xn, .bool xy]] w fun e w' => e = .returned (.string (stText ls l ss xl xs xn)) ∧ Below w.heap.size w w' := by
  obtain ⟨W, hW⟩ : ∃ W : World, W = (w.alloc (.cells #[.int .i64 s, .slice a len cap, .int .i64 p] 32)).alloc (.cells #[.int .i64 xk, .int .i64 xl, .int .i64 xs, .int .i64 xn, .bool xy] 25) := ⟨_, rfl⟩
  have oC : ObAt W w.heap.size #[.int .i64 s, .slice a len cap, .int .i64 p] 32 := by rw [hW]; exact (ObAt.new w _ _).below ((Below.refl _ _).alloc (Nat.le_refl _) _)
  have oX : ObAt W (w.heap.size + 1) #[.int .i64 xk, .int .i64 xl, .int .i64 xs, .int .i64 xn, .bool xy] 25 := by rw [hW]; have h8 := ObAt.new (w.alloc (.cells #[.int .i64 s, .slice a len cap, .int .i64 p] 32)) #[.int .i64 xk, .int .i64 xl, .int .i64 xs, .int .i64 xn, .bool xy] 25; simpa using h8
  have bW : Below w.heap.size w W := by rw [hW]; exact ((Below.refl _ _).alloc (Nat.le_refl _) _).alloc (by simp) _
  have c0 : W.cell? ⟨w.heap.size, 0, none⟩ = some (.int .i64 s) := oC.cell 0
  have c1 : W.cell? ⟨w.heap.size, 1, none⟩ = some (.slice a len cap) := oC.cell 1
  have c2 : W.cell? ⟨w.heap.size, 2, none⟩ = some (.int .i64 p) := oC.cell 2
  have d0 : W.cell? ⟨w.heap.size + 1, 0, none⟩ = some (.int .i64 xk) := oX.cell 0
  have d1 : W.cell? ⟨w.heap.size + 1, 1, none⟩ = some (.int .i64 xl) := oX.cell 1
  have d2 : W.cell? ⟨w.heap.size + 1, 2, none⟩ = some (.int .i64 xs) := oX.cell 2
  have d3 : W.cell? ⟨w.heap.size + 1, 3, none⟩ = some (.int .i64 xn) := oX.cell 3
  have zc := oC.lt
  have zx := oX.lt
  have m0 := fun d os => cell_regrown c0 d os
  have m1 := fun d os => cell_regrown c1 d os
  have m2 := fun d os => cell_regrown c2 d os
  have m4 := fun d os => cell_regrown d1 d os
  have m5 := fun d os => cell_regrown d2 d os
  have m6 := fun d os => cell_regrown d3 d os
  have hl2 := hl.below bW
  have hS2 := hS.below bW
  have hSee : ∀ U, Below W.heap.size W U → Calls Tryd.prog 46 #[.agg #[.int .i64 s, .slice a len cap, .int .i64 p], .int .i64 l, .int .i64 xl] U fun e w' => e = .returned (.bool (seesP ls l xl)) ∧ Below U.heap.size U w' := fun U hU => sees_any s p a len cap ls l xl U (hl2.below hU) h6 hl0 hl1
  have HX : Hid (stText ls l ss xl xs xn = if seesP ls l xl && prepB (ss.getD xl.toNat default) (xs, xn) then ⟨#[112, 114, 101, 112, 97, 114, 101, 100, 10]⟩ else ⟨#[117, 110, 107, 110, 111, 119, 110, 10]⟩) := rfl
  have HSB : seesP ls l xl = true → 0 ≤ xl ∧ xl < (len : Int) := fun h => by
    unfold seesP at h
    rw [Bool.and_eq_true] at h
    have h8 := inR_bd h.1
    rw [hl.1] at h8
    omega
  obtain ⟨TX, eTX⟩ : ∃ x, x = stText ls l ss xl xs xn := ⟨_, rfl⟩
  rw [← eTX] at HX ⊢
  clear eTX
  obtain ⟨SE, eSE⟩ : ∃ x, x = seesP ls l xl := ⟨_, rfl⟩
  rw [← eSE] at hSee HX HSB
  clear eSE hl oC oX
  cases SE with
  | false =>
    have HR : Hid (TX = ⟨#[117, 110, 107, 110, 111, 119, 110, 10]⟩) := HX
    have hSee2 : ∀ d os, Calls Tryd.prog 46 #[.agg #[.int .i64 s, .slice a len cap, .int .i64 p], .int .i64 l, .int .i64 xl] (Go.Sort.grow (Go.redrawn W d) os) fun e w' => e = .returned (.bool false) ∧ Below (Go.Sort.grow (Go.redrawn W d) os).heap.size (Go.Sort.grow (Go.redrawn W d) os) w' := fun d os => hSee _ (below_regrown W d os)
    clear HX HSB hSee hl2 hS2 hS hl0 hl1 h6
    go_enter Tryd.func25, Tryd.ntmps25
    go_upto_region 1 with (fail)
    rw [← hW]
    clear hW
    refine wp_region_quiet_below (by kernel_rfl) (by kernel_rfl) ?_
    repeat (go_big_quiet_step ((go_at_call 46; exact Calls.regrown_of (hSee2 _ _))))
    refine wpQuiet_nil ?_
    intro _ hw'
    obtain ⟨⟨dq, osq⟩, hw''⟩ := hw'
    subst hw''
    have bQ := bW.trans ((below_regrown W dq osq).mono bW.size)
    go_wp2
    go_ret
    exact ⟨by rw [HR.out]; rfl, bQ⟩
  | true =>
    obtain ⟨hx0, hx1⟩ := HSB rfl
    obtain ⟨j, rfl⟩ : ∃ j : Nat, xl = j := ⟨xl.toNat, by omega⟩
    have hjn : j < n := by omega
    have hjl : (j : Int) < (n : Int) := by omega
    simp only [Int.toNat_natCast, Bool.true_and] at HX
    obtain ⟨b1, o1, rfl, zb1, e0, e1, e2, e3⟩ := hS2.at hjn
    have KP : ∀ U, Below W.heap.size W U → Calls Tryd.prog 47 #[(ss.getD j default).val, .agg #[.int .i64 xs, .int .i64 xn]] U fun e w' => e = .returned (.bool (prepB (ss.getD j default) (xs, xn))) ∧ Below U.heap.size U w' := fun U hU => prep_any _ xs xn U ((hS2.below hU).each j hjn).1
    obtain ⟨r, er⟩ : ∃ r, r = ss.getD j default := ⟨_, rfl⟩
    rw [← er] at e0 e1 e2 e3 HX KP
    clear er
    obtain ⟨ra0, rn0, rc0, ra1, rn1, rc1, ra2, rn2, rc2, ra3, rn3, rc3, ri, rl, rd, ro⟩ := r
    simp only [SV.val] at e0 e1 e2 e3 KP
    have q0 := fun d os => cell_regrown e0 d os
    have q1 := fun d os => cell_regrown e1 d os
    have q2 := fun d os => cell_regrown e2 d os
    have q3 := fun d os => cell_regrown e3 d os
    obtain ⟨PB, ePB⟩ : ∃ x, x = prepB ⟨ra0, rn0, rc0, ra1, rn1, rc1, ra2, rn2, rc2, ra3, rn3, rc3, ri, rl, rd, ro⟩ (xs, xn) := ⟨_, rfl⟩
    rw [← ePB] at HX KP
    clear ePB
    have hSee2 : ∀ d os, Calls Tryd.prog 46 #[.agg #[.int .i64 s, .slice a len cap, .int .i64 p], .int .i64 l, .int .i64 (j : Int)] (Go.Sort.grow (Go.redrawn W d) os) fun e w' => e = .returned (.bool true) ∧ Below (Go.Sort.grow (Go.redrawn W d) os).heap.size (Go.Sort.grow (Go.redrawn W d) os) w' := fun d os => hSee _ (below_regrown W d os)
    have hP2 := fun d os => KP _ (below_regrown W d os)
    clear HSB hSee hl2 hS2 hS hl0 hl1 h6 KP hx0 hx1
    cases PB with
    | true =>
      have HR : Hid (TX = ⟨#[112, 114, 101, 112, 97, 114, 101, 100, 10]⟩) := HX
      clear HX
      go_enter Tryd.func25, Tryd.ntmps25
      go_upto_region 1 with (fail)
      rw [← hW]
      clear hW
      refine wp_region_quiet_below (by kernel_rfl) (by kernel_rfl) ?_
      repeat (go_big_quiet_step (first | (go_at_call 46; exact Calls.regrown_of (hSee2 _ _)) | (go_at_call 47; exact Calls.regrown_of (hP2 _ _))))
      refine wpQuiet_nil ?_
      intro _ hw'
      obtain ⟨⟨dq, osq⟩, hw''⟩ := hw'
      subst hw''
      have bQ := bW.trans ((below_regrown W dq osq).mono bW.size)
      go_wp2
      go_ret
      exact ⟨by rw [HR.out]; rfl, bQ⟩
    | false =>
      have HR : Hid (TX = ⟨#[117, 110, 107, 110, 111, 119, 110, 10]⟩) := HX
      clear HX
      go_enter Tryd.func25, Tryd.ntmps25
      go_upto_region 1 with (fail)
      rw [← hW]
      clear hW
      refine wp_region_quiet_below (by kernel_rfl) (by kernel_rfl) ?_
      repeat (go_big_quiet_step (first | (go_at_call 46; exact Calls.regrown_of (hSee2 _ _)) | (go_at_call 47; exact Calls.regrown_of (hP2 _ _))))
      refine wpQuiet_nil ?_
      intro _ hw'
      obtain ⟨⟨dq, osq⟩, hw''⟩ := hw'
      subst hw''
      have bQ := bW.trans ((below_regrown W dq osq).mono bW.size)
      go_wp2
      go_ret
      exact ⟨by rw [HR.out]; rfl, bQ⟩
theorem okAll_zero (ss : List SV) (nl : List NL) : okAll ss nl 0 := fun i hi => absurd hi (by omega)
set_option maxRecDepth 100000 in
set_option maxHeartbeats 8000000 in
theorem refuse_any (s p : Int) (a : Option Addr) (len cap : Nat) (ls : List (Int × Int)) (l : Int) (sa : Option Addr) (n sc : Nat) (ss : List SV) (na : Option Addr) (m nc : Nat) (nl : List NL) (w : World) (hl : IsLabs w a len cap ls) (hS : IsStores w sa n sc ss) (hN : IsNLs w na m nc nl) :
    Calls Tryd.prog 23 #[.agg #[.int .i64 s, .slice a len cap, .int .i64 p], .int .i64 l, .slice sa n sc, .slice na m nc] w fun e w' => e = .returned (.int .i64 (shErr s ls p l ss nl)) ∧ Below w.heap.size w w' := by
  have hlen := hl.1
  have hsl := hS.row.1
  have hnl := hN.row.1
  obtain ⟨W, hW⟩ : ∃ W : World, W = w.alloc (.cells #[.int .i64 s, .slice a len cap, .int .i64 p] 32) := ⟨_, rfl⟩
  have oC : ObAt W w.heap.size #[.int .i64 s, .slice a len cap, .int .i64 p] 32 := by rw [hW]; exact ObAt.new w _ _
  have bW : Below w.heap.size w W := by rw [hW]; exact (Below.refl _ _).alloc (Nat.le_refl _) _
  have KV : Hid (∀ U, Below W.heap.size W U → ObAt U w.heap.size #[.int .i64 s, .slice a len cap, .int .i64 p] 32 ∧ IsLabs U a len cap ls ∧ IsStores U sa n sc ss ∧ IsNLs U na m nc nl ∧ Below w.heap.size w U) := fun U hU => ⟨oC.below hU, (hl.below bW).below hU, (hS.below bW).below hU, (hN.below bW).below hU, bW.trans (hU.mono bW.size)⟩
  have KCh : Hid (∀ U, Below W.heap.size W U → Calls Tryd.prog 42 #[.agg #[.int .i64 s, .slice a len cap, .int .i64 p]] U fun e w' => e = .returned (.int .i64 (cfgFault s ls p)) ∧ Below U.heap.size U w') := fun U hU => check_any s p a len cap ls U (KV.out U hU).2.1
  have HE : Hid (shErr s ls p l ss nl = if cfgFault s ls p = 0 then (if inR l 0 ((len : Int) - 1) = true then (if n = len ∧ m = len then (if okAll ss nl len then 0 else 9) else 9) else 6) else cfgFault s ls p) := by show _ = _; unfold shErr; rw [hlen, hsl, hnl]
  have H6 : Hid (cfgFault s ls p = 0 → len ≤ 6) := fun h => by have := (cfg_zero h).2.2.2.1; omega
  have b0 : Below W.heap.size W W := Below.refl _ _
  obtain ⟨E, eE⟩ : ∃ x, x = shErr s ls p l ss nl := ⟨_, rfl⟩
  rw [← eE] at HE ⊢
  obtain ⟨C, eC⟩ : ∃ x, x = cfgFault s ls p := ⟨_, rfl⟩
  rw [← eC] at HE KCh H6
  clear eE eC hl hS hN hlen
  have c0 : W.cell? ⟨w.heap.size, 0, none⟩ = some (.int .i64 s) := oC.cell 0
  have c1 : W.cell? ⟨w.heap.size, 1, none⟩ = some (.slice a len cap) := oC.cell 1
  have c2 : W.cell? ⟨w.heap.size, 2, none⟩ = some (.int .i64 p) := oC.cell 2
  have zc := oC.lt
  have hCh := KCh.out W b0
  clear KCh oC
  go_enter Tryd.func23, Tryd.ntmps23
  go_upto_region 1 with (fail)
  rw [← hW]
  clear hW
  go_upto_region 2 with (go_at_call 42; refine hCh.mono ?_; rintro e u1 ⟨rfl, hb1⟩)
  clear hCh b0 c0 c1 c2 zc
  have hw1 := (KV.out u1 hb1).2.2.2.2
  by_cases hC : C = 0
  · subst hC
    rw [if_pos rfl] at HE
    have h6 := H6.out rfl
    obtain ⟨oC1, -, -, -, -⟩ := KV.out u1 hb1
    have c0 : u1.cell? ⟨w.heap.size, 0, none⟩ = some (.int .i64 s) := oC1.cell 0
    have c1 : u1.cell? ⟨w.heap.size, 1, none⟩ = some (.slice a len cap) := oC1.cell 1
    have c2 : u1.cell? ⟨w.heap.size, 2, none⟩ = some (.int .i64 p) := oC1.cell 2
    have zc := oC1.lt
    have hLa := label_any s p a len cap l u1 h6
    clear oC1
    obtain ⟨IN, eIN⟩ : ∃ x, x = inR l 0 ((len : Int) - 1) := ⟨_, rfl⟩
    rw [← eIN] at HE hLa
    clear eIN
    cases IN with
    | false =>
      have HE2 : Hid (E = 6) := HE
      clear HE
      go_wp2_with (go_at_call 43; refine hLa.mono ?_; rintro e u2 ⟨rfl, hb2⟩)
      go_ret
      exact ⟨by rw [HE2.out]; rfl, hw1.trans (hb2.mono hw1.size)⟩
    | true =>
      rw [if_pos rfl] at HE
      go_upto_region 6 with (go_at_call 43; refine hLa.mono ?_; rintro e u2 ⟨rfl, hb2⟩)
      clear hLa c0 c1 c2 zc
      have hb12 := hb1.trans (hb2.mono hb1.size)
      obtain ⟨oC1, -, -, -, hw2⟩ := KV.out u2 hb12
      have c0 : u2.cell? ⟨w.heap.size, 0, none⟩ = some (.int .i64 s) := oC1.cell 0
      have c1 : u2.cell? ⟨w.heap.size, 1, none⟩ = some (.slice a len cap) := oC1.cell 1
      have zc := oC1.lt
      clear oC1
      by_cases hnn : n = len
      · subst hnn
        by_cases hmm : m = n
        · subst hmm
          rw [if_pos ⟨rfl, rfl⟩] at HE
          have hBad : Hid (∀ k, k < m → ¬ (storeOK (ss.getD k default) = true ∧ notesOK (nl.getD k default).ns = true) → E = 9) := fun k hk h => by rw [HE.out, if_neg (fun g => h (g k hk))]
          have hGood : Hid (okAll ss nl m → E = 0) := fun h => by rw [HE.out, if_pos h]
          have hO0 : Hid (okAll ss nl 0) := okAll_zero ss nl
          clear HE
          go_upto_region 9 with (fail)
          clear c0 c1 zc
          go_loopw [37, 10, 11] (fun s37 _ _ wr => ∃ (k : Nat), s37 = .int .i64 (k : Int) ∧ k ≤ m ∧ Below W.heap.size W wr ∧ Hid (okAll ss nl k)) (fun s37 _ _ _ => m - (intOf s37).toNat)
          case atStart => exact ⟨0, rfl, by omega, hb12, hO0⟩
          case round =>
            obtain ⟨k, rfl, hk, hbw, hI⟩ := hrel
            clear hO0
            obtain ⟨-, -, hSr, hNr, hwr⟩ := KV.out wr hbw
            by_cases hlt : k < m
            · have hlt' : (k : Int) < (m : Int) := by omega
              have HJ : Hid (k + 1 ≤ m) := hlt
              have hSk := hSr.each k hlt
              obtain ⟨b1, o1, rfl, zb1, e0, e1, e2, e3⟩ := hSr.at hlt
              obtain ⟨b3, o3, rfl, zb3, f0⟩ := hNr.at hlt
              have KNk : Hid (∀ U, Below W.heap.size W U → IsNotes U (nl.getD k default).a (nl.getD k default).n (nl.getD k default).c (nl.getD k default).ns) := fun U hU => (KV.out U hU).2.2.2.1.each k hlt
              have hBk := hBad.out k hlt
              have hOk : Hid (storeOK (ss.getD k default) = true → notesOK (nl.getD k default).ns = true → okAll ss nl (k + 1)) := fun g1 g2 i hi => by
                by_cases hik : i < k
                · exact hI.out i hik
                · obtain rfl : i = k := by omega
                  exact ⟨g1, g2⟩
              obtain ⟨r, er⟩ : ∃ r, r = ss.getD k default := ⟨_, rfl⟩
              rw [← er] at e0 e1 e2 e3 hSk hBk hOk
              obtain ⟨y, ey⟩ : ∃ y, y = nl.getD k default := ⟨_, rfl⟩
              rw [← ey] at f0 KNk hBk hOk
              clear er ey hI hSr hNr
              obtain ⟨ra0, rn0, rc0, ra1, rn1, rc1, ra2, rn2, rc2, ra3, rn3, rc3, ri, rl, rd, ro⟩ := r
              obtain ⟨ya, yn, yc, ys⟩ := y
              simp only [] at e0 e1 e2 e3 f0 KNk hBk hOk
              go_upto_region 11 with (fail)
              obtain ⟨Y, eY⟩ : ∃ X : World, X = wr.alloc (.cells #[.slice ra0 rn0 rc0, .slice ra1 rn1 rc1, .slice ra2 rn2 rc2, .slice ra3 rn3 rc3] 55) := ⟨_, rfl⟩
              have bY : Below wr.heap.size wr Y := by rw [eY]; exact (Below.refl _ _).alloc (Nat.le_refl _) _
              have oS : ObAt Y wr.heap.size #[.slice ra0 rn0 rc0, .slice ra1 rn1 rc1, .slice ra2 rn2 rc2, .slice ra3 rn3 rc3] 55 := by rw [eY]; exact ObAt.new wr _ _
              rw [← eY]
              clear eY e0 e1 e2 e3
              have bYW : Below W.heap.size W Y := hbw.trans (bY.mono hbw.size)
              have g0 : Y.cell? ⟨wr.heap.size, 0, none⟩ = some (.slice ra0 rn0 rc0) := oS.cell 0
              have g1 : Y.cell? ⟨wr.heap.size, 1, none⟩ = some (.slice ra1 rn1 rc1) := oS.cell 1
              have g2 : Y.cell? ⟨wr.heap.size, 2, none⟩ = some (.slice ra2 rn2 rc2) := oS.cell 2
              have g3 : Y.cell? ⟨wr.heap.size, 3, none⟩ = some (.slice ra3 rn3 rc3) := oS.cell 3
              have zg := oS.lt
              have hCk := St.check_any ⟨ra0, rn0, rc0, ra1, rn1, rc1, ra2, rn2, rc2, ra3, rn3, rc3, ri, rl, rd, ro⟩ Y (hSk.1.below bY) hSk.2
              simp only [SV.val] at hCk
              clear oS hSk
              obtain ⟨OK, eOK⟩ : ∃ x, x = storeOK ⟨ra0, rn0, rc0, ra1, rn1, rc1, ra2, rn2, rc2, ra3, rn3, rc3, ri, rl, rd, ro⟩ := ⟨_, rfl⟩
              rw [← eOK] at hCk hBk hOk
              clear eOK
              cases OK with
              | false =>
                have HE3 : Hid (E = 9) := hBk (by simp)
                clear hBk hOk
                simp only [Bool.false_eq_true, if_false] at hCk
                go_wp2_with (first | (go_at_call 44; refine hCk.mono ?_; rintro e U2 ⟨rfl, bU2⟩))
                go_ret
                have hYw := (KV.out Y bYW).2.2.2.2
                exact ⟨by rw [HE3.out]; rfl, hYw.trans (bU2.mono hYw.size)⟩
              | true =>
                simp only [if_true] at hCk
                have f1 : ∀ U, Below Y.heap.size Y U → U.cell? ⟨b3, o3 + k, none⟩ = some (.slice ya yn yc) := fun U hU => (hU.cell (p := ⟨b3, o3 + k, none⟩) (Nat.lt_of_lt_of_le zb3 bY.size)).trans ((bY.cell (p := ⟨b3, o3 + k, none⟩) zb3).trans f0)
                have HF1 : Hid (∀ U, Below Y.heap.size Y U → U.cell? ⟨b3, o3 + k, none⟩ = some (.slice ya yn yc)) := f1
                have HNm : Hid (∀ U, Below Y.heap.size Y U → Calls Tryd.prog 45 #[.slice ya yn yc] U fun e w' => e = .returned (.bool (notesOK ys)) ∧ Below U.heap.size U w') := fun U hU => notesMay_any ya yn yc ys U (KNk.out U (bYW.trans (hU.mono bYW.size)))
                clear f0 f1 KNk
                obtain ⟨NO, eNO⟩ : ∃ x, x = notesOK ys := ⟨_, rfl⟩
                rw [← eNO] at HNm hBk hOk
                clear eNO
                cases NO with
                | false =>
                  have HE3 : Hid (E = 9) := hBk (by simp)
                  clear hBk hOk
                  go_wp2_with (first | (go_at_call 44; refine hCk.mono ?_; rintro e U2 ⟨rfl, bU2⟩; have f1 := HF1.out U2 bU2; have hNm := HNm.out U2 bU2; clear g0 g1 g2 g3 zg) | (go_at_call 45; refine hNm.mono ?_; rintro e U3 ⟨rfl, bU3⟩))
                  go_ret
                  have bU3Y := bU2.trans (bU3.mono bU2.size)
                  have hYw := (KV.out Y bYW).2.2.2.2
                  exact ⟨by rw [HE3.out]; rfl, hYw.trans (bU3Y.mono hYw.size)⟩
                | true =>
                  have hO2 := hOk.out rfl rfl
                  have HO2 : Hid (okAll ss nl (k + 1)) := hO2
                  clear hBk hOk hO2
                  go_wp2_with (first | (go_at_call 44; refine hCk.mono ?_; rintro e U2 ⟨rfl, bU2⟩; have f1 := HF1.out U2 bU2; have hNm := HNm.out U2 bU2; clear g0 g1 g2 g3 zg) | (go_at_call 45; refine hNm.mono ?_; rintro e U3 ⟨rfl, bU3⟩))
                  go_roundw
                  case rel => exact ⟨k + 1, by go_num, HJ.out, bYW.trans ((bU2.trans (bU3.mono bU2.size)).mono bYW.size), HO2⟩
                  case measure => have := HJ.out; simp [intOf]; omega
            · obtain rfl : k = m := by omega
              have hnl2 : ¬ ((k : Int) < (k : Int)) := by omega
              have HE3 : Hid (E = 0) := hGood.out hI.out
              go_wp2
              go_ret
              exact ⟨by rw [HE3.out]; rfl, hwr⟩
        · have hne : ((m : Int) != (n : Int)) = true := by simp; omega
          have HE2 : Hid (E = 9) := by show _ = _; rw [HE.out, if_neg (fun g => hmm g.2)]
          clear HE
          go_wp2
          go_ret
          exact ⟨by rw [HE2.out]; rfl, hw2⟩
      · have hne : ((n : Int) != (len : Int)) = true := by simp; omega
        have HE2 : Hid (E = 9) := by show _ = _; rw [HE.out, if_neg (fun g => hnn g.1)]
        clear HE
        go_wp2
        go_ret
        exact ⟨by rw [HE2.out]; rfl, hw2⟩
  · rw [if_neg hC] at HE
    have hC2 : ((C : Int) != 0) = true := by simpa using hC
    clear hC
    go_wp2
    go_ret
    exact ⟨by rw [HE.out]; rfl, hw1⟩
end Go.Proofs.YtgohpgollpjlnaaDoor.Cn
/- console.Show. -/
namespace Go.Proofs.YtgohpgollpjlnaaDoor.Cn
open Go.ChangeShapes Go.WideShapes Go.ChangeAt Go.RowKit
open Go.Proofs.YtgohpgollpjlnaaDoor.St (BoxN boxn_new SV IsStore IsRow DbV storeOK TxWf own_below txOK)
open Go.Proofs.YtgohpgollpjlnaaDoor.Pt (IsStores NV IsNotes)
set_option linter.unusedVariables false

def showErr (s : Int) (ls : List (Int × Int)) (p l : Int) (ss : List SV) (nl : List NL) (x : Cmd) : Int := if shErr s ls p l ss nl = 0 then kindErr x.kind else shErr s ls p l ss nl
def showOut (s : Int) (ls : List (Int × Int)) (p l : Int) (ss : List SV) (nl : List NL) (x : Cmd) : ByteArray := if shErr s ls p l ss nl = 0 then showTxt ls l ss nl x else ⟨#[]⟩
set_option maxRecDepth 100000 in
set_option maxHeartbeats 4000000 in
theorem show_all (s p : Int) (a : Option Addr) (len cap : Nat) (ls : List (Int × Int)) (l : Int) (sa : Option Addr) (n sc : Nat) (ss : List SV) (na : Option Addr) (m nc : Nat) (nl : List NL) (xk xl xs xn : Int) (xy : Bool) (w : World) (hl : IsLabs w a len cap ls) (hS : IsStores w sa n sc ss) (hN : IsNLs w na m nc nl)
    (hZ : xk = 4 → shErr s ls p l ss nl = 0 → (auditGo ls l 0 nl).length ≤ 140737488355328) (hT : ∀ U, Below w.heap.size w U → Lib.TabIs Tryd.prog U "internal/strconv.uint64pow10" .u64 Lib.pow10Tab) :
    Calls Tryd.prog 11 #[.agg #[.int .i64 s, .slice a len cap, .int .i64 p], .int .i64 l, .slice sa n sc, .slice na m nc, .agg #[.int .i64 xk, .int .i64 xl, .int .i64 xs, .int .i64 xn, .bool xy]] w fun e w' => e = .returned (.tuple #[.string (showOut s ls p l ss nl ⟨xk, xl, xs, xn, xy⟩), .int .i64 (showErr s ls p l ss nl ⟨xk, xl, xs, xn, xy⟩)]) ∧ Below w.heap.size w w' := by
  obtain ⟨W, hW⟩ : ∃ W : World, W = (w.alloc (.cells #[.int .i64 s, .slice a len cap, .int .i64 p] 32)).alloc (.cells #[.int .i64 xk, .int .i64 xl, .int .i64 xs, .int .i64 xn, .bool xy] 25) := ⟨_, rfl⟩
  have oC : ObAt W w.heap.size #[.int .i64 s, .slice a len cap, .int .i64 p] 32 := by rw [hW]; exact (ObAt.new w _ _).below ((Below.refl _ _).alloc (Nat.le_refl _) _)
  have oX : ObAt W (w.heap.size + 1) #[.int .i64 xk, .int .i64 xl, .int .i64 xs, .int .i64 xn, .bool xy] 25 := by rw [hW]; have h8 := ObAt.new (w.alloc (.cells #[.int .i64 s, .slice a len cap, .int .i64 p] 32)) #[.int .i64 xk, .int .i64 xl, .int .i64 xs, .int .i64 xn, .bool xy] 25; simpa using h8
  have bW : Below w.heap.size w W := by rw [hW]; exact ((Below.refl _ _).alloc (Nat.le_refl _) _).alloc (by simp) _
  have hRf := refuse_any s p a len cap ls l sa n sc ss na m nc nl W (hl.below bW) (hS.below bW) (hN.below bW)
  have HZr : Hid (∀ {e : Int}, e = shErr s ls p l ss nl → e = 0 → cfgFault s ls p = 0 ∧ (0 ≤ l ∧ l < (ls.length : Int)) ∧ ss.length = ls.length ∧ nl.length = ls.length ∧ okAll ss nl ls.length) := fun {e} h1 h2 => sh_zero (h1.symm.trans h2)
  have HO : Hid (showOut s ls p l ss nl ⟨xk, xl, xs, xn, xy⟩ = if shErr s ls p l ss nl = 0 then showTxt ls l ss nl ⟨xk, xl, xs, xn, xy⟩ else ⟨#[]⟩) := rfl
  have HE : Hid (showErr s ls p l ss nl ⟨xk, xl, xs, xn, xy⟩ = if shErr s ls p l ss nl = 0 then kindErr xk else shErr s ls p l ss nl) := rfl
  have KV : Hid (∀ U, Below W.heap.size W U → ObAt U w.heap.size #[.int .i64 s, .slice a len cap, .int .i64 p] 32 ∧ ObAt U (w.heap.size + 1) #[.int .i64 xk, .int .i64 xl, .int .i64 xs, .int .i64 xn, .bool xy] 25 ∧ IsLabs U a len cap ls ∧ IsStores U sa n sc ss ∧ IsNLs U na m nc nl ∧ Below w.heap.size w U) := fun U hU => ⟨oC.below hU, oX.below hU, (hl.below bW).below hU, (hS.below bW).below hU, (hN.below bW).below hU, bW.trans (hU.mono bW.size)⟩
  have HTb : Hid (∀ U, Below W.heap.size W U → ∀ Z, Below U.heap.size U Z → Lib.TabIs Tryd.prog Z "internal/strconv.uint64pow10" .u64 Lib.pow10Tab) := fun U hU Z hZ => hT Z ((KV.out U hU).2.2.2.2.2.trans (hZ.mono (KV.out U hU).2.2.2.2.2.size))
  have HZl : Hid (xk = 4 → shErr s ls p l ss nl = 0 → (auditGo ls l 0 nl).length ≤ 140737488355328) := hZ
  have hlen := hl.1
  have hsl := hS.row.1
  have hnl := hN.row.1
  obtain ⟨OUT, eOUT⟩ : ∃ x, x = showOut s ls p l ss nl ⟨xk, xl, xs, xn, xy⟩ := ⟨_, rfl⟩
  obtain ⟨ERR, eERR⟩ : ∃ x, x = showErr s ls p l ss nl ⟨xk, xl, xs, xn, xy⟩ := ⟨_, rfl⟩
  rw [← eOUT] at HO ⊢
  rw [← eERR] at HE ⊢
  have HEq : ∃ E, E = shErr s ls p l ss nl := ⟨_, rfl⟩
  obtain ⟨E, eE⟩ := HEq
  have HZ1 := HZr.out eE
  rw [← eE] at hRf HO HE HZl
  clear eOUT eERR eE HZr hZ hT hl hS hN
  have HZ2 : Hid (E = 0 → cfgFault s ls p = 0 ∧ (0 ≤ l ∧ l < (ls.length : Int)) ∧ ss.length = ls.length ∧ nl.length = ls.length ∧ okAll ss nl ls.length) := HZ1
  clear HZ1
  have c0 : W.cell? ⟨w.heap.size, 0, none⟩ = some (.int .i64 s) := oC.cell 0
  have c1 : W.cell? ⟨w.heap.size, 1, none⟩ = some (.slice a len cap) := oC.cell 1
  have c2 : W.cell? ⟨w.heap.size, 2, none⟩ = some (.int .i64 p) := oC.cell 2
  have zc := oC.lt
  clear oC oX
  go_enter Tryd.func11, Tryd.ntmps11
  go_upto_region 1 with (fail)
  rw [← hW]
  clear hW
  go_upto_region 2 with (go_at_call 23; refine hRf.mono ?_; rintro e u ⟨rfl, hb⟩)
  clear hRf c0 c1 c2 zc bW
  obtain ⟨oC, oX, hl, hS, hN, hwu⟩ := KV.out u hb
  have HTu : Hid (∀ Z, Below u.heap.size u Z → Lib.TabIs Tryd.prog Z "internal/strconv.uint64pow10" .u64 Lib.pow10Tab) := HTb.out u hb
  clear KV HTb
  by_cases hE : E = 0
  · subst hE
    rw [if_pos rfl] at HO HE
    obtain ⟨hcf, ⟨hl0, hl1⟩, h3, h4, h5⟩ := HZ2.out rfl
    have h6 := (cfg_zero hcf).2.2.2.1
    have c0 : u.cell? ⟨w.heap.size, 0, none⟩ = some (.int .i64 s) := oC.cell 0
    have c1 : u.cell? ⟨w.heap.size, 1, none⟩ = some (.slice a len cap) := oC.cell 1
    have c2 : u.cell? ⟨w.heap.size, 2, none⟩ = some (.int .i64 p) := oC.cell 2
    have d0 : u.cell? ⟨w.heap.size + 1, 0, none⟩ = some (.int .i64 xk) := oX.cell 0
    have d1 : u.cell? ⟨w.heap.size + 1, 1, none⟩ = some (.int .i64 xl) := oX.cell 1
    have d2 : u.cell? ⟨w.heap.size + 1, 2, none⟩ = some (.int .i64 xs) := oX.cell 2
    have d3 : u.cell? ⟨w.heap.size + 1, 3, none⟩ = some (.int .i64 xn) := oX.cell 3
    have d4 : u.cell? ⟨w.heap.size + 1, 4, none⟩ = some (.bool xy) := oX.cell 4
    have zc := oC.lt
    have zx := oX.lt
    by_cases k1 : xk = 1
    · subst k1
      have hL := list_any s p a len cap ls l sa n sc ss u hl (by omega) hl0 (by omega) hS (by omega) (fun i hi d hd => ok_i64 (h5 i (by omega)).1 d hd) (by
        have h8 := listGo_len (ls := ls) (l := l) ss 0 (by omega) (fun x hx => by
          obtain ⟨i, hi, rfl⟩ := List.getElem_of_mem hx
          have e9 : ss.getD i default = ss[i] := by simp [List.getD, hi]
          have h9 := (h5 i (by omega)).1
          rw [e9] at h9
          have h10 := (hS.each i (by omega)).1
          rw [e9] at h10
          have h11 := (St.ok_sizes h9 h10).2.2
          have h12 := h10.doubts.1
          exact ⟨by omega, ok_i64 h9⟩)
        omega) HTu.out
      have HO2 : Hid (OUT = ⟨(listGo ls l 0 ss).toArray⟩) := HO
      have HE2 : Hid (ERR = 0) := HE
      clear HO HE HZ2 HTu HZl h5 hcf
      go_wp2_with (go_at_call 24; refine hL.mono ?_; rintro e u2 ⟨rfl, hb2⟩)
      go_ret2
      exact ⟨by rw [HO2.out, HE2.out]; rfl, hwu.trans (hb2.mono hwu.size)⟩
    by_cases k2 : xk = 2
    · subst k2
      have hL := status_any s p a len cap ls l sa n sc ss 2 xl xs xn xy u hl (by omega) hl0 (by omega) hS (by omega)
      have HO2 : Hid (OUT = stText ls l ss xl xs xn) := HO
      have HE2 : Hid (ERR = 0) := HE
      clear HO HE HZ2 HTu HZl h5 hcf k1
      go_wp2_with (go_at_call 25; refine hL.mono ?_; rintro e u2 ⟨rfl, hb2⟩)
      go_ret2
      exact ⟨by rw [HO2.out, HE2.out]; rfl, hwu.trans (hb2.mono hwu.size)⟩
    by_cases k4 : xk = 4
    · subst k4
      have hL := audit_any s p a len cap ls l na m nc nl u hl (by omega) hl0 (by omega) hN (by omega) (fun i hi x hx => by
        have h8 := (h5 i (by omega)).2
        unfold notesOK at h8
        have h9 := tx_i64 (List.all_eq_true.1 h8 x hx)
        exact h9) (HZl.out rfl rfl) HTu.out
      have HO2 : Hid (OUT = ⟨(auditGo ls l 0 nl).toArray⟩) := HO
      have HE2 : Hid (ERR = 0) := HE
      clear HO HE HZ2 HTu HZl h5 hcf k1 k2
      go_wp2_with (go_at_call 26; refine hL.mono ?_; rintro e u2 ⟨rfl, hb2⟩)
      go_ret2
      exact ⟨by rw [HO2.out, HE2.out]; rfl, hwu.trans (hb2.mono hwu.size)⟩
    · have HO2 : Hid (OUT = ⟨#[]⟩) := by show _ = _; rw [HO.out]; unfold showTxt; rw [if_neg k1, if_neg k2, if_neg k4]
      have HE2 : Hid (ERR = 3) := by show _ = _; rw [HE.out]; unfold kindErr; rw [if_neg (by omega)]
      have e1 : ((xk : Int) == 1) = false := by simpa using k1
      have e2 : ((xk : Int) == 2) = false := by simpa using k2
      have e4 : ((xk : Int) == 4) = false := by simpa using k4
      clear HO HE HZ2 HTu HZl h5 hcf k1 k2 k4
      go_wp2
      go_ret2
      exact ⟨by rw [HO2.out, HE2.out]; rfl, hwu⟩
  · have HO2 : Hid (OUT = ⟨#[]⟩) := by show _ = _; rw [HO.out, if_neg hE]
    have HE2 : Hid (ERR = E) := by show _ = _; rw [HE.out, if_neg hE]
    have hE2 : ((E : Int) != 0) = true := by simpa using hE
    clear HO HE HZ2 HTu HZl hE
    go_wp2
    go_ret2
    exact ⟨by rw [HO2.out, HE2.out]; rfl, hwu⟩
theorem show_any (s p : Int) (a : Option Addr) (len cap : Nat) (ls : List (Int × Int)) (l : Int) (sa : Option Addr) (n sc : Nat) (ss : List SV) (na : Option Addr) (m nc : Nat) (nl : List NL) (xk xl xs xn : Int) (xy : Bool) (w : World) (hl : IsLabs w a len cap ls) (hS : IsStores w sa n sc ss) (hN : IsNLs w na m nc nl)
    (hZ : xk = 4 → (auditGo ls l 0 nl).length ≤ 140737488355328) (hT : ∀ U, Below w.heap.size w U → Lib.TabIs Tryd.prog U "internal/strconv.uint64pow10" .u64 Lib.pow10Tab) :
    Calls Tryd.prog 11 #[.agg #[.int .i64 s, .slice a len cap, .int .i64 p], .int .i64 l, .slice sa n sc, .slice na m nc, .agg #[.int .i64 xk, .int .i64 xl, .int .i64 xs, .int .i64 xn, .bool xy]] w fun e w' => e = .returned (.tuple #[.string (showOut s ls p l ss nl ⟨xk, xl, xs, xn, xy⟩), .int .i64 (showErr s ls p l ss nl ⟨xk, xl, xs, xn, xy⟩)]) ∧ Below w.heap.size w w' := show_all s p a len cap ls l sa n sc ss na m nc nl xk xl xs xn xy w hl hS hN (fun k _ => hZ k) hT
end Go.Proofs.YtgohpgollpjlnaaDoor.Cn
/- The contract of picked: a number from 0 on below another one. -/
namespace Go.Proofs.YtgohpgollpjlnaaDoor
open Go.ChangeShapes Go.WideShapes Go.ChangeAt Go.RowKit

def pk (n m : Int) : Int := (if n < 0 then -(n + 1) else n) % m
theorem pk_bd (n m : Int) (h : 0 < m) : 0 ≤ pk n m ∧ pk n m < m := ⟨Int.emod_nonneg _ (by omega), Int.emod_lt_of_pos _ h⟩
theorem pk_neg {n m : Int} (h : n < 0) : pk n m = (-(n + 1)) % m := by simp [pk, h]
theorem pk_pos {n m : Int} (h : ¬ n < 0) : pk n m = n % m := by simp [pk, h]

theorem i64_bd {n : Int} (h : (Lit.int .i64 n).wf = true) : -9223372036854775808 ≤ n ∧ n ≤ 9223372036854775807 := by
  have := bounds_i64 h
  omega

theorem picked_any (n m : Int) (w : World) (hn : -9223372036854775808 ≤ n ∧ n ≤ 9223372036854775807) (hm : 0 < m) (hm2 : m ≤ 9223372036854775807) :
    Calls Tryd.prog 13 #[.int .i64 n, .int .i64 m] w fun e w' => e = .returned (.int .i64 (pk n m)) ∧ w' = w := by
  obtain ⟨h1, h2⟩ := hn
  by_cases h : n < 0
  · rw [pk_neg h]
    go_enter Tryd.func13, Tryd.ntmps13
    go_wp2
    go_ret
    exact ⟨ret_int (by rw [← Int.tmod_eq_emod_of_nonneg (by omega), Int.neg_tmod]), rfl⟩
  · rw [pk_pos h]
    have h0 : 0 ≤ n := by omega
    go_enter Tryd.func13, Tryd.ntmps13
    go_wp2
    go_ret
    exact ⟨rfl, rfl⟩

end Go.Proofs.YtgohpgollpjlnaaDoor
