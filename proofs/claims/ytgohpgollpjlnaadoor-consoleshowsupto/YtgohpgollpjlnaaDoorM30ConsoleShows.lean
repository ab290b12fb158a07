/- Texts of this claim, one behind the other. -/
import Derived.Test.YtgohpgollpjlnaaDoorM29ConsoleShows
import Derived.Deep.DeepCutAuto
import Derived.Test.YtgohpgollpjlnaaDoorM27ConsoleShows
import Derived.Test.YtgohpgollpjlnaaDoorM28ConsoleShows
import Derived.Test.YtgohpgollpjlnaaDoorM10ConsoleShows
/- What the document's Dec of a number that is not negative answers: its digits. -/
namespace Go.Proofs.YtgohpgollpjlnaaDoor.Dc
open Go.ChangeShapes Go.WideShapes Go.ChangeAt Go.RowKit
open Go.Proofs.YtgohpgollpjlnaaDoor.St (BoxN boxn_new)
set_option linter.unusedVariables false

theorem dec_ref1 (n : Nat) (w : World) (h9 : n < 10) :
    Calls Tryd.prog 33 #[.int .i64 (n : Int)] w fun e w' => e = .returned (.string (decS n)) ∧ Below w.heap.size w w' := by
  have hlt : (n : Int) < 10 := by omega
  have hn0 : ¬ (n : Int) < 0 := by omega
  have hS : IntKind.i64.wrap (48 + (n : Int)) = 48 + (n : Int) ∧ IntKind.u8.wrap (48 + (n : Int)) = 48 + (n : Int) := by
    constructor <;> (simp [IntKind.wrap, IntKind.bits, IntKind.signed]; omega)
  have hcv := dec_conv n h9 (w.alloc (.cells #[.int .u8 (48 + (n : Int))] 5)) w.heap.size (boxn_new w #[.int .u8 (48 + (n : Int))] 5 1 rfl)
  rw [decS_one h9]
  go_enter Tryd.func33, Tryd.ntmps33
  go_wp2
  go_ret
  exact ⟨rfl, (Below.refl _ _).alloc (Nat.le_refl _) _⟩
set_option maxHeartbeats 4000000 in
theorem dec_ref : ∀ (k n : Nat) (w : World), n ≤ k → n ≤ 9223372036854775807 → Calls Tryd.prog 33 #[.int .i64 (n : Int)] w fun e w' => e = .returned (.string (decS n)) ∧ Below w.heap.size w w' := by
  intro k
  induction k with
  | zero =>
    intro n w h hm
    obtain rfl : n = 0 := by omega
    exact dec_ref1 0 w (by omega)
  | succ k ih =>
    intro n w h hm
    by_cases h9 : n < 10
    · exact dec_ref1 n w h9
    · have hlt : ¬ (n : Int) < 10 := by omega
      have hn0 : ¬ (n : Int) < 0 := by omega
      obtain ⟨Q, eQ⟩ : ∃ Q : Nat, Q = n / 10 := ⟨_, rfl⟩
      obtain ⟨R, eR⟩ : ∃ R : Nat, R = n % 10 := ⟨_, rfl⟩
      have hR : R < 10 := by omega
      have HQ : Hid (IntKind.i64.wrap ((n : Int) / 10) = (Q : Int)) := by
        have : (n : Int) / 10 = ((n / 10 : Nat) : Int) := rfl
        show _ = _
        rw [this, eQ]; simp [IntKind.wrap, IntKind.bits, IntKind.signed]; omega
      have HR : Hid ((n : Int).tmod 10 = (R : Int)) := by
        have : (n : Int).tmod 10 = ((n % 10 : Nat) : Int) := rfl
        show _ = _
        rw [this, eR]
      have HS : Hid (IntKind.i64.wrap (48 + (R : Int)) = 48 + (R : Int) ∧ IntKind.u8.wrap (48 + (R : Int)) = 48 + (R : Int)) := by
        constructor <;> (simp [IntKind.wrap, IntKind.bits, IntKind.signed]; omega)
      have HZ : Hid (¬ (9223372036854775807 < (decS Q).size + (decB (R : Int)).size)) := by
        have := decS_size (n := Q) (by omega)
        show ¬ _
        rw [decB_size]
        omega
      have HC := fun U => ih Q U (by omega) (by omega)
      have eD : decS n = decS Q ++ decB (R : Int) := by rw [eQ, eR]; exact decS_more h9
      rw [eD]
      clear eD eQ eR h9 ih h hm
      go_enter Tryd.func33, Tryd.ntmps33
      go_upto_region 5 with (fail)
      refine wp_region_inv (by kernel_rfl) [16, 17, 18, 19, 20, 21, 22, 23, 24, 25, 2] (fun L T u => ∃ (A : Nat), Below w.heap.size w u ∧ (L 0 = true → T 16 = .int .i64 (n : Int)) ∧ (L 1 = true → T 17 = .int .i64 (Q : Int)) ∧ (L 2 = true → T 18 = .string (decS Q)) ∧ (L 3 = true → T 19 = .int .i64 (n : Int)) ∧ (L 4 = true → T 20 = .int .i64 (R : Int)) ∧ (L 5 = true → T 21 = .int .i64 (48 + (R : Int))) ∧ (L 6 = true → T 22 = .int .u8 (48 + (R : Int))) ∧ (L 8 = true → T 24 = .string (decB (R : Int))) ∧ (L 9 = true → T 25 = .string (decS Q ++ decB (R : Int))) ∧ (L 10 = true → T 2 = .string (decS Q ++ decB (R : Int))) ∧ (L 7 = true → (T 23 = .slice (some ⟨A, 0, none⟩) 1 1 ∧ w.heap.size ≤ A ∧ A < u.heap.size)) ∧ (L 7 = true → BoxN u A 1 [.int .u8 (48 + (R : Int))])) (by decide) (by kernel_rfl) (by kernel_rfl) ?_ ?_ ?_
      · exact ⟨0, (Below.refl _ _).drew, nofun, nofun, nofun, nofun, nofun, nofun, nofun, nofun, nofun, nofun, nofun, nofun⟩
      · refine ⟨?_, ?_, ?_, ?_, ?_, ?_, ?_, ?_, ?_, ?_, ?_, trivial⟩
        · rintro L T u hd hk hcl ⟨A, hb, p0, p1, p2, p3, p4, p5, p6, p8, p9, p10, pa7, bv7⟩ K hK
          simp only [fr, Act.put, List.setIfInBounds_toArray, List.set_cons_zero, List.set_cons_succ, updO] at hK ⊢
          simp [Region.binds] at hd
          rw [if_pos (by rfl)]
          simp only [Oper.wpv]
          go_simp
          exact hK _ _ ⟨A, hb, fun _ => rfl, p1, p2, p3, p4, p5, p6, p8, p9, p10, pa7, bv7⟩
        · rintro L T u hd hk hcl ⟨A, hb, p0, p1, p2, p3, p4, p5, p6, p8, p9, p10, pa7, bv7⟩ K hK
          simp only [fr, Act.put, List.setIfInBounds_toArray, List.set_cons_zero, List.set_cons_succ, updO] at hK ⊢
          simp [Region.binds] at hd
          have g0 := p0 (by simp [hd])
          have hq := HQ.out
          rw [if_pos (by rfl)]
          simp only [Oper.wpv]
          go_simp
          exact hK _ _ ⟨A, hb, p0, fun _ => rfl, p2, p3, p4, p5, p6, p8, p9, p10, pa7, bv7⟩
        · rintro L T u hd hk hcl ⟨A, hb, p0, p1, p2, p3, p4, p5, p6, p8, p9, p10, pa7, bv7⟩ K hK
          simp only [fr, Act.put, List.setIfInBounds_toArray, List.set_cons_zero, List.set_cons_succ, updO] at hK ⊢
          simp [Region.binds] at hd
          have g1 := p1 (by simp [hd])
          rw [if_pos (by rfl)]
          simp only [Oper.wpv]
          go_simp
          refine (HC u).mono ?_
          rintro e u1 ⟨rfl, hg⟩
          exact hK _ _ ⟨A, nT hb hg, p0, p1, fun _ => rfl, p3, p4, p5, p6, p8, p9, p10, fun h0 => ⟨(pa7 h0).1, (pa7 h0).2.1, Nat.lt_of_lt_of_le (pa7 h0).2.2 hg.size⟩, fun h0 => (bv7 h0).below hg (bv7 h0).lt⟩
        · rintro L T u hd hk hcl ⟨A, hb, p0, p1, p2, p3, p4, p5, p6, p8, p9, p10, pa7, bv7⟩ K hK
          simp only [fr, Act.put, List.setIfInBounds_toArray, List.set_cons_zero, List.set_cons_succ, updO] at hK ⊢
          simp [Region.binds] at hd
          rw [if_pos (by rfl)]
          simp only [Oper.wpv]
          go_simp
          exact hK _ _ ⟨A, hb, p0, p1, p2, fun _ => rfl, p4, p5, p6, p8, p9, p10, pa7, bv7⟩
        · rintro L T u hd hk hcl ⟨A, hb, p0, p1, p2, p3, p4, p5, p6, p8, p9, p10, pa7, bv7⟩ K hK
          simp only [fr, Act.put, List.setIfInBounds_toArray, List.set_cons_zero, List.set_cons_succ, updO] at hK ⊢
          simp [Region.binds] at hd
          have g3 := p3 (by simp [hd])
          have hq := HR.out
          rw [if_pos (by rfl)]
          simp only [Oper.wpv]
          go_simp
          exact hK _ _ ⟨A, hb, p0, p1, p2, p3, fun _ => rfl, p5, p6, p8, p9, p10, pa7, bv7⟩
        · rintro L T u hd hk hcl ⟨A, hb, p0, p1, p2, p3, p4, p5, p6, p8, p9, p10, pa7, bv7⟩ K hK
          simp only [fr, Act.put, List.setIfInBounds_toArray, List.set_cons_zero, List.set_cons_succ, updO] at hK ⊢
          simp [Region.binds] at hd
          have g4 := p4 (by simp [hd])
          have hq := HS.out.1
          rw [if_pos (by rfl)]
          simp only [Oper.wpv]
          go_simp
          exact hK _ _ ⟨A, hb, p0, p1, p2, p3, p4, fun _ => rfl, p6, p8, p9, p10, pa7, bv7⟩
        · rintro L T u hd hk hcl ⟨A, hb, p0, p1, p2, p3, p4, p5, p6, p8, p9, p10, pa7, bv7⟩ K hK
          simp only [fr, Act.put, List.setIfInBounds_toArray, List.set_cons_zero, List.set_cons_succ, updO] at hK ⊢
          simp [Region.binds] at hd
          have g5 := p5 (by simp [hd])
          have hq := HS.out.2
          rw [if_pos (by rfl)]
          simp only [Oper.wpv]
          go_simp
          exact hK _ _ ⟨A, hb, p0, p1, p2, p3, p4, p5, fun _ => rfl, p8, p9, p10, pa7, bv7⟩
        · rintro L T u hd hk hcl ⟨A, hb, p0, p1, p2, p3, p4, p5, p6, p8, p9, p10, pa7, bv7⟩ K hK
          simp only [fr, Act.put, List.setIfInBounds_toArray, List.set_cons_zero, List.set_cons_succ, updO] at hK ⊢
          simp [Region.binds] at hd
          have g6 := p6 (by simp [hd])
          have k8 := hcl 8 _ rfl
          simp [Region.binds] at k8
          have k9 := hcl 9 _ rfl
          simp [Region.binds] at k9
          have k10 := hcl 10 _ rfl
          simp [Region.binds] at k10
          have hg : Below u.heap.size u (u.alloc (.cells #[.int .u8 (48 + (R : Int))] 5)) := (Below.refl _ _).alloc (Nat.le_refl _) _
          rw [if_pos (by rfl)]
          simp only [Oper.wpv]
          go_simp
          exact hK _ _ ⟨u.heap.size, (nT hb hg), p0, p1, p2, p3, p4, p5, p6, fun h => absurd (show L 8 = true from h) (by intro hh; have a8 := k8 hh; simp [hk] at a8), fun h => absurd (show L 9 = true from h) (by intro hh; have a9 := k9 hh; have a8 := k8 (by simp [a9]); simp [hk] at a8), fun h => absurd (show L 10 = true from h) (by intro hh; have a10 := k10 hh; have a9 := k9 (by simp [a10]); have a8 := k8 (by simp [a9]); simp [hk] at a8), fun _ => ⟨rfl, hb.size, by simp⟩, fun _ => boxn_new u #[.int .u8 (48 + (R : Int))] 5 1 rfl⟩
        · rintro L T u hd hk hcl ⟨A, hb, p0, p1, p2, p3, p4, p5, p6, p8, p9, p10, pa7, bv7⟩ K hK
          simp only [fr, Act.put, List.setIfInBounds_toArray, List.set_cons_zero, List.set_cons_succ, updO] at hK ⊢
          simp [Region.binds] at hd
          have g7 := pa7 (by simp [hd])
          have hcv := dec_conv R hR u A (bv7 (by simp [hd]))
          rw [if_pos (by rfl)]
          simp only [Oper.wpv]
          go_simp
          exact hK _ _ ⟨A, hb, p0, p1, p2, p3, p4, p5, p6, fun _ => rfl, p9, p10, pa7, bv7⟩
        · rintro L T u hd hk hcl ⟨A, hb, p0, p1, p2, p3, p4, p5, p6, p8, p9, p10, pa7, bv7⟩ K hK
          simp only [fr, Act.put, List.setIfInBounds_toArray, List.set_cons_zero, List.set_cons_succ, updO] at hK ⊢
          simp [Region.binds] at hd
          have g2 := p2 (by simp [hd])
          have g8 := p8 (by simp [hd])
          have hz := HZ.out
          rw [if_pos (by rfl)]
          simp only [Oper.wpv]
          go_simp
          exact hK _ _ ⟨A, hb, p0, p1, p2, p3, p4, p5, p6, p8, fun _ => rfl, p10, pa7, bv7⟩
        · rintro L T u hd hk hcl ⟨A, hb, p0, p1, p2, p3, p4, p5, p6, p8, p9, p10, pa7, bv7⟩ K hK
          simp only [fr, Act.put, List.setIfInBounds_toArray, List.set_cons_zero, List.set_cons_succ, updO] at hK ⊢
          simp [Region.binds] at hd
          have g9 := p9 (by simp [hd])
          rw [if_pos (by rfl)]
          simp only [Oper.wpv]
          go_simp
          exact hK _ _ ⟨A, hb, p0, p1, p2, p3, p4, p5, p6, p8, p9, fun _ => rfl, pa7, bv7⟩
      · rintro L T u hl ⟨A, hb, p0, p1, p2, p3, p4, p5, p6, p8, p9, p10, pa7, bv7⟩
        simp only [fr, Act.put, List.setIfInBounds_toArray, List.set_cons_zero, List.set_cons_succ]
        have h10 := p10 (hl 10 (by decide))
        clear p0 p1 p2 p3 p4 p5 p6 p8 p9 p10 pa7 bv7 HQ HR HS HC HZ
        rw [h10]
        go_wp2
        go_ret
        exact ⟨rfl, hb⟩
end Go.Proofs.YtgohpgollpjlnaaDoor.Dc
/- Small facts for the document's ShownOf. -/
namespace Go.Proofs.YtgohpgollpjlnaaDoor.Cn
open Go.ChangeShapes Go.WideShapes Go.ChangeAt Go.RowKit
open Go.Proofs.YtgohpgollpjlnaaDoor.St (BoxN boxn_new SV IsStore IsRow DbV LkV storeOK TxWf own_below txOK ofT storeMay_any plainTxn_any locksOK lockOK doubtsOK)
open Go.Proofs.YtgohpgollpjlnaaDoor.Pt (IsStores NV IsNotes labelMay_any)
open Go.Proofs.YtgohpgollpjlnaaDoor.Dc (decS dec_ref decS_size)
set_option linter.unusedVariables false

theorem plc_in (l : Int) (n : Nat) : Pt.plc l n = inR l 0 ((n : Int) - 1) := by
  unfold Pt.plc inR
  congr 1
  exact propext ⟨fun h => by omega, fun h => by omega⟩
theorem tx_nn {t : Int × Int} (h : txOK t = true) : (0 ≤ t.1 ∧ t.1 ≤ 1048576) ∧ (0 ≤ t.2 ∧ t.2 ≤ 1048576) := by
  unfold txOK at h
  rw [Bool.and_eq_true] at h
  have h1 := inR_bd h.1
  have h2 := inR_bd h.2
  omega
theorem ok_nn {s : SV} (h : storeOK s = true) : ∀ d ∈ s.doubts, (0 ≤ d.t.1 ∧ d.t.1 ≤ 1048576) ∧ (0 ≤ d.t.2 ∧ d.t.2 ≤ 1048576) ∧ (0 ≤ d.age ∧ d.age ≤ 1048576) := by
  intro d hd
  unfold storeOK at h
  simp only [Bool.and_eq_true] at h
  have h1 := h.2
  unfold doubtsOK at h1
  rw [Bool.and_eq_true] at h1
  obtain ⟨h2, h3⟩ := doubts_all _ _ _ _ h1.1 d hd
  obtain ⟨k, hk, he⟩ := List.any_eq_true.1 h3
  have h4 := h.1.1.2
  unfold locksOK at h4
  rw [Bool.and_eq_true] at h4
  have h5 := locks_all _ _ h4.2 k hk
  unfold lockOK at h5
  simp only [Bool.and_eq_true] at h5
  have h6 := h5.1.1.1.1
  unfold ofT at he
  have he2 : k.t = d.t := by simpa using he
  rw [he2] at h6
  have h7 := tx_nn h6
  have h8 := inR_bd h2
  exact ⟨h7.1, h7.2, h8⟩
theorem notes_has {ns : List NV} (h : notesOK ns = true) {i : Nat} (hi : i < ns.length) : txOK ((ns.getD i default).site, (ns.getD i default).num) = true := by
  unfold notesOK at h
  have : ns.getD i default ∈ ns := by rw [List.getD, List.getElem?_eq_getElem hi]; exact List.getElem_mem _
  exact List.all_eq_true.1 h _ this
theorem line_true_true (T : ByteArray) (k t1 t2 : Nat) : (T ++ decS k ++ ⟨#[32]⟩ ++ decS t1 ++ ⟨#[32]⟩ ++ decS t2 ++ ⟨#[32, 99, 111, 109, 109, 105, 116]⟩ ++ ⟨#[32, 100, 97, 109, 97, 103, 101]⟩ ++ ⟨#[10]⟩).data.toList = T.data.toList ++ ntLine (k : Int) ⟨(t1 : Int), (t2 : Int), true, true⟩ := by
  simp [ntLine, lineBy, verdB, wVerd, wDamage, decS, Lib.join, Lib.itoa_nonneg]
theorem line_true_false (T : ByteArray) (k t1 t2 : Nat) : (T ++ decS k ++ ⟨#[32]⟩ ++ decS t1 ++ ⟨#[32]⟩ ++ decS t2 ++ ⟨#[32, 99, 111, 109, 109, 105, 116]⟩ ++ ⟨#[10]⟩).data.toList = T.data.toList ++ ntLine (k : Int) ⟨(t1 : Int), (t2 : Int), true, false⟩ := by
  simp [ntLine, lineBy, verdB, wVerd, decS, Lib.join, Lib.itoa_nonneg]
theorem line_false_true (T : ByteArray) (k t1 t2 : Nat) : (T ++ decS k ++ ⟨#[32]⟩ ++ decS t1 ++ ⟨#[32]⟩ ++ decS t2 ++ ⟨#[32, 97, 98, 111, 114, 116]⟩ ++ ⟨#[32, 100, 97, 109, 97, 103, 101]⟩ ++ ⟨#[10]⟩).data.toList = T.data.toList ++ ntLine (k : Int) ⟨(t1 : Int), (t2 : Int), false, true⟩ := by
  simp [ntLine, lineBy, verdB, wVerd, wDamage, decS, Lib.join, Lib.itoa_nonneg]
theorem line_false_false (T : ByteArray) (k t1 t2 : Nat) : (T ++ decS k ++ ⟨#[32]⟩ ++ decS t1 ++ ⟨#[32]⟩ ++ decS t2 ++ ⟨#[32, 97, 98, 111, 114, 116]⟩ ++ ⟨#[10]⟩).data.toList = T.data.toList ++ ntLine (k : Int) ⟨(t1 : Int), (t2 : Int), false, false⟩ := by
  simp [ntLine, lineBy, verdB, wVerd, decS, Lib.join, Lib.itoa_nonneg]
/-- A line, piece by piece. -/
theorem line4 (T : ByteArray) (k t1 t2 g : Nat) : (T ++ decS k ++ ⟨#[32]⟩ ++ decS t1 ++ ⟨#[32]⟩ ++ decS t2 ++ ⟨#[32]⟩ ++ decS g ++ ⟨#[10]⟩).data.toList = T.data.toList ++ dbLine (k : Int) ⟨((t1 : Int), (t2 : Int)), (g : Int)⟩ := by
  simp [dbLine, lineBy, ageB, decS, Lib.join, Lib.itoa_nonneg]

end Go.Proofs.YtgohpgollpjlnaaDoor.Cn
/- The document's ShownOf: what an operator is told. -/
namespace Go.Proofs.YtgohpgollpjlnaaDoor.Cn
open Go.ChangeShapes Go.WideShapes Go.ChangeAt Go.RowKit
open Go.Proofs.YtgohpgollpjlnaaDoor.St (BoxN boxn_new SV IsStore IsRow DbV LkV storeOK TxWf own_below txOK ofT storeMay_any plainTxn_any locksOK lockOK doubtsOK)
open Go.Proofs.YtgohpgollpjlnaaDoor.Pt (IsStores NV IsNotes labelMay_any)
open Go.Proofs.YtgohpgollpjlnaaDoor.Dc (decS dec_ref decS_size)
set_option linter.unusedVariables false

set_option maxRecDepth 100000 in
set_option maxHeartbeats 16000000 in
theorem shownBad_any (s p : Int) (a : Option Addr) (len cap : Nat) (ls : List (Int × Int)) (l : Int) (sa : Option Addr) (n sc : Nat) (ss : List SV) (na : Option Addr) (m nc : Nat) (nl : List NL) (xk xl xs xn : Int) (xy : Bool) (w : World) (hl : IsLabs w a len cap ls) (hS : IsStores w sa n sc ss) (hN : IsNLs w na m nc nl) (hSE : shErr s ls p l ss nl ≠ 0) :
    Calls Tryd.prog 12 #[.agg #[.int .i64 s, .slice a len cap, .int .i64 p], .int .i64 l, .slice sa n sc, .slice na m nc, .agg #[.int .i64 xk, .int .i64 xl, .int .i64 xs, .int .i64 xn, .bool xy]] w fun e w' => e = .returned (.tuple #[.string (showOut s ls p l ss nl ⟨xk, xl, xs, xn, xy⟩), .int .i64 (showErr s ls p l ss nl ⟨xk, xl, xs, xn, xy⟩)]) ∧ Below w.heap.size w w' := by
  obtain ⟨W, hW⟩ : ∃ W : World, W = (w.alloc (.cells #[.int .i64 s, .slice a len cap, .int .i64 p] 32)).alloc (.cells #[.int .i64 xk, .int .i64 xl, .int .i64 xs, .int .i64 xn, .bool xy] 25) := ⟨_, rfl⟩
  have oC : ObAt W w.heap.size #[.int .i64 s, .slice a len cap, .int .i64 p] 32 := by rw [hW]; exact (ObAt.new w _ _).below ((Below.refl _ _).alloc (Nat.le_refl _) _)
  have oX : ObAt W (w.heap.size + 1) #[.int .i64 xk, .int .i64 xl, .int .i64 xs, .int .i64 xn, .bool xy] 25 := by rw [hW]; have h8 := ObAt.new (w.alloc (.cells #[.int .i64 s, .slice a len cap, .int .i64 p] 32)) #[.int .i64 xk, .int .i64 xl, .int .i64 xs, .int .i64 xn, .bool xy] 25; simpa using h8
  have bW : Below w.heap.size w W := by rw [hW]; exact ((Below.refl _ _).alloc (Nat.le_refl _) _).alloc (by simp) _
  have HO : Hid (showOut s ls p l ss nl ⟨xk, xl, xs, xn, xy⟩ = if shErr s ls p l ss nl = 0 then showTxt ls l ss nl ⟨xk, xl, xs, xn, xy⟩ else ⟨#[]⟩) := rfl
  have HE : Hid (showErr s ls p l ss nl ⟨xk, xl, xs, xn, xy⟩ = if shErr s ls p l ss nl = 0 then kindErr xk else shErr s ls p l ss nl) := rfl
  have KV : Hid (∀ U, Below W.heap.size W U → ObAt U w.heap.size #[.int .i64 s, .slice a len cap, .int .i64 p] 32 ∧ ObAt U (w.heap.size + 1) #[.int .i64 xk, .int .i64 xl, .int .i64 xs, .int .i64 xn, .bool xy] 25 ∧ IsLabs U a len cap ls ∧ IsStores U sa n sc ss ∧ IsNLs U na m nc nl ∧ Below w.heap.size w U) := fun U hU => ⟨oC.below hU, oX.below hU, (hl.below bW).below hU, (hS.below bW).below hU, (hN.below bW).below hU, bW.trans (hU.mono bW.size)⟩
  have hlen := hl.1
  have hsl := hS.row.1
  have hnl := hN.row.1
  have HS : Hid (shErr s ls p l ss nl = if cfgFault s ls p = 0 then (if inR l 0 ((len : Int) - 1) = true then (if n = len ∧ m = len then (if okAll ss nl len then 0 else 9) else 9) else 6) else cfgFault s ls p) := by show _ = _; unfold shErr; rw [hlen, hsl, hnl]
  have H6 : Hid (cfgFault s ls p = 0 → len ≤ 6) := fun h => by have := (cfg_zero h).2.2.2.1; omega
  have hCf := fault_any s p a len cap ls W (hl.below bW)
  obtain ⟨OUT, eOUT⟩ : ∃ x, x = showOut s ls p l ss nl ⟨xk, xl, xs, xn, xy⟩ := ⟨_, rfl⟩
  obtain ⟨ERR, eERR⟩ : ∃ x, x = showErr s ls p l ss nl ⟨xk, xl, xs, xn, xy⟩ := ⟨_, rfl⟩
  rw [← eOUT] at HO ⊢
  rw [← eERR] at HE ⊢
  have HB : Hid (∀ e : Int, e ≠ 0 → shErr s ls p l ss nl = e → OUT = ⟨#[]⟩ ∧ ERR = e) := fun e h1 h2 => by rw [HO.out, HE.out, h2, if_neg h1, if_neg h1]; exact ⟨rfl, rfl⟩
  have HG : Hid (shErr s ls p l ss nl = 0 → OUT = showTxt ls l ss nl ⟨xk, xl, xs, xn, xy⟩ ∧ ERR = kindErr xk) := fun h2 => by rw [HO.out, HE.out, if_pos h2, if_pos h2]; exact ⟨rfl, rfl⟩
  obtain ⟨SE, eSE⟩ : ∃ x, x = shErr s ls p l ss nl := ⟨_, rfl⟩
  rw [← eSE] at HS HB HG hSE
  clear HO HE eSE eOUT eERR
  obtain ⟨C, eC⟩ : ∃ x, x = cfgFault s ls p := ⟨_, rfl⟩
  rw [← eC] at HS H6 hCf
  clear eC hl hS hN
  have c0 : W.cell? ⟨w.heap.size, 0, none⟩ = some (.int .i64 s) := oC.cell 0
  have c1 : W.cell? ⟨w.heap.size, 1, none⟩ = some (.slice a len cap) := oC.cell 1
  have c2 : W.cell? ⟨w.heap.size, 2, none⟩ = some (.int .i64 p) := oC.cell 2
  have zc := oC.lt
  have b0 : Below W.heap.size W W := Below.refl _ _
  clear oC oX
  go_enter Tryd.func12, Tryd.ntmps12
  go_upto_region 1 with (fail)
  rw [← hW]
  clear hW
  go_upto_region 2 with (go_at_call 27; refine hCf.mono ?_; rintro e u1 ⟨rfl, hb1⟩)
  clear hCf b0 c0 c1 c2 zc bW
  by_cases hC : C = 0
  · subst hC
    rw [if_pos rfl] at HS
    have h6 := H6.out rfl
    clear H6
    obtain ⟨oC1, -, -, -, -, hbw⟩ := KV.out u1 hb1
    have c0 : u1.cell? ⟨w.heap.size, 0, none⟩ = some (.int .i64 s) := oC1.cell 0
    have c1 : u1.cell? ⟨w.heap.size, 1, none⟩ = some (.slice a len cap) := oC1.cell 1
    have c2 : u1.cell? ⟨w.heap.size, 2, none⟩ = some (.int .i64 p) := oC1.cell 2
    have zc := oC1.lt
    have hLa := labelMay_any s p a len cap l u1 h6
    rw [plc_in] at hLa
    clear oC1
    obtain ⟨IN, eIN⟩ : ∃ x, x = inR l 0 ((len : Int) - 1) := ⟨_, rfl⟩
    have HIN : Hid (IN = true → 0 ≤ l ∧ l < (len : Int)) := fun h => by have := inR_bd (eIN.symm.trans h); omega
    rw [← eIN] at HS hLa
    clear eIN
    cases IN with
    | false =>
      simp only [Bool.false_eq_true, if_false] at HS
      obtain ⟨hOUT, hERR⟩ := HB.out 6 (by decide) HS.out
      have HOUT : Hid (OUT = ⟨#[]⟩) := hOUT
      have HERR : Hid (ERR = 6) := hERR
      clear HS HB HG HIN hOUT hERR
      go_upto_region 6 with (go_at_call 28; refine hLa.mono ?_; rintro e u2 ⟨rfl, hb2⟩)
      clear c0 c1 c2 zc hLa
      replace hbw := hbw.trans (hb2.mono hbw.size)
      clear hb2 hb1 KV
      go_wp2
      go_loopw [12, 13] (fun s12 s13 wr => s12 = .int .i64 (6) ∧ s13 = .int .i64 0 ∧ Below w.heap.size w wr) (fun _ _ _ => 0)
      case atStart => exact ⟨rfl, rfl, hbw⟩
      case round =>
        clear hbw
        obtain ⟨rfl, rfl, hbw⟩ := hrel
        by_cases hn0 : (0 : Int) < (n : Int)
        · go_wp2
          go_loopw [12, 14] (fun s12 s14 wr => s12 = .int .i64 (6) ∧ s14 = .int .i64 0 ∧ Below w.heap.size w wr) (fun _ _ _ => 0)
          case atStart => exact ⟨rfl, rfl, hbw⟩
          case round =>
            clear hbw
            obtain ⟨rfl, rfl, hbw⟩ := hrel
            by_cases hm0 : (0 : Int) < (m : Int)
            · go_wp2
              go_ret2
              exact ⟨by rw [HOUT.out, HERR.out]; rfl, hbw⟩
            · go_wp2
              go_ret2
              exact ⟨by rw [HOUT.out, HERR.out]; rfl, hbw⟩
        · go_wp2
          go_loopw [12, 14] (fun s12 s14 wr => s12 = .int .i64 (6) ∧ s14 = .int .i64 0 ∧ Below w.heap.size w wr) (fun _ _ _ => 0)
          case atStart => exact ⟨rfl, rfl, hbw⟩
          case round =>
            clear hbw
            obtain ⟨rfl, rfl, hbw⟩ := hrel
            by_cases hm0 : (0 : Int) < (m : Int)
            · go_wp2
              go_ret2
              exact ⟨by rw [HOUT.out, HERR.out]; rfl, hbw⟩
            · go_wp2
              go_ret2
              exact ⟨by rw [HOUT.out, HERR.out]; rfl, hbw⟩
    | true =>
      rw [if_pos rfl] at HS
      obtain ⟨hl0, hl1⟩ := HIN.out rfl
      clear HIN
      go_upto_region 4 with (go_at_call 28; refine hLa.mono ?_; rintro e u2 ⟨rfl, hb2⟩)
      clear c0 c1 c2 zc hLa hbw
      have hb12 := hb1.trans (hb2.mono hb1.size)
      clear hb1 hb2
      obtain ⟨oC1, -, -, -, -, hbw⟩ := KV.out u2 hb12
      have c1 : u2.cell? ⟨w.heap.size, 1, none⟩ = some (.slice a len cap) := oC1.cell 1
      have zc := oC1.lt
      clear oC1
      by_cases hnn : n = len
      · by_cases hmm : m = len
        · obtain rfl := hnn
          obtain rfl := hmm
          rw [if_pos ⟨rfl, rfl⟩] at HS
          have hBad : Hid (¬ okAll ss nl m → OUT = ⟨#[]⟩ ∧ ERR = 9) := fun h => HB.out 9 (by decide) (by rw [HS.out, if_neg h])
          have hGood : Hid (okAll ss nl m → OUT = showTxt ls l ss nl ⟨xk, xl, xs, xn, xy⟩ ∧ ERR = kindErr xk) := fun h => HG.out (by rw [HS.out, if_pos h])
          have hBadC : Hid (okAll ss nl m → False) := fun h => hSE (by rw [HS.out, if_pos h])
          clear HS HB HG
          go_upto_region 6 with (fail)
          clear c1 zc
          go_wp2
          go_loopw [12, 13] (fun s12 s13 wr => ∃ (k : Nat) (e : Int), s12 = .int .i64 e ∧ s13 = .int .i64 (k : Int) ∧ k ≤ m ∧ Below W.heap.size W wr ∧ Hid ((e = 0 ∧ ∀ i, i < k → storeOK (ss.getD i default) = true) ∨ (e = 9 ∧ ∃ i, i < m ∧ storeOK (ss.getD i default) = false))) (fun _ s13 _ => m - (intOf s13).toNat)
          case atStart => exact ⟨0, 0, rfl, rfl, by omega, hb12, Or.inl ⟨rfl, fun i hi => absurd hi (by omega)⟩⟩
          case round =>
            obtain ⟨k, e, rfl, rfl, hk, hb, hI⟩ := hrel
            clear hbw
            have hbw := (KV.out wr hb).2.2.2.2.2
            rcases hI.out with ⟨rfl, hI1⟩ | ⟨rfl, hI9⟩
            · by_cases hlt : k < m
              · have hlt' : (k : Int) < (m : Int) := by omega
                have HJ : Hid (k + 1 ≤ m) := hlt
                obtain ⟨-, -, -, hSr, -, -⟩ := KV.out wr hb
                have hSk := hSr.each k hlt
                obtain ⟨b1, o1, rfl, zb1, e0, e1, e2, e3⟩ := hSr.at hlt
                have HOk : Hid (storeOK (ss.getD k default) = true → ∀ i, i < k + 1 → storeOK (ss.getD i default) = true) := fun g i hi => by
                  by_cases hik : i < k
                  · exact hI1 i hik
                  · obtain rfl : i = k := by omega
                    exact g
                have HBk : Hid (storeOK (ss.getD k default) = false → ∃ i, i < m ∧ storeOK (ss.getD i default) = false) := fun g => ⟨k, hlt, g⟩
                have hMay := storeMay_any (ss.getD k default) wr hSk.1
                obtain ⟨OK, eOK⟩ : ∃ x, x = storeOK (ss.getD k default) := ⟨_, rfl⟩
                rw [← eOK] at HOk HBk hMay
                obtain ⟨r, er⟩ : ∃ r, r = ss.getD k default := ⟨_, rfl⟩
                rw [← er] at e0 e1 e2 e3 hMay
                clear er eOK hI hI1 hSr hSk
                obtain ⟨ra0, rn0, rc0, ra1, rn1, rc1, ra2, rn2, rc2, ra3, rn3, rc3, ri, rl, rd, ro⟩ := r
                simp only [SV.val] at e0 e1 e2 e3 hMay
                cases OK with
                | true =>
                  have HO2 := HOk.out rfl
                  have HO3 : Hid (∀ i, i < k + 1 → storeOK (ss.getD i default) = true) := HO2
                  clear HOk HBk HO2
                  go_wp2_with (go_at_call 29; refine hMay.mono ?_; rintro e u3 ⟨rfl, bU3⟩)
                  go_roundw
                  case rel => exact ⟨k + 1, 0, rfl, by go_num, HJ.out, hb.trans (bU3.mono hb.size), Or.inl ⟨rfl, HO3.out⟩⟩
                  case measure => have := HJ.out; simp [intOf]; omega
                | false =>
                  have HO2 := HBk.out rfl
                  have HO3 : Hid (∃ i, i < m ∧ storeOK (ss.getD i default) = false) := HO2
                  clear HOk HBk HO2
                  go_wp2_with (go_at_call 29; refine hMay.mono ?_; rintro e u3 ⟨rfl, bU3⟩)
                  go_roundw
                  case rel => exact ⟨k + 1, 9, rfl, by go_num, HJ.out, hb.trans (bU3.mono hb.size), Or.inr ⟨rfl, HO3.out⟩⟩
                  case measure => have := HJ.out; simp [intOf]; omega
              · obtain rfl : k = m := by omega
                have hnl2 : ¬ ((k : Int) < (k : Int)) := by omega
                have HSt : Hid (∀ i, i < k → storeOK (ss.getD i default) = true) := hI1
                clear hI hI1
                go_wp2
                go_loopw [12, 14] (fun s12 s14 wr => ∃ (q : Nat) (e : Int), s12 = .int .i64 e ∧ s14 = .int .i64 (q : Int) ∧ q ≤ k ∧ Below W.heap.size W wr ∧ Hid ((e = 0 ∧ ∀ i, i < q → notesOK (nl.getD i default).ns = true) ∨ (e = 9 ∧ ∃ i, i < k ∧ notesOK (nl.getD i default).ns = false))) (fun _ s14 _ => k - (intOf s14).toNat)
                case atStart => exact ⟨0, 0, rfl, rfl, by omega, hb, Or.inl ⟨rfl, fun i hi => absurd hi (by omega)⟩⟩
                case round =>
                  clear hbw hb
                  obtain ⟨q, e, rfl, rfl, hq, hb, hI⟩ := hrel
                  have hbw := (KV.out wr hb).2.2.2.2.2
                  rcases hI.out with ⟨rfl, hI1⟩ | ⟨rfl, hI9⟩
                  · by_cases hlt : q < k
                    · have hlt' : (q : Int) < (k : Int) := by omega
                      have HJ : Hid (q + 1 ≤ k) := hlt
                      have HOk : Hid (notesOK (nl.getD q default).ns = true → ∀ i, i < q + 1 → notesOK (nl.getD i default).ns = true) := fun g i hi => by
                        by_cases hik : i < q
                        · exact hI1 i hik
                        · obtain rfl : i = q := by omega
                          exact g
                      have HBk : Hid (notesOK (nl.getD q default).ns = false → ∃ i, i < k ∧ notesOK (nl.getD i default).ns = false) := fun g => ⟨q, hlt, g⟩
                      obtain ⟨y, ey⟩ : ∃ y, y = nl.getD q default := ⟨_, rfl⟩
                      have KN : Hid (∀ U, Below W.heap.size W U → (∃ b3 o3, na = some ⟨b3, o3, none⟩ ∧ b3 < U.heap.size ∧ U.cell? ⟨b3, o3 + q, none⟩ = some (.slice y.a y.n y.c)) ∧ IsNotes U y.a y.n y.c y.ns) := fun U hU => by
                        obtain ⟨-, -, -, -, hNr, -⟩ := KV.out U hU
                        obtain ⟨b3, o3, e3, zb3, f0⟩ := hNr.at hlt
                        have h8 := hNr.each q hlt
                        rw [ey]
                        exact ⟨⟨b3, o3, e3, zb3, f0⟩, h8⟩
                      rw [← ey] at HOk HBk
                      clear ey hI hI1
                      obtain ⟨ya, yn, yc, ys⟩ := y
                      simp only [] at KN HOk HBk
                      go_wp2
                      go_loopw [12, 15] (fun s12 s15 wy => ∃ (j : Nat) (e : Int), s12 = .int .i64 e ∧ s15 = .int .i64 (j : Int) ∧ j ≤ yn ∧ Below W.heap.size W wy ∧ Hid ((e = 0 ∧ ∀ i, i < j → txOK ((ys.getD i default).site, (ys.getD i default).num) = true) ∨ (e = 9 ∧ ∃ i, i < yn ∧ txOK ((ys.getD i default).site, (ys.getD i default).num) = false))) (fun _ s15 _ => yn - (intOf s15).toNat)
                      case atStart => exact ⟨0, 0, rfl, rfl, by omega, hb, Or.inl ⟨rfl, fun i hi => absurd hi (by omega)⟩⟩
                      case round =>
                        clear hbw hb
                        obtain ⟨j, e, rfl, rfl, hj, hb, hI⟩ := hrel
                        have hbw := (KV.out wr hb).2.2.2.2.2
                        obtain ⟨⟨b3, o3, rfl, zb3, f0⟩, hNs⟩ := KN.out wr hb
                        by_cases hjl : j < yn
                        · have hjl' : (j : Int) < (yn : Int) := by omega
                          have HJ2 : Hid (j + 1 ≤ yn) := hjl
                          have hjm : (j : Int) + 1 ≤ 9223372036854775807 := by have h8 := hNs.2.1; have h9 := hNs.2.2.1; unfold maxLen at h9; omega
                          obtain ⟨b2, o2, rfl, zb2, hc⟩ := hNs.2.2.2.2 (by omega)
                          have e0 := hc j hjl 0 (by decide)
                          have e1 := hc j hjl 1 (by decide)
                          have hPl := plainTxn_any ((ys.getD j default).site, (ys.getD j default).num) wr
                          have HG2 : Hid (e = 0 → txOK ((ys.getD j default).site, (ys.getD j default).num) = true → (e = 0 ∧ ∀ i, i < j + 1 → txOK ((ys.getD i default).site, (ys.getD i default).num) = true)) := fun he g => ⟨he, fun i hi => by
                            by_cases hik : i < j
                            · rcases hI.out with ⟨_, h1⟩ | ⟨h9, _⟩
                              · exact h1 i hik
                              · rw [he] at h9; cases h9
                            · obtain rfl : i = j := by omega
                              exact g⟩
                          have HB2 : Hid (txOK ((ys.getD j default).site, (ys.getD j default).num) = false → ∃ i, i < yn ∧ txOK ((ys.getD i default).site, (ys.getD i default).num) = false) := fun g => ⟨j, hjl, g⟩
                          obtain ⟨TX, eTX⟩ : ∃ x, x = txOK ((ys.getD j default).site, (ys.getD j default).num) := ⟨_, rfl⟩
                          rw [← eTX] at hPl HG2 HB2
                          obtain ⟨d, ed⟩ : ∃ d, d = ys.getD j default := ⟨_, rfl⟩
                          rw [← ed] at e0 e1 hPl
                          clear ed eTX hc hNs
                          obtain ⟨t1, t2, ty, tg⟩ := d
                          simp only [NV.cells, List.getElem?_cons_zero, List.getElem?_cons_succ, Nat.add_zero] at e0 e1 hPl
                          cases TX with
                          | true =>
                            have HI3 : Hid ((e = 0 ∧ ∀ i, i < j + 1 → txOK ((ys.getD i default).site, (ys.getD i default).num) = true) ∨ (e = 9 ∧ ∃ i, i < yn ∧ txOK ((ys.getD i default).site, (ys.getD i default).num) = false)) := by
                              rcases hI.out with ⟨h0, _⟩ | h9
                              · exact Or.inl (HG2.out h0 rfl)
                              · exact Or.inr h9
                            clear hI HG2 HB2
                            go_wp2_with (go_at_call 30; refine hPl.mono ?_; rintro e4 u4 ⟨rfl, bU4⟩)
                            go_roundw
                            case rel => exact ⟨j + 1, e, rfl, by go_num, HJ2.out, hb.trans (bU4.mono hb.size), HI3⟩
                            case measure => have := HJ2.out; simp [intOf]; omega
                          | false =>
                            have HI3 := HB2.out rfl
                            have HI4 : Hid (∃ i, i < yn ∧ txOK ((ys.getD i default).site, (ys.getD i default).num) = false) := HI3
                            clear hI HG2 HB2 HI3
                            go_wp2_with (go_at_call 30; refine hPl.mono ?_; rintro e4 u4 ⟨rfl, bU4⟩)
                            go_roundw
                            case rel => exact ⟨j + 1, 9, rfl, by go_num, HJ2.out, hb.trans (bU4.mono hb.size), Or.inr ⟨rfl, HI4.out⟩⟩
                            case measure => have := HJ2.out; simp [intOf]; omega
                        · obtain rfl : j = yn := by omega
                          have hnl3 : ¬ ((j : Int) < (j : Int)) := by omega
                          have hyl := hNs.1
                          have HI3 : Hid ((e = 0 ∧ ∀ i, i < q + 1 → notesOK (nl.getD i default).ns = true) ∨ (e = 9 ∧ ∃ i, i < k ∧ notesOK (nl.getD i default).ns = false)) := by
                            rcases hI.out with ⟨h0, h1⟩ | ⟨h9, i, hi, h2⟩
                            · exact Or.inl ⟨h0, HOk.out (notes_all (fun i hi => h1 i (by omega)))⟩
                            · exact Or.inr ⟨h9, HBk.out (notes_not (i := i) (by omega) h2)⟩
                          clear hI HOk HBk hNs
                          go_wp2
                          go_roundw
                          case rel => exact ⟨q + 1, e, rfl, by go_num, HJ.out, hb, HI3⟩
                          case measure => have := HJ.out; simp [intOf]; omega
                    · obtain rfl : q = k := by omega
                      have hnl3 : ¬ ((q : Int) < (q : Int)) := by omega
                      have hok : okAll ss nl q := fun i hi => ⟨HSt.out i hi, hI1 i hi⟩
                      exact (hBadC.out hok).elim
                  · have hnok : ¬ okAll ss nl k := fun g => by obtain ⟨i, hi, h9⟩ := hI9; have := (g i hi).2; rw [h9] at this; cases this
                    obtain ⟨hOUT, hERR⟩ := hBad.out hnok
                    have HOUT : Hid (OUT = ⟨#[]⟩) := hOUT
                    have HERR : Hid (ERR = 9) := hERR
                    clear hI hI9 hnok hBad hGood hOUT hERR KV HSt
                    by_cases hkm : (q : Int) < (k : Int)
                    · go_wp2
                      go_ret2
                      exact ⟨by rw [HOUT.out, HERR.out]; rfl, hbw⟩
                    · go_wp2
                      go_ret2
                      exact ⟨by rw [HOUT.out, HERR.out]; rfl, hbw⟩
            · have hnok : ¬ okAll ss nl m := fun g => by obtain ⟨i, hi, h9⟩ := hI9; have := (g i hi).1; rw [h9] at this; cases this
              obtain ⟨hOUT, hERR⟩ := hBad.out hnok
              have HOUT : Hid (OUT = ⟨#[]⟩) := hOUT
              have HERR : Hid (ERR = 9) := hERR
              clear hI hI9 hnok hBad hGood hOUT hERR KV
              by_cases hkm : (k : Int) < (m : Int)
              · go_wp2
                go_loopw [12, 14] (fun s12 s14 wr => s12 = .int .i64 (9) ∧ s14 = .int .i64 0 ∧ Below w.heap.size w wr) (fun _ _ _ => 0)
                case atStart => exact ⟨rfl, rfl, hbw⟩
                case round =>
                  clear hbw
                  obtain ⟨rfl, rfl, hbw⟩ := hrel
                  by_cases hm0 : (0 : Int) < (m : Int)
                  · go_wp2
                    go_ret2
                    exact ⟨by rw [HOUT.out, HERR.out]; rfl, hbw⟩
                  · omega
              · go_wp2
                go_loopw [12, 14] (fun s12 s14 wr => s12 = .int .i64 (9) ∧ s14 = .int .i64 0 ∧ Below w.heap.size w wr) (fun _ _ _ => 0)
                case atStart => exact ⟨rfl, rfl, hbw⟩
                case round =>
                  clear hbw
                  obtain ⟨rfl, rfl, hbw⟩ := hrel
                  by_cases hm0 : (0 : Int) < (m : Int)
                  · go_wp2
                    go_ret2
                    exact ⟨by rw [HOUT.out, HERR.out]; rfl, hbw⟩
                  · omega
        · have hne : ((m : Int) != (len : Int)) = true := by simp; omega
          obtain ⟨hOUT, hERR⟩ := HB.out 9 (by decide) (by rw [HS.out, if_neg (fun g => hmm g.2)])
          have HOUT : Hid (OUT = ⟨#[]⟩) := hOUT
          have HERR : Hid (ERR = 9) := hERR
          clear HS HB HG hOUT hERR
          have hnn2 : ((n : Int) != (len : Int)) = false := by simp; omega
          go_upto_region 6 with (fail)
          clear c1 zc KV hb12
          go_wp2
          go_loopw [12, 13] (fun s12 s13 wr => s12 = .int .i64 (9) ∧ s13 = .int .i64 0 ∧ Below w.heap.size w wr) (fun _ _ _ => 0)
          case atStart => exact ⟨rfl, rfl, hbw⟩
          case round =>
            clear hbw
            obtain ⟨rfl, rfl, hbw⟩ := hrel
            by_cases hn0 : (0 : Int) < (n : Int)
            · go_wp2
              go_loopw [12, 14] (fun s12 s14 wr => s12 = .int .i64 (9) ∧ s14 = .int .i64 0 ∧ Below w.heap.size w wr) (fun _ _ _ => 0)
              case atStart => exact ⟨rfl, rfl, hbw⟩
              case round =>
                clear hbw
                obtain ⟨rfl, rfl, hbw⟩ := hrel
                by_cases hm0 : (0 : Int) < (m : Int)
                · go_wp2
                  go_ret2
                  exact ⟨by rw [HOUT.out, HERR.out]; rfl, hbw⟩
                · go_wp2
                  go_ret2
                  exact ⟨by rw [HOUT.out, HERR.out]; rfl, hbw⟩
            · omega
      · have hne : ((n : Int) != (len : Int)) = true := by simp; omega
        obtain ⟨hOUT, hERR⟩ := HB.out 9 (by decide) (by rw [HS.out, if_neg (fun g => hnn g.1)])
        have HOUT : Hid (OUT = ⟨#[]⟩) := hOUT
        have HERR : Hid (ERR = 9) := hERR
        clear HS HB HG hOUT hERR
        go_upto_region 6 with (fail)
        clear c1 zc KV hb12
        go_wp2
        go_loopw [12, 13] (fun s12 s13 wr => s12 = .int .i64 (9) ∧ s13 = .int .i64 0 ∧ Below w.heap.size w wr) (fun _ _ _ => 0)
        case atStart => exact ⟨rfl, rfl, hbw⟩
        case round =>
          clear hbw
          obtain ⟨rfl, rfl, hbw⟩ := hrel
          by_cases hn0 : (0 : Int) < (n : Int)
          · go_wp2
            go_loopw [12, 14] (fun s12 s14 wr => s12 = .int .i64 (9) ∧ s14 = .int .i64 0 ∧ Below w.heap.size w wr) (fun _ _ _ => 0)
            case atStart => exact ⟨rfl, rfl, hbw⟩
            case round =>
              clear hbw
              obtain ⟨rfl, rfl, hbw⟩ := hrel
              by_cases hm0 : (0 : Int) < (m : Int)
              · go_wp2
                go_ret2
                exact ⟨by rw [HOUT.out, HERR.out]; rfl, hbw⟩
              · go_wp2
                go_ret2
                exact ⟨by rw [HOUT.out, HERR.out]; rfl, hbw⟩
          · go_wp2
            go_loopw [12, 14] (fun s12 s14 wr => s12 = .int .i64 (9) ∧ s14 = .int .i64 0 ∧ Below w.heap.size w wr) (fun _ _ _ => 0)
            case atStart => exact ⟨rfl, rfl, hbw⟩
            case round =>
              clear hbw
              obtain ⟨rfl, rfl, hbw⟩ := hrel
              by_cases hm0 : (0 : Int) < (m : Int)
              · go_wp2
                go_ret2
                exact ⟨by rw [HOUT.out, HERR.out]; rfl, hbw⟩
              · go_wp2
                go_ret2
                exact ⟨by rw [HOUT.out, HERR.out]; rfl, hbw⟩
  · rw [if_neg hC] at HS
    have hC1 : ((C : Int) == 0) = false := by simpa using hC
    have hC2 : ((C : Int) != 0) = true := by simpa using hC
    obtain ⟨hOUT, hERR⟩ := HB.out C hC HS.out
    have HOUT : Hid (OUT = ⟨#[]⟩) := hOUT
    have HERR : Hid (ERR = C) := hERR
    have hbw := (KV.out u1 hb1).2.2.2.2.2
    clear HS HB HG hOUT hERR hC H6 KV hb1
    go_wp2
    go_loopw [12, 13] (fun s12 s13 wr => s12 = .int .i64 (C) ∧ s13 = .int .i64 0 ∧ Below w.heap.size w wr) (fun _ _ _ => 0)
    case atStart => exact ⟨rfl, rfl, hbw⟩
    case round =>
      clear hbw
      obtain ⟨rfl, rfl, hbw⟩ := hrel
      by_cases hn0 : (0 : Int) < (n : Int)
      · go_wp2
        go_loopw [12, 14] (fun s12 s14 wr => s12 = .int .i64 (C) ∧ s14 = .int .i64 0 ∧ Below w.heap.size w wr) (fun _ _ _ => 0)
        case atStart => exact ⟨rfl, rfl, hbw⟩
        case round =>
          clear hbw
          obtain ⟨rfl, rfl, hbw⟩ := hrel
          by_cases hm0 : (0 : Int) < (m : Int)
          · go_wp2
            go_ret2
            exact ⟨by rw [HOUT.out, HERR.out]; rfl, hbw⟩
          · go_wp2
            go_ret2
            exact ⟨by rw [HOUT.out, HERR.out]; rfl, hbw⟩
      · go_wp2
        go_loopw [12, 14] (fun s12 s14 wr => s12 = .int .i64 (C) ∧ s14 = .int .i64 0 ∧ Below w.heap.size w wr) (fun _ _ _ => 0)
        case atStart => exact ⟨rfl, rfl, hbw⟩
        case round =>
          clear hbw
          obtain ⟨rfl, rfl, hbw⟩ := hrel
          by_cases hm0 : (0 : Int) < (m : Int)
          · go_wp2
            go_ret2
            exact ⟨by rw [HOUT.out, HERR.out]; rfl, hbw⟩
          · go_wp2
            go_ret2
            exact ⟨by rw [HOUT.out, HERR.out]; rfl, hbw⟩
end Go.Proofs.YtgohpgollpjlnaaDoor.Cn
