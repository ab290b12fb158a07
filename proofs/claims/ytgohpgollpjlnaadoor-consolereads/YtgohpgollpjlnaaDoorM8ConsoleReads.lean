/- Texts of this claim, one behind the other. -/
import Derived.Test.YtgohpgollpjlnaaDoorM7ConsoleReads
import Derived.Test.YtgohpgollpjlnaaDoorM3ConsoleReads
import Derived.Test.YtgohpgollpjlnaaDoorM2ConsoleReads
import Derived.Test.YtgohpgollpjlnaaDoorM5ConsoleReads
import Derived.Deep.Cut
import Derived.Lib.ItoaLen
import Derived.Deep.DeepCutAuto
import Derived.Test.YtgohpgollpjlnaaDoorM6ConsoleReads
/- What dec of a number that is not negative answers: its digits. -/
namespace Go.Proofs.YtgohpgollpjlnaaDoor.Dc
open Go.ChangeShapes Go.WideShapes Go.ChangeAt Go.RowKit
open Go.Proofs.YtgohpgollpjlnaaDoor.St (BoxN boxn_new)
set_option linter.unusedVariables false

theorem nT {u v z : World} (h : Below u.heap.size u v) (k : Below v.heap.size v z) : Below u.heap.size u z := h.trans (k.mono h.size)
def decS (n : Nat) : ByteArray := ⟨(Lib.decDigits n).toArray⟩
theorem decS_one {n : Nat} (h : n < 10) : decS n = decB (n : Int) := by
  unfold decS decB
  rw [Lib.decDigits_one h]
  have : (48 + (n : Int)).toNat = 48 + n := by omega
  rw [this]
theorem decS_more {n : Nat} (h : ¬ n < 10) : decS n = decS (n / 10) ++ decB ((n % 10 : Nat) : Int) := by
  unfold decS decB
  rw [Lib.decDigits, dif_neg h]
  have : (48 + ((n % 10 : Nat) : Int)).toNat = 48 + n % 10 := by omega
  rw [this]
  apply ByteArray.ext
  simp
theorem decS_size {n : Nat} (h : n ≤ 9223372036854775807) : (decS n).size ≤ 20 := by
  show (Lib.decDigits n).toArray.size ≤ 20
  rw [List.size_toArray, Lib.decDigits_length]
  exact Lib.nDigits_le20 n (by omega)
theorem dec_conv (R : Nat) (hR : R < 10) (U : World) (A : Nat) (b : BoxN U A 1 [.int .u8 (48 + (R : Int))]) :
    (convert 42 9 (.slice (some ⟨A, 0, none⟩) 1 1)).run Tryd.prog U = .ok (.string (decB (R : Int))) U := by
  have hu : (UInt8.ofNat (48 + (R : Int)).toNat).toNat = (48 + (R : Int)).toNat := by
    rw [UInt8.toNat_ofNat']
    omega
  exact run_convert_bytes_back (P := Tryd.prog) _ 42 9 5 ⟨A, 0, none⟩ 1 [UInt8.ofNat (48 + (R : Int)).toNat] Tryd.underlying42 Tryd.underlying5 Tryd.underlying9 (fun j hj => by
      obtain rfl : j = 0 := by simp at hj; omega
      have e : ((⟨A, 0, none⟩ : Addr).add 0) = ⟨A, 0, none⟩ := rfl
      rw [e]
      simp only [List.getElem_cons_zero, hu]
      have e2 : (((48 + (R : Int)).toNat : Nat) : Int) = 48 + (R : Int) := by omega
      rw [e2]
      exact (b.c 0 (by decide)).1)
set_option maxHeartbeats 4000000 in
theorem dec_all : ∀ (k n : Nat) (w : World), n ≤ k → n ≤ 9223372036854775807 → Calls Tryd.prog 14 #[.int .i64 (n : Int)] w fun e w' => e = .returned (.string (decS n)) ∧ Below w.heap.size w w' := by
  intro k
  induction k with
  | zero =>
    intro n w h hm
    obtain rfl : n = 0 := by omega
    rw [decS_one (by omega)]
    exact dec_any ((0 : Nat) : Int) w (by omega) (by omega)
  | succ k ih =>
    intro n w h hm
    by_cases h9 : n < 10
    · rw [decS_one h9]
      exact dec_any (n : Int) w (by omega) (by omega)
    · have hlt : ¬ (n : Int) < 10 := by omega
      obtain ⟨Q, eQ⟩ : ∃ Q : Nat, Q = n / 10 := ⟨_, rfl⟩
      obtain ⟨R, eR⟩ : ∃ R : Nat, R = n % 10 := ⟨_, rfl⟩
      have hR : R < 10 := by omega
      have HQ : Hid (IntKind.i64.wrap ((n : Int) / 10) = (Q : Int)) := by
        have : (n : Int) / 10 = ((n / 10 : Nat) : Int) := rfl
        show _ = _
        rw [this, eQ]; simp [IntKind.wrap, IntKind.bits, IntKind.signed]; omega
      have HR : Hid ((n : Int).tmod 10 = (R : Int)) := by
        have : (n : Int).tmod 10 = ((n % 10 : Nat) : Int) := rfl
        show _ = _
        rw [this, eR]
      have HS : Hid (IntKind.i64.wrap (48 + (R : Int)) = 48 + (R : Int) ∧ IntKind.u8.wrap (48 + (R : Int)) = 48 + (R : Int)) := by
        constructor <;> (simp [IntKind.wrap, IntKind.bits, IntKind.signed]; omega)
      have HZ : Hid (¬ (9223372036854775807 < (decS Q).size + (decB (R : Int)).size)) := by
        have := decS_size (n := Q) (by omega)
        show ¬ _
        rw [decB_size]
        omega
      have HC := fun U => ih Q U (by omega) (by omega)
      have eD : decS n = decS Q ++ decB (R : Int) := by rw [eQ, eR]; exact decS_more h9
      rw [eD]
      clear eD eQ eR h9 ih h hm
      go_enter Tryd.func14, Tryd.ntmps14
      go_upto_region 3 with (fail)
      refine wp_region_inv (by kernel_rfl) [10, 11, 12, 13, 14, 15, 16, 17, 18, 19, 2] (fun L T u => ∃ (A : Nat), Below w.heap.size w u ∧ (L 0 = true → T 10 = .int .i64 (n : Int)) ∧ (L 1 = true → T 11 = .int .i64 (Q : Int)) ∧ (L 2 = true → T 12 = .string (decS Q)) ∧ (L 3 = true → T 13 = .int .i64 (n : Int)) ∧ (L 4 = true → T 14 = .int .i64 (R : Int)) ∧ (L 5 = true → T 15 = .int .i64 (48 + (R : Int))) ∧ (L 6 = true → T 16 = .int .u8 (48 + (R : Int))) ∧ (L 8 = true → T 18 = .string (decB (R : Int))) ∧ (L 9 = true → T 19 = .string (decS Q ++ decB (R : Int))) ∧ (L 10 = true → T 2 = .string (decS Q ++ decB (R : Int))) ∧ (L 7 = true → (T 17 = .slice (some ⟨A, 0, none⟩) 1 1 ∧ w.heap.size ≤ A ∧ A < u.heap.size)) ∧ (L 7 = true → BoxN u A 1 [.int .u8 (48 + (R : Int))])) (by decide) (by kernel_rfl) (by kernel_rfl) ?_ ?_ ?_
      · exact ⟨0, (Below.refl _ _).drew, nofun, nofun, nofun, nofun, nofun, nofun, nofun, nofun, nofun, nofun, nofun, nofun⟩
      · refine ⟨?_, ?_, ?_, ?_, ?_, ?_, ?_, ?_, ?_, ?_, ?_, trivial⟩
        · rintro L T u hd hk hcl ⟨A, hb, p0, p1, p2, p3, p4, p5, p6, p8, p9, p10, pa7, bv7⟩ K hK
          simp only [fr, Act.put, List.setIfInBounds_toArray, List.set_cons_zero, List.set_cons_succ, updO] at hK ⊢
          simp [Region.binds] at hd
          rw [if_pos (by rfl)]
          simp only [Oper.wpv]
          go_simp
          exact hK _ _ ⟨A, hb, fun _ => rfl, p1, p2, p3, p4, p5, p6, p8, p9, p10, pa7, bv7⟩
        · rintro L T u hd hk hcl ⟨A, hb, p0, p1, p2, p3, p4, p5, p6, p8, p9, p10, pa7, bv7⟩ K hK
          simp only [fr, Act.put, List.setIfInBounds_toArray, List.set_cons_zero, List.set_cons_succ, updO] at hK ⊢
          simp [Region.binds] at hd
          have g0 := p0 (by simp [hd])
          have hq := HQ.out
          rw [if_pos (by rfl)]
          simp only [Oper.wpv]
          go_simp
          exact hK _ _ ⟨A, hb, p0, fun _ => rfl, p2, p3, p4, p5, p6, p8, p9, p10, pa7, bv7⟩
        · rintro L T u hd hk hcl ⟨A, hb, p0, p1, p2, p3, p4, p5, p6, p8, p9, p10, pa7, bv7⟩ K hK
          simp only [fr, Act.put, List.setIfInBounds_toArray, List.set_cons_zero, List.set_cons_succ, updO] at hK ⊢
          simp [Region.binds] at hd
          have g1 := p1 (by simp [hd])
          rw [if_pos (by rfl)]
          simp only [Oper.wpv]
          go_simp
          refine (HC u).mono ?_
          rintro e u1 ⟨rfl, hg⟩
          exact hK _ _ ⟨A, nT hb hg, p0, p1, fun _ => rfl, p3, p4, p5, p6, p8, p9, p10, fun h0 => ⟨(pa7 h0).1, (pa7 h0).2.1, Nat.lt_of_lt_of_le (pa7 h0).2.2 hg.size⟩, fun h0 => (bv7 h0).below hg (bv7 h0).lt⟩
        · rintro L T u hd hk hcl ⟨A, hb, p0, p1, p2, p3, p4, p5, p6, p8, p9, p10, pa7, bv7⟩ K hK
          simp only [fr, Act.put, List.setIfInBounds_toArray, List.set_cons_zero, List.set_cons_succ, updO] at hK ⊢
          simp [Region.binds] at hd
          rw [if_pos (by rfl)]
          simp only [Oper.wpv]
          go_simp
          exact hK _ _ ⟨A, hb, p0, p1, p2, fun _ => rfl, p4, p5, p6, p8, p9, p10, pa7, bv7⟩
        · rintro L T u hd hk hcl ⟨A, hb, p0, p1, p2, p3, p4, p5, p6, p8, p9, p10, pa7, bv7⟩ K hK
          simp only [fr, Act.put, List.setIfInBounds_toArray, List.set_cons_zero, List.set_cons_succ, updO] at hK ⊢
          simp [Region.binds] at hd
          have g3 := p3 (by simp [hd])
          have hq := HR.out
          rw [if_pos (by rfl)]
          simp only [Oper.wpv]
          go_simp
          exact hK _ _ ⟨A, hb, p0, p1, p2, p3, fun _ => rfl, p5, p6, p8, p9, p10, pa7, bv7⟩
        · rintro L T u hd hk hcl ⟨A, hb, p0, p1, p2, p3, p4, p5, p6, p8, p9, p10, pa7, bv7⟩ K hK
          simp only [fr, Act.put, List.setIfInBounds_toArray, List.set_cons_zero, List.set_cons_succ, updO] at hK ⊢
          simp [Region.binds] at hd
          have g4 := p4 (by simp [hd])
          have hq := HS.out.1
          rw [if_pos (by rfl)]
          simp only [Oper.wpv]
          go_simp
          exact hK _ _ ⟨A, hb, p0, p1, p2, p3, p4, fun _ => rfl, p6, p8, p9, p10, pa7, bv7⟩
        · rintro L T u hd hk hcl ⟨A, hb, p0, p1, p2, p3, p4, p5, p6, p8, p9, p10, pa7, bv7⟩ K hK
          simp only [fr, Act.put, List.setIfInBounds_toArray, List.set_cons_zero, List.set_cons_succ, updO] at hK ⊢
          simp [Region.binds] at hd
          have g5 := p5 (by simp [hd])
          have hq := HS.out.2
          rw [if_pos (by rfl)]
          simp only [Oper.wpv]
          go_simp
          exact hK _ _ ⟨A, hb, p0, p1, p2, p3, p4, p5, fun _ => rfl, p8, p9, p10, pa7, bv7⟩
        · rintro L T u hd hk hcl ⟨A, hb, p0, p1, p2, p3, p4, p5, p6, p8, p9, p10, pa7, bv7⟩ K hK
          simp only [fr, Act.put, List.setIfInBounds_toArray, List.set_cons_zero, List.set_cons_succ, updO] at hK ⊢
          simp [Region.binds] at hd
          have g6 := p6 (by simp [hd])
          have k8 := hcl 8 _ rfl
          simp [Region.binds] at k8
          have k9 := hcl 9 _ rfl
          simp [Region.binds] at k9
          have k10 := hcl 10 _ rfl
          simp [Region.binds] at k10
          have hg : Below u.heap.size u (u.alloc (.cells #[.int .u8 (48 + (R : Int))] 5)) := (Below.refl _ _).alloc (Nat.le_refl _) _
          rw [if_pos (by rfl)]
          simp only [Oper.wpv]
          go_simp
          exact hK _ _ ⟨u.heap.size, (nT hb hg), p0, p1, p2, p3, p4, p5, p6, fun h => absurd (show L 8 = true from h) (by intro hh; have a8 := k8 hh; simp [hk] at a8), fun h => absurd (show L 9 = true from h) (by intro hh; have a9 := k9 hh; have a8 := k8 (by simp [a9]); simp [hk] at a8), fun h => absurd (show L 10 = true from h) (by intro hh; have a10 := k10 hh; have a9 := k9 (by simp [a10]); have a8 := k8 (by simp [a9]); simp [hk] at a8), fun _ => ⟨rfl, hb.size, by simp⟩, fun _ => boxn_new u #[.int .u8 (48 + (R : Int))] 5 1 rfl⟩
        · rintro L T u hd hk hcl ⟨A, hb, p0, p1, p2, p3, p4, p5, p6, p8, p9, p10, pa7, bv7⟩ K hK
          simp only [fr, Act.put, List.setIfInBounds_toArray, List.set_cons_zero, List.set_cons_succ, updO] at hK ⊢
          simp [Region.binds] at hd
          have g7 := pa7 (by simp [hd])
          have hcv := dec_conv R hR u A (bv7 (by simp [hd]))
          rw [if_pos (by rfl)]
          simp only [Oper.wpv]
          go_simp
          exact hK _ _ ⟨A, hb, p0, p1, p2, p3, p4, p5, p6, fun _ => rfl, p9, p10, pa7, bv7⟩
        · rintro L T u hd hk hcl ⟨A, hb, p0, p1, p2, p3, p4, p5, p6, p8, p9, p10, pa7, bv7⟩ K hK
          simp only [fr, Act.put, List.setIfInBounds_toArray, List.set_cons_zero, List.set_cons_succ, updO] at hK ⊢
          simp [Region.binds] at hd
          have g2 := p2 (by simp [hd])
          have g8 := p8 (by simp [hd])
          have hz := HZ.out
          rw [if_pos (by rfl)]
          simp only [Oper.wpv]
          go_simp
          exact hK _ _ ⟨A, hb, p0, p1, p2, p3, p4, p5, p6, p8, fun _ => rfl, p10, pa7, bv7⟩
        · rintro L T u hd hk hcl ⟨A, hb, p0, p1, p2, p3, p4, p5, p6, p8, p9, p10, pa7, bv7⟩ K hK
          simp only [fr, Act.put, List.setIfInBounds_toArray, List.set_cons_zero, List.set_cons_succ, updO] at hK ⊢
          simp [Region.binds] at hd
          have g9 := p9 (by simp [hd])
          rw [if_pos (by rfl)]
          simp only [Oper.wpv]
          go_simp
          exact hK _ _ ⟨A, hb, p0, p1, p2, p3, p4, p5, p6, p8, p9, fun _ => rfl, pa7, bv7⟩
      · rintro L T u hl ⟨A, hb, p0, p1, p2, p3, p4, p5, p6, p8, p9, p10, pa7, bv7⟩
        simp only [fr, Act.put, List.setIfInBounds_toArray, List.set_cons_zero, List.set_cons_succ]
        have h10 := p10 (hl 10 (by decide))
        clear p0 p1 p2 p3 p4 p5 p6 p8 p9 p10 pa7 bv7 HQ HR HS HC HZ
        rw [h10]
        go_wp2
        go_ret
        exact ⟨rfl, hb⟩
end Go.Proofs.YtgohpgollpjlnaaDoor.Dc
/- What the document's Dec of a number that is not negative answers: its digits. -/
namespace Go.Proofs.YtgohpgollpjlnaaDoor.Dc
open Go.ChangeShapes Go.WideShapes Go.ChangeAt Go.RowKit
open Go.Proofs.YtgohpgollpjlnaaDoor.St (BoxN boxn_new)
set_option linter.unusedVariables false

theorem dec_ref1 (n : Nat) (w : World) (h9 : n < 10) :
    Calls Tryd.prog 33 #[.int .i64 (n : Int)] w fun e w' => e = .returned (.string (decS n)) ∧ Below w.heap.size w w' := by
  have hlt : (n : Int) < 10 := by omega
  have hn0 : ¬ (n : Int) < 0 := by omega
  have hS : IntKind.i64.wrap (48 + (n : Int)) = 48 + (n : Int) ∧ IntKind.u8.wrap (48 + (n : Int)) = 48 + (n : Int) := by
    constructor <;> (simp [IntKind.wrap, IntKind.bits, IntKind.signed]; omega)
  have hcv := dec_conv n h9 (w.alloc (.cells #[.int .u8 (48 + (n : Int))] 5)) w.heap.size (boxn_new w #[.int .u8 (48 + (n : Int))] 5 1 rfl)
  rw [decS_one h9]
  go_enter Tryd.func33, Tryd.ntmps33
  go_wp2
  go_ret
  exact ⟨rfl, (Below.refl _ _).alloc (Nat.le_refl _) _⟩
set_option maxHeartbeats 4000000 in
theorem dec_ref : ∀ (k n : Nat) (w : World), n ≤ k → n ≤ 9223372036854775807 → Calls Tryd.prog 33 #[.int .i64 (n : Int)] w fun e w' => e = .returned (.string (decS n)) ∧ Below w.heap.size w w' := by
  intro k
  induction k with
  | zero =>
    intro n w h hm
    obtain rfl : n = 0 := by omega
    exact dec_ref1 0 w (by omega)
  | succ k ih =>
    intro n w h hm
    by_cases h9 : n < 10
    · exact dec_ref1 n w h9
    · have hlt : ¬ (n : Int) < 10 := by omega
      have hn0 : ¬ (n : Int) < 0 := by omega
      obtain ⟨Q, eQ⟩ : ∃ Q : Nat, Q = n / 10 := ⟨_, rfl⟩
      obtain ⟨R, eR⟩ : ∃ R : Nat, R = n % 10 := ⟨_, rfl⟩
      have hR : R < 10 := by omega
      have HQ : Hid (IntKind.i64.wrap ((n : Int) / 10) = (Q : Int)) := by
        have : (n : Int) / 10 = ((n / 10 : Nat) : Int) := rfl
        show _ = _
        rw [this, eQ]; simp [IntKind.wrap, IntKind.bits, IntKind.signed]; omega
      have HR : Hid ((n : Int).tmod 10 = (R : Int)) := by
        have : (n : Int).tmod 10 = ((n % 10 : Nat) : Int) := rfl
        show _ = _
        rw [this, eR]
      have HS : Hid (IntKind.i64.wrap (48 + (R : Int)) = 48 + (R : Int) ∧ IntKind.u8.wrap (48 + (R : Int)) = 48 + (R : Int)) := by
        constructor <;> (simp [IntKind.wrap, IntKind.bits, IntKind.signed]; omega)
      have HZ : Hid (¬ (9223372036854775807 < (decS Q).size + (decB (R : Int)).size)) := by
        have := decS_size (n := Q) (by omega)
        show ¬ _
        rw [decB_size]
        omega
      have HC := fun U => ih Q U (by omega) (by omega)
      have eD : decS n = decS Q ++ decB (R : Int) := by rw [eQ, eR]; exact decS_more h9
      rw [eD]
      clear eD eQ eR h9 ih h hm
      go_enter Tryd.func33, Tryd.ntmps33
      go_upto_region 5 with (fail)
      refine wp_region_inv (by kernel_rfl) [16, 17, 18, 19, 20, 21, 22, 23, 24, 25, 2] (fun L T u => ∃ (A : Nat), Below w.heap.size w u ∧ (L 0 = true → T 16 = .int .i64 (n : Int)) ∧ (L 1 = true → T 17 = .int .i64 (Q : Int)) ∧ (L 2 = true → T 18 = .string (decS Q)) ∧ (L 3 = true → T 19 = .int .i64 (n : Int)) ∧ (L 4 = true → T 20 = .int .i64 (R : Int)) ∧ (L 5 = true → T 21 = .int .i64 (48 + (R : Int))) ∧ (L 6 = true → T 22 = .int .u8 (48 + (R : Int))) ∧ (L 8 = true → T 24 = .string (decB (R : Int))) ∧ (L 9 = true → T 25 = .string (decS Q ++ decB (R : Int))) ∧ (L 10 = true → T 2 = .string (decS Q ++ decB (R : Int))) ∧ (L 7 = true → (T 23 = .slice (some ⟨A, 0, none⟩) 1 1 ∧ w.heap.size ≤ A ∧ A < u.heap.size)) ∧ (L 7 = true → BoxN u A 1 [.int .u8 (48 + (R : Int))])) (by decide) (by kernel_rfl) (by kernel_rfl) ?_ ?_ ?_
      · exact ⟨0, (Below.refl _ _).drew, nofun, nofun, nofun, nofun, nofun, nofun, nofun, nofun, nofun, nofun, nofun, nofun⟩
      · refine ⟨?_, ?_, ?_, ?_, ?_, ?_, ?_, ?_, ?_, ?_, ?_, trivial⟩
        · rintro L T u hd hk hcl ⟨A, hb, p0, p1, p2, p3, p4, p5, p6, p8, p9, p10, pa7, bv7⟩ K hK
          simp only [fr, Act.put, List.setIfInBounds_toArray, List.set_cons_zero, List.set_cons_succ, updO] at hK ⊢
          simp [Region.binds] at hd
          rw [if_pos (by rfl)]
          simp only [Oper.wpv]
          go_simp
          exact hK _ _ ⟨A, hb, fun _ => rfl, p1, p2, p3, p4, p5, p6, p8, p9, p10, pa7, bv7⟩
        · rintro L T u hd hk hcl ⟨A, hb, p0, p1, p2, p3, p4, p5, p6, p8, p9, p10, pa7, bv7⟩ K hK
          simp only [fr, Act.put, List.setIfInBounds_toArray, List.set_cons_zero, List.set_cons_succ, updO] at hK ⊢
          simp [Region.binds] at hd
          have g0 := p0 (by simp [hd])
          have hq := HQ.out
          rw [if_pos (by rfl)]
          simp only [Oper.wpv]
          go_simp
          exact hK _ _ ⟨A, hb, p0, fun _ => rfl, p2, p3, p4, p5, p6, p8, p9, p10, pa7, bv7⟩
        · rintro L T u hd hk hcl ⟨A, hb, p0, p1, p2, p3, p4, p5, p6, p8, p9, p10, pa7, bv7⟩ K hK
          simp only [fr, Act.put, List.setIfInBounds_toArray, List.set_cons_zero, List.set_cons_succ, updO] at hK ⊢
          simp [Region.binds] at hd
          have g1 := p1 (by simp [hd])
          rw [if_pos (by rfl)]
          simp only [Oper.wpv]
          go_simp
          refine (HC u).mono ?_
          rintro e u1 ⟨rfl, hg⟩
          exact hK _ _ ⟨A, nT hb hg, p0, p1, fun _ => rfl, p3, p4, p5, p6, p8, p9, p10, fun h0 => ⟨(pa7 h0).1, (pa7 h0).2.1, Nat.lt_of_lt_of_le (pa7 h0).2.2 hg.size⟩, fun h0 => (bv7 h0).below hg (bv7 h0).lt⟩
        · rintro L T u hd hk hcl ⟨A, hb, p0, p1, p2, p3, p4, p5, p6, p8, p9, p10, pa7, bv7⟩ K hK
          simp only [fr, Act.put, List.setIfInBounds_toArray, List.set_cons_zero, List.set_cons_succ, updO] at hK ⊢
          simp [Region.binds] at hd
          rw [if_pos (by rfl)]
          simp only [Oper.wpv]
          go_simp
          exact hK _ _ ⟨A, hb, p0, p1, p2, fun _ => rfl, p4, p5, p6, p8, p9, p10, pa7, bv7⟩
        · rintro L T u hd hk hcl ⟨A, hb, p0, p1, p2, p3, p4, p5, p6, p8, p9, p10, pa7, bv7⟩ K hK
          simp only [fr, Act.put, List.setIfInBounds_toArray, List.set_cons_zero, List.set_cons_succ, updO] at hK ⊢
          simp [Region.binds] at hd
          have g3 := p3 (by simp [hd])
          have hq := HR.out
          rw [if_pos (by rfl)]
          simp only [Oper.wpv]
          go_simp
          exact hK _ _ ⟨A, hb, p0, p1, p2, p3, fun _ => rfl, p5, p6, p8, p9, p10, pa7, bv7⟩
        · rintro L T u hd hk hcl ⟨A, hb, p0, p1, p2, p3, p4, p5, p6, p8, p9, p10, pa7, bv7⟩ K hK
          simp only [fr, Act.put, List.setIfInBounds_toArray, List.set_cons_zero, List.set_cons_succ, updO] at hK ⊢
          simp [Region.binds] at hd
          have g4 := p4 (by simp [hd])
          have hq := HS.out.1
          rw [if_pos (by rfl)]
          simp only [Oper.wpv]
          go_simp
          exact hK _ _ ⟨A, hb, p0, p1, p2, p3, p4, fun _ => rfl, p6, p8, p9, p10, pa7, bv7⟩
        · rintro L T u hd hk hcl ⟨A, hb, p0, p1, p2, p3, p4, p5, p6, p8, p9, p10, pa7, bv7⟩ K hK
          simp only [fr, Act.put, List.setIfInBounds_toArray, List.set_cons_zero, List.set_cons_succ, updO] at hK ⊢
          simp [Region.binds] at hd
          have g5 := p5 (by simp [hd])
          have hq := HS.out.2
          rw [if_pos (by rfl)]
          simp only [Oper.wpv]
          go_simp
          exact hK _ _ ⟨A, hb, p0, p1, p2, p3, p4, p5, fun _ => rfl, p8, p9, p10, pa7, bv7⟩
        · rintro L T u hd hk hcl ⟨A, hb, p0, p1, p2, p3, p4, p5, p6, p8, p9, p10, pa7, bv7⟩ K hK
          simp only [fr, Act.put, List.setIfInBounds_toArray, List.set_cons_zero, List.set_cons_succ, updO] at hK ⊢
          simp [Region.binds] at hd
          have g6 := p6 (by simp [hd])
          have k8 := hcl 8 _ rfl
          simp [Region.binds] at k8
          have k9 := hcl 9 _ rfl
          simp [Region.binds] at k9
          have k10 := hcl 10 _ rfl
          simp [Region.binds] at k10
          have hg : Below u.heap.size u (u.alloc (.cells #[.int .u8 (48 + (R : Int))] 5)) := (Below.refl _ _).alloc (Nat.le_refl _) _
          rw [if_pos (by rfl)]
          simp only [Oper.wpv]
          go_simp
          exact hK _ _ ⟨u.heap.size, (nT hb hg), p0, p1, p2, p3, p4, p5, p6, fun h => absurd (show L 8 = true from h) (by intro hh; have a8 := k8 hh; simp [hk] at a8), fun h => absurd (show L 9 = true from h) (by intro hh; have a9 := k9 hh; have a8 := k8 (by simp [a9]); simp [hk] at a8), fun h => absurd (show L 10 = true from h) (by intro hh; have a10 := k10 hh; have a9 := k9 (by simp [a10]); have a8 := k8 (by simp [a9]); simp [hk] at a8), fun _ => ⟨rfl, hb.size, by simp⟩, fun _ => boxn_new u #[.int .u8 (48 + (R : Int))] 5 1 rfl⟩
        · rintro L T u hd hk hcl ⟨A, hb, p0, p1, p2, p3, p4, p5, p6, p8, p9, p10, pa7, bv7⟩ K hK
          simp only [fr, Act.put, List.setIfInBounds_toArray, List.set_cons_zero, List.set_cons_succ, updO] at hK ⊢
          simp [Region.binds] at hd
          have g7 := pa7 (by simp [hd])
          have hcv := dec_conv R hR u A (bv7 (by simp [hd]))
          rw [if_pos (by rfl)]
          simp only [Oper.wpv]
          go_simp
          exact hK _ _ ⟨A, hb, p0, p1, p2, p3, p4, p5, p6, fun _ => rfl, p9, p10, pa7, bv7⟩
        · rintro L T u hd hk hcl ⟨A, hb, p0, p1, p2, p3, p4, p5, p6, p8, p9, p10, pa7, bv7⟩ K hK
          simp only [fr, Act.put, List.setIfInBounds_toArray, List.set_cons_zero, List.set_cons_succ, updO] at hK ⊢
          simp [Region.binds] at hd
          have g2 := p2 (by simp [hd])
          have g8 := p8 (by simp [hd])
          have hz := HZ.out
          rw [if_pos (by rfl)]
          simp only [Oper.wpv]
          go_simp
          exact hK _ _ ⟨A, hb, p0, p1, p2, p3, p4, p5, p6, p8, fun _ => rfl, p10, pa7, bv7⟩
        · rintro L T u hd hk hcl ⟨A, hb, p0, p1, p2, p3, p4, p5, p6, p8, p9, p10, pa7, bv7⟩ K hK
          simp only [fr, Act.put, List.setIfInBounds_toArray, List.set_cons_zero, List.set_cons_succ, updO] at hK ⊢
          simp [Region.binds] at hd
          have g9 := p9 (by simp [hd])
          rw [if_pos (by rfl)]
          simp only [Oper.wpv]
          go_simp
          exact hK _ _ ⟨A, hb, p0, p1, p2, p3, p4, p5, p6, p8, p9, fun _ => rfl, pa7, bv7⟩
      · rintro L T u hl ⟨A, hb, p0, p1, p2, p3, p4, p5, p6, p8, p9, p10, pa7, bv7⟩
        simp only [fr, Act.put, List.setIfInBounds_toArray, List.set_cons_zero, List.set_cons_succ]
        have h10 := p10 (hl 10 (by decide))
        clear p0 p1 p2 p3 p4 p5 p6 p8 p9 p10 pa7 bv7 HQ HR HS HC HZ
        rw [h10]
        go_wp2
        go_ret
        exact ⟨rfl, hb⟩
end Go.Proofs.YtgohpgollpjlnaaDoor.Dc
/- The document's plain: a number, as it is written. -/
namespace Go.Proofs.YtgohpgollpjlnaaDoor.Cn
open Go.ChangeShapes Go.WideShapes Go.ChangeAt Go.RowKit
open Go.Proofs.YtgohpgollpjlnaaDoor.St (BoxN boxn_new)
open Go.Proofs.YtgohpgollpjlnaaDoor.Dc (decS dec_ref)
set_option linter.unusedVariables false

def optN (o : Option Int) : Value := .tuple #[.int .i64 (o.getD 0), .bool o.isSome]
def plFin (l : List UInt8) : Option Int → Option Int
  | some n => if Lib.decDigits n.toNat = l then some n else none
  | none => none
theorem plainOf_fin (most : Int) (l : List UInt8) : plainOf most l = plFin l (pl most 0 l) := by
  unfold plainOf plFin
  cases pl most 0 l <;> rfl
theorem str_at (s : ByteArray) (k : Nat) (hk : k < s.size) : ∃ C : Nat, C ≤ 255 ∧ (∀ U : World, (Instr.index 9 (.string s) (.int .i64 (k : Int))).run Tryd.prog U = .ok (.int .u8 (C : Int)) U) ∧ ∃ c : UInt8, c.toNat = C ∧ s.data.toList.drop k = c :: s.data.toList.drop (k + 1) := by
  have hl : k < s.data.toList.length := hk
  refine ⟨(s.data.toList[k]).toNat, ?_, fun U => ?_, s.data.toList[k], rfl, List.drop_eq_getElem_cons hl⟩
  · have := (s.data.toList[k]).toNat_lt; omega
  · rw [run_index_string (P := Tryd.prog) U 9 s .i64 (k : Int) (by kernel_rfl), dif_pos ⟨by omega, by omega⟩]
    rfl
set_option maxRecDepth 100000 in
set_option maxHeartbeats 4000000 in
theorem plain_any (s : ByteArray) (most : Int) (w : World) (hs : s.size ≤ 100) (h0 : 0 ≤ most) (h1 : most ≤ 1048576) :
    Calls Tryd.prog 22 #[.string s, .int .i64 most] w fun e w' => e = .returned (optN (plainOf most s.data.toList)) ∧ Below w.heap.size w w' := by
  obtain ⟨O, eO⟩ : ∃ O, O = plainOf most s.data.toList := ⟨_, rfl⟩
  have HO : Hid (O = plFin s.data.toList (pl most ((0 : Nat) : Int) (s.data.toList.drop 0))) := by show _ = _; rw [eO]; exact plainOf_fin _ _
  rw [← eO]
  clear eO
  go_enter Tryd.func22, Tryd.ntmps22
  go_wp2
  go_loopw [6, 7] (fun s6 s7 wr => ∃ (k n : Nat), s6 = .int .i64 (n : Int) ∧ s7 = .int .i64 (k : Int) ∧ k ≤ s.size ∧ n ≤ 10485769 ∧ Hid (O = plFin s.data.toList (pl most (n : Int) (s.data.toList.drop k))) ∧ Below w.heap.size w wr) (fun _ s7 _ => s.size - (intOf s7).toNat)
  case atStart => exact ⟨0, 0, rfl, rfl, by omega, by omega, HO, Below.refl _ _⟩
  case round =>
    obtain ⟨k, n, rfl, rfl, hk, hn, hP, hb⟩ := hrel
    clear HO
    by_cases hlt : k < s.size
    · have hlt' : (k : Int) < (s.size : Int) := by omega
      obtain ⟨C, hC, hx, c, rfl, hd⟩ := str_at s k hlt
      have HP2 : Hid (O = plFin s.data.toList (if (c.toNat < 48 ∨ 57 < c.toNat) ∨ most < (n : Int) then none else pl most (10 * (n : Int) + ((c.toNat : Int) - 48)) (s.data.toList.drop (k + 1)))) := by show _ = _; rw [hP.out, hd, pl]
      obtain ⟨C, eC⟩ : ∃ C, C = c.toNat := ⟨_, rfl⟩
      rw [← eC] at hx HP2 hC
      clear hP hd eC
      by_cases c1 : (C : Int) < 48
      · have HE : Hid (O = none) := by show _ = _; rw [HP2.out, if_pos (by omega)]; rfl
        clear HP2
        go_wp2
        go_ret2
        exact ⟨by rw [HE.out]; rfl, hb⟩
      · by_cases c2 : (57 : Int) < (C : Int)
        · have HE : Hid (O = none) := by show _ = _; rw [HP2.out, if_pos (by omega)]; rfl
          clear HP2
          go_wp2
          go_ret2
          exact ⟨by rw [HE.out]; rfl, hb⟩
        · by_cases c3 : most < (n : Int)
          · have HE : Hid (O = none) := by show _ = _; rw [HP2.out, if_pos (by omega)]; rfl
            clear HP2
            go_wp2
            go_ret2
            exact ⟨by rw [HE.out]; rfl, hb⟩
          · have HE : Hid (O = plFin s.data.toList (pl most ((10 * n + (C - 48) : Nat) : Int) (s.data.toList.drop (k + 1)))) := by
              show _ = _
              rw [HP2.out, if_neg (by omega), show ((10 * n + (C - 48) : Nat) : Int) = 10 * (n : Int) + ((C : Int) - 48) by omega]
            have w1 : IntKind.i64.wrap (10 * (n : Int)) = 10 * (n : Int) := by simp [IntKind.wrap, IntKind.bits, IntKind.signed]; omega
            have w2 : IntKind.u8.wrap ((C : Int) - 48) = (C : Int) - 48 := by simp [IntKind.wrap, IntKind.bits, IntKind.signed]; omega
            have w3 : IntKind.i64.wrap ((C : Int) - 48) = (C : Int) - 48 := by simp [IntKind.wrap, IntKind.bits, IntKind.signed]; omega
            have w4 : IntKind.i64.wrap (10 * (n : Int) + ((C : Int) - 48)) = 10 * (n : Int) + ((C : Int) - 48) := by simp [IntKind.wrap, IntKind.bits, IntKind.signed]; omega
            clear HP2
            go_wp2
            go_roundw
            case rel => exact ⟨k + 1, 10 * n + (C - 48), by congr 1; omega, by go_num, by omega, by omega, HE, hb⟩
            case measure => simp [intOf]; omega
    · obtain rfl : k = s.size := by omega
      have hnl : ¬ ((s.size : Int) < (s.size : Int)) := by omega
      have HP2 : Hid (O = plFin s.data.toList (if most < (n : Int) then none else some (n : Int))) := by
        show _ = _
        rw [hP.out, List.drop_eq_nil_of_le (show s.data.toList.length ≤ s.size from Nat.le_refl _), pl]
      clear hP
      by_cases c3 : most < (n : Int)
      · have HE : Hid (O = none) := by show _ = _; rw [HP2.out, if_pos c3]; rfl
        clear HP2
        go_wp2
        go_ret2
        exact ⟨by rw [HE.out]; rfl, hb⟩
      · have hD := dec_ref n n wr (Nat.le_refl _) (by omega)
        have HE : Hid (O = if (decS n).toList == s.toList then some (n : Int) else none) := by
          show _ = _
          rw [HP2.out, if_neg c3]
          show (if Lib.decDigits ((n : Int).toNat) = s.data.toList then some (n : Int) else none) = _
          rw [Go.ByteArray.toList_eq, Go.ByteArray.toList_eq, Int.toNat_natCast]
          have : (decS n).data.toList = Lib.decDigits n := by simp [decS]
          rw [this]
          simp
        obtain ⟨D, eD⟩ : ∃ D, D = ((decS n).toList == s.toList) := ⟨_, rfl⟩
        rw [← eD] at HE
        clear HP2
        go_wp2_with (go_at_call 33; refine hD.mono ?_; rintro e U2 ⟨rfl, bU2⟩)
        · rename_i hq
          rw [← eD] at hq
          have hD2 : D = false := by cases D; rfl; cases hq
          go_ret2
          exact ⟨by rw [HE.out, hD2]; rfl, hb.trans (bU2.mono hb.size)⟩
        · rename_i hq
          rw [← eD] at hq
          have hD2 : D = true := by cases D; cases hq; rfl
          go_ret2
          exact ⟨by rw [HE.out, hD2]; rfl, hb.trans (bU2.mono hb.size)⟩
end Go.Proofs.YtgohpgollpjlnaaDoor.Cn
