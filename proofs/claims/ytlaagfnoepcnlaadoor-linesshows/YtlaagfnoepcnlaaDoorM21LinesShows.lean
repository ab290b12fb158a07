/- Texts of this claim, one behind the other. -/
import Derived.Test.YtlaagfnoepcnlaaDoorM20LinesShows
import Derived.Test.YtlaagfnoepcnlaaDoorM13LinesShows
import Derived.Test.YtlaagfnoepcnlaaDoorM14LinesShows
import Derived.Deep.Cut
import Derived.Lib.ItoaLen
import Derived.Deep.DeepCutAuto
import Derived.Test.YtlaagfnoepcnlaaDoorM19LinesShows
/- What dec of a number that is not negative answers: its digits. -/
namespace Go.Proofs.YtlaagfnoepcnlaaDoor.Dc
open Go.ChangeShapes Go.WideShapes Go.ChangeAt Go.RowKit
open Go.Proofs.YtlaagfnoepcnlaaDoor.St (BoxN boxn_new)
set_option linter.unusedVariables false

theorem nT {u v z : World} (h : Below u.heap.size u v) (k : Below v.heap.size v z) : Below u.heap.size u z := h.trans (k.mono h.size)
def decS (n : Nat) : ByteArray := ⟨(Lib.decDigits n).toArray⟩
theorem decS_one {n : Nat} (h : n < 10) : decS n = decB (n : Int) := by
  unfold decS decB
  rw [Lib.decDigits_one h]
  have : (48 + (n : Int)).toNat = 48 + n := by omega
  rw [this]
theorem decS_more {n : Nat} (h : ¬ n < 10) : decS n = decS (n / 10) ++ decB ((n % 10 : Nat) : Int) := by
  unfold decS decB
  rw [Lib.decDigits, dif_neg h]
  have : (48 + ((n % 10 : Nat) : Int)).toNat = 48 + n % 10 := by omega
  rw [this]
  apply ByteArray.ext
  simp
theorem decS_size {n : Nat} (h : n ≤ 9223372036854775807) : (decS n).size ≤ 20 := by
  show (Lib.decDigits n).toArray.size ≤ 20
  rw [List.size_toArray, Lib.decDigits_length]
  exact Lib.nDigits_le20 n (by omega)
theorem dec_conv (R : Nat) (hR : R < 10) (U : World) (A : Nat) (b : BoxN U A 1 [.int .u8 (48 + (R : Int))]) :
    (convert 52 9 (.slice (some ⟨A, 0, none⟩) 1 1)).run Tryd.prog U = .ok (.string (decB (R : Int))) U := by
  have hu : (UInt8.ofNat (48 + (R : Int)).toNat).toNat = (48 + (R : Int)).toNat := by
    rw [UInt8.toNat_ofNat']
    omega
  exact run_convert_bytes_back (P := Tryd.prog) _ 52 9 5 ⟨A, 0, none⟩ 1 [UInt8.ofNat (48 + (R : Int)).toNat] Tryd.underlying52 Tryd.underlying5 Tryd.underlying9 (fun j hj => by
      obtain rfl : j = 0 := by simp at hj; omega
      have e : ((⟨A, 0, none⟩ : Addr).add 0) = ⟨A, 0, none⟩ := rfl
      rw [e]
      simp only [List.getElem_cons_zero, hu]
      have e2 : (((48 + (R : Int)).toNat : Nat) : Int) = 48 + (R : Int) := by omega
      rw [e2]
      exact (b.c 0 (by decide)).1)
set_option maxHeartbeats 4000000 in
theorem dec_all : ∀ (k n : Nat) (w : World), n ≤ k → n ≤ 9223372036854775807 → Calls Tryd.prog 62 #[.int .i64 (n : Int)] w fun e w' => e = .returned (.string (decS n)) ∧ Below w.heap.size w w' := by
  intro k
  induction k with
  | zero =>
    intro n w h hm
    obtain rfl : n = 0 := by omega
    rw [decS_one (by omega)]
    exact dec_any ((0 : Nat) : Int) w (by omega) (by omega)
  | succ k ih =>
    intro n w h hm
    by_cases h9 : n < 10
    · rw [decS_one h9]
      exact dec_any (n : Int) w (by omega) (by omega)
    · have hlt : ¬ (n : Int) < 10 := by omega
      obtain ⟨Q, eQ⟩ : ∃ Q : Nat, Q = n / 10 := ⟨_, rfl⟩
      obtain ⟨R, eR⟩ : ∃ R : Nat, R = n % 10 := ⟨_, rfl⟩
      have hR : R < 10 := by omega
      have HQ : Hid (IntKind.i64.wrap ((n : Int) / 10) = (Q : Int)) := by
        have : (n : Int) / 10 = ((n / 10 : Nat) : Int) := rfl
        show _ = _
        rw [this, eQ]; simp [IntKind.wrap, IntKind.bits, IntKind.signed]; omega
      have HR : Hid ((n : Int).tmod 10 = (R : Int)) := by
        have : (n : Int).tmod 10 = ((n % 10 : Nat) : Int) := rfl
        show _ = _
        rw [this, eR]
      have HS : Hid (IntKind.i64.wrap (48 + (R : Int)) = 48 + (R : Int) ∧ IntKind.u8.wrap (48 + (R : Int)) = 48 + (R : Int)) := by
        constructor <;> (simp [IntKind.wrap, IntKind.bits, IntKind.signed]; omega)
      have HZ : Hid (¬ (9223372036854775807 < (decS Q).size + (decB (R : Int)).size)) := by
        have := decS_size (n := Q) (by omega)
        show ¬ _
        rw [decB_size]
        omega
      have HC := fun U => ih Q U (by omega) (by omega)
      have eD : decS n = decS Q ++ decB (R : Int) := by rw [eQ, eR]; exact decS_more h9
      rw [eD]
      clear eD eQ eR h9 ih h hm
      go_enter Tryd.func62, Tryd.ntmps62
      go_upto_region 3 with (fail)
      refine wp_region_inv (by kernel_rfl) [10, 11, 12, 13, 14, 15, 16, 17, 18, 19, 2] (fun L T u => ∃ (A : Nat), Below w.heap.size w u ∧ (L 0 = true → T 10 = .int .i64 (n : Int)) ∧ (L 1 = true → T 11 = .int .i64 (Q : Int)) ∧ (L 2 = true → T 12 = .string (decS Q)) ∧ (L 3 = true → T 13 = .int .i64 (n : Int)) ∧ (L 4 = true → T 14 = .int .i64 (R : Int)) ∧ (L 5 = true → T 15 = .int .i64 (48 + (R : Int))) ∧ (L 6 = true → T 16 = .int .u8 (48 + (R : Int))) ∧ (L 8 = true → T 18 = .string (decB (R : Int))) ∧ (L 9 = true → T 19 = .string (decS Q ++ decB (R : Int))) ∧ (L 10 = true → T 2 = .string (decS Q ++ decB (R : Int))) ∧ (L 7 = true → (T 17 = .slice (some ⟨A, 0, none⟩) 1 1 ∧ w.heap.size ≤ A ∧ A < u.heap.size)) ∧ (L 7 = true → BoxN u A 1 [.int .u8 (48 + (R : Int))])) (by decide) (by kernel_rfl) (by kernel_rfl) ?_ ?_ ?_
      · exact ⟨0, (Below.refl _ _).drew, nofun, nofun, nofun, nofun, nofun, nofun, nofun, nofun, nofun, nofun, nofun, nofun⟩
      · refine ⟨?_, ?_, ?_, ?_, ?_, ?_, ?_, ?_, ?_, ?_, ?_, trivial⟩
        · rintro L T u hd hk hcl ⟨A, hb, p0, p1, p2, p3, p4, p5, p6, p8, p9, p10, pa7, bv7⟩ K hK
          simp only [fr, Act.put, List.setIfInBounds_toArray, List.set_cons_zero, List.set_cons_succ, updO] at hK ⊢
          simp [Region.binds] at hd
          rw [if_pos (by rfl)]
          simp only [Oper.wpv]
          go_simp
          exact hK _ _ ⟨A, hb, fun _ => rfl, p1, p2, p3, p4, p5, p6, p8, p9, p10, pa7, bv7⟩
        · rintro L T u hd hk hcl ⟨A, hb, p0, p1, p2, p3, p4, p5, p6, p8, p9, p10, pa7, bv7⟩ K hK
          simp only [fr, Act.put, List.setIfInBounds_toArray, List.set_cons_zero, List.set_cons_succ, updO] at hK ⊢
          simp [Region.binds] at hd
          have g0 := p0 (by simp [hd])
          have hq := HQ.out
          rw [if_pos (by rfl)]
          simp only [Oper.wpv]
          go_simp
          exact hK _ _ ⟨A, hb, p0, fun _ => rfl, p2, p3, p4, p5, p6, p8, p9, p10, pa7, bv7⟩
        · rintro L T u hd hk hcl ⟨A, hb, p0, p1, p2, p3, p4, p5, p6, p8, p9, p10, pa7, bv7⟩ K hK
          simp only [fr, Act.put, List.setIfInBounds_toArray, List.set_cons_zero, List.set_cons_succ, updO] at hK ⊢
          simp [Region.binds] at hd
          have g1 := p1 (by simp [hd])
          rw [if_pos (by rfl)]
          simp only [Oper.wpv]
          go_simp
          refine (HC u).mono ?_
          rintro e u1 ⟨rfl, hg⟩
          exact hK _ _ ⟨A, nT hb hg, p0, p1, fun _ => rfl, p3, p4, p5, p6, p8, p9, p10, fun h0 => ⟨(pa7 h0).1, (pa7 h0).2.1, Nat.lt_of_lt_of_le (pa7 h0).2.2 hg.size⟩, fun h0 => (bv7 h0).below hg (bv7 h0).lt⟩
        · rintro L T u hd hk hcl ⟨A, hb, p0, p1, p2, p3, p4, p5, p6, p8, p9, p10, pa7, bv7⟩ K hK
          simp only [fr, Act.put, List.setIfInBounds_toArray, List.set_cons_zero, List.set_cons_succ, updO] at hK ⊢
          simp [Region.binds] at hd
          rw [if_pos (by rfl)]
          simp only [Oper.wpv]
          go_simp
          exact hK _ _ ⟨A, hb, p0, p1, p2, fun _ => rfl, p4, p5, p6, p8, p9, p10, pa7, bv7⟩
        · rintro L T u hd hk hcl ⟨A, hb, p0, p1, p2, p3, p4, p5, p6, p8, p9, p10, pa7, bv7⟩ K hK
          simp only [fr, Act.put, List.setIfInBounds_toArray, List.set_cons_zero, List.set_cons_succ, updO] at hK ⊢
          simp [Region.binds] at hd
          have g3 := p3 (by simp [hd])
          have hq := HR.out
          rw [if_pos (by rfl)]
          simp only [Oper.wpv]
          go_simp
          exact hK _ _ ⟨A, hb, p0, p1, p2, p3, fun _ => rfl, p5, p6, p8, p9, p10, pa7, bv7⟩
        · rintro L T u hd hk hcl ⟨A, hb, p0, p1, p2, p3, p4, p5, p6, p8, p9, p10, pa7, bv7⟩ K hK
          simp only [fr, Act.put, List.setIfInBounds_toArray, List.set_cons_zero, List.set_cons_succ, updO] at hK ⊢
          simp [Region.binds] at hd
          have g4 := p4 (by simp [hd])
          have hq := HS.out.1
          rw [if_pos (by rfl)]
          simp only [Oper.wpv]
          go_simp
          exact hK _ _ ⟨A, hb, p0, p1, p2, p3, p4, fun _ => rfl, p6, p8, p9, p10, pa7, bv7⟩
        · rintro L T u hd hk hcl ⟨A, hb, p0, p1, p2, p3, p4, p5, p6, p8, p9, p10, pa7, bv7⟩ K hK
          simp only [fr, Act.put, List.setIfInBounds_toArray, List.set_cons_zero, List.set_cons_succ, updO] at hK ⊢
          simp [Region.binds] at hd
          have g5 := p5 (by simp [hd])
          have hq := HS.out.2
          rw [if_pos (by rfl)]
          simp only [Oper.wpv]
          go_simp
          exact hK _ _ ⟨A, hb, p0, p1, p2, p3, p4, p5, fun _ => rfl, p8, p9, p10, pa7, bv7⟩
        · rintro L T u hd hk hcl ⟨A, hb, p0, p1, p2, p3, p4, p5, p6, p8, p9, p10, pa7, bv7⟩ K hK
          simp only [fr, Act.put, List.setIfInBounds_toArray, List.set_cons_zero, List.set_cons_succ, updO] at hK ⊢
          simp [Region.binds] at hd
          have g6 := p6 (by simp [hd])
          have k8 := hcl 8 _ rfl
          simp [Region.binds] at k8
          have k9 := hcl 9 _ rfl
          simp [Region.binds] at k9
          have k10 := hcl 10 _ rfl
          simp [Region.binds] at k10
          have hg : Below u.heap.size u (u.alloc (.cells #[.int .u8 (48 + (R : Int))] 5)) := (Below.refl _ _).alloc (Nat.le_refl _) _
          rw [if_pos (by rfl)]
          simp only [Oper.wpv]
          go_simp
          exact hK _ _ ⟨u.heap.size, (nT hb hg), p0, p1, p2, p3, p4, p5, p6, fun h => absurd (show L 8 = true from h) (by intro hh; have a8 := k8 hh; simp [hk] at a8), fun h => absurd (show L 9 = true from h) (by intro hh; have a9 := k9 hh; have a8 := k8 (by simp [a9]); simp [hk] at a8), fun h => absurd (show L 10 = true from h) (by intro hh; have a10 := k10 hh; have a9 := k9 (by simp [a10]); have a8 := k8 (by simp [a9]); simp [hk] at a8), fun _ => ⟨rfl, hb.size, by simp⟩, fun _ => boxn_new u #[.int .u8 (48 + (R : Int))] 5 1 rfl⟩
        · rintro L T u hd hk hcl ⟨A, hb, p0, p1, p2, p3, p4, p5, p6, p8, p9, p10, pa7, bv7⟩ K hK
          simp only [fr, Act.put, List.setIfInBounds_toArray, List.set_cons_zero, List.set_cons_succ, updO] at hK ⊢
          simp [Region.binds] at hd
          have g7 := pa7 (by simp [hd])
          have hcv := dec_conv R hR u A (bv7 (by simp [hd]))
          rw [if_pos (by rfl)]
          simp only [Oper.wpv]
          go_simp
          exact hK _ _ ⟨A, hb, p0, p1, p2, p3, p4, p5, p6, fun _ => rfl, p9, p10, pa7, bv7⟩
        · rintro L T u hd hk hcl ⟨A, hb, p0, p1, p2, p3, p4, p5, p6, p8, p9, p10, pa7, bv7⟩ K hK
          simp only [fr, Act.put, List.setIfInBounds_toArray, List.set_cons_zero, List.set_cons_succ, updO] at hK ⊢
          simp [Region.binds] at hd
          have g2 := p2 (by simp [hd])
          have g8 := p8 (by simp [hd])
          have hz := HZ.out
          rw [if_pos (by rfl)]
          simp only [Oper.wpv]
          go_simp
          exact hK _ _ ⟨A, hb, p0, p1, p2, p3, p4, p5, p6, p8, fun _ => rfl, p10, pa7, bv7⟩
        · rintro L T u hd hk hcl ⟨A, hb, p0, p1, p2, p3, p4, p5, p6, p8, p9, p10, pa7, bv7⟩ K hK
          simp only [fr, Act.put, List.setIfInBounds_toArray, List.set_cons_zero, List.set_cons_succ, updO] at hK ⊢
          simp [Region.binds] at hd
          have g9 := p9 (by simp [hd])
          rw [if_pos (by rfl)]
          simp only [Oper.wpv]
          go_simp
          exact hK _ _ ⟨A, hb, p0, p1, p2, p3, p4, p5, p6, p8, p9, fun _ => rfl, pa7, bv7⟩
      · rintro L T u hl ⟨A, hb, p0, p1, p2, p3, p4, p5, p6, p8, p9, p10, pa7, bv7⟩
        simp only [fr, Act.put, List.setIfInBounds_toArray, List.set_cons_zero, List.set_cons_succ]
        have h10 := p10 (hl 10 (by decide))
        clear p0 p1 p2 p3 p4 p5 p6 p8 p9 p10 pa7 bv7 HQ HR HS HC HZ
        rw [h10]
        go_wp2
        go_ret
        exact ⟨rfl, hb⟩
end Go.Proofs.YtlaagfnoepcnlaaDoor.Dc
/- What the document's Dec of a number that is not negative answers: its digits. -/
namespace Go.Proofs.YtlaagfnoepcnlaaDoor.Dc
open Go.ChangeShapes Go.WideShapes Go.ChangeAt Go.RowKit
open Go.Proofs.YtlaagfnoepcnlaaDoor.St (BoxN boxn_new)
set_option linter.unusedVariables false

theorem dec_ref1 (n : Nat) (w : World) (h9 : n < 10) :
    Calls Tryd.prog 72 #[.int .i64 (n : Int)] w fun e w' => e = .returned (.string (decS n)) ∧ Below w.heap.size w w' := by
  have hlt : (n : Int) < 10 := by omega
  have hn0 : ¬ (n : Int) < 0 := by omega
  have hS : IntKind.i64.wrap (48 + (n : Int)) = 48 + (n : Int) ∧ IntKind.u8.wrap (48 + (n : Int)) = 48 + (n : Int) := by
    constructor <;> (simp [IntKind.wrap, IntKind.bits, IntKind.signed]; omega)
  have hcv := dec_conv n h9 (w.alloc (.cells #[.int .u8 (48 + (n : Int))] 5)) w.heap.size (boxn_new w #[.int .u8 (48 + (n : Int))] 5 1 rfl)
  rw [decS_one h9]
  go_enter Tryd.func72, Tryd.ntmps72
  go_wp2
  go_ret
  exact ⟨rfl, (Below.refl _ _).alloc (Nat.le_refl _) _⟩
set_option maxHeartbeats 4000000 in
theorem dec_ref : ∀ (k n : Nat) (w : World), n ≤ k → n ≤ 9223372036854775807 → Calls Tryd.prog 72 #[.int .i64 (n : Int)] w fun e w' => e = .returned (.string (decS n)) ∧ Below w.heap.size w w' := by
  intro k
  induction k with
  | zero =>
    intro n w h hm
    obtain rfl : n = 0 := by omega
    exact dec_ref1 0 w (by omega)
  | succ k ih =>
    intro n w h hm
    by_cases h9 : n < 10
    · exact dec_ref1 n w h9
    · have hlt : ¬ (n : Int) < 10 := by omega
      have hn0 : ¬ (n : Int) < 0 := by omega
      obtain ⟨Q, eQ⟩ : ∃ Q : Nat, Q = n / 10 := ⟨_, rfl⟩
      obtain ⟨R, eR⟩ : ∃ R : Nat, R = n % 10 := ⟨_, rfl⟩
      have hR : R < 10 := by omega
      have HQ : Hid (IntKind.i64.wrap ((n : Int) / 10) = (Q : Int)) := by
        have : (n : Int) / 10 = ((n / 10 : Nat) : Int) := rfl
        show _ = _
        rw [this, eQ]; simp [IntKind.wrap, IntKind.bits, IntKind.signed]; omega
      have HR : Hid ((n : Int).tmod 10 = (R : Int)) := by
        have : (n : Int).tmod 10 = ((n % 10 : Nat) : Int) := rfl
        show _ = _
        rw [this, eR]
      have HS : Hid (IntKind.i64.wrap (48 + (R : Int)) = 48 + (R : Int) ∧ IntKind.u8.wrap (48 + (R : Int)) = 48 + (R : Int)) := by
        constructor <;> (simp [IntKind.wrap, IntKind.bits, IntKind.signed]; omega)
      have HZ : Hid (¬ (9223372036854775807 < (decS Q).size + (decB (R : Int)).size)) := by
        have := decS_size (n := Q) (by omega)
        show ¬ _
        rw [decB_size]
        omega
      have HC := fun U => ih Q U (by omega) (by omega)
      have eD : decS n = decS Q ++ decB (R : Int) := by rw [eQ, eR]; exact decS_more h9
      rw [eD]
      clear eD eQ eR h9 ih h hm
      go_enter Tryd.func72, Tryd.ntmps72
      go_upto_region 5 with (fail)
      refine wp_region_inv (by kernel_rfl) [16, 17, 18, 19, 20, 21, 22, 23, 24, 25, 2] (fun L T u => ∃ (A : Nat), Below w.heap.size w u ∧ (L 0 = true → T 16 = .int .i64 (n : Int)) ∧ (L 1 = true → T 17 = .int .i64 (Q : Int)) ∧ (L 2 = true → T 18 = .string (decS Q)) ∧ (L 3 = true → T 19 = .int .i64 (n : Int)) ∧ (L 4 = true → T 20 = .int .i64 (R : Int)) ∧ (L 5 = true → T 21 = .int .i64 (48 + (R : Int))) ∧ (L 6 = true → T 22 = .int .u8 (48 + (R : Int))) ∧ (L 8 = true → T 24 = .string (decB (R : Int))) ∧ (L 9 = true → T 25 = .string (decS Q ++ decB (R : Int))) ∧ (L 10 = true → T 2 = .string (decS Q ++ decB (R : Int))) ∧ (L 7 = true → (T 23 = .slice (some ⟨A, 0, none⟩) 1 1 ∧ w.heap.size ≤ A ∧ A < u.heap.size)) ∧ (L 7 = true → BoxN u A 1 [.int .u8 (48 + (R : Int))])) (by decide) (by kernel_rfl) (by kernel_rfl) ?_ ?_ ?_
      · exact ⟨0, (Below.refl _ _).drew, nofun, nofun, nofun, nofun, nofun, nofun, nofun, nofun, nofun, nofun, nofun, nofun⟩
      · refine ⟨?_, ?_, ?_, ?_, ?_, ?_, ?_, ?_, ?_, ?_, ?_, trivial⟩
        · rintro L T u hd hk hcl ⟨A, hb, p0, p1, p2, p3, p4, p5, p6, p8, p9, p10, pa7, bv7⟩ K hK
          simp only [fr, Act.put, List.setIfInBounds_toArray, List.set_cons_zero, List.set_cons_succ, updO] at hK ⊢
          simp [Region.binds] at hd
          rw [if_pos (by rfl)]
          simp only [Oper.wpv]
          go_simp
          exact hK _ _ ⟨A, hb, fun _ => rfl, p1, p2, p3, p4, p5, p6, p8, p9, p10, pa7, bv7⟩
        · rintro L T u hd hk hcl ⟨A, hb, p0, p1, p2, p3, p4, p5, p6, p8, p9, p10, pa7, bv7⟩ K hK
          simp only [fr, Act.put, List.setIfInBounds_toArray, List.set_cons_zero, List.set_cons_succ, updO] at hK ⊢
          simp [Region.binds] at hd
          have g0 := p0 (by simp [hd])
          have hq := HQ.out
          rw [if_pos (by rfl)]
          simp only [Oper.wpv]
          go_simp
          exact hK _ _ ⟨A, hb, p0, fun _ => rfl, p2, p3, p4, p5, p6, p8, p9, p10, pa7, bv7⟩
        · rintro L T u hd hk hcl ⟨A, hb, p0, p1, p2, p3, p4, p5, p6, p8, p9, p10, pa7, bv7⟩ K hK
          simp only [fr, Act.put, List.setIfInBounds_toArray, List.set_cons_zero, List.set_cons_succ, updO] at hK ⊢
          simp [Region.binds] at hd
          have g1 := p1 (by simp [hd])
          rw [if_pos (by rfl)]
          simp only [Oper.wpv]
          go_simp
          refine (HC u).mono ?_
          rintro e u1 ⟨rfl, hg⟩
          exact hK _ _ ⟨A, nT hb hg, p0, p1, fun _ => rfl, p3, p4, p5, p6, p8, p9, p10, fun h0 => ⟨(pa7 h0).1, (pa7 h0).2.1, Nat.lt_of_lt_of_le (pa7 h0).2.2 hg.size⟩, fun h0 => (bv7 h0).below hg (bv7 h0).lt⟩
        · rintro L T u hd hk hcl ⟨A, hb, p0, p1, p2, p3, p4, p5, p6, p8, p9, p10, pa7, bv7⟩ K hK
          simp only [fr, Act.put, List.setIfInBounds_toArray, List.set_cons_zero, List.set_cons_succ, updO] at hK ⊢
          simp [Region.binds] at hd
          rw [if_pos (by rfl)]
          simp only [Oper.wpv]
          go_simp
          exact hK _ _ ⟨A, hb, p0, p1, p2, fun _ => rfl, p4, p5, p6, p8, p9, p10, pa7, bv7⟩
        · rintro L T u hd hk hcl ⟨A, hb, p0, p1, p2, p3, p4, p5, p6, p8, p9, p10, pa7, bv7⟩ K hK
          simp only [fr, Act.put, List.setIfInBounds_toArray, List.set_cons_zero, List.set_cons_succ, updO] at hK ⊢
          simp [Region.binds] at hd
          have g3 := p3 (by simp [hd])
          have hq := HR.out
          rw [if_pos (by rfl)]
          simp only [Oper.wpv]
          go_simp
          exact hK _ _ ⟨A, hb, p0, p1, p2, p3, fun _ => rfl, p5, p6, p8, p9, p10, pa7, bv7⟩
        · rintro L T u hd hk hcl ⟨A, hb, p0, p1, p2, p3, p4, p5, p6, p8, p9, p10, pa7, bv7⟩ K hK
          simp only [fr, Act.put, List.setIfInBounds_toArray, List.set_cons_zero, List.set_cons_succ, updO] at hK ⊢
          simp [Region.binds] at hd
          have g4 := p4 (by simp [hd])
          have hq := HS.out.1
          rw [if_pos (by rfl)]
          simp only [Oper.wpv]
          go_simp
          exact hK _ _ ⟨A, hb, p0, p1, p2, p3, p4, fun _ => rfl, p6, p8, p9, p10, pa7, bv7⟩
        · rintro L T u hd hk hcl ⟨A, hb, p0, p1, p2, p3, p4, p5, p6, p8, p9, p10, pa7, bv7⟩ K hK
          simp only [fr, Act.put, List.setIfInBounds_toArray, List.set_cons_zero, List.set_cons_succ, updO] at hK ⊢
          simp [Region.binds] at hd
          have g5 := p5 (by simp [hd])
          have hq := HS.out.2
          rw [if_pos (by rfl)]
          simp only [Oper.wpv]
          go_simp
          exact hK _ _ ⟨A, hb, p0, p1, p2, p3, p4, p5, fun _ => rfl, p8, p9, p10, pa7, bv7⟩
        · rintro L T u hd hk hcl ⟨A, hb, p0, p1, p2, p3, p4, p5, p6, p8, p9, p10, pa7, bv7⟩ K hK
          simp only [fr, Act.put, List.setIfInBounds_toArray, List.set_cons_zero, List.set_cons_succ, updO] at hK ⊢
          simp [Region.binds] at hd
          have g6 := p6 (by simp [hd])
          have k8 := hcl 8 _ rfl
          simp [Region.binds] at k8
          have k9 := hcl 9 _ rfl
          simp [Region.binds] at k9
          have k10 := hcl 10 _ rfl
          simp [Region.binds] at k10
          have hg : Below u.heap.size u (u.alloc (.cells #[.int .u8 (48 + (R : Int))] 5)) := (Below.refl _ _).alloc (Nat.le_refl _) _
          rw [if_pos (by rfl)]
          simp only [Oper.wpv]
          go_simp
          exact hK _ _ ⟨u.heap.size, (nT hb hg), p0, p1, p2, p3, p4, p5, p6, fun h => absurd (show L 8 = true from h) (by intro hh; have a8 := k8 hh; simp [hk] at a8), fun h => absurd (show L 9 = true from h) (by intro hh; have a9 := k9 hh; have a8 := k8 (by simp [a9]); simp [hk] at a8), fun h => absurd (show L 10 = true from h) (by intro hh; have a10 := k10 hh; have a9 := k9 (by simp [a10]); have a8 := k8 (by simp [a9]); simp [hk] at a8), fun _ => ⟨rfl, hb.size, by simp⟩, fun _ => boxn_new u #[.int .u8 (48 + (R : Int))] 5 1 rfl⟩
        · rintro L T u hd hk hcl ⟨A, hb, p0, p1, p2, p3, p4, p5, p6, p8, p9, p10, pa7, bv7⟩ K hK
          simp only [fr, Act.put, List.setIfInBounds_toArray, List.set_cons_zero, List.set_cons_succ, updO] at hK ⊢
          simp [Region.binds] at hd
          have g7 := pa7 (by simp [hd])
          have hcv := dec_conv R hR u A (bv7 (by simp [hd]))
          rw [if_pos (by rfl)]
          simp only [Oper.wpv]
          go_simp
          exact hK _ _ ⟨A, hb, p0, p1, p2, p3, p4, p5, p6, fun _ => rfl, p9, p10, pa7, bv7⟩
        · rintro L T u hd hk hcl ⟨A, hb, p0, p1, p2, p3, p4, p5, p6, p8, p9, p10, pa7, bv7⟩ K hK
          simp only [fr, Act.put, List.setIfInBounds_toArray, List.set_cons_zero, List.set_cons_succ, updO] at hK ⊢
          simp [Region.binds] at hd
          have g2 := p2 (by simp [hd])
          have g8 := p8 (by simp [hd])
          have hz := HZ.out
          rw [if_pos (by rfl)]
          simp only [Oper.wpv]
          go_simp
          exact hK _ _ ⟨A, hb, p0, p1, p2, p3, p4, p5, p6, p8, fun _ => rfl, p10, pa7, bv7⟩
        · rintro L T u hd hk hcl ⟨A, hb, p0, p1, p2, p3, p4, p5, p6, p8, p9, p10, pa7, bv7⟩ K hK
          simp only [fr, Act.put, List.setIfInBounds_toArray, List.set_cons_zero, List.set_cons_succ, updO] at hK ⊢
          simp [Region.binds] at hd
          have g9 := p9 (by simp [hd])
          rw [if_pos (by rfl)]
          simp only [Oper.wpv]
          go_simp
          exact hK _ _ ⟨A, hb, p0, p1, p2, p3, p4, p5, p6, p8, p9, fun _ => rfl, pa7, bv7⟩
      · rintro L T u hl ⟨A, hb, p0, p1, p2, p3, p4, p5, p6, p8, p9, p10, pa7, bv7⟩
        simp only [fr, Act.put, List.setIfInBounds_toArray, List.set_cons_zero, List.set_cons_succ]
        have h10 := p10 (hl 10 (by decide))
        clear p0 p1 p2 p3 p4 p5 p6 p8 p9 p10 pa7 bv7 HQ HR HS HC HZ
        rw [h10]
        go_wp2
        go_ret
        exact ⟨rfl, hb⟩
end Go.Proofs.YtlaagfnoepcnlaaDoor.Dc
/- The document's hexDigit, blanked, actWords and callWords. -/
namespace Go.Proofs.YtlaagfnoepcnlaaDoor.Ln
open Go.ChangeShapes Go.WideShapes Go.ChangeAt Go.RowKit
open Go.Proofs.YtlaagfnoepcnlaaDoor.St (BoxN boxn_new own_below IsRow Elem flat flat_append own_isRow)
open Go.Proofs.YtlaagfnoepcnlaaDoor.Dc (decS dec_ref decS_size)
set_option linter.unusedVariables false

theorem hexRef_any (n : Nat) (w : World) (h : n < 16) : Calls Tryd.prog 55 #[.int .i64 (n : Int)] w fun e w' => e = .returned (.int .u8 ((hexD n).toNat : Int)) ∧ Below w.heap.size w w' := by
  by_cases h10 : n < 10
  · have hlt : (n : Int) < 10 := by omega
    have w1 : IntKind.i64.wrap (48 + (n : Int)) = 48 + (n : Int) := by simp [IntKind.wrap, IntKind.bits, IntKind.signed]; omega
    have w2 : IntKind.u8.wrap (48 + (n : Int)) = 48 + (n : Int) := by simp [IntKind.wrap, IntKind.bits, IntKind.signed]; omega
    have hD : ((hexD n).toNat : Int) = 48 + (n : Int) := by unfold hexD; rw [if_pos h10]; simp; omega
    rw [hD]
    clear hD
    go_enter Tryd.func55, Tryd.ntmps55
    go_wp2
    go_ret
    exact ⟨rfl, Below.refl _ _⟩
  · have hlt : ¬ (n : Int) < 10 := by omega
    have w1 : IntKind.i64.wrap (97 + (n : Int)) = 97 + (n : Int) := by simp [IntKind.wrap, IntKind.bits, IntKind.signed]; omega
    have w3 : IntKind.i64.wrap (97 + (n : Int) - 10) = 97 + (n : Int) - 10 := by simp [IntKind.wrap, IntKind.bits, IntKind.signed]; omega
    have w2 : IntKind.u8.wrap (97 + (n : Int) - 10) = 97 + (n : Int) - 10 := by simp [IntKind.wrap, IntKind.bits, IntKind.signed]; omega
    have hD : ((hexD n).toNat : Int) = 97 + (n : Int) - 10 := by unfold hexD; rw [if_neg h10]; simp; omega
    rw [hD]
    clear hD
    go_enter Tryd.func55, Tryd.ntmps55
    go_wp2
    go_ret
    exact ⟨rfl, Below.refl _ _⟩
/-- Numbers, each behind a blank. -/
def blankL : List Int → List UInt8
  | [] => []
  | z :: r => 32 :: Lib.itoa z ++ blankL r
def blankS (l : List Int) : ByteArray := ⟨(blankL l).toArray⟩
theorem blankL_snoc (l : List Int) (z : Int) : blankL (l ++ [z]) = blankL l ++ 32 :: Lib.itoa z := by
  induction l with
  | nil => simp [blankL]
  | cons x r ih => simp [blankL, ih]
theorem blankL_app (l m : List Int) : blankL (l ++ m) = blankL l ++ blankL m := by
  induction l with
  | nil => simp [blankL]
  | cons x r ih => simp [blankL, ih]
set_option maxHeartbeats 4000000 in
theorem blanked_any (a : Option Addr) (n c : Nat) (zs : List Int) (w : World) (hn : n ≤ 10) (hl : zs.length = n) (hz : ∀ z ∈ zs, 0 ≤ z ∧ z ≤ 9223372036854775807)
    (hc : 0 < n → ∃ b off, a = some ⟨b, off, none⟩ ∧ b < w.heap.size ∧ ∀ i, i < n → w.cell? ⟨b, off + i, none⟩ = some (.int .i64 (zs.getD i 0))) :
    Calls Tryd.prog 53 #[.slice a n c] w fun e w' => e = .returned (.string (blankS zs)) ∧ Below w.heap.size w w' := by
  have HZ : Hid (∀ z ∈ zs, 0 ≤ z ∧ z ≤ 9223372036854775807) := hz
  have HC : Hid (0 < n → ∃ b off, a = some ⟨b, off, none⟩ ∧ b < w.heap.size ∧ ∀ i, i < n → w.cell? ⟨b, off + i, none⟩ = some (.int .i64 (zs.getD i 0))) := hc
  have HT0 : Hid ((⟨#[]⟩ : ByteArray).data.toList = blankL (zs.take 0)) := by show _ = _; simp [blankL]
  clear hz hc
  go_enter Tryd.func53, Tryd.ntmps53
  go_wp2
  go_loopw [3, 4] (fun s3 s4 wr => ∃ (k : Nat) (T : ByteArray), s3 = .string T ∧ s4 = .int .i64 (k : Int) ∧ k ≤ n ∧ T.size ≤ 30 * k ∧ Hid (T.data.toList = blankL (zs.take k)) ∧ Below w.heap.size w wr) (fun _ s4 _ => n - (intOf s4).toNat)
  case atStart => exact ⟨0, ⟨#[]⟩, rfl, rfl, by omega, (show (0 : Nat) ≤ 30 * 0 by omega), HT0, Below.refl _ _⟩
  case round =>
    clear HT0
    obtain ⟨k, T, rfl, rfl, hk, hT, hE, hb⟩ := hrel
    by_cases hlt : k < n
    · have hlt' : (k : Int) < (n : Int) := by omega
      have HJ : Hid (k + 1 ≤ n) := hlt
      obtain ⟨b, off, rfl, zb, hcl⟩ := HC.out (by omega)
      have c0 := (hb.cell (p := ⟨b, off + k, none⟩) zb).trans (hcl k hlt)
      have zb2 : b < wr.heap.size := Nat.lt_of_lt_of_le zb hb.size
      have hzk := HZ.out (zs.getD k 0) (by rw [List.getD, List.getElem?_eq_getElem (by omega)]; exact List.getElem_mem _)
      have htk : zs.take (k + 1) = zs.take k ++ [zs.getD k 0] := by
        rw [List.take_succ_eq_append_getElem (by omega : k < zs.length)]
        simp [List.getD, show k < zs.length by omega]
      obtain ⟨z, ez⟩ : ∃ z, z = zs.getD k 0 := ⟨_, rfl⟩
      rw [← ez] at c0 hzk htk
      clear ez hcl
      obtain ⟨m, rfl⟩ : ∃ m : Nat, z = m := ⟨z.toNat, by omega⟩
      have hm : m ≤ 9223372036854775807 := by omega
      have hD := dec_ref m m wr (Nat.le_refl _) hm
      have hds := decS_size hm
      obtain ⟨T1, t1⟩ : ∃ x : ByteArray, T ++ ⟨#[32]⟩ = x := ⟨_, rfl⟩
      have s1 : T1.size = T.size + 1 := by rw [← t1, ByteArray.size_append]; rfl
      obtain ⟨T2, t2⟩ : ∃ x : ByteArray, T1 ++ decS m = x := ⟨_, rfl⟩
      have s2 : T2.size = T1.size + (decS m).size := by rw [← t2, ByteArray.size_append]
      have z1 : ¬ (9223372036854775807 < T.size + 1) := by omega
      have z2 : ¬ (9223372036854775807 < T1.size + (decS m).size) := by omega
      have hE2 : Hid (T2.data.toList = blankL (zs.take (k + 1))) := by
        show _ = _
        rw [htk, blankL_snoc, ← hE.out, ← t2, ← t1, Lib.itoa_nonneg]
        simp [decS]
      have hs2 : T2.size ≤ 30 * (k + 1) := by omega
      clear hE htk hzk s1 s2 hds
      go_wp2_with (go_at_call 72; refine hD.mono ?_; rintro e u ⟨rfl, bu⟩)
      go_roundw
      case rel => exact ⟨k + 1, T2, rfl, by go_num, HJ.out, hs2, hE2, hb.trans (bu.mono hb.size)⟩
      case measure => have := HJ.out; simp [intOf]; omega
    · obtain rfl : k = n := by omega
      have hnl : ¬ ((k : Int) < (k : Int)) := by omega
      have hF : Hid (T = blankS zs) := by
        show _ = _
        have h := hE.out
        rw [List.take_of_length_le (by omega)] at h
        apply ByteArray.ext
        rw [← Array.toList_inj, h]
        simp [blankS]
      clear hE
      go_wp2
      go_ret
      exact ⟨by rw [← hF.out]; rfl, hb⟩
theorem awRef_any (w : World) : Calls Tryd.prog 52 #[] w fun e w' => ∃ b, e = .returned (.slice (some ⟨b, 0, none⟩) 9 9) ∧ (b < w'.heap.size ∧ ∀ i, i < 9 → w'.cell? ⟨b, i, none⟩ = some (.string (aWord i))) ∧ Below w.heap.size w w' := by
  have b0 : Below w.heap.size w (w.alloc (.cells #[.string ⟨#[]⟩, .string (aWord 1), .string (aWord 2), .string (aWord 3), .string (aWord 4), .string (aWord 5), .string (aWord 6), .string (aWord 7), .string (aWord 8)] 9)) := (Below.refl _ _).alloc (Nat.le_refl _) _
  have bx := boxn_new w #[.string ⟨#[]⟩, .string (aWord 1), .string (aWord 2), .string (aWord 3), .string (aWord 4), .string (aWord 5), .string (aWord 6), .string (aWord 7), .string (aWord 8)] 9 9 rfl
  have HF : Hid ((w.heap.size < (w.alloc (.cells #[.string ⟨#[]⟩, .string (aWord 1), .string (aWord 2), .string (aWord 3), .string (aWord 4), .string (aWord 5), .string (aWord 6), .string (aWord 7), .string (aWord 8)] 9)).heap.size ∧ ∀ i, i < 9 → (w.alloc (.cells #[.string ⟨#[]⟩, .string (aWord 1), .string (aWord 2), .string (aWord 3), .string (aWord 4), .string (aWord 5), .string (aWord 6), .string (aWord 7), .string (aWord 8)] 9)).cell? ⟨w.heap.size, i, none⟩ = some (.string (aWord i))) ∧ Below w.heap.size w (w.alloc (.cells #[.string ⟨#[]⟩, .string (aWord 1), .string (aWord 2), .string (aWord 3), .string (aWord 4), .string (aWord 5), .string (aWord 6), .string (aWord 7), .string (aWord 8)] 9))) := ⟨⟨bx.lt, fun i hi => by
    rw [(bx.c i hi).1]
    rcases (by omega : i = 0 ∨ i = 1 ∨ i = 2 ∨ i = 3 ∨ i = 4 ∨ i = 5 ∨ i = 6 ∨ i = 7 ∨ i = 8) with rfl | rfl | rfl | rfl | rfl | rfl | rfl | rfl | rfl <;> rfl⟩, b0⟩
  clear b0 bx
  go_enter Tryd.func52, Tryd.ntmps52
  go_wp2
  go_ret
  exact ⟨_, rfl, HF.out.1, HF.out.2⟩
theorem cwRef_any (w : World) : Calls Tryd.prog 54 #[] w fun e w' => ∃ b, e = .returned (.slice (some ⟨b, 0, none⟩) 6 6) ∧ (b < w'.heap.size ∧ ∀ i, i < 6 → w'.cell? ⟨b, i, none⟩ = some (.string (cWord i))) ∧ Below w.heap.size w w' := by
  have b0 : Below w.heap.size w (w.alloc (.cells #[.string ⟨#[]⟩, .string (cWord 1), .string (cWord 2), .string (cWord 3), .string (cWord 4), .string (cWord 5)] 9)) := (Below.refl _ _).alloc (Nat.le_refl _) _
  have bx := boxn_new w #[.string ⟨#[]⟩, .string (cWord 1), .string (cWord 2), .string (cWord 3), .string (cWord 4), .string (cWord 5)] 9 6 rfl
  have HF : Hid ((w.heap.size < (w.alloc (.cells #[.string ⟨#[]⟩, .string (cWord 1), .string (cWord 2), .string (cWord 3), .string (cWord 4), .string (cWord 5)] 9)).heap.size ∧ ∀ i, i < 6 → (w.alloc (.cells #[.string ⟨#[]⟩, .string (cWord 1), .string (cWord 2), .string (cWord 3), .string (cWord 4), .string (cWord 5)] 9)).cell? ⟨w.heap.size, i, none⟩ = some (.string (cWord i))) ∧ Below w.heap.size w (w.alloc (.cells #[.string ⟨#[]⟩, .string (cWord 1), .string (cWord 2), .string (cWord 3), .string (cWord 4), .string (cWord 5)] 9))) := ⟨⟨bx.lt, fun i hi => by
    rw [(bx.c i hi).1]
    rcases (by omega : i = 0 ∨ i = 1 ∨ i = 2 ∨ i = 3 ∨ i = 4 ∨ i = 5) with rfl | rfl | rfl | rfl | rfl | rfl <;> rfl⟩, b0⟩
  clear b0 bx
  go_enter Tryd.func54, Tryd.ntmps54
  go_wp2
  go_ret
  exact ⟨_, rfl, HF.out.1, HF.out.2⟩
end Go.Proofs.YtlaagfnoepcnlaaDoor.Ln
