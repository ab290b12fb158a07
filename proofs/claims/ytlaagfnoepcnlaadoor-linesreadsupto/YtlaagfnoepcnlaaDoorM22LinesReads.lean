/- Texts of this claim, one behind the other. -/
import Derived.Test.YtlaagfnoepcnlaaDoorM21LinesReads
import Derived.Laws.IdiomStrings
import Derived.Laws.Concat
import Derived.Deep.QuietTactic
import Derived.BigQuiet
import Derived.Lib.QuietBelow
import Derived.Test.YtlaagfnoepcnlaaDoorM17LinesReads
import Derived.Test.YtlaagfnoepcnlaaDoorM7LinesReads
import Derived.Test.YtlaagfnoepcnlaaDoorM8LinesReads
import Derived.Deep.Cut
import Derived.Lib.ItoaLen
import Derived.Deep.DeepCutAuto
/- Contracts of picked (once more), dec at a digit, ask and typed: some numbers, some text; what was in memory stays. -/
namespace Go.Proofs.YtlaagfnoepcnlaaDoor
open Go.ChangeShapes Go.WideShapes Go.ChangeAt Go.RowKit
set_option linter.unusedVariables false

def decB (n : Int) : ByteArray := ⟨#[UInt8.ofNat (48 + n).toNat]⟩
theorem decB_size (n : Int) : (decB n).size = 1 := rfl

theorem dec_any (n : Int) (w : World) (h0 : 0 ≤ n) (h9 : n ≤ 9) :
    Calls Tryd.prog 62 #[.int .i64 n] w fun e w' => e = .returned (.string (decB n)) ∧ Below w.heap.size w w' := by
  have hlt : n < 10 := by omega
  have hu : (UInt8.ofNat (48 + n).toNat).toNat = (48 + n).toNat := by
    rw [UInt8.toNat_ofNat']
    omega
  have hcv : (convert 52 9 (.slice (some ⟨w.heap.size, 0, none⟩) 1 1)).run Tryd.prog (w.alloc (.cells #[.int .u8 (48 + n)] 5)) = .ok (.string (decB n)) (w.alloc (.cells #[.int .u8 (48 + n)] 5)) :=
    run_convert_bytes_back (P := Tryd.prog) _ 52 9 5 ⟨w.heap.size, 0, none⟩ 1 [UInt8.ofNat (48 + n).toNat] Tryd.underlying52 Tryd.underlying5 Tryd.underlying9 (fun j hj => by
      obtain rfl : j = 0 := by simp at hj; omega
      have e : ((⟨w.heap.size, 0, none⟩ : Addr).add 0) = ⟨w.heap.size, 0, none⟩ := rfl
      rw [e]
      simp only [List.getElem_cons_zero, hu]
      have e2 : (((48 + n).toNat : Nat) : Int) = 48 + n := by omega
      rw [e2]
      go_simp)
  go_enter Tryd.func62, Tryd.ntmps62
  go_wp2
  go_ret
  exact ⟨rfl, (Below.refl _ _).alloc (Nat.le_refl _) _⟩

theorem picked_below (n m : Int) (w : World) (hn : -9223372036854775808 ≤ n ∧ n ≤ 9223372036854775807) (hm : 0 < m) (hm2 : m ≤ 9223372036854775807) :
    Calls Tryd.prog 18 #[.int .i64 n, .int .i64 m] w fun e w' => e = .returned (.int .i64 (pk n m)) ∧ Below w.heap.size w w' :=
  (picked_any n m w hn hm hm2).mono fun _ _ ⟨he, hw⟩ => ⟨he, hw ▸ Below.refl _ _⟩
end Go.Proofs.YtlaagfnoepcnlaaDoor
/- What dec of a number that is not negative answers: its digits. -/
namespace Go.Proofs.YtlaagfnoepcnlaaDoor.Dc
open Go.ChangeShapes Go.WideShapes Go.ChangeAt Go.RowKit
open Go.Proofs.YtlaagfnoepcnlaaDoor.St (BoxN boxn_new)
set_option linter.unusedVariables false

theorem nT {u v z : World} (h : Below u.heap.size u v) (k : Below v.heap.size v z) : Below u.heap.size u z := h.trans (k.mono h.size)
def decS (n : Nat) : ByteArray := ⟨(Lib.decDigits n).toArray⟩
theorem decS_one {n : Nat} (h : n < 10) : decS n = decB (n : Int) := by
  unfold decS decB
  rw [Lib.decDigits_one h]
  have : (48 + (n : Int)).toNat = 48 + n := by omega
  rw [this]
theorem decS_more {n : Nat} (h : ¬ n < 10) : decS n = decS (n / 10) ++ decB ((n % 10 : Nat) : Int) := by
  unfold decS decB
  rw [Lib.decDigits, dif_neg h]
  have : (48 + ((n % 10 : Nat) : Int)).toNat = 48 + n % 10 := by omega
  rw [this]
  apply ByteArray.ext
  simp
theorem decS_size {n : Nat} (h : n ≤ 9223372036854775807) : (decS n).size ≤ 20 := by
  show (Lib.decDigits n).toArray.size ≤ 20
  rw [List.size_toArray, Lib.decDigits_length]
  exact Lib.nDigits_le20 n (by omega)
theorem dec_conv (R : Nat) (hR : R < 10) (U : World) (A : Nat) (b : BoxN U A 1 [.int .u8 (48 + (R : Int))]) :
    (convert 52 9 (.slice (some ⟨A, 0, none⟩) 1 1)).run Tryd.prog U = .ok (.string (decB (R : Int))) U := by
  have hu : (UInt8.ofNat (48 + (R : Int)).toNat).toNat = (48 + (R : Int)).toNat := by
    rw [UInt8.toNat_ofNat']
    omega
  exact run_convert_bytes_back (P := Tryd.prog) _ 52 9 5 ⟨A, 0, none⟩ 1 [UInt8.ofNat (48 + (R : Int)).toNat] Tryd.underlying52 Tryd.underlying5 Tryd.underlying9 (fun j hj => by
      obtain rfl : j = 0 := by simp at hj; omega
      have e : ((⟨A, 0, none⟩ : Addr).add 0) = ⟨A, 0, none⟩ := rfl
      rw [e]
      simp only [List.getElem_cons_zero, hu]
      have e2 : (((48 + (R : Int)).toNat : Nat) : Int) = 48 + (R : Int) := by omega
      rw [e2]
      exact (b.c 0 (by decide)).1)
set_option maxHeartbeats 4000000 in
theorem dec_all : ∀ (k n : Nat) (w : World), n ≤ k → n ≤ 9223372036854775807 → Calls Tryd.prog 62 #[.int .i64 (n : Int)] w fun e w' => e = .returned (.string (decS n)) ∧ Below w.heap.size w w' := by
  intro k
  induction k with
  | zero =>
    intro n w h hm
    obtain rfl : n = 0 := by omega
    rw [decS_one (by omega)]
    exact dec_any ((0 : Nat) : Int) w (by omega) (by omega)
  | succ k ih =>
    intro n w h hm
    by_cases h9 : n < 10
    · rw [decS_one h9]
      exact dec_any (n : Int) w (by omega) (by omega)
    · have hlt : ¬ (n : Int) < 10 := by omega
      obtain ⟨Q, eQ⟩ : ∃ Q : Nat, Q = n / 10 := ⟨_, rfl⟩
      obtain ⟨R, eR⟩ : ∃ R : Nat, R = n % 10 := ⟨_, rfl⟩
      have hR : R < 10 := by omega
      have HQ : Hid (IntKind.i64.wrap ((n : Int) / 10) = (Q : Int)) := by
        have : (n : Int) / 10 = ((n / 10 : Nat) : Int) := rfl
        show _ = _
        rw [this, eQ]; simp [IntKind.wrap, IntKind.bits, IntKind.signed]; omega
      have HR : Hid ((n : Int).tmod 10 = (R : Int)) := by
        have : (n : Int).tmod 10 = ((n % 10 : Nat) : Int) := rfl
        show _ = _
        rw [this, eR]
      have HS : Hid (IntKind.i64.wrap (48 + (R : Int)) = 48 + (R : Int) ∧ IntKind.u8.wrap (48 + (R : Int)) = 48 + (R : Int)) := by
        constructor <;> (simp [IntKind.wrap, IntKind.bits, IntKind.signed]; omega)
      have HZ : Hid (¬ (9223372036854775807 < (decS Q).size + (decB (R : Int)).size)) := by
        have := decS_size (n := Q) (by omega)
        show ¬ _
        rw [decB_size]
        omega
      have HC := fun U => ih Q U (by omega) (by omega)
      have eD : decS n = decS Q ++ decB (R : Int) := by rw [eQ, eR]; exact decS_more h9
      rw [eD]
      clear eD eQ eR h9 ih h hm
      go_enter Tryd.func62, Tryd.ntmps62
      go_upto_region 3 with (fail)
      refine wp_region_inv (by kernel_rfl) [10, 11, 12, 13, 14, 15, 16, 17, 18, 19, 2] (fun L T u => ∃ (A : Nat), Below w.heap.size w u ∧ (L 0 = true → T 10 = .int .i64 (n : Int)) ∧ (L 1 = true → T 11 = .int .i64 (Q : Int)) ∧ (L 2 = true → T 12 = .string (decS Q)) ∧ (L 3 = true → T 13 = .int .i64 (n : Int)) ∧ (L 4 = true → T 14 = .int .i64 (R : Int)) ∧ (L 5 = true → T 15 = .int .i64 (48 + (R : Int))) ∧ (L 6 = true → T 16 = .int .u8 (48 + (R : Int))) ∧ (L 8 = true → T 18 = .string (decB (R : Int))) ∧ (L 9 = true → T 19 = .string (decS Q ++ decB (R : Int))) ∧ (L 10 = true → T 2 = .string (decS Q ++ decB (R : Int))) ∧ (L 7 = true → (T 17 = .slice (some ⟨A, 0, none⟩) 1 1 ∧ w.heap.size ≤ A ∧ A < u.heap.size)) ∧ (L 7 = true → BoxN u A 1 [.int .u8 (48 + (R : Int))])) (by decide) (by kernel_rfl) (by kernel_rfl) ?_ ?_ ?_
      · exact ⟨0, (Below.refl _ _).drew, nofun, nofun, nofun, nofun, nofun, nofun, nofun, nofun, nofun, nofun, nofun, nofun⟩
      · refine ⟨?_, ?_, ?_, ?_, ?_, ?_, ?_, ?_, ?_, ?_, ?_, trivial⟩
        · rintro L T u hd hk hcl ⟨A, hb, p0, p1, p2, p3, p4, p5, p6, p8, p9, p10, pa7, bv7⟩ K hK
          simp only [fr, Act.put, List.setIfInBounds_toArray, List.set_cons_zero, List.set_cons_succ, updO] at hK ⊢
          simp [Region.binds] at hd
          rw [if_pos (by rfl)]
          simp only [Oper.wpv]
          go_simp
          exact hK _ _ ⟨A, hb, fun _ => rfl, p1, p2, p3, p4, p5, p6, p8, p9, p10, pa7, bv7⟩
        · rintro L T u hd hk hcl ⟨A, hb, p0, p1, p2, p3, p4, p5, p6, p8, p9, p10, pa7, bv7⟩ K hK
          simp only [fr, Act.put, List.setIfInBounds_toArray, List.set_cons_zero, List.set_cons_succ, updO] at hK ⊢
          simp [Region.binds] at hd
          have g0 := p0 (by simp [hd])
          have hq := HQ.out
          rw [if_pos (by rfl)]
          simp only [Oper.wpv]
          go_simp
          exact hK _ _ ⟨A, hb, p0, fun _ => rfl, p2, p3, p4, p5, p6, p8, p9, p10, pa7, bv7⟩
        · rintro L T u hd hk hcl ⟨A, hb, p0, p1, p2, p3, p4, p5, p6, p8, p9, p10, pa7, bv7⟩ K hK
          simp only [fr, Act.put, List.setIfInBounds_toArray, List.set_cons_zero, List.set_cons_succ, updO] at hK ⊢
          simp [Region.binds] at hd
          have g1 := p1 (by simp [hd])
          rw [if_pos (by rfl)]
          simp only [Oper.wpv]
          go_simp
          refine (HC u).mono ?_
          rintro e u1 ⟨rfl, hg⟩
          exact hK _ _ ⟨A, nT hb hg, p0, p1, fun _ => rfl, p3, p4, p5, p6, p8, p9, p10, fun h0 => ⟨(pa7 h0).1, (pa7 h0).2.1, Nat.lt_of_lt_of_le (pa7 h0).2.2 hg.size⟩, fun h0 => (bv7 h0).below hg (bv7 h0).lt⟩
        · rintro L T u hd hk hcl ⟨A, hb, p0, p1, p2, p3, p4, p5, p6, p8, p9, p10, pa7, bv7⟩ K hK
          simp only [fr, Act.put, List.setIfInBounds_toArray, List.set_cons_zero, List.set_cons_succ, updO] at hK ⊢
          simp [Region.binds] at hd
          rw [if_pos (by rfl)]
          simp only [Oper.wpv]
          go_simp
          exact hK _ _ ⟨A, hb, p0, p1, p2, fun _ => rfl, p4, p5, p6, p8, p9, p10, pa7, bv7⟩
        · rintro L T u hd hk hcl ⟨A, hb, p0, p1, p2, p3, p4, p5, p6, p8, p9, p10, pa7, bv7⟩ K hK
          simp only [fr, Act.put, List.setIfInBounds_toArray, List.set_cons_zero, List.set_cons_succ, updO] at hK ⊢
          simp [Region.binds] at hd
          have g3 := p3 (by simp [hd])
          have hq := HR.out
          rw [if_pos (by rfl)]
          simp only [Oper.wpv]
          go_simp
          exact hK _ _ ⟨A, hb, p0, p1, p2, p3, fun _ => rfl, p5, p6, p8, p9, p10, pa7, bv7⟩
        · rintro L T u hd hk hcl ⟨A, hb, p0, p1, p2, p3, p4, p5, p6, p8, p9, p10, pa7, bv7⟩ K hK
          simp only [fr, Act.put, List.setIfInBounds_toArray, List.set_cons_zero, List.set_cons_succ, updO] at hK ⊢
          simp [Region.binds] at hd
          have g4 := p4 (by simp [hd])
          have hq := HS.out.1
          rw [if_pos (by rfl)]
          simp only [Oper.wpv]
          go_simp
          exact hK _ _ ⟨A, hb, p0, p1, p2, p3, p4, fun _ => rfl, p6, p8, p9, p10, pa7, bv7⟩
        · rintro L T u hd hk hcl ⟨A, hb, p0, p1, p2, p3, p4, p5, p6, p8, p9, p10, pa7, bv7⟩ K hK
          simp only [fr, Act.put, List.setIfInBounds_toArray, List.set_cons_zero, List.set_cons_succ, updO] at hK ⊢
          simp [Region.binds] at hd
          have g5 := p5 (by simp [hd])
          have hq := HS.out.2
          rw [if_pos (by rfl)]
          simp only [Oper.wpv]
          go_simp
          exact hK _ _ ⟨A, hb, p0, p1, p2, p3, p4, p5, fun _ => rfl, p8, p9, p10, pa7, bv7⟩
        · rintro L T u hd hk hcl ⟨A, hb, p0, p1, p2, p3, p4, p5, p6, p8, p9, p10, pa7, bv7⟩ K hK
          simp only [fr, Act.put, List.setIfInBounds_toArray, List.set_cons_zero, List.set_cons_succ, updO] at hK ⊢
          simp [Region.binds] at hd
          have g6 := p6 (by simp [hd])
          have k8 := hcl 8 _ rfl
          simp [Region.binds] at k8
          have k9 := hcl 9 _ rfl
          simp [Region.binds] at k9
          have k10 := hcl 10 _ rfl
          simp [Region.binds] at k10
          have hg : Below u.heap.size u (u.alloc (.cells #[.int .u8 (48 + (R : Int))] 5)) := (Below.refl _ _).alloc (Nat.le_refl _) _
          rw [if_pos (by rfl)]
          simp only [Oper.wpv]
          go_simp
          exact hK _ _ ⟨u.heap.size, (nT hb hg), p0, p1, p2, p3, p4, p5, p6, fun h => absurd (show L 8 = true from h) (by intro hh; have a8 := k8 hh; simp [hk] at a8), fun h => absurd (show L 9 = true from h) (by intro hh; have a9 := k9 hh; have a8 := k8 (by simp [a9]); simp [hk] at a8), fun h => absurd (show L 10 = true from h) (by intro hh; have a10 := k10 hh; have a9 := k9 (by simp [a10]); have a8 := k8 (by simp [a9]); simp [hk] at a8), fun _ => ⟨rfl, hb.size, by simp⟩, fun _ => boxn_new u #[.int .u8 (48 + (R : Int))] 5 1 rfl⟩
        · rintro L T u hd hk hcl ⟨A, hb, p0, p1, p2, p3, p4, p5, p6, p8, p9, p10, pa7, bv7⟩ K hK
          simp only [fr, Act.put, List.setIfInBounds_toArray, List.set_cons_zero, List.set_cons_succ, updO] at hK ⊢
          simp [Region.binds] at hd
          have g7 := pa7 (by simp [hd])
          have hcv := dec_conv R hR u A (bv7 (by simp [hd]))
          rw [if_pos (by rfl)]
          simp only [Oper.wpv]
          go_simp
          exact hK _ _ ⟨A, hb, p0, p1, p2, p3, p4, p5, p6, fun _ => rfl, p9, p10, pa7, bv7⟩
        · rintro L T u hd hk hcl ⟨A, hb, p0, p1, p2, p3, p4, p5, p6, p8, p9, p10, pa7, bv7⟩ K hK
          simp only [fr, Act.put, List.setIfInBounds_toArray, List.set_cons_zero, List.set_cons_succ, updO] at hK ⊢
          simp [Region.binds] at hd
          have g2 := p2 (by simp [hd])
          have g8 := p8 (by simp [hd])
          have hz := HZ.out
          rw [if_pos (by rfl)]
          simp only [Oper.wpv]
          go_simp
          exact hK _ _ ⟨A, hb, p0, p1, p2, p3, p4, p5, p6, p8, fun _ => rfl, p10, pa7, bv7⟩
        · rintro L T u hd hk hcl ⟨A, hb, p0, p1, p2, p3, p4, p5, p6, p8, p9, p10, pa7, bv7⟩ K hK
          simp only [fr, Act.put, List.setIfInBounds_toArray, List.set_cons_zero, List.set_cons_succ, updO] at hK ⊢
          simp [Region.binds] at hd
          have g9 := p9 (by simp [hd])
          rw [if_pos (by rfl)]
          simp only [Oper.wpv]
          go_simp
          exact hK _ _ ⟨A, hb, p0, p1, p2, p3, p4, p5, p6, p8, p9, fun _ => rfl, pa7, bv7⟩
      · rintro L T u hl ⟨A, hb, p0, p1, p2, p3, p4, p5, p6, p8, p9, p10, pa7, bv7⟩
        simp only [fr, Act.put, List.setIfInBounds_toArray, List.set_cons_zero, List.set_cons_succ]
        have h10 := p10 (hl 10 (by decide))
        clear p0 p1 p2 p3 p4 p5 p6 p8 p9 p10 pa7 bv7 HQ HR HS HC HZ
        rw [h10]
        go_wp2
        go_ret
        exact ⟨rfl, hb⟩
end Go.Proofs.YtlaagfnoepcnlaaDoor.Dc
/- What the document's Dec of a number that is not negative answers: its digits. -/
namespace Go.Proofs.YtlaagfnoepcnlaaDoor.Dc
open Go.ChangeShapes Go.WideShapes Go.ChangeAt Go.RowKit
open Go.Proofs.YtlaagfnoepcnlaaDoor.St (BoxN boxn_new)
set_option linter.unusedVariables false

theorem dec_ref1 (n : Nat) (w : World) (h9 : n < 10) :
    Calls Tryd.prog 72 #[.int .i64 (n : Int)] w fun e w' => e = .returned (.string (decS n)) ∧ Below w.heap.size w w' := by
  have hlt : (n : Int) < 10 := by omega
  have hn0 : ¬ (n : Int) < 0 := by omega
  have hS : IntKind.i64.wrap (48 + (n : Int)) = 48 + (n : Int) ∧ IntKind.u8.wrap (48 + (n : Int)) = 48 + (n : Int) := by
    constructor <;> (simp [IntKind.wrap, IntKind.bits, IntKind.signed]; omega)
  have hcv := dec_conv n h9 (w.alloc (.cells #[.int .u8 (48 + (n : Int))] 5)) w.heap.size (boxn_new w #[.int .u8 (48 + (n : Int))] 5 1 rfl)
  rw [decS_one h9]
  go_enter Tryd.func72, Tryd.ntmps72
  go_wp2
  go_ret
  exact ⟨rfl, (Below.refl _ _).alloc (Nat.le_refl _) _⟩
set_option maxHeartbeats 4000000 in
theorem dec_ref : ∀ (k n : Nat) (w : World), n ≤ k → n ≤ 9223372036854775807 → Calls Tryd.prog 72 #[.int .i64 (n : Int)] w fun e w' => e = .returned (.string (decS n)) ∧ Below w.heap.size w w' := by
  intro k
  induction k with
  | zero =>
    intro n w h hm
    obtain rfl : n = 0 := by omega
    exact dec_ref1 0 w (by omega)
  | succ k ih =>
    intro n w h hm
    by_cases h9 : n < 10
    · exact dec_ref1 n w h9
    · have hlt : ¬ (n : Int) < 10 := by omega
      have hn0 : ¬ (n : Int) < 0 := by omega
      obtain ⟨Q, eQ⟩ : ∃ Q : Nat, Q = n / 10 := ⟨_, rfl⟩
      obtain ⟨R, eR⟩ : ∃ R : Nat, R = n % 10 := ⟨_, rfl⟩
      have hR : R < 10 := by omega
      have HQ : Hid (IntKind.i64.wrap ((n : Int) / 10) = (Q : Int)) := by
        have : (n : Int) / 10 = ((n / 10 : Nat) : Int) := rfl
        show _ = _
        rw [this, eQ]; simp [IntKind.wrap, IntKind.bits, IntKind.signed]; omega
      have HR : Hid ((n : Int).tmod 10 = (R : Int)) := by
        have : (n : Int).tmod 10 = ((n % 10 : Nat) : Int) := rfl
        show _ = _
        rw [this, eR]
      have HS : Hid (IntKind.i64.wrap (48 + (R : Int)) = 48 + (R : Int) ∧ IntKind.u8.wrap (48 + (R : Int)) = 48 + (R : Int)) := by
        constructor <;> (simp [IntKind.wrap, IntKind.bits, IntKind.signed]; omega)
      have HZ : Hid (¬ (9223372036854775807 < (decS Q).size + (decB (R : Int)).size)) := by
        have := decS_size (n := Q) (by omega)
        show ¬ _
        rw [decB_size]
        omega
      have HC := fun U => ih Q U (by omega) (by omega)
      have eD : decS n = decS Q ++ decB (R : Int) := by rw [eQ, eR]; exact decS_more h9
      rw [eD]
      clear eD eQ eR h9 ih h hm
      go_enter Tryd.func72, Tryd.ntmps72
      go_upto_region 5 with (fail)
      refine wp_region_inv (by kernel_rfl) [16, 17, 18, 19, 20, 21, 22, 23, 24, 25, 2] (fun L T u => ∃ (A : Nat), Below w.heap.size w u ∧ (L 0 = true → T 16 = .int .i64 (n : Int)) ∧ (L 1 = true → T 17 = .int .i64 (Q : Int)) ∧ (L 2 = true → T 18 = .string (decS Q)) ∧ (L 3 = true → T 19 = .int .i64 (n : Int)) ∧ (L 4 = true → T 20 = .int .i64 (R : Int)) ∧ (L 5 = true → T 21 = .int .i64 (48 + (R : Int))) ∧ (L 6 = true → T 22 = .int .u8 (48 + (R : Int))) ∧ (L 8 = true → T 24 = .string (decB (R : Int))) ∧ (L 9 = true → T 25 = .string (decS Q ++ decB (R : Int))) ∧ (L 10 = true → T 2 = .string (decS Q ++ decB (R : Int))) ∧ (L 7 = true → (T 23 = .slice (some ⟨A, 0, none⟩) 1 1 ∧ w.heap.size ≤ A ∧ A < u.heap.size)) ∧ (L 7 = true → BoxN u A 1 [.int .u8 (48 + (R : Int))])) (by decide) (by kernel_rfl) (by kernel_rfl) ?_ ?_ ?_
      · exact ⟨0, (Below.refl _ _).drew, nofun, nofun, nofun, nofun, nofun, nofun, nofun, nofun, nofun, nofun, nofun, nofun⟩
      · refine ⟨?_, ?_, ?_, ?_, ?_, ?_, ?_, ?_, ?_, ?_, ?_, trivial⟩
        · rintro L T u hd hk hcl ⟨A, hb, p0, p1, p2, p3, p4, p5, p6, p8, p9, p10, pa7, bv7⟩ K hK
          simp only [fr, Act.put, List.setIfInBounds_toArray, List.set_cons_zero, List.set_cons_succ, updO] at hK ⊢
          simp [Region.binds] at hd
          rw [if_pos (by rfl)]
          simp only [Oper.wpv]
          go_simp
          exact hK _ _ ⟨A, hb, fun _ => rfl, p1, p2, p3, p4, p5, p6, p8, p9, p10, pa7, bv7⟩
        · rintro L T u hd hk hcl ⟨A, hb, p0, p1, p2, p3, p4, p5, p6, p8, p9, p10, pa7, bv7⟩ K hK
          simp only [fr, Act.put, List.setIfInBounds_toArray, List.set_cons_zero, List.set_cons_succ, updO] at hK ⊢
          simp [Region.binds] at hd
          have g0 := p0 (by simp [hd])
          have hq := HQ.out
          rw [if_pos (by rfl)]
          simp only [Oper.wpv]
          go_simp
          exact hK _ _ ⟨A, hb, p0, fun _ => rfl, p2, p3, p4, p5, p6, p8, p9, p10, pa7, bv7⟩
        · rintro L T u hd hk hcl ⟨A, hb, p0, p1, p2, p3, p4, p5, p6, p8, p9, p10, pa7, bv7⟩ K hK
          simp only [fr, Act.put, List.setIfInBounds_toArray, List.set_cons_zero, List.set_cons_succ, updO] at hK ⊢
          simp [Region.binds] at hd
          have g1 := p1 (by simp [hd])
          rw [if_pos (by rfl)]
          simp only [Oper.wpv]
          go_simp
          refine (HC u).mono ?_
          rintro e u1 ⟨rfl, hg⟩
          exact hK _ _ ⟨A, nT hb hg, p0, p1, fun _ => rfl, p3, p4, p5, p6, p8, p9, p10, fun h0 => ⟨(pa7 h0).1, (pa7 h0).2.1, Nat.lt_of_lt_of_le (pa7 h0).2.2 hg.size⟩, fun h0 => (bv7 h0).below hg (bv7 h0).lt⟩
        · rintro L T u hd hk hcl ⟨A, hb, p0, p1, p2, p3, p4, p5, p6, p8, p9, p10, pa7, bv7⟩ K hK
          simp only [fr, Act.put, List.setIfInBounds_toArray, List.set_cons_zero, List.set_cons_succ, updO] at hK ⊢
          simp [Region.binds] at hd
          rw [if_pos (by rfl)]
          simp only [Oper.wpv]
          go_simp
          exact hK _ _ ⟨A, hb, p0, p1, p2, fun _ => rfl, p4, p5, p6, p8, p9, p10, pa7, bv7⟩
        · rintro L T u hd hk hcl ⟨A, hb, p0, p1, p2, p3, p4, p5, p6, p8, p9, p10, pa7, bv7⟩ K hK
          simp only [fr, Act.put, List.setIfInBounds_toArray, List.set_cons_zero, List.set_cons_succ, updO] at hK ⊢
          simp [Region.binds] at hd
          have g3 := p3 (by simp [hd])
          have hq := HR.out
          rw [if_pos (by rfl)]
          simp only [Oper.wpv]
          go_simp
          exact hK _ _ ⟨A, hb, p0, p1, p2, p3, fun _ => rfl, p5, p6, p8, p9, p10, pa7, bv7⟩
        · rintro L T u hd hk hcl ⟨A, hb, p0, p1, p2, p3, p4, p5, p6, p8, p9, p10, pa7, bv7⟩ K hK
          simp only [fr, Act.put, List.setIfInBounds_toArray, List.set_cons_zero, List.set_cons_succ, updO] at hK ⊢
          simp [Region.binds] at hd
          have g4 := p4 (by simp [hd])
          have hq := HS.out.1
          rw [if_pos (by rfl)]
          simp only [Oper.wpv]
          go_simp
          exact hK _ _ ⟨A, hb, p0, p1, p2, p3, p4, fun _ => rfl, p6, p8, p9, p10, pa7, bv7⟩
        · rintro L T u hd hk hcl ⟨A, hb, p0, p1, p2, p3, p4, p5, p6, p8, p9, p10, pa7, bv7⟩ K hK
          simp only [fr, Act.put, List.setIfInBounds_toArray, List.set_cons_zero, List.set_cons_succ, updO] at hK ⊢
          simp [Region.binds] at hd
          have g5 := p5 (by simp [hd])
          have hq := HS.out.2
          rw [if_pos (by rfl)]
          simp only [Oper.wpv]
          go_simp
          exact hK _ _ ⟨A, hb, p0, p1, p2, p3, p4, p5, fun _ => rfl, p8, p9, p10, pa7, bv7⟩
        · rintro L T u hd hk hcl ⟨A, hb, p0, p1, p2, p3, p4, p5, p6, p8, p9, p10, pa7, bv7⟩ K hK
          simp only [fr, Act.put, List.setIfInBounds_toArray, List.set_cons_zero, List.set_cons_succ, updO] at hK ⊢
          simp [Region.binds] at hd
          have g6 := p6 (by simp [hd])
          have k8 := hcl 8 _ rfl
          simp [Region.binds] at k8
          have k9 := hcl 9 _ rfl
          simp [Region.binds] at k9
          have k10 := hcl 10 _ rfl
          simp [Region.binds] at k10
          have hg : Below u.heap.size u (u.alloc (.cells #[.int .u8 (48 + (R : Int))] 5)) := (Below.refl _ _).alloc (Nat.le_refl _) _
          rw [if_pos (by rfl)]
          simp only [Oper.wpv]
          go_simp
          exact hK _ _ ⟨u.heap.size, (nT hb hg), p0, p1, p2, p3, p4, p5, p6, fun h => absurd (show L 8 = true from h) (by intro hh; have a8 := k8 hh; simp [hk] at a8), fun h => absurd (show L 9 = true from h) (by intro hh; have a9 := k9 hh; have a8 := k8 (by simp [a9]); simp [hk] at a8), fun h => absurd (show L 10 = true from h) (by intro hh; have a10 := k10 hh; have a9 := k9 (by simp [a10]); have a8 := k8 (by simp [a9]); simp [hk] at a8), fun _ => ⟨rfl, hb.size, by simp⟩, fun _ => boxn_new u #[.int .u8 (48 + (R : Int))] 5 1 rfl⟩
        · rintro L T u hd hk hcl ⟨A, hb, p0, p1, p2, p3, p4, p5, p6, p8, p9, p10, pa7, bv7⟩ K hK
          simp only [fr, Act.put, List.setIfInBounds_toArray, List.set_cons_zero, List.set_cons_succ, updO] at hK ⊢
          simp [Region.binds] at hd
          have g7 := pa7 (by simp [hd])
          have hcv := dec_conv R hR u A (bv7 (by simp [hd]))
          rw [if_pos (by rfl)]
          simp only [Oper.wpv]
          go_simp
          exact hK _ _ ⟨A, hb, p0, p1, p2, p3, p4, p5, p6, fun _ => rfl, p9, p10, pa7, bv7⟩
        · rintro L T u hd hk hcl ⟨A, hb, p0, p1, p2, p3, p4, p5, p6, p8, p9, p10, pa7, bv7⟩ K hK
          simp only [fr, Act.put, List.setIfInBounds_toArray, List.set_cons_zero, List.set_cons_succ, updO] at hK ⊢
          simp [Region.binds] at hd
          have g2 := p2 (by simp [hd])
          have g8 := p8 (by simp [hd])
          have hz := HZ.out
          rw [if_pos (by rfl)]
          simp only [Oper.wpv]
          go_simp
          exact hK _ _ ⟨A, hb, p0, p1, p2, p3, p4, p5, p6, p8, fun _ => rfl, p10, pa7, bv7⟩
        · rintro L T u hd hk hcl ⟨A, hb, p0, p1, p2, p3, p4, p5, p6, p8, p9, p10, pa7, bv7⟩ K hK
          simp only [fr, Act.put, List.setIfInBounds_toArray, List.set_cons_zero, List.set_cons_succ, updO] at hK ⊢
          simp [Region.binds] at hd
          have g9 := p9 (by simp [hd])
          rw [if_pos (by rfl)]
          simp only [Oper.wpv]
          go_simp
          exact hK _ _ ⟨A, hb, p0, p1, p2, p3, p4, p5, p6, p8, p9, fun _ => rfl, pa7, bv7⟩
      · rintro L T u hl ⟨A, hb, p0, p1, p2, p3, p4, p5, p6, p8, p9, p10, pa7, bv7⟩
        simp only [fr, Act.put, List.setIfInBounds_toArray, List.set_cons_zero, List.set_cons_succ]
        have h10 := p10 (hl 10 (by decide))
        clear p0 p1 p2 p3 p4 p5 p6 p8 p9 p10 pa7 bv7 HQ HR HS HC HZ
        rw [h10]
        go_wp2
        go_ret
        exact ⟨rfl, hb⟩
end Go.Proofs.YtlaagfnoepcnlaaDoor.Dc
