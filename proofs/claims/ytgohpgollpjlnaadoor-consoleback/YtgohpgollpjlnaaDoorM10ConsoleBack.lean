/- Texts of this claim, one behind the other. -/
import Derived.Test.YtgohpgollpjlnaaDoorM9ConsoleBack
import Derived.Test.YtgohpgollpjlnaaDoorM5ConsoleBack
import Derived.Test.YtgohpgollpjlnaaDoorM6ConsoleBack
import Derived.Test.YtgohpgollpjlnaaDoorM7ConsoleBack
import Derived.Deep.Cut
import Derived.Lib.ItoaLen
import Derived.Deep.DeepCutAuto
import Derived.Test.YtgohpgollpjlnaaDoorM8ConsoleBack
import Derived.OwnWalk
import Derived.Test.YtgohpgollpjlnaaDoorRows
import Derived.JoinedOf
import Derived.KernelRfl
/- What dec of a number that is not negative answers: its digits. -/
namespace Go.Proofs.YtgohpgollpjlnaaDoor.Dc
open Go.ChangeShapes Go.WideShapes Go.ChangeAt Go.RowKit
open Go.Proofs.YtgohpgollpjlnaaDoor.St (BoxN boxn_new)
set_option linter.unusedVariables false

theorem nT {u v z : World} (h : Below u.heap.size u v) (k : Below v.heap.size v z) : Below u.heap.size u z := h.trans (k.mono h.size)
def decS (n : Nat) : ByteArray := ⟨(Lib.decDigits n).toArray⟩
theorem decS_one {n : Nat} (h : n < 10) : decS n = decB (n : Int) := by
  unfold decS decB
  rw [Lib.decDigits_one h]
  have : (48 + (n : Int)).toNat = 48 + n := by omega
  rw [this]
theorem decS_more {n : Nat} (h : ¬ n < 10) : decS n = decS (n / 10) ++ decB ((n % 10 : Nat) : Int) := by
  unfold decS decB
  rw [Lib.decDigits, dif_neg h]
  have : (48 + ((n % 10 : Nat) : Int)).toNat = 48 + n % 10 := by omega
  rw [this]
  apply ByteArray.ext
  simp
theorem decS_size {n : Nat} (h : n ≤ 9223372036854775807) : (decS n).size ≤ 20 := by
  show (Lib.decDigits n).toArray.size ≤ 20
  rw [List.size_toArray, Lib.decDigits_length]
  exact Lib.nDigits_le20 n (by omega)
theorem dec_conv (R : Nat) (hR : R < 10) (U : World) (A : Nat) (b : BoxN U A 1 [.int .u8 (48 + (R : Int))]) :
    (convert 42 9 (.slice (some ⟨A, 0, none⟩) 1 1)).run Tryd.prog U = .ok (.string (decB (R : Int))) U := by
  have hu : (UInt8.ofNat (48 + (R : Int)).toNat).toNat = (48 + (R : Int)).toNat := by
    rw [UInt8.toNat_ofNat']
    omega
  exact run_convert_bytes_back (P := Tryd.prog) _ 42 9 5 ⟨A, 0, none⟩ 1 [UInt8.ofNat (48 + (R : Int)).toNat] Tryd.underlying42 Tryd.underlying5 Tryd.underlying9 (fun j hj => by
      obtain rfl : j = 0 := by simp at hj; omega
      have e : ((⟨A, 0, none⟩ : Addr).add 0) = ⟨A, 0, none⟩ := rfl
      rw [e]
      simp only [List.getElem_cons_zero, hu]
      have e2 : (((48 + (R : Int)).toNat : Nat) : Int) = 48 + (R : Int) := by omega
      rw [e2]
      exact (b.c 0 (by decide)).1)
set_option maxHeartbeats 4000000 in
theorem dec_all : ∀ (k n : Nat) (w : World), n ≤ k → n ≤ 9223372036854775807 → Calls Tryd.prog 14 #[.int .i64 (n : Int)] w fun e w' => e = .returned (.string (decS n)) ∧ Below w.heap.size w w' := by
  intro k
  induction k with
  | zero =>
    intro n w h hm
    obtain rfl : n = 0 := by omega
    rw [decS_one (by omega)]
    exact dec_any ((0 : Nat) : Int) w (by omega) (by omega)
  | succ k ih =>
    intro n w h hm
    by_cases h9 : n < 10
    · rw [decS_one h9]
      exact dec_any (n : Int) w (by omega) (by omega)
    · have hlt : ¬ (n : Int) < 10 := by omega
      obtain ⟨Q, eQ⟩ : ∃ Q : Nat, Q = n / 10 := ⟨_, rfl⟩
      obtain ⟨R, eR⟩ : ∃ R : Nat, R = n % 10 := ⟨_, rfl⟩
      have hR : R < 10 := by omega
      have HQ : Hid (IntKind.i64.wrap ((n : Int) / 10) = (Q : Int)) := by
        have : (n : Int) / 10 = ((n / 10 : Nat) : Int) := rfl
        show _ = _
        rw [this, eQ]; simp [IntKind.wrap, IntKind.bits, IntKind.signed]; omega
      have HR : Hid ((n : Int).tmod 10 = (R : Int)) := by
        have : (n : Int).tmod 10 = ((n % 10 : Nat) : Int) := rfl
        show _ = _
        rw [this, eR]
      have HS : Hid (IntKind.i64.wrap (48 + (R : Int)) = 48 + (R : Int) ∧ IntKind.u8.wrap (48 + (R : Int)) = 48 + (R : Int)) := by
        constructor <;> (simp [IntKind.wrap, IntKind.bits, IntKind.signed]; omega)
      have HZ : Hid (¬ (9223372036854775807 < (decS Q).size + (decB (R : Int)).size)) := by
        have := decS_size (n := Q) (by omega)
        show ¬ _
        rw [decB_size]
        omega
      have HC := fun U => ih Q U (by omega) (by omega)
      have eD : decS n = decS Q ++ decB (R : Int) := by rw [eQ, eR]; exact decS_more h9
      rw [eD]
      clear eD eQ eR h9 ih h hm
      go_enter Tryd.func14, Tryd.ntmps14
      go_upto_region 3 with (fail)
      refine wp_region_inv (by kernel_rfl) [10, 11, 12, 13, 14, 15, 16, 17, 18, 19, 2] (fun L T u => ∃ (A : Nat), Below w.heap.size w u ∧ (L 0 = true → T 10 = .int .i64 (n : Int)) ∧ (L 1 = true → T 11 = .int .i64 (Q : Int)) ∧ (L 2 = true → T 12 = .string (decS Q)) ∧ (L 3 = true → T 13 = .int .i64 (n : Int)) ∧ (L 4 = true → T 14 = .int .i64 (R : Int)) ∧ (L 5 = true → T 15 = .int .i64 (48 + (R : Int))) ∧ (L 6 = true → T 16 = .int .u8 (48 + (R : Int))) ∧ (L 8 = true → T 18 = .string (decB (R : Int))) ∧ (L 9 = true → T 19 = .string (decS Q ++ decB (R : Int))) ∧ (L 10 = true → T 2 = .string (decS Q ++ decB (R : Int))) ∧ (L 7 = true → (T 17 = .slice (some ⟨A, 0, none⟩) 1 1 ∧ w.heap.size ≤ A ∧ A < u.heap.size)) ∧ (L 7 = true → BoxN u A 1 [.int .u8 (48 + (R : Int))])) (by decide) (by kernel_rfl) (by kernel_rfl) ?_ ?_ ?_
      · exact ⟨0, (Below.refl _ _).drew, nofun, nofun, nofun, nofun, nofun, nofun, nofun, nofun, nofun, nofun, nofun, nofun⟩
      · refine ⟨?_, ?_, ?_, ?_, ?_, ?_, ?_, ?_, ?_, ?_, ?_, trivial⟩
        · rintro L T u hd hk hcl ⟨A, hb, p0, p1, p2, p3, p4, p5, p6, p8, p9, p10, pa7, bv7⟩ K hK
          simp only [fr, Act.put, List.setIfInBounds_toArray, List.set_cons_zero, List.set_cons_succ, updO] at hK ⊢
          simp [Region.binds] at hd
          rw [if_pos (by rfl)]
          simp only [Oper.wpv]
          go_simp
          exact hK _ _ ⟨A, hb, fun _ => rfl, p1, p2, p3, p4, p5, p6, p8, p9, p10, pa7, bv7⟩
        · rintro L T u hd hk hcl ⟨A, hb, p0, p1, p2, p3, p4, p5, p6, p8, p9, p10, pa7, bv7⟩ K hK
          simp only [fr, Act.put, List.setIfInBounds_toArray, List.set_cons_zero, List.set_cons_succ, updO] at hK ⊢
          simp [Region.binds] at hd
          have g0 := p0 (by simp [hd])
          have hq := HQ.out
          rw [if_pos (by rfl)]
          simp only [Oper.wpv]
          go_simp
          exact hK _ _ ⟨A, hb, p0, fun _ => rfl, p2, p3, p4, p5, p6, p8, p9, p10, pa7, bv7⟩
        · rintro L T u hd hk hcl ⟨A, hb, p0, p1, p2, p3, p4, p5, p6, p8, p9, p10, pa7, bv7⟩ K hK
          simp only [fr, Act.put, List.setIfInBounds_toArray, List.set_cons_zero, List.set_cons_succ, updO] at hK ⊢
          simp [Region.binds] at hd
          have g1 := p1 (by simp [hd])
          rw [if_pos (by rfl)]
          simp only [Oper.wpv]
          go_simp
          refine (HC u).mono ?_
          rintro e u1 ⟨rfl, hg⟩
          exact hK _ _ ⟨A, nT hb hg, p0, p1, fun _ => rfl, p3, p4, p5, p6, p8, p9, p10, fun h0 => ⟨(pa7 h0).1, (pa7 h0).2.1, Nat.lt_of_lt_of_le (pa7 h0).2.2 hg.size⟩, fun h0 => (bv7 h0).below hg (bv7 h0).lt⟩
        · rintro L T u hd hk hcl ⟨A, hb, p0, p1, p2, p3, p4, p5, p6, p8, p9, p10, pa7, bv7⟩ K hK
          simp only [fr, Act.put, List.setIfInBounds_toArray, List.set_cons_zero, List.set_cons_succ, updO] at hK ⊢
          simp [Region.binds] at hd
          rw [if_pos (by rfl)]
          simp only [Oper.wpv]
          go_simp
          exact hK _ _ ⟨A, hb, p0, p1, p2, fun _ => rfl, p4, p5, p6, p8, p9, p10, pa7, bv7⟩
        · rintro L T u hd hk hcl ⟨A, hb, p0, p1, p2, p3, p4, p5, p6, p8, p9, p10, pa7, bv7⟩ K hK
          simp only [fr, Act.put, List.setIfInBounds_toArray, List.set_cons_zero, List.set_cons_succ, updO] at hK ⊢
          simp [Region.binds] at hd
          have g3 := p3 (by simp [hd])
          have hq := HR.out
          rw [if_pos (by rfl)]
          simp only [Oper.wpv]
          go_simp
          exact hK _ _ ⟨A, hb, p0, p1, p2, p3, fun _ => rfl, p5, p6, p8, p9, p10, pa7, bv7⟩
        · rintro L T u hd hk hcl ⟨A, hb, p0, p1, p2, p3, p4, p5, p6, p8, p9, p10, pa7, bv7⟩ K hK
          simp only [fr, Act.put, List.setIfInBounds_toArray, List.set_cons_zero, List.set_cons_succ, updO] at hK ⊢
          simp [Region.binds] at hd
          have g4 := p4 (by simp [hd])
          have hq := HS.out.1
          rw [if_pos (by rfl)]
          simp only [Oper.wpv]
          go_simp
          exact hK _ _ ⟨A, hb, p0, p1, p2, p3, p4, fun _ => rfl, p6, p8, p9, p10, pa7, bv7⟩
        · rintro L T u hd hk hcl ⟨A, hb, p0, p1, p2, p3, p4, p5, p6, p8, p9, p10, pa7, bv7⟩ K hK
          simp only [fr, Act.put, List.setIfInBounds_toArray, List.set_cons_zero, List.set_cons_succ, updO] at hK ⊢
          simp [Region.binds] at hd
          have g5 := p5 (by simp [hd])
          have hq := HS.out.2
          rw [if_pos (by rfl)]
          simp only [Oper.wpv]
          go_simp
          exact hK _ _ ⟨A, hb, p0, p1, p2, p3, p4, p5, fun _ => rfl, p8, p9, p10, pa7, bv7⟩
        · rintro L T u hd hk hcl ⟨A, hb, p0, p1, p2, p3, p4, p5, p6, p8, p9, p10, pa7, bv7⟩ K hK
          simp only [fr, Act.put, List.setIfInBounds_toArray, List.set_cons_zero, List.set_cons_succ, updO] at hK ⊢
          simp [Region.binds] at hd
          have g6 := p6 (by simp [hd])
          have k8 := hcl 8 _ rfl
          simp [Region.binds] at k8
          have k9 := hcl 9 _ rfl
          simp [Region.binds] at k9
          have k10 := hcl 10 _ rfl
          simp [Region.binds] at k10
          have hg : Below u.heap.size u (u.alloc (.cells #[.int .u8 (48 + (R : Int))] 5)) := (Below.refl _ _).alloc (Nat.le_refl _) _
          rw [if_pos (by rfl)]
          simp only [Oper.wpv]
          go_simp
          exact hK _ _ ⟨u.heap.size, (nT hb hg), p0, p1, p2, p3, p4, p5, p6, fun h => absurd (show L 8 = true from h) (by intro hh; have a8 := k8 hh; simp [hk] at a8), fun h => absurd (show L 9 = true from h) (by intro hh; have a9 := k9 hh; have a8 := k8 (by simp [a9]); simp [hk] at a8), fun h => absurd (show L 10 = true from h) (by intro hh; have a10 := k10 hh; have a9 := k9 (by simp [a10]); have a8 := k8 (by simp [a9]); simp [hk] at a8), fun _ => ⟨rfl, hb.size, by simp⟩, fun _ => boxn_new u #[.int .u8 (48 + (R : Int))] 5 1 rfl⟩
        · rintro L T u hd hk hcl ⟨A, hb, p0, p1, p2, p3, p4, p5, p6, p8, p9, p10, pa7, bv7⟩ K hK
          simp only [fr, Act.put, List.setIfInBounds_toArray, List.set_cons_zero, List.set_cons_succ, updO] at hK ⊢
          simp [Region.binds] at hd
          have g7 := pa7 (by simp [hd])
          have hcv := dec_conv R hR u A (bv7 (by simp [hd]))
          rw [if_pos (by rfl)]
          simp only [Oper.wpv]
          go_simp
          exact hK _ _ ⟨A, hb, p0, p1, p2, p3, p4, p5, p6, fun _ => rfl, p9, p10, pa7, bv7⟩
        · rintro L T u hd hk hcl ⟨A, hb, p0, p1, p2, p3, p4, p5, p6, p8, p9, p10, pa7, bv7⟩ K hK
          simp only [fr, Act.put, List.setIfInBounds_toArray, List.set_cons_zero, List.set_cons_succ, updO] at hK ⊢
          simp [Region.binds] at hd
          have g2 := p2 (by simp [hd])
          have g8 := p8 (by simp [hd])
          have hz := HZ.out
          rw [if_pos (by rfl)]
          simp only [Oper.wpv]
          go_simp
          exact hK _ _ ⟨A, hb, p0, p1, p2, p3, p4, p5, p6, p8, fun _ => rfl, p10, pa7, bv7⟩
        · rintro L T u hd hk hcl ⟨A, hb, p0, p1, p2, p3, p4, p5, p6, p8, p9, p10, pa7, bv7⟩ K hK
          simp only [fr, Act.put, List.setIfInBounds_toArray, List.set_cons_zero, List.set_cons_succ, updO] at hK ⊢
          simp [Region.binds] at hd
          have g9 := p9 (by simp [hd])
          rw [if_pos (by rfl)]
          simp only [Oper.wpv]
          go_simp
          exact hK _ _ ⟨A, hb, p0, p1, p2, p3, p4, p5, p6, p8, p9, fun _ => rfl, pa7, bv7⟩
      · rintro L T u hl ⟨A, hb, p0, p1, p2, p3, p4, p5, p6, p8, p9, p10, pa7, bv7⟩
        simp only [fr, Act.put, List.setIfInBounds_toArray, List.set_cons_zero, List.set_cons_succ]
        have h10 := p10 (hl 10 (by decide))
        clear p0 p1 p2 p3 p4 p5 p6 p8 p9 p10 pa7 bv7 HQ HR HS HC HZ
        rw [h10]
        go_wp2
        go_ret
        exact ⟨rfl, hb⟩
end Go.Proofs.YtgohpgollpjlnaaDoor.Dc
/- The walk of the law ConsoleBack: at any numbers it returns true and leaves what was in memory. -/
namespace Go.Proofs.YtgohpgollpjlnaaDoor.Cn
open Go.ChangeShapes Go.WideShapes Go.ChangeAt Go.RowKit
open Go.Proofs.YtgohpgollpjlnaaDoor.St (BoxN boxn_new)
open Go.Proofs.YtgohpgollpjlnaaDoor.Dc (decS decS_size dec_all)
set_option linter.unusedVariables false

theorem decS_dg (n : Nat) : (decS n).data.toList = dg n := rfl
set_option maxRecDepth 100000 in
set_option maxHeartbeats 8000000 in
theorem consoleBack_walk (l s n : Int) (yes : Bool) (wh : Int) (w : World) (hl : (Lit.int .i64 l).wf = true) (hs : (Lit.int .i64 s).wf = true) (hn : (Lit.int .i64 n).wf = true) (hwh : (Lit.int .i64 wh).wf = true) (hT : ∀ U, Below w.heap.size w U → CnW U) :
    Calls Tryd.prog 5 #[.int .i64 l, .int .i64 s, .int .i64 n, .bool yes, .int .i64 wh] w fun e w' => e = .returned (.bool true) ∧ Below w.heap.size w w' := by
  have bdl : -9223372036854775808 ≤ l ∧ l ≤ 9223372036854775807 := by
    simp [Lit.wf, IntKind.min, IntKind.max, IntKind.signed, IntKind.bits] at hl
    omega
  clear hl
  have bds : -9223372036854775808 ≤ s ∧ s ≤ 9223372036854775807 := by
    simp [Lit.wf, IntKind.min, IntKind.max, IntKind.signed, IntKind.bits] at hs
    omega
  clear hs
  have bdn : -9223372036854775808 ≤ n ∧ n ≤ 9223372036854775807 := by
    simp [Lit.wf, IntKind.min, IntKind.max, IntKind.signed, IntKind.bits] at hn
    omega
  clear hn
  have bdwh : -9223372036854775808 ≤ wh ∧ wh ≤ 9223372036854775807 := by
    simp [Lit.wf, IntKind.min, IntKind.max, IntKind.signed, IntKind.bits] at hwh
    omega
  clear hwh
  have hpLx := pk_bd l 6 (by omega)
  obtain ⟨Lx, eLx⟩ : ∃ Lx : Nat, (Lx : Int) = pk l 6 := ⟨(pk l 6).toNat, by omega⟩
  rw [← eLx] at hpLx
  have hpSx := pk_bd s 4 (by omega)
  obtain ⟨Sx, eSx⟩ : ∃ Sx : Nat, (Sx : Int) = pk s 4 := ⟨(pk s 4).toNat, by omega⟩
  rw [← eSx] at hpSx
  have hpNx := pk_bd n 1048577 (by omega)
  obtain ⟨Nx, eNx⟩ : ∃ Nx : Nat, (Nx : Int) = pk n 1048577 := ⟨(pk n 1048577).toNat, by omega⟩
  rw [← eNx] at hpNx
  have hpKx := pk_bd wh 4 (by omega)
  obtain ⟨Kx, eKx⟩ : ∃ Kx : Nat, (Kx : Int) = pk wh 4 := ⟨(pk wh 4).toNat, by omega⟩
  rw [← eKx] at hpKx
  have hPK := fun u => picked_any wh 4 u bdwh (by omega) (by omega)
  rw [← eKx] at hPK
  have EL : Hid ((Lx : Int) = pk l 6 ∧ (Sx : Int) = pk s 4 ∧ (Nx : Int) = pk n 1048577) := ⟨eLx, eSx, eNx⟩
  clear eLx eSx eNx eKx
  have hL : Lx ≤ 5 := by omega
  have hS : Sx ≤ 3 := by omega
  have hN : Nx ≤ 1048576 := by omega
  have hK : Kx < 4 := by omega
  clear hpLx hpSx hpNx hpKx
  have hlen := fun k y => line_len k y Lx Sx Nx hL hS hN
  have hbk := fun k y => back_ok k y Lx Sx Nx hL hS hN (hlen k y)
  have bw : Below w.heap.size w w := Below.refl _ _
  have HT : Hid (∀ U, Below w.heap.size w U → CnW U) := hT
  clear hT
  have sL := decS_size (n := Lx) (by omega)
  have sS := decS_size (n := Sx) (by omega)
  have sN := decS_size (n := Nx) (by omega)
  have HZ : Hid ((¬ (9223372036854775807 < (decS Lx).size + 1)) ∧ (¬ (9223372036854775807 < (decS Lx).size + 1 + (decS Sx).size)) ∧ (¬ (9223372036854775807 < (decS Lx).size + 1 + (decS Sx).size + 1)) ∧ (¬ (9223372036854775807 < (decS Lx).size + 1 + (decS Sx).size + 1 + (decS Nx).size))) := ⟨by omega, by omega, by omega, by omega⟩
  have HDL := fun U => dec_all Lx Lx U (Nat.le_refl _) (by omega)
  have HDS := fun U => dec_all Sx Sx U (Nat.le_refl _) (by omega)
  have HDN := fun U => dec_all Nx Nx U (Nat.le_refl _) (by omega)
  go_enter Tryd.func5, Tryd.ntmps5
  go_upto_region 2 with (go_at_call 13; refine (picked_any _ _ _ (by assumption) (by decide) (by decide)).mono ?_; rintro e u ⟨rfl, hu⟩; rw [hu]; clear hu)
  rw [← EL.out.1, ← EL.out.2.1, ← EL.out.2.2]
  clear EL
  obtain ⟨X2, eX2⟩ : ∃ X : World, X = w.alloc (.cells #[.int .i64 0, .int .i64 (Lx : Int), .int .i64 (Sx : Int), .int .i64 (Nx : Int), .bool yes] 25) := ⟨_, rfl⟩
  rw [← eX2]
  have xb2 : BoxN X2 w.heap.size 5 [.int .i64 0, .int .i64 (Lx : Int), .int .i64 (Sx : Int), .int .i64 (Nx : Int), .bool yes] := by rw [eX2]; exact boxn_new w #[.int .i64 0, .int .i64 (Lx : Int), .int .i64 (Sx : Int), .int .i64 (Nx : Int), .bool yes] 25 5 rfl
  have bX2 : Below w.heap.size w X2 := by rw [eX2]; exact (Below.refl _ _).alloc (Nat.le_refl _) _
  clear eX2
  have HX : Hid (∀ U, Below X2.heap.size X2 U → BoxN U w.heap.size 5 [.int .i64 0, .int .i64 (Lx : Int), .int .i64 (Sx : Int), .int .i64 (Nx : Int), .bool yes] ∧ Below w.heap.size w U) := fun U hU => ⟨xb2.below hU xb2.lt, bX2.trans (hU.mono bX2.size)⟩
  clear xb2 bX2
  refine wp_region_inv (by kernel_rfl) [27, 28, 29, 30, 31, 32, 33, 34, 35, 36, 37, 38, 39, 40, 41, 12] (fun L T u => Below X2.heap.size X2 u ∧ (L 0 = true → T 27 = .pointer (some ⟨w.heap.size, 1, none⟩)) ∧ (L 1 = true → T 28 = .int .i64 (Lx : Int)) ∧ (L 2 = true → T 29 = .string (decS Lx)) ∧ (L 3 = true → T 30 = .string (decS Lx ++ ⟨#[32]⟩)) ∧ (L 4 = true → T 31 = .pointer (some ⟨w.heap.size, 2, none⟩)) ∧ (L 5 = true → T 32 = .pointer (some ⟨w.heap.size, 2, none⟩)) ∧ (L 6 = true → T 33 = .int .i64 (Sx : Int)) ∧ (L 7 = true → T 34 = .string (decS Sx)) ∧ (L 8 = true → T 35 = .string (decS Lx ++ ⟨#[32]⟩ ++ decS Sx)) ∧ (L 9 = true → T 36 = .string (decS Lx ++ ⟨#[32]⟩ ++ decS Sx ++ ⟨#[32]⟩)) ∧ (L 10 = true → T 37 = .pointer (some ⟨w.heap.size, 2, none⟩)) ∧ (L 11 = true → T 38 = .pointer (some ⟨w.heap.size, 3, none⟩)) ∧ (L 12 = true → T 39 = .int .i64 (Nx : Int)) ∧ (L 13 = true → T 40 = .string (decS Nx)) ∧ (L 14 = true → T 41 = .string (decS Lx ++ ⟨#[32]⟩ ++ decS Sx ++ ⟨#[32]⟩ ++ decS Nx)) ∧ (L 15 = true → T 12 = .string (decS Lx ++ ⟨#[32]⟩ ++ decS Sx ++ ⟨#[32]⟩ ++ decS Nx))) (by decide) (by kernel_rfl) (by kernel_rfl) ?_ ?_ ?_
  · exact ⟨(Below.refl _ _).drew, nofun, nofun, nofun, nofun, nofun, nofun, nofun, nofun, nofun, nofun, nofun, nofun, nofun, nofun, nofun, nofun⟩
  · refine ⟨?_, ?_, ?_, ?_, ?_, ?_, ?_, ?_, ?_, ?_, ?_, ?_, ?_, ?_, ?_, ?_, trivial⟩
    · rintro L T u hd hk hcl ⟨hb, p0, p1, p2, p3, p4, p5, p6, p7, p8, p9, p10, p11, p12, p13, p14, p15⟩ K hK
      simp only [fr, Act.put, List.setIfInBounds_toArray, List.set_cons_zero, List.set_cons_succ, updO] at hK ⊢
      simp [Region.binds] at hd
      rw [if_pos (by rfl)]
      simp only [Oper.wpv]
      go_simp
      exact hK _ _ ⟨hb, fun _ => rfl, p1, p2, p3, p4, p5, p6, p7, p8, p9, p10, p11, p12, p13, p14, p15⟩
    · rintro L T u hd hk hcl ⟨hb, p0, p1, p2, p3, p4, p5, p6, p7, p8, p9, p10, p11, p12, p13, p14, p15⟩ K hK
      simp only [fr, Act.put, List.setIfInBounds_toArray, List.set_cons_zero, List.set_cons_succ, updO] at hK ⊢
      simp [Region.binds] at hd
      have g0 := p0 (by simp [hd])
      obtain ⟨rb, -⟩ := HX.out u hb
      have x1 := (rb.c 1 (by decide)).1
      have x2 := (rb.c 2 (by decide)).1
      have x3 := (rb.c 3 (by decide)).1
      simp only [List.getD_cons_zero, List.getD_cons_succ] at x1 x2 x3
      rw [if_pos (by rfl)]
      simp only [Oper.wpv]
      go_simp
      exact hK _ _ ⟨hb, p0, fun _ => rfl, p2, p3, p4, p5, p6, p7, p8, p9, p10, p11, p12, p13, p14, p15⟩
    · rintro L T u hd hk hcl ⟨hb, p0, p1, p2, p3, p4, p5, p6, p7, p8, p9, p10, p11, p12, p13, p14, p15⟩ K hK
      simp only [fr, Act.put, List.setIfInBounds_toArray, List.set_cons_zero, List.set_cons_succ, updO] at hK ⊢
      simp [Region.binds] at hd
      have g1 := p1 (by simp [hd])
      rw [if_pos (by rfl)]
      simp only [Oper.wpv]
      go_simp
      refine (HDL u).mono ?_
      rintro e u1 ⟨rfl, hg⟩
      exact hK _ _ ⟨nT hb hg, p0, p1, fun _ => rfl, p3, p4, p5, p6, p7, p8, p9, p10, p11, p12, p13, p14, p15⟩
    · rintro L T u hd hk hcl ⟨hb, p0, p1, p2, p3, p4, p5, p6, p7, p8, p9, p10, p11, p12, p13, p14, p15⟩ K hK
      simp only [fr, Act.put, List.setIfInBounds_toArray, List.set_cons_zero, List.set_cons_succ, updO] at hK ⊢
      simp [Region.binds] at hd
      have g2 := p2 (by simp [hd])
      have hz := HZ.out.1
      rw [if_pos (by rfl)]
      simp only [Oper.wpv]
      go_simp
      exact hK _ _ ⟨hb, p0, p1, p2, fun _ => rfl, p4, p5, p6, p7, p8, p9, p10, p11, p12, p13, p14, p15⟩
    · rintro L T u hd hk hcl ⟨hb, p0, p1, p2, p3, p4, p5, p6, p7, p8, p9, p10, p11, p12, p13, p14, p15⟩ K hK
      simp only [fr, Act.put, List.setIfInBounds_toArray, List.set_cons_zero, List.set_cons_succ, updO] at hK ⊢
      simp [Region.binds] at hd
      rw [if_pos (by rfl)]
      simp only [Oper.wpv]
      go_simp
      exact hK _ _ ⟨hb, p0, p1, p2, p3, fun _ => rfl, p5, p6, p7, p8, p9, p10, p11, p12, p13, p14, p15⟩
    · rintro L T u hd hk hcl ⟨hb, p0, p1, p2, p3, p4, p5, p6, p7, p8, p9, p10, p11, p12, p13, p14, p15⟩ K hK
      simp only [fr, Act.put, List.setIfInBounds_toArray, List.set_cons_zero, List.set_cons_succ, updO] at hK ⊢
      simp [Region.binds] at hd
      have g4 := p4 (by simp [hd])
      rw [if_pos (by rfl)]
      simp only [Oper.wpv]
      go_simp
      exact hK _ _ ⟨hb, p0, p1, p2, p3, p4, fun _ => rfl, p6, p7, p8, p9, p10, p11, p12, p13, p14, p15⟩
    · rintro L T u hd hk hcl ⟨hb, p0, p1, p2, p3, p4, p5, p6, p7, p8, p9, p10, p11, p12, p13, p14, p15⟩ K hK
      simp only [fr, Act.put, List.setIfInBounds_toArray, List.set_cons_zero, List.set_cons_succ, updO] at hK ⊢
      simp [Region.binds] at hd
      have g5 := p5 (by simp [hd])
      obtain ⟨rb, -⟩ := HX.out u hb
      have x1 := (rb.c 1 (by decide)).1
      have x2 := (rb.c 2 (by decide)).1
      have x3 := (rb.c 3 (by decide)).1
      simp only [List.getD_cons_zero, List.getD_cons_succ] at x1 x2 x3
      rw [if_pos (by rfl)]
      simp only [Oper.wpv]
      go_simp
      exact hK _ _ ⟨hb, p0, p1, p2, p3, p4, p5, fun _ => rfl, p7, p8, p9, p10, p11, p12, p13, p14, p15⟩
    · rintro L T u hd hk hcl ⟨hb, p0, p1, p2, p3, p4, p5, p6, p7, p8, p9, p10, p11, p12, p13, p14, p15⟩ K hK
      simp only [fr, Act.put, List.setIfInBounds_toArray, List.set_cons_zero, List.set_cons_succ, updO] at hK ⊢
      simp [Region.binds] at hd
      have g6 := p6 (by simp [hd])
      rw [if_pos (by rfl)]
      simp only [Oper.wpv]
      go_simp
      refine (HDS u).mono ?_
      rintro e u1 ⟨rfl, hg⟩
      exact hK _ _ ⟨nT hb hg, p0, p1, p2, p3, p4, p5, p6, fun _ => rfl, p8, p9, p10, p11, p12, p13, p14, p15⟩
    · rintro L T u hd hk hcl ⟨hb, p0, p1, p2, p3, p4, p5, p6, p7, p8, p9, p10, p11, p12, p13, p14, p15⟩ K hK
      simp only [fr, Act.put, List.setIfInBounds_toArray, List.set_cons_zero, List.set_cons_succ, updO] at hK ⊢
      simp [Region.binds] at hd
      have g3 := p3 (by simp [hd])
      have g7 := p7 (by simp [hd])
      have hz := HZ.out.2.1
      rw [if_pos (by rfl)]
      simp only [Oper.wpv]
      go_simp
      exact hK _ _ ⟨hb, p0, p1, p2, p3, p4, p5, p6, p7, fun _ => rfl, p9, p10, p11, p12, p13, p14, p15⟩
    · rintro L T u hd hk hcl ⟨hb, p0, p1, p2, p3, p4, p5, p6, p7, p8, p9, p10, p11, p12, p13, p14, p15⟩ K hK
      simp only [fr, Act.put, List.setIfInBounds_toArray, List.set_cons_zero, List.set_cons_succ, updO] at hK ⊢
      simp [Region.binds] at hd
      have g8 := p8 (by simp [hd])
      have hz := HZ.out.2.2.1
      rw [if_pos (by rfl)]
      simp only [Oper.wpv]
      go_simp
      exact hK _ _ ⟨hb, p0, p1, p2, p3, p4, p5, p6, p7, p8, fun _ => rfl, p10, p11, p12, p13, p14, p15⟩
    · rintro L T u hd hk hcl ⟨hb, p0, p1, p2, p3, p4, p5, p6, p7, p8, p9, p10, p11, p12, p13, p14, p15⟩ K hK
      simp only [fr, Act.put, List.setIfInBounds_toArray, List.set_cons_zero, List.set_cons_succ, updO] at hK ⊢
      simp [Region.binds] at hd
      rw [if_pos (by rfl)]
      simp only [Oper.wpv]
      go_simp
      exact hK _ _ ⟨hb, p0, p1, p2, p3, p4, p5, p6, p7, p8, p9, fun _ => rfl, p11, p12, p13, p14, p15⟩
    · rintro L T u hd hk hcl ⟨hb, p0, p1, p2, p3, p4, p5, p6, p7, p8, p9, p10, p11, p12, p13, p14, p15⟩ K hK
      simp only [fr, Act.put, List.setIfInBounds_toArray, List.set_cons_zero, List.set_cons_succ, updO] at hK ⊢
      simp [Region.binds] at hd
      have g10 := p10 (by simp [hd])
      rw [if_pos (by rfl)]
      simp only [Oper.wpv]
      go_simp
      exact hK _ _ ⟨hb, p0, p1, p2, p3, p4, p5, p6, p7, p8, p9, p10, fun _ => rfl, p12, p13, p14, p15⟩
    · rintro L T u hd hk hcl ⟨hb, p0, p1, p2, p3, p4, p5, p6, p7, p8, p9, p10, p11, p12, p13, p14, p15⟩ K hK
      simp only [fr, Act.put, List.setIfInBounds_toArray, List.set_cons_zero, List.set_cons_succ, updO] at hK ⊢
      simp [Region.binds] at hd
      have g11 := p11 (by simp [hd])
      obtain ⟨rb, -⟩ := HX.out u hb
      have x1 := (rb.c 1 (by decide)).1
      have x2 := (rb.c 2 (by decide)).1
      have x3 := (rb.c 3 (by decide)).1
      simp only [List.getD_cons_zero, List.getD_cons_succ] at x1 x2 x3
      rw [if_pos (by rfl)]
      simp only [Oper.wpv]
      go_simp
      exact hK _ _ ⟨hb, p0, p1, p2, p3, p4, p5, p6, p7, p8, p9, p10, p11, fun _ => rfl, p13, p14, p15⟩
    · rintro L T u hd hk hcl ⟨hb, p0, p1, p2, p3, p4, p5, p6, p7, p8, p9, p10, p11, p12, p13, p14, p15⟩ K hK
      simp only [fr, Act.put, List.setIfInBounds_toArray, List.set_cons_zero, List.set_cons_succ, updO] at hK ⊢
      simp [Region.binds] at hd
      have g12 := p12 (by simp [hd])
      rw [if_pos (by rfl)]
      simp only [Oper.wpv]
      go_simp
      refine (HDN u).mono ?_
      rintro e u1 ⟨rfl, hg⟩
      exact hK _ _ ⟨nT hb hg, p0, p1, p2, p3, p4, p5, p6, p7, p8, p9, p10, p11, p12, fun _ => rfl, p14, p15⟩
    · rintro L T u hd hk hcl ⟨hb, p0, p1, p2, p3, p4, p5, p6, p7, p8, p9, p10, p11, p12, p13, p14, p15⟩ K hK
      simp only [fr, Act.put, List.setIfInBounds_toArray, List.set_cons_zero, List.set_cons_succ, updO] at hK ⊢
      simp [Region.binds] at hd
      have g9 := p9 (by simp [hd])
      have g13 := p13 (by simp [hd])
      have hz := HZ.out.2.2.2
      rw [if_pos (by rfl)]
      simp only [Oper.wpv]
      go_simp
      exact hK _ _ ⟨hb, p0, p1, p2, p3, p4, p5, p6, p7, p8, p9, p10, p11, p12, p13, fun _ => rfl, p15⟩
    · rintro L T u hd hk hcl ⟨hb, p0, p1, p2, p3, p4, p5, p6, p7, p8, p9, p10, p11, p12, p13, p14, p15⟩ K hK
      simp only [fr, Act.put, List.setIfInBounds_toArray, List.set_cons_zero, List.set_cons_succ, updO] at hK ⊢
      simp [Region.binds] at hd
      have g14 := p14 (by simp [hd])
      rw [if_pos (by rfl)]
      simp only [Oper.wpv]
      go_simp
      exact hK _ _ ⟨hb, p0, p1, p2, p3, p4, p5, p6, p7, p8, p9, p10, p11, p12, p13, p14, fun _ => rfl⟩
  · rintro L T u hl ⟨hb, p0, p1, p2, p3, p4, p5, p6, p7, p8, p9, p10, p11, p12, p13, p14, p15⟩
    simp only [fr, Act.put, List.setIfInBounds_toArray, List.set_cons_zero, List.set_cons_succ]
    have h12 := p15 (hl 15 (by decide))
    clear p0 p1 p2 p3 p4 p5 p6 p7 p8 p9 p10 p11 p12 p13 p14 p15 HZ HDL HDS HDN hl
    rw [h12]
    clear h12
    obtain ⟨xb, bwu⟩ := HX.out u hb
    clear HX hb
    replace bw := bwu
    clear bwu
    obtain ⟨TT, eT⟩ : ∃ TT, TT = decS Lx ++ ⟨#[32]⟩ ++ decS Sx ++ ⟨#[32]⟩ ++ decS Nx := ⟨_, rfl⟩
    have hTd : TT.data.toList = dg Lx ++ 32 :: (dg Sx ++ 32 :: dg Nx) := by
      rw [eT]
      simp [decS_dg]
    have hTz : TT.size ≤ 62 := by
      rw [eT]
      simp only [ByteArray.size_append]
      have e1 : (⟨#[32]⟩ : ByteArray).size = 1 := rfl
      rw [e1]
      omega
    rw [← eT]
    clear eT sL sS sN
    have k0 := (xb.c 0 (by decide)).1
    have k1 := (xb.c 1 (by decide)).1
    have k2 := (xb.c 2 (by decide)).1
    have k3 := (xb.c 3 (by decide)).1
    have k4 := (xb.c 4 (by decide)).1
    have kz := xb.lt
    have q0 := (xb.c 0 (by decide)).2
    have q1 := (xb.c 1 (by decide)).2
    have q2 := (xb.c 2 (by decide)).2
    have q3 := (xb.c 3 (by decide)).2
    have q4 := (xb.c 4 (by decide)).2
    simp only [List.getD_cons_zero, List.getD_cons_succ] at k0 k1 k2 k3 k4
    have z1 : ¬ (9223372036854775807 < 6 + TT.size) := by omega
    have z2 : ¬ (9223372036854775807 < 6 + TT.size + 6) := by omega
    have z3 : ¬ (9223372036854775807 < 6 + TT.size + 7) := by omega
    have z4 : ¬ (9223372036854775807 < 7 + TT.size) := by omega
    rcases (by omega : Kx = 0 ∨ Kx = 1 ∨ Kx = 2 ∨ Kx = 3) with rfl | rfl | rfl | rfl
    · cases yes
      · obtain ⟨h1, h2, h3⟩ := hbk 0 false
        have h4 := hlen 0 false
        clear hbk hlen
        obtain ⟨LN, eLN⟩ : ∃ x : ByteArray, x = ⟨#[102, 111, 114, 99, 101, 32]⟩ ++ TT ++ ⟨#[32, 97, 98, 111, 114, 116]⟩ := ⟨_, rfl⟩
        have hLd : LN.data.toList = lineOf 0 false Lx Sx Nx := by
          rw [eLN]
          simp [lineOf, hTd, wForce, wAbort]
        have hLz : LN.size ≤ 59 := by
          have : LN.data.toList.length = LN.size := rfl
          rw [← this, hLd]
          exact h4
        have hL2 : (LN ++ ⟨#[32]⟩).data.toList = lineOf 0 false Lx Sx Nx ++ [32] := by
          rw [← hLd]
          simp
        have hLz2 : (LN ++ ⟨#[32]⟩).size ≤ 60 := by
          simp only [ByteArray.size_append]
          have e1 : (⟨#[32]⟩ : ByteArray).size = 1 := rfl
          rw [e1]
          omega
        clear h4
        obtain ⟨V0, eV⟩ : ∃ V0 : World, V0 = (u.setCell ⟨w.heap.size, 0, none⟩ (.int .i64 3)) := ⟨_, rfl⟩
        have yb : BoxN V0 w.heap.size 5 [.int .i64 3, .int .i64 (Lx : Int), .int .i64 (Sx : Int), .int .i64 (Nx : Int), .bool false] := by rw [eV]; exact (xb.set 0 (by decide) _)
        have by0 : Below w.heap.size w V0 := by rw [eV]; exact (bw.setCell (by simp) _)
        clear bw xb hTd
        go_upto_region 18 with (go_at_call 13; refine (hPK _).mono ?_; rintro e u9 ⟨rfl, hu9⟩; rw [hu9]; clear hu9)
        rw [← eV, ← eLN]
        clear eV eLN k0 k1 k2 k3 k4 q0 q1 q2 q3 q4 kz z1 z2 z3 z4 hPK
        have hR := read_any LN V0 (by omega) (fun U hU => HT.out U (by0.trans (hU.mono by0.size)))
        rw [hLd, h1, h2] at hR
        simp only [Cmd.val, cmdOf] at hR
        have hR2 : Calls Tryd.prog 9 #[.string LN] V0 fun e w' => e = .returned (.tuple #[.agg #[.int .i64 3, .int .i64 (Lx : Int), .int .i64 (Sx : Int), .int .i64 (Nx : Int), .bool false], .int .i64 0]) ∧ Below V0.heap.size V0 w' := hR
        clear hR
        go_upto_region 19 with (go_at_call 9; refine hR2.mono ?_; rintro e y1 ⟨rfl, hb1⟩)
        clear hR2
        replace yb := yb.below hb1 yb.lt
        replace by0 := by0.trans (hb1.mono by0.size)
        obtain ⟨Y2, eY2⟩ : ∃ X : World, X = y1.alloc (.cells #[.int .i64 3, .int .i64 (Lx : Int), .int .i64 (Sx : Int), .int .i64 (Nx : Int), .bool false] 25) := ⟨_, rfl⟩
        rw [← eY2]
        have zb2 : BoxN Y2 y1.heap.size 5 [.int .i64 3, .int .i64 (Lx : Int), .int .i64 (Sx : Int), .int .i64 (Nx : Int), .bool false] := by rw [eY2]; exact boxn_new y1 #[.int .i64 3, .int .i64 (Lx : Int), .int .i64 (Sx : Int), .int .i64 (Nx : Int), .bool false] 25 5 rfl
        have bY2 : Below y1.heap.size y1 Y2 := by rw [eY2]; exact (Below.refl _ _).alloc (Nat.le_refl _) _
        clear eY2
        replace yb := yb.below bY2 yb.lt
        replace by0 := by0.trans (bY2.mono by0.size)
        have hR := read_any (LN ++ ⟨#[32]⟩) Y2 (by omega) (fun U hU => HT.out U (by0.trans (hU.mono by0.size)))
        rw [hL2, h3] at hR
        obtain ⟨CC, eC⟩ : ∃ CC, CC = lineCmd (lineOf 0 false Lx Sx Nx ++ [32]) := ⟨_, rfl⟩
        rw [← eC] at hR
        clear eC
        obtain ⟨c0, c1, c2, c3, c4⟩ := CC
        have zz : ¬ (9223372036854775807 < LN.size + 1) := by omega
        simp only [Cmd.val] at hR
        clear h1 h2 h3 hL2 hLd
        go_upto_region 20 with (go_at_call 9; refine hR.mono ?_; rintro e y2 ⟨rfl, hb2⟩)
        clear hR
        replace yb := yb.below hb2 yb.lt
        replace zb2 := zb2.below hb2 zb2.lt
        replace by0 := by0.trans (hb2.mono by0.size)
        obtain ⟨Y3, eY3⟩ : ∃ X : World, X = y2.alloc (.cells #[.int .i64 c0, .int .i64 c1, .int .i64 c2, .int .i64 c3, .bool c4] 25) := ⟨_, rfl⟩
        rw [← eY3]
        have bY3 : Below y2.heap.size y2 Y3 := by rw [eY3]; exact (Below.refl _ _).alloc (Nat.le_refl _) _
        clear eY3
        replace yb := yb.below bY3 yb.lt
        replace zb2 := zb2.below bY3 zb2.lt
        replace by0 := by0.trans (bY3.mono by0.size)
        have r0 := (yb.c 0 (by decide)).1
        have s0 := (zb2.c 0 (by decide)).1
        have r1 := (yb.c 1 (by decide)).1
        have s1 := (zb2.c 1 (by decide)).1
        have r2 := (yb.c 2 (by decide)).1
        have s2 := (zb2.c 2 (by decide)).1
        have r3 := (yb.c 3 (by decide)).1
        have s3 := (zb2.c 3 (by decide)).1
        have r4 := (yb.c 4 (by decide)).1
        have s4 := (zb2.c 4 (by decide)).1
        have rz := yb.lt
        have sz := zb2.lt
        simp only [List.getD_cons_zero, List.getD_cons_succ] at r0 r1 r2 r3 r4 s0 s1 s2 s3 s4
        clear yb zb2
        go_wp2
        go_ret
        exact ⟨rfl, by0⟩
      · obtain ⟨h1, h2, h3⟩ := hbk 0 true
        have h4 := hlen 0 true
        clear hbk hlen
        obtain ⟨LN, eLN⟩ : ∃ x : ByteArray, x = ⟨#[102, 111, 114, 99, 101, 32]⟩ ++ TT ++ ⟨#[32, 99, 111, 109, 109, 105, 116]⟩ := ⟨_, rfl⟩
        have hLd : LN.data.toList = lineOf 0 true Lx Sx Nx := by
          rw [eLN]
          simp [lineOf, hTd, wForce, wCommit]
        have hLz : LN.size ≤ 59 := by
          have : LN.data.toList.length = LN.size := rfl
          rw [← this, hLd]
          exact h4
        have hL2 : (LN ++ ⟨#[32]⟩).data.toList = lineOf 0 true Lx Sx Nx ++ [32] := by
          rw [← hLd]
          simp
        have hLz2 : (LN ++ ⟨#[32]⟩).size ≤ 60 := by
          simp only [ByteArray.size_append]
          have e1 : (⟨#[32]⟩ : ByteArray).size = 1 := rfl
          rw [e1]
          omega
        clear h4
        obtain ⟨V0, eV⟩ : ∃ V0 : World, V0 = (u.setCell ⟨w.heap.size, 0, none⟩ (.int .i64 3)) := ⟨_, rfl⟩
        have yb : BoxN V0 w.heap.size 5 [.int .i64 3, .int .i64 (Lx : Int), .int .i64 (Sx : Int), .int .i64 (Nx : Int), .bool true] := by rw [eV]; exact (xb.set 0 (by decide) _)
        have by0 : Below w.heap.size w V0 := by rw [eV]; exact (bw.setCell (by simp) _)
        clear bw xb hTd
        go_upto_region 18 with (go_at_call 13; refine (hPK _).mono ?_; rintro e u9 ⟨rfl, hu9⟩; rw [hu9]; clear hu9)
        rw [← eV, ← eLN]
        clear eV eLN k0 k1 k2 k3 k4 q0 q1 q2 q3 q4 kz z1 z2 z3 z4 hPK
        have hR := read_any LN V0 (by omega) (fun U hU => HT.out U (by0.trans (hU.mono by0.size)))
        rw [hLd, h1, h2] at hR
        simp only [Cmd.val, cmdOf] at hR
        have hR2 : Calls Tryd.prog 9 #[.string LN] V0 fun e w' => e = .returned (.tuple #[.agg #[.int .i64 3, .int .i64 (Lx : Int), .int .i64 (Sx : Int), .int .i64 (Nx : Int), .bool true], .int .i64 0]) ∧ Below V0.heap.size V0 w' := hR
        clear hR
        go_upto_region 19 with (go_at_call 9; refine hR2.mono ?_; rintro e y1 ⟨rfl, hb1⟩)
        clear hR2
        replace yb := yb.below hb1 yb.lt
        replace by0 := by0.trans (hb1.mono by0.size)
        obtain ⟨Y2, eY2⟩ : ∃ X : World, X = y1.alloc (.cells #[.int .i64 3, .int .i64 (Lx : Int), .int .i64 (Sx : Int), .int .i64 (Nx : Int), .bool true] 25) := ⟨_, rfl⟩
        rw [← eY2]
        have zb2 : BoxN Y2 y1.heap.size 5 [.int .i64 3, .int .i64 (Lx : Int), .int .i64 (Sx : Int), .int .i64 (Nx : Int), .bool true] := by rw [eY2]; exact boxn_new y1 #[.int .i64 3, .int .i64 (Lx : Int), .int .i64 (Sx : Int), .int .i64 (Nx : Int), .bool true] 25 5 rfl
        have bY2 : Below y1.heap.size y1 Y2 := by rw [eY2]; exact (Below.refl _ _).alloc (Nat.le_refl _) _
        clear eY2
        replace yb := yb.below bY2 yb.lt
        replace by0 := by0.trans (bY2.mono by0.size)
        have hR := read_any (LN ++ ⟨#[32]⟩) Y2 (by omega) (fun U hU => HT.out U (by0.trans (hU.mono by0.size)))
        rw [hL2, h3] at hR
        obtain ⟨CC, eC⟩ : ∃ CC, CC = lineCmd (lineOf 0 true Lx Sx Nx ++ [32]) := ⟨_, rfl⟩
        rw [← eC] at hR
        clear eC
        obtain ⟨c0, c1, c2, c3, c4⟩ := CC
        have zz : ¬ (9223372036854775807 < LN.size + 1) := by omega
        simp only [Cmd.val] at hR
        clear h1 h2 h3 hL2 hLd
        go_upto_region 20 with (go_at_call 9; refine hR.mono ?_; rintro e y2 ⟨rfl, hb2⟩)
        clear hR
        replace yb := yb.below hb2 yb.lt
        replace zb2 := zb2.below hb2 zb2.lt
        replace by0 := by0.trans (hb2.mono by0.size)
        obtain ⟨Y3, eY3⟩ : ∃ X : World, X = y2.alloc (.cells #[.int .i64 c0, .int .i64 c1, .int .i64 c2, .int .i64 c3, .bool c4] 25) := ⟨_, rfl⟩
        rw [← eY3]
        have bY3 : Below y2.heap.size y2 Y3 := by rw [eY3]; exact (Below.refl _ _).alloc (Nat.le_refl _) _
        clear eY3
        replace yb := yb.below bY3 yb.lt
        replace zb2 := zb2.below bY3 zb2.lt
        replace by0 := by0.trans (bY3.mono by0.size)
        have r0 := (yb.c 0 (by decide)).1
        have s0 := (zb2.c 0 (by decide)).1
        have r1 := (yb.c 1 (by decide)).1
        have s1 := (zb2.c 1 (by decide)).1
        have r2 := (yb.c 2 (by decide)).1
        have s2 := (zb2.c 2 (by decide)).1
        have r3 := (yb.c 3 (by decide)).1
        have s3 := (zb2.c 3 (by decide)).1
        have r4 := (yb.c 4 (by decide)).1
        have s4 := (zb2.c 4 (by decide)).1
        have rz := yb.lt
        have sz := zb2.lt
        simp only [List.getD_cons_zero, List.getD_cons_succ] at r0 r1 r2 r3 r4 s0 s1 s2 s3 s4
        clear yb zb2
        go_wp2
        go_ret
        exact ⟨rfl, by0⟩
    · cases yes
      · obtain ⟨h1, h2, h3⟩ := hbk 1 false
        have h4 := hlen 1 false
        clear hbk hlen
        obtain ⟨LN, eLN⟩ : ∃ x : ByteArray, x = ⟨#[115, 116, 97, 116, 117, 115, 32]⟩ ++ TT := ⟨_, rfl⟩
        have hLd : LN.data.toList = lineOf 1 false Lx Sx Nx := by
          rw [eLN]
          simp [lineOf, hTd, wStatus]
        have hLz : LN.size ≤ 59 := by
          have : LN.data.toList.length = LN.size := rfl
          rw [← this, hLd]
          exact h4
        have hL2 : (LN ++ ⟨#[32]⟩).data.toList = lineOf 1 false Lx Sx Nx ++ [32] := by
          rw [← hLd]
          simp
        have hLz2 : (LN ++ ⟨#[32]⟩).size ≤ 60 := by
          simp only [ByteArray.size_append]
          have e1 : (⟨#[32]⟩ : ByteArray).size = 1 := rfl
          rw [e1]
          omega
        clear h4
        obtain ⟨V0, eV⟩ : ∃ V0 : World, V0 = (((u.setCell ⟨w.heap.size, 0, none⟩ (.int .i64 3)).setCell ⟨w.heap.size, 0, none⟩ (.int .i64 2)).setCell ⟨w.heap.size, 4, none⟩ (.bool false)) := ⟨_, rfl⟩
        have yb : BoxN V0 w.heap.size 5 [.int .i64 2, .int .i64 (Lx : Int), .int .i64 (Sx : Int), .int .i64 (Nx : Int), .bool false] := by rw [eV]; exact (((xb.set 0 (by decide) _).set 0 (by decide) _).set 4 (by decide) _)
        have by0 : Below w.heap.size w V0 := by rw [eV]; exact (((bw.setCell (by simp) _).setCell (by simp) _).setCell (by simp) _)
        clear bw xb hTd
        go_upto_region 18 with (go_at_call 13; refine (hPK _).mono ?_; rintro e u9 ⟨rfl, hu9⟩; rw [hu9]; clear hu9)
        rw [← eV, ← eLN]
        clear eV eLN k0 k1 k2 k3 k4 q0 q1 q2 q3 q4 kz z1 z2 z3 z4 hPK
        have hR := read_any LN V0 (by omega) (fun U hU => HT.out U (by0.trans (hU.mono by0.size)))
        rw [hLd, h1, h2] at hR
        simp only [Cmd.val, cmdOf] at hR
        have hR2 : Calls Tryd.prog 9 #[.string LN] V0 fun e w' => e = .returned (.tuple #[.agg #[.int .i64 2, .int .i64 (Lx : Int), .int .i64 (Sx : Int), .int .i64 (Nx : Int), .bool false], .int .i64 0]) ∧ Below V0.heap.size V0 w' := hR
        clear hR
        go_upto_region 19 with (go_at_call 9; refine hR2.mono ?_; rintro e y1 ⟨rfl, hb1⟩)
        clear hR2
        replace yb := yb.below hb1 yb.lt
        replace by0 := by0.trans (hb1.mono by0.size)
        obtain ⟨Y2, eY2⟩ : ∃ X : World, X = y1.alloc (.cells #[.int .i64 2, .int .i64 (Lx : Int), .int .i64 (Sx : Int), .int .i64 (Nx : Int), .bool false] 25) := ⟨_, rfl⟩
        rw [← eY2]
        have zb2 : BoxN Y2 y1.heap.size 5 [.int .i64 2, .int .i64 (Lx : Int), .int .i64 (Sx : Int), .int .i64 (Nx : Int), .bool false] := by rw [eY2]; exact boxn_new y1 #[.int .i64 2, .int .i64 (Lx : Int), .int .i64 (Sx : Int), .int .i64 (Nx : Int), .bool false] 25 5 rfl
        have bY2 : Below y1.heap.size y1 Y2 := by rw [eY2]; exact (Below.refl _ _).alloc (Nat.le_refl _) _
        clear eY2
        replace yb := yb.below bY2 yb.lt
        replace by0 := by0.trans (bY2.mono by0.size)
        have hR := read_any (LN ++ ⟨#[32]⟩) Y2 (by omega) (fun U hU => HT.out U (by0.trans (hU.mono by0.size)))
        rw [hL2, h3] at hR
        obtain ⟨CC, eC⟩ : ∃ CC, CC = lineCmd (lineOf 1 false Lx Sx Nx ++ [32]) := ⟨_, rfl⟩
        rw [← eC] at hR
        clear eC
        obtain ⟨c0, c1, c2, c3, c4⟩ := CC
        have zz : ¬ (9223372036854775807 < LN.size + 1) := by omega
        simp only [Cmd.val] at hR
        clear h1 h2 h3 hL2 hLd
        go_upto_region 20 with (go_at_call 9; refine hR.mono ?_; rintro e y2 ⟨rfl, hb2⟩)
        clear hR
        replace yb := yb.below hb2 yb.lt
        replace zb2 := zb2.below hb2 zb2.lt
        replace by0 := by0.trans (hb2.mono by0.size)
        obtain ⟨Y3, eY3⟩ : ∃ X : World, X = y2.alloc (.cells #[.int .i64 c0, .int .i64 c1, .int .i64 c2, .int .i64 c3, .bool c4] 25) := ⟨_, rfl⟩
        rw [← eY3]
        have bY3 : Below y2.heap.size y2 Y3 := by rw [eY3]; exact (Below.refl _ _).alloc (Nat.le_refl _) _
        clear eY3
        replace yb := yb.below bY3 yb.lt
        replace zb2 := zb2.below bY3 zb2.lt
        replace by0 := by0.trans (bY3.mono by0.size)
        have r0 := (yb.c 0 (by decide)).1
        have s0 := (zb2.c 0 (by decide)).1
        have r1 := (yb.c 1 (by decide)).1
        have s1 := (zb2.c 1 (by decide)).1
        have r2 := (yb.c 2 (by decide)).1
        have s2 := (zb2.c 2 (by decide)).1
        have r3 := (yb.c 3 (by decide)).1
        have s3 := (zb2.c 3 (by decide)).1
        have r4 := (yb.c 4 (by decide)).1
        have s4 := (zb2.c 4 (by decide)).1
        have rz := yb.lt
        have sz := zb2.lt
        simp only [List.getD_cons_zero, List.getD_cons_succ] at r0 r1 r2 r3 r4 s0 s1 s2 s3 s4
        clear yb zb2
        go_wp2
        go_ret
        exact ⟨rfl, by0⟩
      · obtain ⟨h1, h2, h3⟩ := hbk 1 true
        have h4 := hlen 1 true
        clear hbk hlen
        obtain ⟨LN, eLN⟩ : ∃ x : ByteArray, x = ⟨#[115, 116, 97, 116, 117, 115, 32]⟩ ++ TT := ⟨_, rfl⟩
        have hLd : LN.data.toList = lineOf 1 true Lx Sx Nx := by
          rw [eLN]
          simp [lineOf, hTd, wStatus]
        have hLz : LN.size ≤ 59 := by
          have : LN.data.toList.length = LN.size := rfl
          rw [← this, hLd]
          exact h4
        have hL2 : (LN ++ ⟨#[32]⟩).data.toList = lineOf 1 true Lx Sx Nx ++ [32] := by
          rw [← hLd]
          simp
        have hLz2 : (LN ++ ⟨#[32]⟩).size ≤ 60 := by
          simp only [ByteArray.size_append]
          have e1 : (⟨#[32]⟩ : ByteArray).size = 1 := rfl
          rw [e1]
          omega
        clear h4
        obtain ⟨V0, eV⟩ : ∃ V0 : World, V0 = (((u.setCell ⟨w.heap.size, 0, none⟩ (.int .i64 3)).setCell ⟨w.heap.size, 0, none⟩ (.int .i64 2)).setCell ⟨w.heap.size, 4, none⟩ (.bool false)) := ⟨_, rfl⟩
        have yb : BoxN V0 w.heap.size 5 [.int .i64 2, .int .i64 (Lx : Int), .int .i64 (Sx : Int), .int .i64 (Nx : Int), .bool false] := by rw [eV]; exact (((xb.set 0 (by decide) _).set 0 (by decide) _).set 4 (by decide) _)
        have by0 : Below w.heap.size w V0 := by rw [eV]; exact (((bw.setCell (by simp) _).setCell (by simp) _).setCell (by simp) _)
        clear bw xb hTd
        go_upto_region 18 with (go_at_call 13; refine (hPK _).mono ?_; rintro e u9 ⟨rfl, hu9⟩; rw [hu9]; clear hu9)
        rw [← eV, ← eLN]
        clear eV eLN k0 k1 k2 k3 k4 q0 q1 q2 q3 q4 kz z1 z2 z3 z4 hPK
        have hR := read_any LN V0 (by omega) (fun U hU => HT.out U (by0.trans (hU.mono by0.size)))
        rw [hLd, h1, h2] at hR
        simp only [Cmd.val, cmdOf] at hR
        have hR2 : Calls Tryd.prog 9 #[.string LN] V0 fun e w' => e = .returned (.tuple #[.agg #[.int .i64 2, .int .i64 (Lx : Int), .int .i64 (Sx : Int), .int .i64 (Nx : Int), .bool false], .int .i64 0]) ∧ Below V0.heap.size V0 w' := hR
        clear hR
        go_upto_region 19 with (go_at_call 9; refine hR2.mono ?_; rintro e y1 ⟨rfl, hb1⟩)
        clear hR2
        replace yb := yb.below hb1 yb.lt
        replace by0 := by0.trans (hb1.mono by0.size)
        obtain ⟨Y2, eY2⟩ : ∃ X : World, X = y1.alloc (.cells #[.int .i64 2, .int .i64 (Lx : Int), .int .i64 (Sx : Int), .int .i64 (Nx : Int), .bool false] 25) := ⟨_, rfl⟩
        rw [← eY2]
        have zb2 : BoxN Y2 y1.heap.size 5 [.int .i64 2, .int .i64 (Lx : Int), .int .i64 (Sx : Int), .int .i64 (Nx : Int), .bool false] := by rw [eY2]; exact boxn_new y1 #[.int .i64 2, .int .i64 (Lx : Int), .int .i64 (Sx : Int), .int .i64 (Nx : Int), .bool false] 25 5 rfl
        have bY2 : Below y1.heap.size y1 Y2 := by rw [eY2]; exact (Below.refl _ _).alloc (Nat.le_refl _) _
        clear eY2
        replace yb := yb.below bY2 yb.lt
        replace by0 := by0.trans (bY2.mono by0.size)
        have hR := read_any (LN ++ ⟨#[32]⟩) Y2 (by omega) (fun U hU => HT.out U (by0.trans (hU.mono by0.size)))
        rw [hL2, h3] at hR
        obtain ⟨CC, eC⟩ : ∃ CC, CC = lineCmd (lineOf 1 true Lx Sx Nx ++ [32]) := ⟨_, rfl⟩
        rw [← eC] at hR
        clear eC
        obtain ⟨c0, c1, c2, c3, c4⟩ := CC
        have zz : ¬ (9223372036854775807 < LN.size + 1) := by omega
        simp only [Cmd.val] at hR
        clear h1 h2 h3 hL2 hLd
        go_upto_region 20 with (go_at_call 9; refine hR.mono ?_; rintro e y2 ⟨rfl, hb2⟩)
        clear hR
        replace yb := yb.below hb2 yb.lt
        replace zb2 := zb2.below hb2 zb2.lt
        replace by0 := by0.trans (hb2.mono by0.size)
        obtain ⟨Y3, eY3⟩ : ∃ X : World, X = y2.alloc (.cells #[.int .i64 c0, .int .i64 c1, .int .i64 c2, .int .i64 c3, .bool c4] 25) := ⟨_, rfl⟩
        rw [← eY3]
        have bY3 : Below y2.heap.size y2 Y3 := by rw [eY3]; exact (Below.refl _ _).alloc (Nat.le_refl _) _
        clear eY3
        replace yb := yb.below bY3 yb.lt
        replace zb2 := zb2.below bY3 zb2.lt
        replace by0 := by0.trans (bY3.mono by0.size)
        have r0 := (yb.c 0 (by decide)).1
        have s0 := (zb2.c 0 (by decide)).1
        have r1 := (yb.c 1 (by decide)).1
        have s1 := (zb2.c 1 (by decide)).1
        have r2 := (yb.c 2 (by decide)).1
        have s2 := (zb2.c 2 (by decide)).1
        have r3 := (yb.c 3 (by decide)).1
        have s3 := (zb2.c 3 (by decide)).1
        have r4 := (yb.c 4 (by decide)).1
        have s4 := (zb2.c 4 (by decide)).1
        have rz := yb.lt
        have sz := zb2.lt
        simp only [List.getD_cons_zero, List.getD_cons_succ] at r0 r1 r2 r3 r4 s0 s1 s2 s3 s4
        clear yb zb2
        go_wp2
        go_ret
        exact ⟨rfl, by0⟩
    · cases yes
      · obtain ⟨h1, h2, h3⟩ := hbk 2 false
        have h4 := hlen 2 false
        clear hbk hlen
        obtain ⟨LN, eLN⟩ : ∃ x : ByteArray, x = ⟨#[108, 105, 115, 116]⟩ := ⟨_, rfl⟩
        have hLd : LN.data.toList = lineOf 2 false Lx Sx Nx := by
          rw [eLN]
          simp [lineOf, wList]
        have hLz : LN.size ≤ 59 := by
          have : LN.data.toList.length = LN.size := rfl
          rw [← this, hLd]
          exact h4
        have hL2 : (LN ++ ⟨#[32]⟩).data.toList = lineOf 2 false Lx Sx Nx ++ [32] := by
          rw [← hLd]
          simp
        have hLz2 : (LN ++ ⟨#[32]⟩).size ≤ 60 := by
          simp only [ByteArray.size_append]
          have e1 : (⟨#[32]⟩ : ByteArray).size = 1 := rfl
          rw [e1]
          omega
        clear h4
        obtain ⟨V0, eV⟩ : ∃ V0 : World, V0 = ((((((u.setCell ⟨w.heap.size, 0, none⟩ (.int .i64 3)).setCell ⟨w.heap.size, 0, none⟩ (.int .i64 1)).setCell ⟨w.heap.size, 1, none⟩ (.int .i64 0)).setCell ⟨w.heap.size, 2, none⟩ (.int .i64 0)).setCell ⟨w.heap.size, 3, none⟩ (.int .i64 0)).setCell ⟨w.heap.size, 4, none⟩ (.bool false)) := ⟨_, rfl⟩
        have yb : BoxN V0 w.heap.size 5 [.int .i64 1, .int .i64 0, .int .i64 0, .int .i64 0, .bool false] := by rw [eV]; exact ((((((xb.set 0 (by decide) _).set 0 (by decide) _).set 1 (by decide) _).set 2 (by decide) _).set 3 (by decide) _).set 4 (by decide) _)
        have by0 : Below w.heap.size w V0 := by rw [eV]; exact ((((((bw.setCell (by simp) _).setCell (by simp) _).setCell (by simp) _).setCell (by simp) _).setCell (by simp) _).setCell (by simp) _)
        clear bw xb hTd
        go_upto_region 18 with (go_at_call 13; refine (hPK _).mono ?_; rintro e u9 ⟨rfl, hu9⟩; rw [hu9]; clear hu9)
        rw [← eV, ← eLN]
        clear eV eLN k0 k1 k2 k3 k4 q0 q1 q2 q3 q4 kz z1 z2 z3 z4 hPK
        have hR := read_any LN V0 (by omega) (fun U hU => HT.out U (by0.trans (hU.mono by0.size)))
        rw [hLd, h1, h2] at hR
        simp only [Cmd.val, cmdOf] at hR
        have hR2 : Calls Tryd.prog 9 #[.string LN] V0 fun e w' => e = .returned (.tuple #[.agg #[.int .i64 1, .int .i64 0, .int .i64 0, .int .i64 0, .bool false], .int .i64 0]) ∧ Below V0.heap.size V0 w' := hR
        clear hR
        go_upto_region 19 with (go_at_call 9; refine hR2.mono ?_; rintro e y1 ⟨rfl, hb1⟩)
        clear hR2
        replace yb := yb.below hb1 yb.lt
        replace by0 := by0.trans (hb1.mono by0.size)
        obtain ⟨Y2, eY2⟩ : ∃ X : World, X = y1.alloc (.cells #[.int .i64 1, .int .i64 0, .int .i64 0, .int .i64 0, .bool false] 25) := ⟨_, rfl⟩
        rw [← eY2]
        have zb2 : BoxN Y2 y1.heap.size 5 [.int .i64 1, .int .i64 0, .int .i64 0, .int .i64 0, .bool false] := by rw [eY2]; exact boxn_new y1 #[.int .i64 1, .int .i64 0, .int .i64 0, .int .i64 0, .bool false] 25 5 rfl
        have bY2 : Below y1.heap.size y1 Y2 := by rw [eY2]; exact (Below.refl _ _).alloc (Nat.le_refl _) _
        clear eY2
        replace yb := yb.below bY2 yb.lt
        replace by0 := by0.trans (bY2.mono by0.size)
        have hR := read_any (LN ++ ⟨#[32]⟩) Y2 (by omega) (fun U hU => HT.out U (by0.trans (hU.mono by0.size)))
        rw [hL2, h3] at hR
        obtain ⟨CC, eC⟩ : ∃ CC, CC = lineCmd (lineOf 2 false Lx Sx Nx ++ [32]) := ⟨_, rfl⟩
        rw [← eC] at hR
        clear eC
        obtain ⟨c0, c1, c2, c3, c4⟩ := CC
        have zz : ¬ (9223372036854775807 < LN.size + 1) := by omega
        simp only [Cmd.val] at hR
        clear h1 h2 h3 hL2 hLd
        go_upto_region 20 with (go_at_call 9; refine hR.mono ?_; rintro e y2 ⟨rfl, hb2⟩)
        clear hR
        replace yb := yb.below hb2 yb.lt
        replace zb2 := zb2.below hb2 zb2.lt
        replace by0 := by0.trans (hb2.mono by0.size)
        obtain ⟨Y3, eY3⟩ : ∃ X : World, X = y2.alloc (.cells #[.int .i64 c0, .int .i64 c1, .int .i64 c2, .int .i64 c3, .bool c4] 25) := ⟨_, rfl⟩
        rw [← eY3]
        have bY3 : Below y2.heap.size y2 Y3 := by rw [eY3]; exact (Below.refl _ _).alloc (Nat.le_refl _) _
        clear eY3
        replace yb := yb.below bY3 yb.lt
        replace zb2 := zb2.below bY3 zb2.lt
        replace by0 := by0.trans (bY3.mono by0.size)
        have r0 := (yb.c 0 (by decide)).1
        have s0 := (zb2.c 0 (by decide)).1
        have r1 := (yb.c 1 (by decide)).1
        have s1 := (zb2.c 1 (by decide)).1
        have r2 := (yb.c 2 (by decide)).1
        have s2 := (zb2.c 2 (by decide)).1
        have r3 := (yb.c 3 (by decide)).1
        have s3 := (zb2.c 3 (by decide)).1
        have r4 := (yb.c 4 (by decide)).1
        have s4 := (zb2.c 4 (by decide)).1
        have rz := yb.lt
        have sz := zb2.lt
        simp only [List.getD_cons_zero, List.getD_cons_succ] at r0 r1 r2 r3 r4 s0 s1 s2 s3 s4
        clear yb zb2
        go_wp2
        go_ret
        exact ⟨rfl, by0⟩
      · obtain ⟨h1, h2, h3⟩ := hbk 2 true
        have h4 := hlen 2 true
        clear hbk hlen
        obtain ⟨LN, eLN⟩ : ∃ x : ByteArray, x = ⟨#[108, 105, 115, 116]⟩ := ⟨_, rfl⟩
        have hLd : LN.data.toList = lineOf 2 true Lx Sx Nx := by
          rw [eLN]
          simp [lineOf, wList]
        have hLz : LN.size ≤ 59 := by
          have : LN.data.toList.length = LN.size := rfl
          rw [← this, hLd]
          exact h4
        have hL2 : (LN ++ ⟨#[32]⟩).data.toList = lineOf 2 true Lx Sx Nx ++ [32] := by
          rw [← hLd]
          simp
        have hLz2 : (LN ++ ⟨#[32]⟩).size ≤ 60 := by
          simp only [ByteArray.size_append]
          have e1 : (⟨#[32]⟩ : ByteArray).size = 1 := rfl
          rw [e1]
          omega
        clear h4
        obtain ⟨V0, eV⟩ : ∃ V0 : World, V0 = ((((((u.setCell ⟨w.heap.size, 0, none⟩ (.int .i64 3)).setCell ⟨w.heap.size, 0, none⟩ (.int .i64 1)).setCell ⟨w.heap.size, 1, none⟩ (.int .i64 0)).setCell ⟨w.heap.size, 2, none⟩ (.int .i64 0)).setCell ⟨w.heap.size, 3, none⟩ (.int .i64 0)).setCell ⟨w.heap.size, 4, none⟩ (.bool false)) := ⟨_, rfl⟩
        have yb : BoxN V0 w.heap.size 5 [.int .i64 1, .int .i64 0, .int .i64 0, .int .i64 0, .bool false] := by rw [eV]; exact ((((((xb.set 0 (by decide) _).set 0 (by decide) _).set 1 (by decide) _).set 2 (by decide) _).set 3 (by decide) _).set 4 (by decide) _)
        have by0 : Below w.heap.size w V0 := by rw [eV]; exact ((((((bw.setCell (by simp) _).setCell (by simp) _).setCell (by simp) _).setCell (by simp) _).setCell (by simp) _).setCell (by simp) _)
        clear bw xb hTd
        go_upto_region 18 with (go_at_call 13; refine (hPK _).mono ?_; rintro e u9 ⟨rfl, hu9⟩; rw [hu9]; clear hu9)
        rw [← eV, ← eLN]
        clear eV eLN k0 k1 k2 k3 k4 q0 q1 q2 q3 q4 kz z1 z2 z3 z4 hPK
        have hR := read_any LN V0 (by omega) (fun U hU => HT.out U (by0.trans (hU.mono by0.size)))
        rw [hLd, h1, h2] at hR
        simp only [Cmd.val, cmdOf] at hR
        have hR2 : Calls Tryd.prog 9 #[.string LN] V0 fun e w' => e = .returned (.tuple #[.agg #[.int .i64 1, .int .i64 0, .int .i64 0, .int .i64 0, .bool false], .int .i64 0]) ∧ Below V0.heap.size V0 w' := hR
        clear hR
        go_upto_region 19 with (go_at_call 9; refine hR2.mono ?_; rintro e y1 ⟨rfl, hb1⟩)
        clear hR2
        replace yb := yb.below hb1 yb.lt
        replace by0 := by0.trans (hb1.mono by0.size)
        obtain ⟨Y2, eY2⟩ : ∃ X : World, X = y1.alloc (.cells #[.int .i64 1, .int .i64 0, .int .i64 0, .int .i64 0, .bool false] 25) := ⟨_, rfl⟩
        rw [← eY2]
        have zb2 : BoxN Y2 y1.heap.size 5 [.int .i64 1, .int .i64 0, .int .i64 0, .int .i64 0, .bool false] := by rw [eY2]; exact boxn_new y1 #[.int .i64 1, .int .i64 0, .int .i64 0, .int .i64 0, .bool false] 25 5 rfl
        have bY2 : Below y1.heap.size y1 Y2 := by rw [eY2]; exact (Below.refl _ _).alloc (Nat.le_refl _) _
        clear eY2
        replace yb := yb.below bY2 yb.lt
        replace by0 := by0.trans (bY2.mono by0.size)
        have hR := read_any (LN ++ ⟨#[32]⟩) Y2 (by omega) (fun U hU => HT.out U (by0.trans (hU.mono by0.size)))
        rw [hL2, h3] at hR
        obtain ⟨CC, eC⟩ : ∃ CC, CC = lineCmd (lineOf 2 true Lx Sx Nx ++ [32]) := ⟨_, rfl⟩
        rw [← eC] at hR
        clear eC
        obtain ⟨c0, c1, c2, c3, c4⟩ := CC
        have zz : ¬ (9223372036854775807 < LN.size + 1) := by omega
        simp only [Cmd.val] at hR
        clear h1 h2 h3 hL2 hLd
        go_upto_region 20 with (go_at_call 9; refine hR.mono ?_; rintro e y2 ⟨rfl, hb2⟩)
        clear hR
        replace yb := yb.below hb2 yb.lt
        replace zb2 := zb2.below hb2 zb2.lt
        replace by0 := by0.trans (hb2.mono by0.size)
        obtain ⟨Y3, eY3⟩ : ∃ X : World, X = y2.alloc (.cells #[.int .i64 c0, .int .i64 c1, .int .i64 c2, .int .i64 c3, .bool c4] 25) := ⟨_, rfl⟩
        rw [← eY3]
        have bY3 : Below y2.heap.size y2 Y3 := by rw [eY3]; exact (Below.refl _ _).alloc (Nat.le_refl _) _
        clear eY3
        replace yb := yb.below bY3 yb.lt
        replace zb2 := zb2.below bY3 zb2.lt
        replace by0 := by0.trans (bY3.mono by0.size)
        have r0 := (yb.c 0 (by decide)).1
        have s0 := (zb2.c 0 (by decide)).1
        have r1 := (yb.c 1 (by decide)).1
        have s1 := (zb2.c 1 (by decide)).1
        have r2 := (yb.c 2 (by decide)).1
        have s2 := (zb2.c 2 (by decide)).1
        have r3 := (yb.c 3 (by decide)).1
        have s3 := (zb2.c 3 (by decide)).1
        have r4 := (yb.c 4 (by decide)).1
        have s4 := (zb2.c 4 (by decide)).1
        have rz := yb.lt
        have sz := zb2.lt
        simp only [List.getD_cons_zero, List.getD_cons_succ] at r0 r1 r2 r3 r4 s0 s1 s2 s3 s4
        clear yb zb2
        go_wp2
        go_ret
        exact ⟨rfl, by0⟩
    · cases yes
      · obtain ⟨h1, h2, h3⟩ := hbk 3 false
        have h4 := hlen 3 false
        clear hbk hlen
        obtain ⟨LN, eLN⟩ : ∃ x : ByteArray, x = ⟨#[97, 117, 100, 105, 116]⟩ := ⟨_, rfl⟩
        have hLd : LN.data.toList = lineOf 3 false Lx Sx Nx := by
          rw [eLN]
          simp [lineOf, wAudit]
        have hLz : LN.size ≤ 59 := by
          have : LN.data.toList.length = LN.size := rfl
          rw [← this, hLd]
          exact h4
        have hL2 : (LN ++ ⟨#[32]⟩).data.toList = lineOf 3 false Lx Sx Nx ++ [32] := by
          rw [← hLd]
          simp
        have hLz2 : (LN ++ ⟨#[32]⟩).size ≤ 60 := by
          simp only [ByteArray.size_append]
          have e1 : (⟨#[32]⟩ : ByteArray).size = 1 := rfl
          rw [e1]
          omega
        clear h4
        obtain ⟨V0, eV⟩ : ∃ V0 : World, V0 = ((((((u.setCell ⟨w.heap.size, 0, none⟩ (.int .i64 3)).setCell ⟨w.heap.size, 0, none⟩ (.int .i64 4)).setCell ⟨w.heap.size, 1, none⟩ (.int .i64 0)).setCell ⟨w.heap.size, 2, none⟩ (.int .i64 0)).setCell ⟨w.heap.size, 3, none⟩ (.int .i64 0)).setCell ⟨w.heap.size, 4, none⟩ (.bool false)) := ⟨_, rfl⟩
        have yb : BoxN V0 w.heap.size 5 [.int .i64 4, .int .i64 0, .int .i64 0, .int .i64 0, .bool false] := by rw [eV]; exact ((((((xb.set 0 (by decide) _).set 0 (by decide) _).set 1 (by decide) _).set 2 (by decide) _).set 3 (by decide) _).set 4 (by decide) _)
        have by0 : Below w.heap.size w V0 := by rw [eV]; exact ((((((bw.setCell (by simp) _).setCell (by simp) _).setCell (by simp) _).setCell (by simp) _).setCell (by simp) _).setCell (by simp) _)
        clear bw xb hTd
        go_upto_region 18 with (go_at_call 13; refine (hPK _).mono ?_; rintro e u9 ⟨rfl, hu9⟩; rw [hu9]; clear hu9)
        rw [← eV, ← eLN]
        clear eV eLN k0 k1 k2 k3 k4 q0 q1 q2 q3 q4 kz z1 z2 z3 z4 hPK
        have hR := read_any LN V0 (by omega) (fun U hU => HT.out U (by0.trans (hU.mono by0.size)))
        rw [hLd, h1, h2] at hR
        simp only [Cmd.val, cmdOf] at hR
        have hR2 : Calls Tryd.prog 9 #[.string LN] V0 fun e w' => e = .returned (.tuple #[.agg #[.int .i64 4, .int .i64 0, .int .i64 0, .int .i64 0, .bool false], .int .i64 0]) ∧ Below V0.heap.size V0 w' := hR
        clear hR
        go_upto_region 19 with (go_at_call 9; refine hR2.mono ?_; rintro e y1 ⟨rfl, hb1⟩)
        clear hR2
        replace yb := yb.below hb1 yb.lt
        replace by0 := by0.trans (hb1.mono by0.size)
        obtain ⟨Y2, eY2⟩ : ∃ X : World, X = y1.alloc (.cells #[.int .i64 4, .int .i64 0, .int .i64 0, .int .i64 0, .bool false] 25) := ⟨_, rfl⟩
        rw [← eY2]
        have zb2 : BoxN Y2 y1.heap.size 5 [.int .i64 4, .int .i64 0, .int .i64 0, .int .i64 0, .bool false] := by rw [eY2]; exact boxn_new y1 #[.int .i64 4, .int .i64 0, .int .i64 0, .int .i64 0, .bool false] 25 5 rfl
        have bY2 : Below y1.heap.size y1 Y2 := by rw [eY2]; exact (Below.refl _ _).alloc (Nat.le_refl _) _
        clear eY2
        replace yb := yb.below bY2 yb.lt
        replace by0 := by0.trans (bY2.mono by0.size)
        have hR := read_any (LN ++ ⟨#[32]⟩) Y2 (by omega) (fun U hU => HT.out U (by0.trans (hU.mono by0.size)))
        rw [hL2, h3] at hR
        obtain ⟨CC, eC⟩ : ∃ CC, CC = lineCmd (lineOf 3 false Lx Sx Nx ++ [32]) := ⟨_, rfl⟩
        rw [← eC] at hR
        clear eC
        obtain ⟨c0, c1, c2, c3, c4⟩ := CC
        have zz : ¬ (9223372036854775807 < LN.size + 1) := by omega
        simp only [Cmd.val] at hR
        clear h1 h2 h3 hL2 hLd
        go_upto_region 20 with (go_at_call 9; refine hR.mono ?_; rintro e y2 ⟨rfl, hb2⟩)
        clear hR
        replace yb := yb.below hb2 yb.lt
        replace zb2 := zb2.below hb2 zb2.lt
        replace by0 := by0.trans (hb2.mono by0.size)
        obtain ⟨Y3, eY3⟩ : ∃ X : World, X = y2.alloc (.cells #[.int .i64 c0, .int .i64 c1, .int .i64 c2, .int .i64 c3, .bool c4] 25) := ⟨_, rfl⟩
        rw [← eY3]
        have bY3 : Below y2.heap.size y2 Y3 := by rw [eY3]; exact (Below.refl _ _).alloc (Nat.le_refl _) _
        clear eY3
        replace yb := yb.below bY3 yb.lt
        replace zb2 := zb2.below bY3 zb2.lt
        replace by0 := by0.trans (bY3.mono by0.size)
        have r0 := (yb.c 0 (by decide)).1
        have s0 := (zb2.c 0 (by decide)).1
        have r1 := (yb.c 1 (by decide)).1
        have s1 := (zb2.c 1 (by decide)).1
        have r2 := (yb.c 2 (by decide)).1
        have s2 := (zb2.c 2 (by decide)).1
        have r3 := (yb.c 3 (by decide)).1
        have s3 := (zb2.c 3 (by decide)).1
        have r4 := (yb.c 4 (by decide)).1
        have s4 := (zb2.c 4 (by decide)).1
        have rz := yb.lt
        have sz := zb2.lt
        simp only [List.getD_cons_zero, List.getD_cons_succ] at r0 r1 r2 r3 r4 s0 s1 s2 s3 s4
        clear yb zb2
        go_wp2
        go_ret
        exact ⟨rfl, by0⟩
      · obtain ⟨h1, h2, h3⟩ := hbk 3 true
        have h4 := hlen 3 true
        clear hbk hlen
        obtain ⟨LN, eLN⟩ : ∃ x : ByteArray, x = ⟨#[97, 117, 100, 105, 116]⟩ := ⟨_, rfl⟩
        have hLd : LN.data.toList = lineOf 3 true Lx Sx Nx := by
          rw [eLN]
          simp [lineOf, wAudit]
        have hLz : LN.size ≤ 59 := by
          have : LN.data.toList.length = LN.size := rfl
          rw [← this, hLd]
          exact h4
        have hL2 : (LN ++ ⟨#[32]⟩).data.toList = lineOf 3 true Lx Sx Nx ++ [32] := by
          rw [← hLd]
          simp
        have hLz2 : (LN ++ ⟨#[32]⟩).size ≤ 60 := by
          simp only [ByteArray.size_append]
          have e1 : (⟨#[32]⟩ : ByteArray).size = 1 := rfl
          rw [e1]
          omega
        clear h4
        obtain ⟨V0, eV⟩ : ∃ V0 : World, V0 = ((((((u.setCell ⟨w.heap.size, 0, none⟩ (.int .i64 3)).setCell ⟨w.heap.size, 0, none⟩ (.int .i64 4)).setCell ⟨w.heap.size, 1, none⟩ (.int .i64 0)).setCell ⟨w.heap.size, 2, none⟩ (.int .i64 0)).setCell ⟨w.heap.size, 3, none⟩ (.int .i64 0)).setCell ⟨w.heap.size, 4, none⟩ (.bool false)) := ⟨_, rfl⟩
        have yb : BoxN V0 w.heap.size 5 [.int .i64 4, .int .i64 0, .int .i64 0, .int .i64 0, .bool false] := by rw [eV]; exact ((((((xb.set 0 (by decide) _).set 0 (by decide) _).set 1 (by decide) _).set 2 (by decide) _).set 3 (by decide) _).set 4 (by decide) _)
        have by0 : Below w.heap.size w V0 := by rw [eV]; exact ((((((bw.setCell (by simp) _).setCell (by simp) _).setCell (by simp) _).setCell (by simp) _).setCell (by simp) _).setCell (by simp) _)
        clear bw xb hTd
        go_upto_region 18 with (go_at_call 13; refine (hPK _).mono ?_; rintro e u9 ⟨rfl, hu9⟩; rw [hu9]; clear hu9)
        rw [← eV, ← eLN]
        clear eV eLN k0 k1 k2 k3 k4 q0 q1 q2 q3 q4 kz z1 z2 z3 z4 hPK
        have hR := read_any LN V0 (by omega) (fun U hU => HT.out U (by0.trans (hU.mono by0.size)))
        rw [hLd, h1, h2] at hR
        simp only [Cmd.val, cmdOf] at hR
        have hR2 : Calls Tryd.prog 9 #[.string LN] V0 fun e w' => e = .returned (.tuple #[.agg #[.int .i64 4, .int .i64 0, .int .i64 0, .int .i64 0, .bool false], .int .i64 0]) ∧ Below V0.heap.size V0 w' := hR
        clear hR
        go_upto_region 19 with (go_at_call 9; refine hR2.mono ?_; rintro e y1 ⟨rfl, hb1⟩)
        clear hR2
        replace yb := yb.below hb1 yb.lt
        replace by0 := by0.trans (hb1.mono by0.size)
        obtain ⟨Y2, eY2⟩ : ∃ X : World, X = y1.alloc (.cells #[.int .i64 4, .int .i64 0, .int .i64 0, .int .i64 0, .bool false] 25) := ⟨_, rfl⟩
        rw [← eY2]
        have zb2 : BoxN Y2 y1.heap.size 5 [.int .i64 4, .int .i64 0, .int .i64 0, .int .i64 0, .bool false] := by rw [eY2]; exact boxn_new y1 #[.int .i64 4, .int .i64 0, .int .i64 0, .int .i64 0, .bool false] 25 5 rfl
        have bY2 : Below y1.heap.size y1 Y2 := by rw [eY2]; exact (Below.refl _ _).alloc (Nat.le_refl _) _
        clear eY2
        replace yb := yb.below bY2 yb.lt
        replace by0 := by0.trans (bY2.mono by0.size)
        have hR := read_any (LN ++ ⟨#[32]⟩) Y2 (by omega) (fun U hU => HT.out U (by0.trans (hU.mono by0.size)))
        rw [hL2, h3] at hR
        obtain ⟨CC, eC⟩ : ∃ CC, CC = lineCmd (lineOf 3 true Lx Sx Nx ++ [32]) := ⟨_, rfl⟩
        rw [← eC] at hR
        clear eC
        obtain ⟨c0, c1, c2, c3, c4⟩ := CC
        have zz : ¬ (9223372036854775807 < LN.size + 1) := by omega
        simp only [Cmd.val] at hR
        clear h1 h2 h3 hL2 hLd
        go_upto_region 20 with (go_at_call 9; refine hR.mono ?_; rintro e y2 ⟨rfl, hb2⟩)
        clear hR
        replace yb := yb.below hb2 yb.lt
        replace zb2 := zb2.below hb2 zb2.lt
        replace by0 := by0.trans (hb2.mono by0.size)
        obtain ⟨Y3, eY3⟩ : ∃ X : World, X = y2.alloc (.cells #[.int .i64 c0, .int .i64 c1, .int .i64 c2, .int .i64 c3, .bool c4] 25) := ⟨_, rfl⟩
        rw [← eY3]
        have bY3 : Below y2.heap.size y2 Y3 := by rw [eY3]; exact (Below.refl _ _).alloc (Nat.le_refl _) _
        clear eY3
        replace yb := yb.below bY3 yb.lt
        replace zb2 := zb2.below bY3 zb2.lt
        replace by0 := by0.trans (bY3.mono by0.size)
        have r0 := (yb.c 0 (by decide)).1
        have s0 := (zb2.c 0 (by decide)).1
        have r1 := (yb.c 1 (by decide)).1
        have s1 := (zb2.c 1 (by decide)).1
        have r2 := (yb.c 2 (by decide)).1
        have s2 := (zb2.c 2 (by decide)).1
        have r3 := (yb.c 3 (by decide)).1
        have s3 := (zb2.c 3 (by decide)).1
        have r4 := (yb.c 4 (by decide)).1
        have s4 := (zb2.c 4 (by decide)).1
        have rz := yb.lt
        have sz := zb2.lt
        simp only [List.getD_cons_zero, List.getD_cons_succ] at r0 r1 r2 r3 r4 s0 s1 s2 s3 s4
        clear yb zb2
        go_wp2
        go_ret
        exact ⟨rfl, by0⟩
end Go.Proofs.YtgohpgollpjlnaaDoor.Cn
/- Closed facts of the row of ConsoleBack, by the kernel. -/
namespace Go.Proofs.YtgohpgollpjlnaaDoor.consoleBackProof
set_option maxRecDepth 100000
theorem c_inPlace : (Rows.consoleBackRow.inPlace == Tryd.pinned.checked.prog.inPlace 5) = true := by kernel_rfl
end Go.Proofs.YtgohpgollpjlnaaDoor.consoleBackProof
