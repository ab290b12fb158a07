/- The contract of ask: a call of raw numbers is some numbers; what was in memory stays. -/
import Derived.Test.YtjihmhijnpjnoaaGreatDoorDec
import Derived.Test.YtjihmhijnpjnoaaGreatDoorLnPlain
import Derived.Deep.RegionWith
namespace Go.Proofs.YtjihmhijnpjnoaaGreatDoor.Ln
open Go.ChangeShapes Go.WideShapes Go.ChangeAt Go.RowKit
set_option linter.unusedVariables false

theorem cf_of {c0 c1 c2 c3 c4 : Int} (h0 : inR c0 1 5 = true) (h1 : inTops cTops [c1, c2, c3, c4] = true) (h2 : only (cHas.getD c0.toNat []) [c1, c2, c3, c4] = true) : callFault c0 c1 c2 c3 c4 = 0 := by
  unfold callFault
  rw [if_neg (by rw [h0]; simp), if_neg (by rw [h1]; simp), if_neg (by rw [h2]; simp)]
set_option maxHeartbeats 2000000 in
theorem ask_any (kd ra rb rc rd re : Int) (w : World) (hkd : -9223372036854775808 ≤ kd ∧ kd ≤ 9223372036854775807) (hra : -9223372036854775808 ≤ ra ∧ ra ≤ 9223372036854775807) (hrb : -9223372036854775808 ≤ rb ∧ rb ≤ 9223372036854775807) (hrc : -9223372036854775808 ≤ rc ∧ rc ≤ 9223372036854775807) (hrd : -9223372036854775808 ≤ rd ∧ rd ≤ 9223372036854775807) :
    Calls Tryz.prog 10 #[.agg #[.int .i64 kd, .int .i64 ra, .int .i64 rb, .int .i64 rc, .int .i64 rd, .int .i64 re]] w fun e w' => ∃ c0 c1 c2 c3 c4 : Int, e = .returned (.agg #[.int .i64 c0, .int .i64 c1, .int .i64 c2, .int .i64 c3, .int .i64 c4]) ∧ (0 ≤ c3 ∧ c3 ≤ 3) ∧ callFault c0 c1 c2 c3 c4 = 0 ∧ Below w.heap.size w w' := by
  have zK := pk_bd kd 5 (by decide)
  have zA := pk_bd ra 4 (by decide)
  have zB := pk_bd rb 3 (by decide)
  have zC := pk_bd rc 4 (by decide)
  have zD := pk_bd rd 99 (by decide)
  have cK := fun w' => picked_any kd 5 w' hkd (by decide) (by decide)
  have cA := fun w' => picked_any ra 4 w' hra (by decide) (by decide)
  have cB := fun w' => picked_any rb 3 w' hrb (by decide) (by decide)
  have cC := fun w' => picked_any rc 4 w' hrc (by decide) (by decide)
  have cD := fun w' => picked_any rd 99 w' hrd (by decide) (by decide)
  obtain ⟨K, eK⟩ : ∃ x, x = pk kd 5 := ⟨_, rfl⟩
  obtain ⟨A, eA⟩ : ∃ x, x = pk ra 4 := ⟨_, rfl⟩
  obtain ⟨B, eB⟩ : ∃ x, x = pk rb 3 := ⟨_, rfl⟩
  obtain ⟨C, eC⟩ : ∃ x, x = pk rc 4 := ⟨_, rfl⟩
  obtain ⟨D, eD⟩ : ∃ x, x = pk rd 99 := ⟨_, rfl⟩
  rw [← eK] at zK cK
  rw [← eA] at zA cA
  rw [← eB] at zB cB
  rw [← eC] at zC cC
  rw [← eD] at zD cD
  clear eK eA eB eC eD
  obtain ⟨zA1, zA2⟩ := zA
  obtain ⟨zC1, zC2⟩ := zC
  have hK : K = 0 ∨ K = 1 ∨ K = 2 ∨ K = 3 ∨ K = 4 := by omega
  rcases hK with rfl | rfl | rfl | rfl | rfl
  · go_enter Tryz.func10, Tryz.ntmps10
    go_wp2_with (first | (go_at_call_of 8 (Value.int .i64 kd); refine (cK _).mono ?_; rintro e w1 ⟨rfl, rfl⟩) | (go_at_call_of 8 (Value.int .i64 ra); refine (cA _).mono ?_; rintro e w1 ⟨rfl, rfl⟩) | (go_at_call_of 8 (Value.int .i64 rb); refine (cB _).mono ?_; rintro e w1 ⟨rfl, rfl⟩) | (go_at_call_of 8 (Value.int .i64 rc); refine (cC _).mono ?_; rintro e w1 ⟨rfl, rfl⟩) | (go_at_call_of 8 (Value.int .i64 rd); refine (cD _).mono ?_; rintro e w1 ⟨rfl, rfl⟩))
    refine bodyPost_ret (v := .agg #[.int .i64 1, .int .i64 0, .int .i64 0, .int .i64 0, .int .i64 0]) (by simp [results, Tryz.results10, go_sem]) rfl ⟨_, _, _, _, _, rfl, by omega, cf_of (by decide) (by simp [inTops, cTops, inR]; try omega) (by simp [only, cHas]), ?_⟩
    repeat (first | exact Below.refl _ _ | refine Below.setCell ?_ (by first | (simp; done) | (simp; omega)) _ | refine Below.alloc ?_ (by first | (simp; done) | (simp; omega)) _)
  · go_enter Tryz.func10, Tryz.ntmps10
    go_wp2_with (first | (go_at_call_of 8 (Value.int .i64 kd); refine (cK _).mono ?_; rintro e w1 ⟨rfl, rfl⟩) | (go_at_call_of 8 (Value.int .i64 ra); refine (cA _).mono ?_; rintro e w1 ⟨rfl, rfl⟩) | (go_at_call_of 8 (Value.int .i64 rb); refine (cB _).mono ?_; rintro e w1 ⟨rfl, rfl⟩) | (go_at_call_of 8 (Value.int .i64 rc); refine (cC _).mono ?_; rintro e w1 ⟨rfl, rfl⟩) | (go_at_call_of 8 (Value.int .i64 rd); refine (cD _).mono ?_; rintro e w1 ⟨rfl, rfl⟩))
    refine bodyPost_ret (v := .agg #[.int .i64 2, .int .i64 (1 + A), .int .i64 B, .int .i64 C, .int .i64 0]) (by simp [results, Tryz.results10, go_sem]) rfl ⟨_, _, _, _, _, rfl, by omega, cf_of (by decide) (by simp [inTops, cTops, inR]; try omega) (by simp [only, cHas]), ?_⟩
    repeat (first | exact Below.refl _ _ | refine Below.setCell ?_ (by first | (simp; done) | (simp; omega)) _ | refine Below.alloc ?_ (by first | (simp; done) | (simp; omega)) _)
  · go_enter Tryz.func10, Tryz.ntmps10
    go_wp2_with (first | (go_at_call_of 8 (Value.int .i64 kd); refine (cK _).mono ?_; rintro e w1 ⟨rfl, rfl⟩) | (go_at_call_of 8 (Value.int .i64 ra); refine (cA _).mono ?_; rintro e w1 ⟨rfl, rfl⟩) | (go_at_call_of 8 (Value.int .i64 rb); refine (cB _).mono ?_; rintro e w1 ⟨rfl, rfl⟩) | (go_at_call_of 8 (Value.int .i64 rc); refine (cC _).mono ?_; rintro e w1 ⟨rfl, rfl⟩) | (go_at_call_of 8 (Value.int .i64 rd); refine (cD _).mono ?_; rintro e w1 ⟨rfl, rfl⟩))
    refine bodyPost_ret (v := .agg #[.int .i64 3, .int .i64 (1 + A), .int .i64 0, .int .i64 C, .int .i64 D]) (by simp [results, Tryz.results10, go_sem]) rfl ⟨_, _, _, _, _, rfl, by omega, cf_of (by decide) (by simp [inTops, cTops, inR]; try omega) (by simp [only, cHas]), ?_⟩
    repeat (first | exact Below.refl _ _ | refine Below.setCell ?_ (by first | (simp; done) | (simp; omega)) _ | refine Below.alloc ?_ (by first | (simp; done) | (simp; omega)) _)
  · go_enter Tryz.func10, Tryz.ntmps10
    go_wp2_with (first | (go_at_call_of 8 (Value.int .i64 kd); refine (cK _).mono ?_; rintro e w1 ⟨rfl, rfl⟩) | (go_at_call_of 8 (Value.int .i64 ra); refine (cA _).mono ?_; rintro e w1 ⟨rfl, rfl⟩) | (go_at_call_of 8 (Value.int .i64 rb); refine (cB _).mono ?_; rintro e w1 ⟨rfl, rfl⟩) | (go_at_call_of 8 (Value.int .i64 rc); refine (cC _).mono ?_; rintro e w1 ⟨rfl, rfl⟩) | (go_at_call_of 8 (Value.int .i64 rd); refine (cD _).mono ?_; rintro e w1 ⟨rfl, rfl⟩))
    refine bodyPost_ret (v := .agg #[.int .i64 4, .int .i64 (1 + A), .int .i64 0, .int .i64 0, .int .i64 0]) (by simp [results, Tryz.results10, go_sem]) rfl ⟨_, _, _, _, _, rfl, by omega, cf_of (by decide) (by simp [inTops, cTops, inR]; try omega) (by simp [only, cHas]), ?_⟩
    repeat (first | exact Below.refl _ _ | refine Below.setCell ?_ (by first | (simp; done) | (simp; omega)) _ | refine Below.alloc ?_ (by first | (simp; done) | (simp; omega)) _)
  · go_enter Tryz.func10, Tryz.ntmps10
    go_wp2_with (first | (go_at_call_of 8 (Value.int .i64 kd); refine (cK _).mono ?_; rintro e w1 ⟨rfl, rfl⟩) | (go_at_call_of 8 (Value.int .i64 ra); refine (cA _).mono ?_; rintro e w1 ⟨rfl, rfl⟩) | (go_at_call_of 8 (Value.int .i64 rb); refine (cB _).mono ?_; rintro e w1 ⟨rfl, rfl⟩) | (go_at_call_of 8 (Value.int .i64 rc); refine (cC _).mono ?_; rintro e w1 ⟨rfl, rfl⟩) | (go_at_call_of 8 (Value.int .i64 rd); refine (cD _).mono ?_; rintro e w1 ⟨rfl, rfl⟩))
    refine bodyPost_ret (v := .agg #[.int .i64 5, .int .i64 (1 + A), .int .i64 0, .int .i64 0, .int .i64 0]) (by simp [results, Tryz.results10, go_sem]) rfl ⟨_, _, _, _, _, rfl, by omega, cf_of (by decide) (by simp [inTops, cTops, inR]; try omega) (by simp [only, cHas]), ?_⟩
    repeat (first | exact Below.refl _ _ | refine Below.setCell ?_ (by first | (simp; done) | (simp; omega)) _ | refine Below.alloc ?_ (by first | (simp; done) | (simp; omega)) _)
end Go.Proofs.YtjihmhijnpjnoaaGreatDoor.Ln
