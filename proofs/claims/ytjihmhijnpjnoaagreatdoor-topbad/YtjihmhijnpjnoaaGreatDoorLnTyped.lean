/- Contracts of typed and ask: an operator's line is some text, a call some numbers; what was in memory stays. -/
import Derived.Test.YtjihmhijnpjnoaaGreatDoorDec
import Derived.Deep.RegionWith
namespace Go.Proofs.YtjihmhijnpjnoaaGreatDoor.Ln
open Go.ChangeShapes Go.WideShapes Go.ChangeAt Go.RowKit
set_option linter.unusedVariables false

def sp : ByteArray := ⟨#[32]⟩

set_option maxHeartbeats 600000 in
theorem typed_list (kd ra rb rc rd re : Int) (w : World) (hkd : -9223372036854775808 ≤ kd ∧ kd ≤ 9223372036854775807) (hra : -9223372036854775808 ≤ ra ∧ ra ≤ 9223372036854775807) (hrb : -9223372036854775808 ≤ rb ∧ rb ≤ 9223372036854775807) (hrc : -9223372036854775808 ≤ rc ∧ rc ≤ 9223372036854775807) (hrd : -9223372036854775808 ≤ rd ∧ rd ≤ 9223372036854775807) (hre : -9223372036854775808 ≤ re ∧ re ≤ 9223372036854775807) (hD : pk rd 8 < 3) :
    Calls Tryz.prog 11 #[.agg #[.int .i64 kd, .int .i64 ra, .int .i64 rb, .int .i64 rc, .int .i64 rd, .int .i64 re], .bool true] w fun e w' => ∃ t : ByteArray, e = .returned (.string t) ∧ t.size ≤ 60 ∧ Below w.heap.size w w' := by
  have zA := pk_bd ra 4 (by decide)
  have zB := pk_bd rb 3 (by decide)
  have zC := pk_bd rc 4 (by decide)
  have zD := pk_bd rd 8 (by decide)
  obtain ⟨A, eA⟩ : ∃ x, x = pk ra 4 := ⟨_, rfl⟩
  obtain ⟨B, eB⟩ : ∃ x, x = pk rb 3 := ⟨_, rfl⟩
  obtain ⟨C, eC⟩ : ∃ x, x = pk rc 4 := ⟨_, rfl⟩
  obtain ⟨D, eD⟩ : ∃ x, x = pk rd 8 := ⟨_, rfl⟩
  have cA := fun w' => picked_below ra 4 w' hra (by decide) (by decide)
  have cB := fun w' => picked_below rb 3 w' hrb (by decide) (by decide)
  have cC := fun w' => picked_below rc 4 w' hrc (by decide) (by decide)
  have cD := fun w' => picked_any rd 8 w' hrd (by decide) (by decide)
  rw [← eA] at zA cA
  rw [← eB] at zB cB
  rw [← eC] at zC cC
  rw [← eD] at zD cD
  have kA := fun w' => dec_any A w' (by omega) (by omega)
  have kB := fun w' => dec_any B w' (by omega) (by omega)
  have kC := fun w' => dec_any (1 + C) w' (by omega) (by omega)
  have sA := decB_size A
  have sB := decB_size B
  have sC := decB_size (1 + C)
  obtain ⟨tA, etA⟩ : ∃ x, x = decB A := ⟨_, rfl⟩
  obtain ⟨tB, etB⟩ : ∃ x, x = decB B := ⟨_, rfl⟩
  obtain ⟨tC, etC⟩ : ∃ x, x = decB (1 + C) := ⟨_, rfl⟩
  rw [← etA] at kA sA
  rw [← etB] at kB sB
  rw [← etC] at kC sC
  have eD0 := eD
  clear eA eB eC eD etA etB etC
  have k1 : D < 3 := by rw [eD0]; exact hD
  clear eD0
  obtain ⟨zA1, zA2⟩ := zA
  obtain ⟨zB1, zB2⟩ := zB
  obtain ⟨zC1, zC2⟩ := zC
  obtain ⟨W, hW⟩ : ∃ W : World, W = w.alloc (.cells #[.int .i64 kd, .int .i64 ra, .int .i64 rb, .int .i64 rc, .int .i64 rd, .int .i64 re] 48) := ⟨_, rfl⟩
  have hA : Below w.heap.size w W := by rw [hW]; exact (Below.refl _ _).alloc (Nat.le_refl _) _
  have zW : w.heap.size < W.heap.size := by rw [hW]; simp
  have d1 : W.cell? ⟨w.heap.size, 1, none⟩ = some (.int .i64 ra) := by rw [hW]; go_simp
  have d2 : W.cell? ⟨w.heap.size, 2, none⟩ = some (.int .i64 rb) := by rw [hW]; go_simp
  have d3 : W.cell? ⟨w.heap.size, 3, none⟩ = some (.int .i64 rc) := by rw [hW]; go_simp
  have d4 : W.cell? ⟨w.heap.size, 4, none⟩ = some (.int .i64 rd) := by rw [hW]; go_simp
  have d5 : W.cell? ⟨w.heap.size, 5, none⟩ = some (.int .i64 re) := by rw [hW]; go_simp
  have g1 := fun d os => cell_regrown d1 d os
  have g2 := fun d os => cell_regrown d2 d os
  have g3 := fun d os => cell_regrown d3 d os
  go_enter Tryz.func11, Tryz.ntmps11
  go_wp2
  rw [← hW]
  clear hW
  refine wp_region_quiet_below (by kernel_rfl) (by kernel_rfl) ?_
  repeat (go_big_quiet_step ((first | (go_at_call_of 8 (Value.int .i64 ra); exact Calls.regrown_of (cA _)) | (go_at_call_of 8 (Value.int .i64 rb); exact Calls.regrown_of (cB _)) | (go_at_call_of 8 (Value.int .i64 rc); exact Calls.regrown_of (cC _)) | (go_at_call_of 16 (Value.int .i64 A); exact Calls.regrown_of (kA _)) | (go_at_call_of 16 (Value.int .i64 B); exact Calls.regrown_of (kB _)) | (go_at_call 16; exact Calls.regrown_of (kC _)))))
  refine wpQuiet_nil ?_
  intro _ hw'
  obtain ⟨⟨dq, osq⟩, hw''⟩ := hw'
  subst hw''
  have hBr := below_regrown W dq osq
  have e4 := cell_regrown d4 dq osq
  have e5 := cell_regrown d5 dq osq
  obtain ⟨WR, hWR⟩ : ∃ WR : World, WR = Go.Sort.grow (redrawn W dq) osq := ⟨_, rfl⟩
  rw [← hWR] at hBr e4 e5 ⊢
  clear hWR
  have hB : Below w.heap.size w WR := hA.trans (hBr.mono hA.size)
  have zR : w.heap.size < WR.heap.size := Nat.lt_of_lt_of_le zW hBr.size
  go_wp2_with (go_at_call_of 8 (Value.int .i64 rd); refine (cD _).mono ?_; rintro e w1 ⟨rfl, rfl⟩)
  go_ret
  exact ⟨_, rfl, (by first | decide | (simp only [ByteArray.size_append, sA, sB, sC]; decide)), hB⟩

set_option maxHeartbeats 600000 in
theorem typed_status (kd ra rb rc rd re : Int) (w : World) (hkd : -9223372036854775808 ≤ kd ∧ kd ≤ 9223372036854775807) (hra : -9223372036854775808 ≤ ra ∧ ra ≤ 9223372036854775807) (hrb : -9223372036854775808 ≤ rb ∧ rb ≤ 9223372036854775807) (hrc : -9223372036854775808 ≤ rc ∧ rc ≤ 9223372036854775807) (hrd : -9223372036854775808 ≤ rd ∧ rd ≤ 9223372036854775807) (hre : -9223372036854775808 ≤ re ∧ re ≤ 9223372036854775807) (hD : 3 ≤ pk rd 8 ∧ pk rd 8 < 5) :
    Calls Tryz.prog 11 #[.agg #[.int .i64 kd, .int .i64 ra, .int .i64 rb, .int .i64 rc, .int .i64 rd, .int .i64 re], .bool true] w fun e w' => ∃ t : ByteArray, e = .returned (.string t) ∧ t.size ≤ 60 ∧ Below w.heap.size w w' := by
  have zA := pk_bd ra 4 (by decide)
  have zB := pk_bd rb 3 (by decide)
  have zC := pk_bd rc 4 (by decide)
  have zD := pk_bd rd 8 (by decide)
  obtain ⟨A, eA⟩ : ∃ x, x = pk ra 4 := ⟨_, rfl⟩
  obtain ⟨B, eB⟩ : ∃ x, x = pk rb 3 := ⟨_, rfl⟩
  obtain ⟨C, eC⟩ : ∃ x, x = pk rc 4 := ⟨_, rfl⟩
  obtain ⟨D, eD⟩ : ∃ x, x = pk rd 8 := ⟨_, rfl⟩
  have cA := fun w' => picked_below ra 4 w' hra (by decide) (by decide)
  have cB := fun w' => picked_below rb 3 w' hrb (by decide) (by decide)
  have cC := fun w' => picked_below rc 4 w' hrc (by decide) (by decide)
  have cD := fun w' => picked_any rd 8 w' hrd (by decide) (by decide)
  rw [← eA] at zA cA
  rw [← eB] at zB cB
  rw [← eC] at zC cC
  rw [← eD] at zD cD
  have kA := fun w' => dec_any A w' (by omega) (by omega)
  have kB := fun w' => dec_any B w' (by omega) (by omega)
  have kC := fun w' => dec_any (1 + C) w' (by omega) (by omega)
  have sA := decB_size A
  have sB := decB_size B
  have sC := decB_size (1 + C)
  obtain ⟨tA, etA⟩ : ∃ x, x = decB A := ⟨_, rfl⟩
  obtain ⟨tB, etB⟩ : ∃ x, x = decB B := ⟨_, rfl⟩
  obtain ⟨tC, etC⟩ : ∃ x, x = decB (1 + C) := ⟨_, rfl⟩
  rw [← etA] at kA sA
  rw [← etB] at kB sB
  rw [← etC] at kC sC
  have eD0 := eD
  clear eA eB eC eD etA etB etC
  have k1 : ¬ D < 3 := by rw [eD0]; omega
  have k2 : D < 5 := by rw [eD0]; omega
  clear eD0
  obtain ⟨zA1, zA2⟩ := zA
  obtain ⟨zB1, zB2⟩ := zB
  obtain ⟨zC1, zC2⟩ := zC
  obtain ⟨W, hW⟩ : ∃ W : World, W = w.alloc (.cells #[.int .i64 kd, .int .i64 ra, .int .i64 rb, .int .i64 rc, .int .i64 rd, .int .i64 re] 48) := ⟨_, rfl⟩
  have hA : Below w.heap.size w W := by rw [hW]; exact (Below.refl _ _).alloc (Nat.le_refl _) _
  have zW : w.heap.size < W.heap.size := by rw [hW]; simp
  have d1 : W.cell? ⟨w.heap.size, 1, none⟩ = some (.int .i64 ra) := by rw [hW]; go_simp
  have d2 : W.cell? ⟨w.heap.size, 2, none⟩ = some (.int .i64 rb) := by rw [hW]; go_simp
  have d3 : W.cell? ⟨w.heap.size, 3, none⟩ = some (.int .i64 rc) := by rw [hW]; go_simp
  have d4 : W.cell? ⟨w.heap.size, 4, none⟩ = some (.int .i64 rd) := by rw [hW]; go_simp
  have d5 : W.cell? ⟨w.heap.size, 5, none⟩ = some (.int .i64 re) := by rw [hW]; go_simp
  have g1 := fun d os => cell_regrown d1 d os
  have g2 := fun d os => cell_regrown d2 d os
  have g3 := fun d os => cell_regrown d3 d os
  go_enter Tryz.func11, Tryz.ntmps11
  go_wp2
  rw [← hW]
  clear hW
  refine wp_region_quiet_below (by kernel_rfl) (by kernel_rfl) ?_
  repeat (go_big_quiet_step ((first | (go_at_call_of 8 (Value.int .i64 ra); exact Calls.regrown_of (cA _)) | (go_at_call_of 8 (Value.int .i64 rb); exact Calls.regrown_of (cB _)) | (go_at_call_of 8 (Value.int .i64 rc); exact Calls.regrown_of (cC _)) | (go_at_call_of 16 (Value.int .i64 A); exact Calls.regrown_of (kA _)) | (go_at_call_of 16 (Value.int .i64 B); exact Calls.regrown_of (kB _)) | (go_at_call 16; exact Calls.regrown_of (kC _)))))
  refine wpQuiet_nil ?_
  intro _ hw'
  obtain ⟨⟨dq, osq⟩, hw''⟩ := hw'
  subst hw''
  have hBr := below_regrown W dq osq
  have e4 := cell_regrown d4 dq osq
  have e5 := cell_regrown d5 dq osq
  obtain ⟨WR, hWR⟩ : ∃ WR : World, WR = Go.Sort.grow (redrawn W dq) osq := ⟨_, rfl⟩
  rw [← hWR] at hBr e4 e5 ⊢
  clear hWR
  have hB : Below w.heap.size w WR := hA.trans (hBr.mono hA.size)
  have zR : w.heap.size < WR.heap.size := Nat.lt_of_lt_of_le zW hBr.size
  go_wp2_with (go_at_call_of 8 (Value.int .i64 rd); refine (cD _).mono ?_; rintro e w1 ⟨rfl, rfl⟩)
  go_ret
  exact ⟨_, rfl, (by first | decide | (simp only [ByteArray.size_append, sA, sB, sC]; decide)), hB⟩

set_option maxHeartbeats 600000 in
theorem typed_audit (kd ra rb rc rd re : Int) (w : World) (hkd : -9223372036854775808 ≤ kd ∧ kd ≤ 9223372036854775807) (hra : -9223372036854775808 ≤ ra ∧ ra ≤ 9223372036854775807) (hrb : -9223372036854775808 ≤ rb ∧ rb ≤ 9223372036854775807) (hrc : -9223372036854775808 ≤ rc ∧ rc ≤ 9223372036854775807) (hrd : -9223372036854775808 ≤ rd ∧ rd ≤ 9223372036854775807) (hre : -9223372036854775808 ≤ re ∧ re ≤ 9223372036854775807) (hD : pk rd 8 = 5) :
    Calls Tryz.prog 11 #[.agg #[.int .i64 kd, .int .i64 ra, .int .i64 rb, .int .i64 rc, .int .i64 rd, .int .i64 re], .bool true] w fun e w' => ∃ t : ByteArray, e = .returned (.string t) ∧ t.size ≤ 60 ∧ Below w.heap.size w w' := by
  have zA := pk_bd ra 4 (by decide)
  have zB := pk_bd rb 3 (by decide)
  have zC := pk_bd rc 4 (by decide)
  have zD := pk_bd rd 8 (by decide)
  obtain ⟨A, eA⟩ : ∃ x, x = pk ra 4 := ⟨_, rfl⟩
  obtain ⟨B, eB⟩ : ∃ x, x = pk rb 3 := ⟨_, rfl⟩
  obtain ⟨C, eC⟩ : ∃ x, x = pk rc 4 := ⟨_, rfl⟩
  obtain ⟨D, eD⟩ : ∃ x, x = pk rd 8 := ⟨_, rfl⟩
  have cA := fun w' => picked_below ra 4 w' hra (by decide) (by decide)
  have cB := fun w' => picked_below rb 3 w' hrb (by decide) (by decide)
  have cC := fun w' => picked_below rc 4 w' hrc (by decide) (by decide)
  have cD := fun w' => picked_any rd 8 w' hrd (by decide) (by decide)
  rw [← eA] at zA cA
  rw [← eB] at zB cB
  rw [← eC] at zC cC
  rw [← eD] at zD cD
  have kA := fun w' => dec_any A w' (by omega) (by omega)
  have kB := fun w' => dec_any B w' (by omega) (by omega)
  have kC := fun w' => dec_any (1 + C) w' (by omega) (by omega)
  have sA := decB_size A
  have sB := decB_size B
  have sC := decB_size (1 + C)
  obtain ⟨tA, etA⟩ : ∃ x, x = decB A := ⟨_, rfl⟩
  obtain ⟨tB, etB⟩ : ∃ x, x = decB B := ⟨_, rfl⟩
  obtain ⟨tC, etC⟩ : ∃ x, x = decB (1 + C) := ⟨_, rfl⟩
  rw [← etA] at kA sA
  rw [← etB] at kB sB
  rw [← etC] at kC sC
  have k1 : D = 5 := by rw [eD]; exact hD
  clear eA eB eC eD etA etB etC
  subst k1
  obtain ⟨zA1, zA2⟩ := zA
  obtain ⟨zB1, zB2⟩ := zB
  obtain ⟨zC1, zC2⟩ := zC
  obtain ⟨W, hW⟩ : ∃ W : World, W = w.alloc (.cells #[.int .i64 kd, .int .i64 ra, .int .i64 rb, .int .i64 rc, .int .i64 rd, .int .i64 re] 48) := ⟨_, rfl⟩
  have hA : Below w.heap.size w W := by rw [hW]; exact (Below.refl _ _).alloc (Nat.le_refl _) _
  have zW : w.heap.size < W.heap.size := by rw [hW]; simp
  have d1 : W.cell? ⟨w.heap.size, 1, none⟩ = some (.int .i64 ra) := by rw [hW]; go_simp
  have d2 : W.cell? ⟨w.heap.size, 2, none⟩ = some (.int .i64 rb) := by rw [hW]; go_simp
  have d3 : W.cell? ⟨w.heap.size, 3, none⟩ = some (.int .i64 rc) := by rw [hW]; go_simp
  have d4 : W.cell? ⟨w.heap.size, 4, none⟩ = some (.int .i64 rd) := by rw [hW]; go_simp
  have d5 : W.cell? ⟨w.heap.size, 5, none⟩ = some (.int .i64 re) := by rw [hW]; go_simp
  have g1 := fun d os => cell_regrown d1 d os
  have g2 := fun d os => cell_regrown d2 d os
  have g3 := fun d os => cell_regrown d3 d os
  go_enter Tryz.func11, Tryz.ntmps11
  go_wp2
  rw [← hW]
  clear hW
  refine wp_region_quiet_below (by kernel_rfl) (by kernel_rfl) ?_
  repeat (go_big_quiet_step ((first | (go_at_call_of 8 (Value.int .i64 ra); exact Calls.regrown_of (cA _)) | (go_at_call_of 8 (Value.int .i64 rb); exact Calls.regrown_of (cB _)) | (go_at_call_of 8 (Value.int .i64 rc); exact Calls.regrown_of (cC _)) | (go_at_call_of 16 (Value.int .i64 A); exact Calls.regrown_of (kA _)) | (go_at_call_of 16 (Value.int .i64 B); exact Calls.regrown_of (kB _)) | (go_at_call 16; exact Calls.regrown_of (kC _)))))
  refine wpQuiet_nil ?_
  intro _ hw'
  obtain ⟨⟨dq, osq⟩, hw''⟩ := hw'
  subst hw''
  have hBr := below_regrown W dq osq
  have e4 := cell_regrown d4 dq osq
  have e5 := cell_regrown d5 dq osq
  obtain ⟨WR, hWR⟩ : ∃ WR : World, WR = Go.Sort.grow (redrawn W dq) osq := ⟨_, rfl⟩
  rw [← hWR] at hBr e4 e5 ⊢
  clear hWR
  have hB : Below w.heap.size w WR := hA.trans (hBr.mono hA.size)
  have zR : w.heap.size < WR.heap.size := Nat.lt_of_lt_of_le zW hBr.size
  go_wp2_with (go_at_call_of 8 (Value.int .i64 rd); refine (cD _).mono ?_; rintro e w1 ⟨rfl, rfl⟩)
  go_ret
  exact ⟨_, rfl, (by first | decide | (simp only [ByteArray.size_append, sA, sB, sC]; decide)), hB⟩

set_option maxHeartbeats 600000 in
theorem typed_force (kd ra rb rc rd re : Int) (w : World) (hkd : -9223372036854775808 ≤ kd ∧ kd ≤ 9223372036854775807) (hra : -9223372036854775808 ≤ ra ∧ ra ≤ 9223372036854775807) (hrb : -9223372036854775808 ≤ rb ∧ rb ≤ 9223372036854775807) (hrc : -9223372036854775808 ≤ rc ∧ rc ≤ 9223372036854775807) (hrd : -9223372036854775808 ≤ rd ∧ rd ≤ 9223372036854775807) (hre : -9223372036854775808 ≤ re ∧ re ≤ 9223372036854775807) (hD : pk rd 8 = 6) :
    Calls Tryz.prog 11 #[.agg #[.int .i64 kd, .int .i64 ra, .int .i64 rb, .int .i64 rc, .int .i64 rd, .int .i64 re], .bool true] w fun e w' => ∃ t : ByteArray, e = .returned (.string t) ∧ t.size ≤ 60 ∧ Below w.heap.size w w' := by
  have zA := pk_bd ra 4 (by decide)
  have zB := pk_bd rb 3 (by decide)
  have zC := pk_bd rc 4 (by decide)
  have zD := pk_bd rd 8 (by decide)
  obtain ⟨A, eA⟩ : ∃ x, x = pk ra 4 := ⟨_, rfl⟩
  obtain ⟨B, eB⟩ : ∃ x, x = pk rb 3 := ⟨_, rfl⟩
  obtain ⟨C, eC⟩ : ∃ x, x = pk rc 4 := ⟨_, rfl⟩
  obtain ⟨D, eD⟩ : ∃ x, x = pk rd 8 := ⟨_, rfl⟩
  have cA := fun w' => picked_below ra 4 w' hra (by decide) (by decide)
  have cB := fun w' => picked_below rb 3 w' hrb (by decide) (by decide)
  have cC := fun w' => picked_below rc 4 w' hrc (by decide) (by decide)
  have cD := fun w' => picked_any rd 8 w' hrd (by decide) (by decide)
  rw [← eA] at zA cA
  rw [← eB] at zB cB
  rw [← eC] at zC cC
  rw [← eD] at zD cD
  have kA := fun w' => dec_any A w' (by omega) (by omega)
  have kB := fun w' => dec_any B w' (by omega) (by omega)
  have kC := fun w' => dec_any (1 + C) w' (by omega) (by omega)
  have sA := decB_size A
  have sB := decB_size B
  have sC := decB_size (1 + C)
  obtain ⟨tA, etA⟩ : ∃ x, x = decB A := ⟨_, rfl⟩
  obtain ⟨tB, etB⟩ : ∃ x, x = decB B := ⟨_, rfl⟩
  obtain ⟨tC, etC⟩ : ∃ x, x = decB (1 + C) := ⟨_, rfl⟩
  rw [← etA] at kA sA
  rw [← etB] at kB sB
  rw [← etC] at kC sC
  have k1 : D = 6 := by rw [eD]; exact hD
  clear eA eB eC eD etA etB etC
  subst k1
  obtain ⟨zA1, zA2⟩ := zA
  obtain ⟨zB1, zB2⟩ := zB
  obtain ⟨zC1, zC2⟩ := zC
  obtain ⟨W, hW⟩ : ∃ W : World, W = w.alloc (.cells #[.int .i64 kd, .int .i64 ra, .int .i64 rb, .int .i64 rc, .int .i64 rd, .int .i64 re] 48) := ⟨_, rfl⟩
  have hA : Below w.heap.size w W := by rw [hW]; exact (Below.refl _ _).alloc (Nat.le_refl _) _
  have zW : w.heap.size < W.heap.size := by rw [hW]; simp
  have d1 : W.cell? ⟨w.heap.size, 1, none⟩ = some (.int .i64 ra) := by rw [hW]; go_simp
  have d2 : W.cell? ⟨w.heap.size, 2, none⟩ = some (.int .i64 rb) := by rw [hW]; go_simp
  have d3 : W.cell? ⟨w.heap.size, 3, none⟩ = some (.int .i64 rc) := by rw [hW]; go_simp
  have d4 : W.cell? ⟨w.heap.size, 4, none⟩ = some (.int .i64 rd) := by rw [hW]; go_simp
  have d5 : W.cell? ⟨w.heap.size, 5, none⟩ = some (.int .i64 re) := by rw [hW]; go_simp
  have g1 := fun d os => cell_regrown d1 d os
  have g2 := fun d os => cell_regrown d2 d os
  have g3 := fun d os => cell_regrown d3 d os
  have cE := fun w' => picked_any re 2 w' hre (by decide) (by decide)
  have zE := pk_bd re 2 (by decide)
  obtain ⟨E, eE⟩ : ∃ x, x = pk re 2 := ⟨_, rfl⟩
  rw [← eE] at cE zE
  clear eE
  have hE : E = 0 ∨ E = 1 := by omega
  go_enter Tryz.func11, Tryz.ntmps11
  go_wp2
  rw [← hW]
  clear hW
  refine wp_region_quiet_below (by kernel_rfl) (by kernel_rfl) ?_
  repeat (go_big_quiet_step ((first | (go_at_call_of 8 (Value.int .i64 ra); exact Calls.regrown_of (cA _)) | (go_at_call_of 8 (Value.int .i64 rb); exact Calls.regrown_of (cB _)) | (go_at_call_of 8 (Value.int .i64 rc); exact Calls.regrown_of (cC _)) | (go_at_call_of 16 (Value.int .i64 A); exact Calls.regrown_of (kA _)) | (go_at_call_of 16 (Value.int .i64 B); exact Calls.regrown_of (kB _)) | (go_at_call 16; exact Calls.regrown_of (kC _)))))
  refine wpQuiet_nil ?_
  intro _ hw'
  obtain ⟨⟨dq, osq⟩, hw''⟩ := hw'
  subst hw''
  have hBr := below_regrown W dq osq
  have e4 := cell_regrown d4 dq osq
  have e5 := cell_regrown d5 dq osq
  obtain ⟨WR, hWR⟩ : ∃ WR : World, WR = Go.Sort.grow (redrawn W dq) osq := ⟨_, rfl⟩
  rw [← hWR] at hBr e4 e5 ⊢
  clear hWR
  have hB : Below w.heap.size w WR := hA.trans (hBr.mono hA.size)
  have zR : w.heap.size < WR.heap.size := Nat.lt_of_lt_of_le zW hBr.size
  rcases hE with rfl | rfl
  all_goals
    go_wp2_with (first | (go_at_call_of 8 (Value.int .i64 rd); refine (cD _).mono ?_; rintro e w1 ⟨rfl, rfl⟩) | (go_at_call_of 8 (Value.int .i64 re); refine (cE _).mono ?_; rintro e w1 ⟨rfl, rfl⟩))
    go_ret
    exact ⟨_, rfl, (by first | decide | (simp only [ByteArray.size_append, sA, sB, sC]; decide)), by first | exact hB | exact hB.alloc hB.size _⟩

set_option maxHeartbeats 600000 in
theorem typed_other (kd ra rb rc rd re : Int) (w : World) (hkd : -9223372036854775808 ≤ kd ∧ kd ≤ 9223372036854775807) (hra : -9223372036854775808 ≤ ra ∧ ra ≤ 9223372036854775807) (hrb : -9223372036854775808 ≤ rb ∧ rb ≤ 9223372036854775807) (hrc : -9223372036854775808 ≤ rc ∧ rc ≤ 9223372036854775807) (hrd : -9223372036854775808 ≤ rd ∧ rd ≤ 9223372036854775807) (hre : -9223372036854775808 ≤ re ∧ re ≤ 9223372036854775807) (hD : pk rd 8 = 7) :
    Calls Tryz.prog 11 #[.agg #[.int .i64 kd, .int .i64 ra, .int .i64 rb, .int .i64 rc, .int .i64 rd, .int .i64 re], .bool true] w fun e w' => ∃ t : ByteArray, e = .returned (.string t) ∧ t.size ≤ 60 ∧ Below w.heap.size w w' := by
  have zA := pk_bd ra 4 (by decide)
  have zB := pk_bd rb 3 (by decide)
  have zC := pk_bd rc 4 (by decide)
  have zD := pk_bd rd 8 (by decide)
  obtain ⟨A, eA⟩ : ∃ x, x = pk ra 4 := ⟨_, rfl⟩
  obtain ⟨B, eB⟩ : ∃ x, x = pk rb 3 := ⟨_, rfl⟩
  obtain ⟨C, eC⟩ : ∃ x, x = pk rc 4 := ⟨_, rfl⟩
  obtain ⟨D, eD⟩ : ∃ x, x = pk rd 8 := ⟨_, rfl⟩
  have cA := fun w' => picked_below ra 4 w' hra (by decide) (by decide)
  have cB := fun w' => picked_below rb 3 w' hrb (by decide) (by decide)
  have cC := fun w' => picked_below rc 4 w' hrc (by decide) (by decide)
  have cD := fun w' => picked_any rd 8 w' hrd (by decide) (by decide)
  rw [← eA] at zA cA
  rw [← eB] at zB cB
  rw [← eC] at zC cC
  rw [← eD] at zD cD
  have kA := fun w' => dec_any A w' (by omega) (by omega)
  have kB := fun w' => dec_any B w' (by omega) (by omega)
  have kC := fun w' => dec_any (1 + C) w' (by omega) (by omega)
  have sA := decB_size A
  have sB := decB_size B
  have sC := decB_size (1 + C)
  obtain ⟨tA, etA⟩ : ∃ x, x = decB A := ⟨_, rfl⟩
  obtain ⟨tB, etB⟩ : ∃ x, x = decB B := ⟨_, rfl⟩
  obtain ⟨tC, etC⟩ : ∃ x, x = decB (1 + C) := ⟨_, rfl⟩
  rw [← etA] at kA sA
  rw [← etB] at kB sB
  rw [← etC] at kC sC
  have k1 : D = 7 := by rw [eD]; exact hD
  clear eA eB eC eD etA etB etC
  subst k1
  obtain ⟨zA1, zA2⟩ := zA
  obtain ⟨zB1, zB2⟩ := zB
  obtain ⟨zC1, zC2⟩ := zC
  obtain ⟨W, hW⟩ : ∃ W : World, W = w.alloc (.cells #[.int .i64 kd, .int .i64 ra, .int .i64 rb, .int .i64 rc, .int .i64 rd, .int .i64 re] 48) := ⟨_, rfl⟩
  have hA : Below w.heap.size w W := by rw [hW]; exact (Below.refl _ _).alloc (Nat.le_refl _) _
  have zW : w.heap.size < W.heap.size := by rw [hW]; simp
  have d1 : W.cell? ⟨w.heap.size, 1, none⟩ = some (.int .i64 ra) := by rw [hW]; go_simp
  have d2 : W.cell? ⟨w.heap.size, 2, none⟩ = some (.int .i64 rb) := by rw [hW]; go_simp
  have d3 : W.cell? ⟨w.heap.size, 3, none⟩ = some (.int .i64 rc) := by rw [hW]; go_simp
  have d4 : W.cell? ⟨w.heap.size, 4, none⟩ = some (.int .i64 rd) := by rw [hW]; go_simp
  have d5 : W.cell? ⟨w.heap.size, 5, none⟩ = some (.int .i64 re) := by rw [hW]; go_simp
  have g1 := fun d os => cell_regrown d1 d os
  have g2 := fun d os => cell_regrown d2 d os
  have g3 := fun d os => cell_regrown d3 d os
  have cE := fun w' => picked_any re 6 w' hre (by decide) (by decide)
  have zE := pk_bd re 6 (by decide)
  obtain ⟨E, eE⟩ : ∃ x, x = pk re 6 := ⟨_, rfl⟩
  rw [← eE] at cE zE
  clear eE
  have hE : E = 0 ∨ E = 1 ∨ E = 2 ∨ E = 3 ∨ E = 4 ∨ E = 5 := by omega
  go_enter Tryz.func11, Tryz.ntmps11
  go_wp2
  rw [← hW]
  clear hW
  refine wp_region_quiet_below (by kernel_rfl) (by kernel_rfl) ?_
  repeat (go_big_quiet_step ((first | (go_at_call_of 8 (Value.int .i64 ra); exact Calls.regrown_of (cA _)) | (go_at_call_of 8 (Value.int .i64 rb); exact Calls.regrown_of (cB _)) | (go_at_call_of 8 (Value.int .i64 rc); exact Calls.regrown_of (cC _)) | (go_at_call_of 16 (Value.int .i64 A); exact Calls.regrown_of (kA _)) | (go_at_call_of 16 (Value.int .i64 B); exact Calls.regrown_of (kB _)) | (go_at_call 16; exact Calls.regrown_of (kC _)))))
  refine wpQuiet_nil ?_
  intro _ hw'
  obtain ⟨⟨dq, osq⟩, hw''⟩ := hw'
  subst hw''
  have hBr := below_regrown W dq osq
  have e4 := cell_regrown d4 dq osq
  have e5 := cell_regrown d5 dq osq
  obtain ⟨WR, hWR⟩ : ∃ WR : World, WR = Go.Sort.grow (redrawn W dq) osq := ⟨_, rfl⟩
  rw [← hWR] at hBr e4 e5 ⊢
  clear hWR
  have hB : Below w.heap.size w WR := hA.trans (hBr.mono hA.size)
  have zR : w.heap.size < WR.heap.size := Nat.lt_of_lt_of_le zW hBr.size
  rcases hE with rfl | rfl | rfl | rfl | rfl | rfl
  all_goals
    go_wp2_with (first | (go_at_call_of 8 (Value.int .i64 rd); refine (cD _).mono ?_; rintro e w1 ⟨rfl, rfl⟩) | (go_at_call_of 8 (Value.int .i64 re); refine (cE _).mono ?_; rintro e w1 ⟨rfl, rfl⟩))
    go_ret
    exact ⟨_, rfl, (by first | decide | (simp only [ByteArray.size_append, sA, sB, sC]; decide)), by first | exact hB | exact hB.alloc hB.size _⟩

theorem typed_any (kd ra rb rc rd re : Int) (w : World) (hkd : -9223372036854775808 ≤ kd ∧ kd ≤ 9223372036854775807) (hra : -9223372036854775808 ≤ ra ∧ ra ≤ 9223372036854775807) (hrb : -9223372036854775808 ≤ rb ∧ rb ≤ 9223372036854775807) (hrc : -9223372036854775808 ≤ rc ∧ rc ≤ 9223372036854775807) (hrd : -9223372036854775808 ≤ rd ∧ rd ≤ 9223372036854775807) (hre : -9223372036854775808 ≤ re ∧ re ≤ 9223372036854775807) :
    Calls Tryz.prog 11 #[.agg #[.int .i64 kd, .int .i64 ra, .int .i64 rb, .int .i64 rc, .int .i64 rd, .int .i64 re], .bool true] w fun e w' => ∃ t : ByteArray, e = .returned (.string t) ∧ t.size ≤ 60 ∧ Below w.heap.size w w' := by
  have z := pk_bd rd 8 (by decide)
  by_cases h3 : pk rd 8 < 3
  · exact typed_list kd ra rb rc rd re w hkd hra hrb hrc hrd hre h3
  · by_cases h5 : pk rd 8 < 5
    · exact typed_status kd ra rb rc rd re w hkd hra hrb hrc hrd hre ⟨by omega, h5⟩
    · by_cases h6 : pk rd 8 = 5
      · exact typed_audit kd ra rb rc rd re w hkd hra hrb hrc hrd hre h6
      · by_cases h7 : pk rd 8 = 6
        · exact typed_force kd ra rb rc rd re w hkd hra hrb hrc hrd hre h7
        · exact typed_other kd ra rb rc rd re w hkd hra hrb hrc hrd hre (by omega)
end Go.Proofs.YtjihmhijnpjnoaaGreatDoor.Ln
