/- Texts of this claim, one behind the other. -/
import Derived.Test.YtlaagfnoepcnlaaDoorM10LinesBad
import Derived.Deep.RegionWith
import Derived.Test.YtlaagfnoepcnlaaDoorM9LinesBad
/- Contracts of typed and ask: an operator's line is some text, a call some numbers; what was in memory stays. -/
namespace Go.Proofs.YtlaagfnoepcnlaaDoor.Ln
open Go.ChangeShapes Go.WideShapes Go.ChangeAt Go.RowKit
set_option linter.unusedVariables false

def sp : ByteArray := ⟨#[32]⟩

set_option maxHeartbeats 600000 in
theorem typed_list (kd ra rb rc rd re : Int) (w : World) (hkd : -9223372036854775808 ≤ kd ∧ kd ≤ 9223372036854775807) (hra : -9223372036854775808 ≤ ra ∧ ra ≤ 9223372036854775807) (hrb : -9223372036854775808 ≤ rb ∧ rb ≤ 9223372036854775807) (hrc : -9223372036854775808 ≤ rc ∧ rc ≤ 9223372036854775807) (hrd : -9223372036854775808 ≤ rd ∧ rd ≤ 9223372036854775807) (hre : -9223372036854775808 ≤ re ∧ re ≤ 9223372036854775807) (hD : pk rd 8 < 3) :
    Calls Tryd.prog 34 #[.agg #[.int .i64 kd, .int .i64 ra, .int .i64 rb, .int .i64 rc, .int .i64 rd, .int .i64 re], .bool true] w fun e w' => ∃ t : ByteArray, e = .returned (.string t) ∧ t.size ≤ 60 ∧ Below w.heap.size w w' := by
  have zA := pk_bd ra 4 (by decide)
  have zB := pk_bd rb 3 (by decide)
  have zC := pk_bd rc 4 (by decide)
  have zD := pk_bd rd 8 (by decide)
  obtain ⟨A, eA⟩ : ∃ x, x = pk ra 4 := ⟨_, rfl⟩
  obtain ⟨B, eB⟩ : ∃ x, x = pk rb 3 := ⟨_, rfl⟩
  obtain ⟨C, eC⟩ : ∃ x, x = pk rc 4 := ⟨_, rfl⟩
  obtain ⟨D, eD⟩ : ∃ x, x = pk rd 8 := ⟨_, rfl⟩
  have cA := fun w' => picked_below ra 4 w' hra (by decide) (by decide)
  have cB := fun w' => picked_below rb 3 w' hrb (by decide) (by decide)
  have cC := fun w' => picked_below rc 4 w' hrc (by decide) (by decide)
  have cD := fun w' => picked_any rd 8 w' hrd (by decide) (by decide)
  rw [← eA] at zA cA
  rw [← eB] at zB cB
  rw [← eC] at zC cC
  rw [← eD] at zD cD
  have kA := fun w' => dec_any A w' (by omega) (by omega)
  have kB := fun w' => dec_any B w' (by omega) (by omega)
  have kC := fun w' => dec_any (1 + C) w' (by omega) (by omega)
  have sA := decB_size A
  have sB := decB_size B
  have sC := decB_size (1 + C)
  obtain ⟨tA, etA⟩ : ∃ x, x = decB A := ⟨_, rfl⟩
  obtain ⟨tB, etB⟩ : ∃ x, x = decB B := ⟨_, rfl⟩
  obtain ⟨tC, etC⟩ : ∃ x, x = decB (1 + C) := ⟨_, rfl⟩
  rw [← etA] at kA sA
  rw [← etB] at kB sB
  rw [← etC] at kC sC
  have eD0 := eD
  clear eA eB eC eD etA etB etC
  have k1 : D < 3 := by rw [eD0]; exact hD
  clear eD0
  obtain ⟨zA1, zA2⟩ := zA
  obtain ⟨zB1, zB2⟩ := zB
  obtain ⟨zC1, zC2⟩ := zC
  obtain ⟨W, hW⟩ : ∃ W : World, W = w.alloc (.cells #[.int .i64 kd, .int .i64 ra, .int .i64 rb, .int .i64 rc, .int .i64 rd, .int .i64 re] 73) := ⟨_, rfl⟩
  have hA : Below w.heap.size w W := by rw [hW]; exact (Below.refl _ _).alloc (Nat.le_refl _) _
  have zW : w.heap.size < W.heap.size := by rw [hW]; simp
  have d1 : W.cell? ⟨w.heap.size, 1, none⟩ = some (.int .i64 ra) := by rw [hW]; go_simp
  have d2 : W.cell? ⟨w.heap.size, 2, none⟩ = some (.int .i64 rb) := by rw [hW]; go_simp
  have d3 : W.cell? ⟨w.heap.size, 3, none⟩ = some (.int .i64 rc) := by rw [hW]; go_simp
  have d4 : W.cell? ⟨w.heap.size, 4, none⟩ = some (.int .i64 rd) := by rw [hW]; go_simp
  have d5 : W.cell? ⟨w.heap.size, 5, none⟩ = some (.int .i64 re) := by rw [hW]; go_simp
  have g1 := fun d os => cell_regrown d1 d os
  have g2 := fun d os => cell_regrown d2 d os
  have g3 := fun d os => cell_regrown d3 d os
  go_enter Tryd.func34, Tryd.ntmps34
  go_wp2
  rw [← hW]
  clear hW
  refine wp_region_quiet_below (by kernel_rfl) (by kernel_rfl) ?_
  repeat (go_big_quiet_step ((first | (go_at_call_of 18 (Value.int .i64 ra); exact Calls.regrown_of (cA _)) | (go_at_call_of 18 (Value.int .i64 rb); exact Calls.regrown_of (cB _)) | (go_at_call_of 18 (Value.int .i64 rc); exact Calls.regrown_of (cC _)) | (go_at_call_of 62 (Value.int .i64 A); exact Calls.regrown_of (kA _)) | (go_at_call_of 62 (Value.int .i64 B); exact Calls.regrown_of (kB _)) | (go_at_call 62; exact Calls.regrown_of (kC _)))))
  refine wpQuiet_nil ?_
  intro _ hw'
  obtain ⟨⟨dq, osq⟩, hw''⟩ := hw'
  subst hw''
  have hBr := below_regrown W dq osq
  have e4 := cell_regrown d4 dq osq
  have e5 := cell_regrown d5 dq osq
  obtain ⟨WR, hWR⟩ : ∃ WR : World, WR = Go.Sort.grow (redrawn W dq) osq := ⟨_, rfl⟩
  rw [← hWR] at hBr e4 e5 ⊢
  clear hWR
  have hB : Below w.heap.size w WR := hA.trans (hBr.mono hA.size)
  have zR : w.heap.size < WR.heap.size := Nat.lt_of_lt_of_le zW hBr.size
  go_wp2_with (go_at_call_of 18 (Value.int .i64 rd); refine (cD _).mono ?_; rintro e w1 ⟨rfl, rfl⟩)
  go_ret
  exact ⟨_, rfl, (by first | decide | (simp only [ByteArray.size_append, sA, sB, sC]; decide)), hB⟩

set_option maxHeartbeats 600000 in
theorem typed_status (kd ra rb rc rd re : Int) (w : World) (hkd : -9223372036854775808 ≤ kd ∧ kd ≤ 9223372036854775807) (hra : -9223372036854775808 ≤ ra ∧ ra ≤ 9223372036854775807) (hrb : -9223372036854775808 ≤ rb ∧ rb ≤ 9223372036854775807) (hrc : -9223372036854775808 ≤ rc ∧ rc ≤ 9223372036854775807) (hrd : -9223372036854775808 ≤ rd ∧ rd ≤ 9223372036854775807) (hre : -9223372036854775808 ≤ re ∧ re ≤ 9223372036854775807) (hD : 3 ≤ pk rd 8 ∧ pk rd 8 < 5) :
    Calls Tryd.prog 34 #[.agg #[.int .i64 kd, .int .i64 ra, .int .i64 rb, .int .i64 rc, .int .i64 rd, .int .i64 re], .bool true] w fun e w' => ∃ t : ByteArray, e = .returned (.string t) ∧ t.size ≤ 60 ∧ Below w.heap.size w w' := by
  have zA := pk_bd ra 4 (by decide)
  have zB := pk_bd rb 3 (by decide)
  have zC := pk_bd rc 4 (by decide)
  have zD := pk_bd rd 8 (by decide)
  obtain ⟨A, eA⟩ : ∃ x, x = pk ra 4 := ⟨_, rfl⟩
  obtain ⟨B, eB⟩ : ∃ x, x = pk rb 3 := ⟨_, rfl⟩
  obtain ⟨C, eC⟩ : ∃ x, x = pk rc 4 := ⟨_, rfl⟩
  obtain ⟨D, eD⟩ : ∃ x, x = pk rd 8 := ⟨_, rfl⟩
  have cA := fun w' => picked_below ra 4 w' hra (by decide) (by decide)
  have cB := fun w' => picked_below rb 3 w' hrb (by decide) (by decide)
  have cC := fun w' => picked_below rc 4 w' hrc (by decide) (by decide)
  have cD := fun w' => picked_any rd 8 w' hrd (by decide) (by decide)
  rw [← eA] at zA cA
  rw [← eB] at zB cB
  rw [← eC] at zC cC
  rw [← eD] at zD cD
  have kA := fun w' => dec_any A w' (by omega) (by omega)
  have kB := fun w' => dec_any B w' (by omega) (by omega)
  have kC := fun w' => dec_any (1 + C) w' (by omega) (by omega)
  have sA := decB_size A
  have sB := decB_size B
  have sC := decB_size (1 + C)
  obtain ⟨tA, etA⟩ : ∃ x, x = decB A := ⟨_, rfl⟩
  obtain ⟨tB, etB⟩ : ∃ x, x = decB B := ⟨_, rfl⟩
  obtain ⟨tC, etC⟩ : ∃ x, x = decB (1 + C) := ⟨_, rfl⟩
  rw [← etA] at kA sA
  rw [← etB] at kB sB
  rw [← etC] at kC sC
  have eD0 := eD
  clear eA eB eC eD etA etB etC
  have k1 : ¬ D < 3 := by rw [eD0]; omega
  have k2 : D < 5 := by rw [eD0]; omega
  clear eD0
  obtain ⟨zA1, zA2⟩ := zA
  obtain ⟨zB1, zB2⟩ := zB
  obtain ⟨zC1, zC2⟩ := zC
  obtain ⟨W, hW⟩ : ∃ W : World, W = w.alloc (.cells #[.int .i64 kd, .int .i64 ra, .int .i64 rb, .int .i64 rc, .int .i64 rd, .int .i64 re] 73) := ⟨_, rfl⟩
  have hA : Below w.heap.size w W := by rw [hW]; exact (Below.refl _ _).alloc (Nat.le_refl _) _
  have zW : w.heap.size < W.heap.size := by rw [hW]; simp
  have d1 : W.cell? ⟨w.heap.size, 1, none⟩ = some (.int .i64 ra) := by rw [hW]; go_simp
  have d2 : W.cell? ⟨w.heap.size, 2, none⟩ = some (.int .i64 rb) := by rw [hW]; go_simp
  have d3 : W.cell? ⟨w.heap.size, 3, none⟩ = some (.int .i64 rc) := by rw [hW]; go_simp
  have d4 : W.cell? ⟨w.heap.size, 4, none⟩ = some (.int .i64 rd) := by rw [hW]; go_simp
  have d5 : W.cell? ⟨w.heap.size, 5, none⟩ = some (.int .i64 re) := by rw [hW]; go_simp
  have g1 := fun d os => cell_regrown d1 d os
  have g2 := fun d os => cell_regrown d2 d os
  have g3 := fun d os => cell_regrown d3 d os
  go_enter Tryd.func34, Tryd.ntmps34
  go_wp2
  rw [← hW]
  clear hW
  refine wp_region_quiet_below (by kernel_rfl) (by kernel_rfl) ?_
  repeat (go_big_quiet_step ((first | (go_at_call_of 18 (Value.int .i64 ra); exact Calls.regrown_of (cA _)) | (go_at_call_of 18 (Value.int .i64 rb); exact Calls.regrown_of (cB _)) | (go_at_call_of 18 (Value.int .i64 rc); exact Calls.regrown_of (cC _)) | (go_at_call_of 62 (Value.int .i64 A); exact Calls.regrown_of (kA _)) | (go_at_call_of 62 (Value.int .i64 B); exact Calls.regrown_of (kB _)) | (go_at_call 62; exact Calls.regrown_of (kC _)))))
  refine wpQuiet_nil ?_
  intro _ hw'
  obtain ⟨⟨dq, osq⟩, hw''⟩ := hw'
  subst hw''
  have hBr := below_regrown W dq osq
  have e4 := cell_regrown d4 dq osq
  have e5 := cell_regrown d5 dq osq
  obtain ⟨WR, hWR⟩ : ∃ WR : World, WR = Go.Sort.grow (redrawn W dq) osq := ⟨_, rfl⟩
  rw [← hWR] at hBr e4 e5 ⊢
  clear hWR
  have hB : Below w.heap.size w WR := hA.trans (hBr.mono hA.size)
  have zR : w.heap.size < WR.heap.size := Nat.lt_of_lt_of_le zW hBr.size
  go_wp2_with (go_at_call_of 18 (Value.int .i64 rd); refine (cD _).mono ?_; rintro e w1 ⟨rfl, rfl⟩)
  go_ret
  exact ⟨_, rfl, (by first | decide | (simp only [ByteArray.size_append, sA, sB, sC]; decide)), hB⟩

set_option maxHeartbeats 600000 in
theorem typed_audit (kd ra rb rc rd re : Int) (w : World) (hkd : -9223372036854775808 ≤ kd ∧ kd ≤ 9223372036854775807) (hra : -9223372036854775808 ≤ ra ∧ ra ≤ 9223372036854775807) (hrb : -9223372036854775808 ≤ rb ∧ rb ≤ 9223372036854775807) (hrc : -9223372036854775808 ≤ rc ∧ rc ≤ 9223372036854775807) (hrd : -9223372036854775808 ≤ rd ∧ rd ≤ 9223372036854775807) (hre : -9223372036854775808 ≤ re ∧ re ≤ 9223372036854775807) (hD : pk rd 8 = 5) :
    Calls Tryd.prog 34 #[.agg #[.int .i64 kd, .int .i64 ra, .int .i64 rb, .int .i64 rc, .int .i64 rd, .int .i64 re], .bool true] w fun e w' => ∃ t : ByteArray, e = .returned (.string t) ∧ t.size ≤ 60 ∧ Below w.heap.size w w' := by
  have zA := pk_bd ra 4 (by decide)
  have zB := pk_bd rb 3 (by decide)
  have zC := pk_bd rc 4 (by decide)
  have zD := pk_bd rd 8 (by decide)
  obtain ⟨A, eA⟩ : ∃ x, x = pk ra 4 := ⟨_, rfl⟩
  obtain ⟨B, eB⟩ : ∃ x, x = pk rb 3 := ⟨_, rfl⟩
  obtain ⟨C, eC⟩ : ∃ x, x = pk rc 4 := ⟨_, rfl⟩
  obtain ⟨D, eD⟩ : ∃ x, x = pk rd 8 := ⟨_, rfl⟩
  have cA := fun w' => picked_below ra 4 w' hra (by decide) (by decide)
  have cB := fun w' => picked_below rb 3 w' hrb (by decide) (by decide)
  have cC := fun w' => picked_below rc 4 w' hrc (by decide) (by decide)
  have cD := fun w' => picked_any rd 8 w' hrd (by decide) (by decide)
  rw [← eA] at zA cA
  rw [← eB] at zB cB
  rw [← eC] at zC cC
  rw [← eD] at zD cD
  have kA := fun w' => dec_any A w' (by omega) (by omega)
  have kB := fun w' => dec_any B w' (by omega) (by omega)
  have kC := fun w' => dec_any (1 + C) w' (by omega) (by omega)
  have sA := decB_size A
  have sB := decB_size B
  have sC := decB_size (1 + C)
  obtain ⟨tA, etA⟩ : ∃ x, x = decB A := ⟨_, rfl⟩
  obtain ⟨tB, etB⟩ : ∃ x, x = decB B := ⟨_, rfl⟩
  obtain ⟨tC, etC⟩ : ∃ x, x = decB (1 + C) := ⟨_, rfl⟩
  rw [← etA] at kA sA
  rw [← etB] at kB sB
  rw [← etC] at kC sC
  have k1 : D = 5 := by rw [eD]; exact hD
  clear eA eB eC eD etA etB etC
  subst k1
  obtain ⟨zA1, zA2⟩ := zA
  obtain ⟨zB1, zB2⟩ := zB
  obtain ⟨zC1, zC2⟩ := zC
  obtain ⟨W, hW⟩ : ∃ W : World, W = w.alloc (.cells #[.int .i64 kd, .int .i64 ra, .int .i64 rb, .int .i64 rc, .int .i64 rd, .int .i64 re] 73) := ⟨_, rfl⟩
  have hA : Below w.heap.size w W := by rw [hW]; exact (Below.refl _ _).alloc (Nat.le_refl _) _
  have zW : w.heap.size < W.heap.size := by rw [hW]; simp
  have d1 : W.cell? ⟨w.heap.size, 1, none⟩ = some (.int .i64 ra) := by rw [hW]; go_simp
  have d2 : W.cell? ⟨w.heap.size, 2, none⟩ = some (.int .i64 rb) := by rw [hW]; go_simp
  have d3 : W.cell? ⟨w.heap.size, 3, none⟩ = some (.int .i64 rc) := by rw [hW]; go_simp
  have d4 : W.cell? ⟨w.heap.size, 4, none⟩ = some (.int .i64 rd) := by rw [hW]; go_simp
  have d5 : W.cell? ⟨w.heap.size, 5, none⟩ = some (.int .i64 re) := by rw [hW]; go_simp
  have g1 := fun d os => cell_regrown d1 d os
  have g2 := fun d os => cell_regrown d2 d os
  have g3 := fun d os => cell_regrown d3 d os
  go_enter Tryd.func34, Tryd.ntmps34
  go_wp2
  rw [← hW]
  clear hW
  refine wp_region_quiet_below (by kernel_rfl) (by kernel_rfl) ?_
  repeat (go_big_quiet_step ((first | (go_at_call_of 18 (Value.int .i64 ra); exact Calls.regrown_of (cA _)) | (go_at_call_of 18 (Value.int .i64 rb); exact Calls.regrown_of (cB _)) | (go_at_call_of 18 (Value.int .i64 rc); exact Calls.regrown_of (cC _)) | (go_at_call_of 62 (Value.int .i64 A); exact Calls.regrown_of (kA _)) | (go_at_call_of 62 (Value.int .i64 B); exact Calls.regrown_of (kB _)) | (go_at_call 62; exact Calls.regrown_of (kC _)))))
  refine wpQuiet_nil ?_
  intro _ hw'
  obtain ⟨⟨dq, osq⟩, hw''⟩ := hw'
  subst hw''
  have hBr := below_regrown W dq osq
  have e4 := cell_regrown d4 dq osq
  have e5 := cell_regrown d5 dq osq
  obtain ⟨WR, hWR⟩ : ∃ WR : World, WR = Go.Sort.grow (redrawn W dq) osq := ⟨_, rfl⟩
  rw [← hWR] at hBr e4 e5 ⊢
  clear hWR
  have hB : Below w.heap.size w WR := hA.trans (hBr.mono hA.size)
  have zR : w.heap.size < WR.heap.size := Nat.lt_of_lt_of_le zW hBr.size
  go_wp2_with (go_at_call_of 18 (Value.int .i64 rd); refine (cD _).mono ?_; rintro e w1 ⟨rfl, rfl⟩)
  go_ret
  exact ⟨_, rfl, (by first | decide | (simp only [ByteArray.size_append, sA, sB, sC]; decide)), hB⟩

set_option maxHeartbeats 600000 in
theorem typed_force (kd ra rb rc rd re : Int) (w : World) (hkd : -9223372036854775808 ≤ kd ∧ kd ≤ 9223372036854775807) (hra : -9223372036854775808 ≤ ra ∧ ra ≤ 9223372036854775807) (hrb : -9223372036854775808 ≤ rb ∧ rb ≤ 9223372036854775807) (hrc : -9223372036854775808 ≤ rc ∧ rc ≤ 9223372036854775807) (hrd : -9223372036854775808 ≤ rd ∧ rd ≤ 9223372036854775807) (hre : -9223372036854775808 ≤ re ∧ re ≤ 9223372036854775807) (hD : pk rd 8 = 6) :
    Calls Tryd.prog 34 #[.agg #[.int .i64 kd, .int .i64 ra, .int .i64 rb, .int .i64 rc, .int .i64 rd, .int .i64 re], .bool true] w fun e w' => ∃ t : ByteArray, e = .returned (.string t) ∧ t.size ≤ 60 ∧ Below w.heap.size w w' := by
  have zA := pk_bd ra 4 (by decide)
  have zB := pk_bd rb 3 (by decide)
  have zC := pk_bd rc 4 (by decide)
  have zD := pk_bd rd 8 (by decide)
  obtain ⟨A, eA⟩ : ∃ x, x = pk ra 4 := ⟨_, rfl⟩
  obtain ⟨B, eB⟩ : ∃ x, x = pk rb 3 := ⟨_, rfl⟩
  obtain ⟨C, eC⟩ : ∃ x, x = pk rc 4 := ⟨_, rfl⟩
  obtain ⟨D, eD⟩ : ∃ x, x = pk rd 8 := ⟨_, rfl⟩
  have cA := fun w' => picked_below ra 4 w' hra (by decide) (by decide)
  have cB := fun w' => picked_below rb 3 w' hrb (by decide) (by decide)
  have cC := fun w' => picked_below rc 4 w' hrc (by decide) (by decide)
  have cD := fun w' => picked_any rd 8 w' hrd (by decide) (by decide)
  rw [← eA] at zA cA
  rw [← eB] at zB cB
  rw [← eC] at zC cC
  rw [← eD] at zD cD
  have kA := fun w' => dec_any A w' (by omega) (by omega)
  have kB := fun w' => dec_any B w' (by omega) (by omega)
  have kC := fun w' => dec_any (1 + C) w' (by omega) (by omega)
  have sA := decB_size A
  have sB := decB_size B
  have sC := decB_size (1 + C)
  obtain ⟨tA, etA⟩ : ∃ x, x = decB A := ⟨_, rfl⟩
  obtain ⟨tB, etB⟩ : ∃ x, x = decB B := ⟨_, rfl⟩
  obtain ⟨tC, etC⟩ : ∃ x, x = decB (1 + C) := ⟨_, rfl⟩
  rw [← etA] at kA sA
  rw [← etB] at kB sB
  rw [← etC] at kC sC
  have k1 : D = 6 := by rw [eD]; exact hD
  clear eA eB eC eD etA etB etC
  subst k1
  obtain ⟨zA1, zA2⟩ := zA
  obtain ⟨zB1, zB2⟩ := zB
  obtain ⟨zC1, zC2⟩ := zC
  obtain ⟨W, hW⟩ : ∃ W : World, W = w.alloc (.cells #[.int .i64 kd, .int .i64 ra, .int .i64 rb, .int .i64 rc, .int .i64 rd, .int .i64 re] 73) := ⟨_, rfl⟩
  have hA : Below w.heap.size w W := by rw [hW]; exact (Below.refl _ _).alloc (Nat.le_refl _) _
  have zW : w.heap.size < W.heap.size := by rw [hW]; simp
  have d1 : W.cell? ⟨w.heap.size, 1, none⟩ = some (.int .i64 ra) := by rw [hW]; go_simp
  have d2 : W.cell? ⟨w.heap.size, 2, none⟩ = some (.int .i64 rb) := by rw [hW]; go_simp
  have d3 : W.cell? ⟨w.heap.size, 3, none⟩ = some (.int .i64 rc) := by rw [hW]; go_simp
  have d4 : W.cell? ⟨w.heap.size, 4, none⟩ = some (.int .i64 rd) := by rw [hW]; go_simp
  have d5 : W.cell? ⟨w.heap.size, 5, none⟩ = some (.int .i64 re) := by rw [hW]; go_simp
  have g1 := fun d os => cell_regrown d1 d os
  have g2 := fun d os => cell_regrown d2 d os
  have g3 := fun d os => cell_regrown d3 d os
  have cE := fun w' => picked_any re 2 w' hre (by decide) (by decide)
  have zE := pk_bd re 2 (by decide)
  obtain ⟨E, eE⟩ : ∃ x, x = pk re 2 := ⟨_, rfl⟩
  rw [← eE] at cE zE
  clear eE
  have hE : E = 0 ∨ E = 1 := by omega
  go_enter Tryd.func34, Tryd.ntmps34
  go_wp2
  rw [← hW]
  clear hW
  refine wp_region_quiet_below (by kernel_rfl) (by kernel_rfl) ?_
  repeat (go_big_quiet_step ((first | (go_at_call_of 18 (Value.int .i64 ra); exact Calls.regrown_of (cA _)) | (go_at_call_of 18 (Value.int .i64 rb); exact Calls.regrown_of (cB _)) | (go_at_call_of 18 (Value.int .i64 rc); exact Calls.regrown_of (cC _)) | (go_at_call_of 62 (Value.int .i64 A); exact Calls.regrown_of (kA _)) | (go_at_call_of 62 (Value.int .i64 B); exact Calls.regrown_of (kB _)) | (go_at_call 62; exact Calls.regrown_of (kC _)))))
  refine wpQuiet_nil ?_
  intro _ hw'
  obtain ⟨⟨dq, osq⟩, hw''⟩ := hw'
  subst hw''
  have hBr := below_regrown W dq osq
  have e4 := cell_regrown d4 dq osq
  have e5 := cell_regrown d5 dq osq
  obtain ⟨WR, hWR⟩ : ∃ WR : World, WR = Go.Sort.grow (redrawn W dq) osq := ⟨_, rfl⟩
  rw [← hWR] at hBr e4 e5 ⊢
  clear hWR
  have hB : Below w.heap.size w WR := hA.trans (hBr.mono hA.size)
  have zR : w.heap.size < WR.heap.size := Nat.lt_of_lt_of_le zW hBr.size
  rcases hE with rfl | rfl
  all_goals
    go_wp2_with (first | (go_at_call_of 18 (Value.int .i64 rd); refine (cD _).mono ?_; rintro e w1 ⟨rfl, rfl⟩) | (go_at_call_of 18 (Value.int .i64 re); refine (cE _).mono ?_; rintro e w1 ⟨rfl, rfl⟩))
    go_ret
    exact ⟨_, rfl, (by first | decide | (simp only [ByteArray.size_append, sA, sB, sC]; decide)), by first | exact hB | exact hB.alloc hB.size _⟩

set_option maxHeartbeats 600000 in
theorem typed_other (kd ra rb rc rd re : Int) (w : World) (hkd : -9223372036854775808 ≤ kd ∧ kd ≤ 9223372036854775807) (hra : -9223372036854775808 ≤ ra ∧ ra ≤ 9223372036854775807) (hrb : -9223372036854775808 ≤ rb ∧ rb ≤ 9223372036854775807) (hrc : -9223372036854775808 ≤ rc ∧ rc ≤ 9223372036854775807) (hrd : -9223372036854775808 ≤ rd ∧ rd ≤ 9223372036854775807) (hre : -9223372036854775808 ≤ re ∧ re ≤ 9223372036854775807) (hD : pk rd 8 = 7) :
    Calls Tryd.prog 34 #[.agg #[.int .i64 kd, .int .i64 ra, .int .i64 rb, .int .i64 rc, .int .i64 rd, .int .i64 re], .bool true] w fun e w' => ∃ t : ByteArray, e = .returned (.string t) ∧ t.size ≤ 60 ∧ Below w.heap.size w w' := by
  have zA := pk_bd ra 4 (by decide)
  have zB := pk_bd rb 3 (by decide)
  have zC := pk_bd rc 4 (by decide)
  have zD := pk_bd rd 8 (by decide)
  obtain ⟨A, eA⟩ : ∃ x, x = pk ra 4 := ⟨_, rfl⟩
  obtain ⟨B, eB⟩ : ∃ x, x = pk rb 3 := ⟨_, rfl⟩
  obtain ⟨C, eC⟩ : ∃ x, x = pk rc 4 := ⟨_, rfl⟩
  obtain ⟨D, eD⟩ : ∃ x, x = pk rd 8 := ⟨_, rfl⟩
  have cA := fun w' => picked_below ra 4 w' hra (by decide) (by decide)
  have cB := fun w' => picked_below rb 3 w' hrb (by decide) (by decide)
  have cC := fun w' => picked_below rc 4 w' hrc (by decide) (by decide)
  have cD := fun w' => picked_any rd 8 w' hrd (by decide) (by decide)
  rw [← eA] at zA cA
  rw [← eB] at zB cB
  rw [← eC] at zC cC
  rw [← eD] at zD cD
  have kA := fun w' => dec_any A w' (by omega) (by omega)
  have kB := fun w' => dec_any B w' (by omega) (by omega)
  have kC := fun w' => dec_any (1 + C) w' (by omega) (by omega)
  have sA := decB_size A
  have sB := decB_size B
  have sC := decB_size (1 + C)
  obtain ⟨tA, etA⟩ : ∃ x, x = decB A := ⟨_, rfl⟩
  obtain ⟨tB, etB⟩ : ∃ x, x = decB B := ⟨_, rfl⟩
  obtain ⟨tC, etC⟩ : ∃ x, x = decB (1 + C) := ⟨_, rfl⟩
  rw [← etA] at kA sA
  rw [← etB] at kB sB
  rw [← etC] at kC sC
  have k1 : D = 7 := by rw [eD]; exact hD
  clear eA eB eC eD etA etB etC
  subst k1
  obtain ⟨zA1, zA2⟩ := zA
  obtain ⟨zB1, zB2⟩ := zB
  obtain ⟨zC1, zC2⟩ := zC
  obtain ⟨W, hW⟩ : ∃ W : World, W = w.alloc (.cells #[.int .i64 kd, .int .i64 ra, .int .i64 rb, .int .i64 rc, .int .i64 rd, .int .i64 re] 73) := ⟨_, rfl⟩
  have hA : Below w.heap.size w W := by rw [hW]; exact (Below.refl _ _).alloc (Nat.le_refl _) _
  have zW : w.heap.size < W.heap.size := by rw [hW]; simp
  have d1 : W.cell? ⟨w.heap.size, 1, none⟩ = some (.int .i64 ra) := by rw [hW]; go_simp
  have d2 : W.cell? ⟨w.heap.size, 2, none⟩ = some (.int .i64 rb) := by rw [hW]; go_simp
  have d3 : W.cell? ⟨w.heap.size, 3, none⟩ = some (.int .i64 rc) := by rw [hW]; go_simp
  have d4 : W.cell? ⟨w.heap.size, 4, none⟩ = some (.int .i64 rd) := by rw [hW]; go_simp
  have d5 : W.cell? ⟨w.heap.size, 5, none⟩ = some (.int .i64 re) := by rw [hW]; go_simp
  have g1 := fun d os => cell_regrown d1 d os
  have g2 := fun d os => cell_regrown d2 d os
  have g3 := fun d os => cell_regrown d3 d os
  have cE := fun w' => picked_any re 6 w' hre (by decide) (by decide)
  have zE := pk_bd re 6 (by decide)
  obtain ⟨E, eE⟩ : ∃ x, x = pk re 6 := ⟨_, rfl⟩
  rw [← eE] at cE zE
  clear eE
  have hE : E = 0 ∨ E = 1 ∨ E = 2 ∨ E = 3 ∨ E = 4 ∨ E = 5 := by omega
  go_enter Tryd.func34, Tryd.ntmps34
  go_wp2
  rw [← hW]
  clear hW
  refine wp_region_quiet_below (by kernel_rfl) (by kernel_rfl) ?_
  repeat (go_big_quiet_step ((first | (go_at_call_of 18 (Value.int .i64 ra); exact Calls.regrown_of (cA _)) | (go_at_call_of 18 (Value.int .i64 rb); exact Calls.regrown_of (cB _)) | (go_at_call_of 18 (Value.int .i64 rc); exact Calls.regrown_of (cC _)) | (go_at_call_of 62 (Value.int .i64 A); exact Calls.regrown_of (kA _)) | (go_at_call_of 62 (Value.int .i64 B); exact Calls.regrown_of (kB _)) | (go_at_call 62; exact Calls.regrown_of (kC _)))))
  refine wpQuiet_nil ?_
  intro _ hw'
  obtain ⟨⟨dq, osq⟩, hw''⟩ := hw'
  subst hw''
  have hBr := below_regrown W dq osq
  have e4 := cell_regrown d4 dq osq
  have e5 := cell_regrown d5 dq osq
  obtain ⟨WR, hWR⟩ : ∃ WR : World, WR = Go.Sort.grow (redrawn W dq) osq := ⟨_, rfl⟩
  rw [← hWR] at hBr e4 e5 ⊢
  clear hWR
  have hB : Below w.heap.size w WR := hA.trans (hBr.mono hA.size)
  have zR : w.heap.size < WR.heap.size := Nat.lt_of_lt_of_le zW hBr.size
  rcases hE with rfl | rfl | rfl | rfl | rfl | rfl
  all_goals
    go_wp2_with (first | (go_at_call_of 18 (Value.int .i64 rd); refine (cD _).mono ?_; rintro e w1 ⟨rfl, rfl⟩) | (go_at_call_of 18 (Value.int .i64 re); refine (cE _).mono ?_; rintro e w1 ⟨rfl, rfl⟩))
    go_ret
    exact ⟨_, rfl, (by first | decide | (simp only [ByteArray.size_append, sA, sB, sC]; decide)), by first | exact hB | exact hB.alloc hB.size _⟩

theorem typed_any (kd ra rb rc rd re : Int) (w : World) (hkd : -9223372036854775808 ≤ kd ∧ kd ≤ 9223372036854775807) (hra : -9223372036854775808 ≤ ra ∧ ra ≤ 9223372036854775807) (hrb : -9223372036854775808 ≤ rb ∧ rb ≤ 9223372036854775807) (hrc : -9223372036854775808 ≤ rc ∧ rc ≤ 9223372036854775807) (hrd : -9223372036854775808 ≤ rd ∧ rd ≤ 9223372036854775807) (hre : -9223372036854775808 ≤ re ∧ re ≤ 9223372036854775807) :
    Calls Tryd.prog 34 #[.agg #[.int .i64 kd, .int .i64 ra, .int .i64 rb, .int .i64 rc, .int .i64 rd, .int .i64 re], .bool true] w fun e w' => ∃ t : ByteArray, e = .returned (.string t) ∧ t.size ≤ 60 ∧ Below w.heap.size w w' := by
  have z := pk_bd rd 8 (by decide)
  by_cases h3 : pk rd 8 < 3
  · exact typed_list kd ra rb rc rd re w hkd hra hrb hrc hrd hre h3
  · by_cases h5 : pk rd 8 < 5
    · exact typed_status kd ra rb rc rd re w hkd hra hrb hrc hrd hre ⟨by omega, h5⟩
    · by_cases h6 : pk rd 8 = 5
      · exact typed_audit kd ra rb rc rd re w hkd hra hrb hrc hrd hre h6
      · by_cases h7 : pk rd 8 = 6
        · exact typed_force kd ra rb rc rd re w hkd hra hrb hrc hrd hre h7
        · exact typed_other kd ra rb rc rd re w hkd hra hrb hrc hrd hre (by omega)
end Go.Proofs.YtlaagfnoepcnlaaDoor.Ln
/- What lines.Check tells of an act and of a call, on plain data. -/
namespace Go.Proofs.YtlaagfnoepcnlaaDoor.Ln
open Go.ChangeShapes Go.WideShapes Go.ChangeAt Go.RowKit

/-- Is all that is not 0 among what there is? -/
def only : List Bool → List Int → Bool
  | _, [] => true
  | [], _ :: _ => false
  | h :: hs, p :: ps => (h || p == 0) && only hs ps
/-- Which parts an act of a kind has: site, to, label, pick, keep, call, line. -/
def aHas : List (List Bool) :=
  [[false, false, false, false, false, false, false], [true, false, true, false, false, true, false], [true, true, true, true, false, false, false],
   [true, true, true, true, false, false, false], [true, true, true, true, false, false, false], [false, false, false, false, false, false, false],
   [true, false, false, false, true, false, false], [true, false, false, false, false, false, false], [true, false, true, false, false, false, true]]
/-- Which parts a call of a kind has: n, label, key, value. -/
def cHas : List (List Bool) :=
  [[false, false, false, false], [false, false, false, false], [true, true, true, false], [true, false, true, true], [true, false, false, false], [true, false, false, false]]
def cTops : List Int := [1048576, 5, 8, 1073741824]
def inTops : List Int → List Int → Bool
  | [], _ => true
  | _ :: _, [] => true
  | t :: ts, p :: ps => inR p 0 t && inTops ts ps
def one (b : Bool) : Int := if b then 1 else 0
def nz (c0 c1 c2 c3 c4 : Int) : Bool := !(c0 == 0 && c1 == 0 && c2 == 0 && c3 == 0 && c4 == 0)
def aParts (a : AV) : List Int := [a.site, a.to, a.label, a.pick, (a.kl : Int), one (nz a.c0 a.c1 a.c2 a.c3 a.c4), (a.line.size : Int)]
def callFault (c0 c1 c2 c3 c4 : Int) : Int :=
  if inR c0 1 5 = false then 3 else if inTops cTops [c1, c2, c3, c4] = false then 2 else if only (cHas.getD c0.toNat []) [c1, c2, c3, c4] = false then 4 else 0
def keepIn (zs : List Int) : Bool := zs.all fun z => inR z 0 6000
def actIn (s : Int) (n : Nat) (a : AV) : Bool :=
  decide (a.kl ≤ n) && keepIn a.keep && decide (a.line.size ≤ 60) && inR a.pick 0 1048576 && (inR a.site 0 (s - 1) && inR a.to 0 (s - 1) && plc a.label n)
def actFault (s : Int) (ls : List (Int × Int)) (p : Int) (a : AV) : Int :=
  if cfgFault s ls p ≠ 0 then cfgFault s ls p else if inR a.kind 1 8 = false then 3 else if actIn s ls.length a = false then 2
  else if only (aHas.getD a.kind.toNat []) (aParts a) = false then 4 else if a.kind = 1 then callFault a.c0 a.c1 a.c2 a.c3 a.c4 else 0

theorem only_at {hs : List Bool} {ps : List Int} {k : Nat} (h1 : k < hs.length) (h2 : k < ps.length) : only (hs.drop k) (ps.drop k) = ((hs.getD k false || ps.getD k 0 == 0) && only (hs.drop (k + 1)) (ps.drop (k + 1))) := by
  rw [List.drop_eq_getElem_cons h1, List.drop_eq_getElem_cons h2]
  simp [only, List.getD, h1, h2]
theorem only_end {hs : List Bool} {ps : List Int} {k : Nat} (h2 : ps.length ≤ k) : only (hs.drop k) (ps.drop k) = true := by
  rw [List.drop_eq_nil_of_le h2]
  cases hs.drop k <;> rfl
theorem inTops_at {ts ps : List Int} {k : Nat} (h1 : k < ts.length) (h2 : k < ps.length) : inTops (ts.drop k) (ps.drop k) = (inR (ps.getD k 0) 0 (ts.getD k 0) && inTops (ts.drop (k + 1)) (ps.drop (k + 1))) := by
  rw [List.drop_eq_getElem_cons h1, List.drop_eq_getElem_cons h2]
  simp [inTops, List.getD, h1, h2]

def Bools (w : World) (b : Nat) (hs : List Bool) : Prop := b < w.heap.size ∧ ∀ i, i < hs.length → w.cell? ⟨b, i, none⟩ = some (.bool (hs.getD i false))
def Nms (w : World) (b : Nat) (ps : List Int) : Prop := b < w.heap.size ∧ ∀ i, i < ps.length → w.cell? ⟨b, i, none⟩ = some (.int .i64 (ps.getD i 0))
theorem Bools.below {w w' : World} {b B : Nat} {hs : List Bool} (h : Bools w b hs) (hb : Below B w w') (hB : b < B) : Bools w' b hs :=
  ⟨Nat.lt_of_lt_of_le h.1 hb.size, fun i hi => (hb.cell (p := ⟨b, i, none⟩) hB).trans (h.2 i hi)⟩
theorem Nms.below {w w' : World} {b B : Nat} {ps : List Int} (h : Nms w b ps) (hb : Below B w w') (hB : b < B) : Nms w' b ps :=
  ⟨Nat.lt_of_lt_of_le h.1 hb.size, fun i hi => (hb.cell (p := ⟨b, i, none⟩) hB).trans (h.2 i hi)⟩
end Go.Proofs.YtlaagfnoepcnlaaDoor.Ln
/- Acts that may be, kind by kind. -/
namespace Go.Proofs.YtlaagfnoepcnlaaDoor.Ln
open Go.ChangeShapes Go.WideShapes Go.ChangeAt Go.RowKit
set_option linter.unusedVariables false
/-- What is known of each act that is made. -/
def Fine (S : Int) (len : Nat) (a : AV) : Prop := inR a.kind 1 8 = true ∧ actIn S len a = true ∧ only (aHas.getD a.kind.toNat []) (aParts a) = true ∧ (a.kind = 1 → callFault a.c0 a.c1 a.c2 a.c3 a.c4 = 0)
theorem Fine.fault {S : Int} {len : Nat} {a : AV} {ls : List (Int × Int)} {p : Int} (h : Fine S len a) (hc : cfgFault S ls p = 0) (hl : ls.length = len) : actFault S ls p a = 0 := by
  obtain ⟨h1, h2, h3, h4⟩ := h
  unfold actFault
  rw [if_neg (by simpa using hc), if_neg (by rw [h1]; simp), if_neg (by rw [hl, h2]; simp), if_neg (by rw [h3]; simp)]
  by_cases hk : a.kind = 1
  · rw [if_pos hk]; exact h4 hk
  · rw [if_neg hk]
/-- Numbers that a Keep is given. -/
def K40 (zs : List Int) : Prop := ∀ z ∈ zs, 0 ≤ z ∧ z < 40
theorem k40_nil : K40 [] := fun z hz => by cases hz
theorem k40_snoc {zs : List Int} {z : Int} (h : K40 zs) (hz : 0 ≤ z ∧ z < 40) : K40 (zs ++ [z]) := fun x hx => by
  rcases List.mem_append.1 hx with hx | hx
  · exact h x hx
  · simp at hx; subst hx; exact hz
theorem k40_nums {zs : List Int} (h : K40 zs) : Nums zs := fun i => by
  by_cases hi : i < zs.length
  · have := h zs[i] (List.getElem_mem hi)
    have e : zs.getD i 0 = zs[i] := by simp [List.getD, hi]
    rw [e]
    omega
  · simp [List.getD, hi]
theorem in_site {S x : Int} (h : 0 ≤ x ∧ x < S) : inR x 0 (S - 1) = true := inR_true h.1 (by omega)
theorem in_plc {len : Nat} {x : Int} (h : 0 ≤ x ∧ x < (len : Int)) : plc x len = true := by simpa [plc] using h
theorem actIn_of {S : Int} {len : Nat} {a : AV} (h1 : a.kl ≤ len) (h2 : keepIn a.keep = true) (h3 : a.line.size ≤ 60) (h4 : 0 ≤ a.pick ∧ a.pick < 3) (h5 : 0 ≤ a.site ∧ a.site < S) (h6 : 0 ≤ a.to ∧ a.to < S) (h7 : 0 ≤ a.label ∧ a.label < (len : Int)) : actIn S len a = true := by
  unfold actIn
  rw [decide_eq_true h1, h2, decide_eq_true h3, inR_true h4.1 (by omega), in_site h5, in_site h6, in_plc h7]
  rfl
theorem fine_ask {S : Int} {len : Nat} {site label c0 c1 c2 c3 c4 : Int} (hs : 0 ≤ site ∧ site < S) (hl : 0 ≤ label ∧ label < (len : Int)) (hc : callFault c0 c1 c2 c3 c4 = 0) : Fine S len ⟨1, site, 0, label, 0, none, 0, 0, c0, c1, c2, c3, c4, .empty, []⟩ :=
  ⟨rfl, actIn_of (Nat.zero_le _) rfl (Nat.zero_le _) (by simp) hs ⟨Int.le_refl 0, by show (0 : Int) < S; omega⟩ hl, rfl, fun _ => hc⟩
theorem fine_go {S : Int} {len : Nat} {site to1 label pick : Int} (k : Int) (hk : 2 ≤ k ∧ k ≤ 4) (hs : 0 ≤ site ∧ site < S) (ht : 0 ≤ to1 ∧ to1 < S) (hl : 0 ≤ label ∧ label < (len : Int)) (hp : 0 ≤ pick ∧ pick < 3) : Fine S len ⟨k, site, to1, label, pick, none, 0, 0, 0, 0, 0, 0, 0, .empty, []⟩ := by
  rcases (by omega : k = 2 ∨ k = 3 ∨ k = 4) with rfl | rfl | rfl
  all_goals exact ⟨rfl, actIn_of (Nat.zero_le _) rfl (Nat.zero_le _) hp hs ht hl, rfl, fun h => by simp at h⟩
theorem fine_tick {S : Int} {len : Nat} (hS : 1 ≤ S) (hl : 1 ≤ len) : Fine S len ⟨5, 0, 0, 0, 0, none, 0, 0, 0, 0, 0, 0, 0, .empty, []⟩ :=
  ⟨rfl, actIn_of (Nat.zero_le _) rfl (Nat.zero_le _) (by simp) ⟨Int.le_refl 0, by show (0 : Int) < S; omega⟩ ⟨Int.le_refl 0, by show (0 : Int) < S; omega⟩ ⟨Int.le_refl 0, by show (0 : Int) < (len : Int); omega⟩, rfl, fun h => by simp at h⟩
theorem fine_start {S : Int} {len : Nat} {site : Int} (hs : 0 ≤ site ∧ site < S) (hl : 1 ≤ len) : Fine S len ⟨7, site, 0, 0, 0, none, 0, 0, 0, 0, 0, 0, 0, .empty, []⟩ :=
  ⟨rfl, actIn_of (Nat.zero_le _) rfl (Nat.zero_le _) (by simp) hs ⟨Int.le_refl 0, by show (0 : Int) < S; omega⟩ ⟨Int.le_refl 0, by show (0 : Int) < (len : Int); omega⟩, rfl, fun h => by simp at h⟩
theorem fine_type {S : Int} {len : Nat} {site label : Int} {t : ByteArray} (hs : 0 ≤ site ∧ site < S) (hl : 0 ≤ label ∧ label < (len : Int)) (ht : t.size ≤ 60) : Fine S len ⟨8, site, 0, label, 0, none, 0, 0, 0, 0, 0, 0, 0, t, []⟩ :=
  ⟨rfl, actIn_of (Nat.zero_le _) rfl ht (by simp) hs ⟨Int.le_refl 0, by show (0 : Int) < S; omega⟩ hl, rfl, fun h => by simp at h⟩
theorem fine_crash {S : Int} {len : Nat} {site : Int} {ka : Option Addr} {n kc : Nat} {keep : List Int} (hs : 0 ≤ site ∧ site < S) (hl : 1 ≤ len) (hn : n ≤ len) (hk : K40 keep) : Fine S len ⟨6, site, 0, 0, 0, ka, n, kc, 0, 0, 0, 0, 0, .empty, keep⟩ := by
  have hki : keepIn keep = true := by
    unfold keepIn
    rw [List.all_eq_true]
    intro z hz
    have := hk z hz
    exact inR_true this.1 (by omega)
  exact ⟨rfl, actIn_of hn hki (Nat.zero_le _) (by simp) hs ⟨Int.le_refl 0, by show (0 : Int) < S; omega⟩ ⟨Int.le_refl 0, by show (0 : Int) < (len : Int); omega⟩, rfl, fun h => by simp at h⟩
theorem fine_bds {S : Int} {len : Nat} {a : AV} (h : Fine S len a) : (0 ≤ a.site ∧ a.site < S) ∧ (0 ≤ a.label ∧ a.label < (len : Int)) := by
  have h2 := h.2.1
  unfold actIn at h2
  simp only [Bool.and_eq_true] at h2
  have h3 := inR_of h2.2.1.1
  have h4 := h2.2.2
  simp [plc] at h4
  exact ⟨by omega, h4⟩

end Go.Proofs.YtlaagfnoepcnlaaDoor.Ln
