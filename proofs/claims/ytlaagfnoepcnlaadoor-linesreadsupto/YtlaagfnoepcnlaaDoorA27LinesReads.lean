/- The document's lineAct: an act of a line. -/
import Derived.Test.YtlaagfnoepcnlaaDoorM26LinesReads
namespace Go.Proofs.YtlaagfnoepcnlaaDoor.Ln
open Go.ChangeShapes Go.WideShapes Go.ChangeAt Go.RowKit
open Go.Proofs.YtlaagfnoepcnlaaDoor.St (BoxN boxn_new own_below IsRow Elem own_isRow)
open Go.Proofs.YtlaagfnoepcnlaaDoor.Cn (spl)
set_option linter.unusedVariables false

theorem ints_at {w : World} {B : Nat} {a : Option Addr} {n c : Nat} {zs : List Int} (h : w.ownsRow B 3 1 (.slice a n c) n (St.flat iC zs)) (hl : zs.length = n) (h0 : 0 < n) : ∃ b cur, a = some ⟨b, 0, none⟩ ∧ B ≤ b ∧ b < w.heap.size ∧ w.heap[b]? = some (.cells cur 3 (0, 0)) ∧ n ≤ c ∧ c ≤ maxLen ∧ ∀ i, i < n → w.cell? ⟨b, i, none⟩ = some (.int .i64 (zs.getD i 0)) := by
  obtain ⟨b, off, e, hb, hc⟩ := ints_cells h hl h0
  rcases h.2 with ⟨hv, hn⟩ | ⟨g, cap, cur, hv, hB, hg, h1, h2, -⟩
  · omega
  · rw [e] at hv
    cases hv
    refine ⟨b, cur, e, hB, hb, hg, h1, h2, fun i hi => ?_⟩
    have := hc i hi
    rw [Nat.zero_add] at this
    exact this
set_option maxRecDepth 100000 in
set_option maxHeartbeats 16000000 in
theorem lineAct_any (l : List UInt8) (w : World) (hl : l.length ≤ 8000000) :
    Calls Tryd.prog 30 #[.string ⟨l.toArray⟩] w fun e w' => LineTo l w w' e := by
  obtain ⟨O, eO⟩ : ∃ O, O = dcAct (spc 32 l) := ⟨_, rfl⟩
  have HO : Hid (O = dcAct (spc 32 l)) := eO
  obtain ⟨W, hW⟩ : ∃ W : World, W = w.alloc (.cells #[.int .i64 0, .int .i64 0, .int .i64 0, .int .i64 0, .int .i64 0, .slice none 0 0, .int .i64 0, .int .i64 0, .int .i64 0, .int .i64 0, .int .i64 0, .string ⟨#[]⟩] 41) := ⟨_, rfl⟩
  have bW : Below w.heap.size w W := by rw [hW]; exact (Below.refl _ _).alloc (Nat.le_refl _) _
  have bx : BoxN W w.heap.size 12 [.int .i64 0, .int .i64 0, .int .i64 0, .int .i64 0, .int .i64 0, .slice none 0 0, .int .i64 0, .int .i64 0, .int .i64 0, .int .i64 0, .int .i64 0, .string ⟨#[]⟩] := by rw [hW]; exact boxn_new w #[.int .i64 0, .int .i64 0, .int .i64 0, .int .i64 0, .int .i64 0, .slice none 0 0, .int .i64 0, .int .i64 0, .int .i64 0, .int .i64 0, .int .i64 0, .string ⟨#[]⟩] 41 12 rfl
  have KB : Hid (∀ U, Below W.heap.size W U → BoxN U w.heap.size 12 [.int .i64 0, .int .i64 0, .int .i64 0, .int .i64 0, .int .i64 0, .slice none 0 0, .int .i64 0, .int .i64 0, .int .i64 0, .int .i64 0, .int .i64 0, .string ⟨#[]⟩] ∧ Below w.heap.size w U) := fun U hU => ⟨bx.below hU bx.lt, bW.trans (hU.mono bW.size)⟩
  have hWs : w.heap.size < W.heap.size := bx.lt
  have HFin : Hid (∀ (F : World) (y : AV), Below w.heap.size w F → KeepIn F w.heap.size y → (∀ a, O = some a → a = nk y) → LineTo l w F (.returned (.tuple #[.agg y.cells.toArray, .bool O.isSome]))) := fun F y h1 h2 h3 => ⟨y, by rw [eO], h2, by rw [← eO]; exact h3, h1⟩
  have H12 : Hid (∀ (U : World) (x0 x1 x2 x3 x4 x5 x6 x7 x8 x9 x10 x11 : Value), Below w.heap.size w U → Below w.heap.size w ((((((((((((U.setCell ⟨w.heap.size, 0, none⟩ x0).setCell ⟨w.heap.size, 1, none⟩ x1).setCell ⟨w.heap.size, 2, none⟩ x2).setCell ⟨w.heap.size, 3, none⟩ x3).setCell ⟨w.heap.size, 4, none⟩ x4).setCell ⟨w.heap.size, 5, none⟩ x5).setCell ⟨w.heap.size, 6, none⟩ x6).setCell ⟨w.heap.size, 7, none⟩ x7).setCell ⟨w.heap.size, 8, none⟩ x8).setCell ⟨w.heap.size, 9, none⟩ x9).setCell ⟨w.heap.size, 10, none⟩ x10).setCell ⟨w.heap.size, 11, none⟩ x11)) := fun U x0 x1 x2 x3 x4 x5 x6 x7 x8 x9 x10 x11 h1 => ((((((((((((h1.setCell (p := ⟨w.heap.size, 0, none⟩) (Nat.le_refl _) x0).setCell (p := ⟨w.heap.size, 1, none⟩) (Nat.le_refl _) x1).setCell (p := ⟨w.heap.size, 2, none⟩) (Nat.le_refl _) x2).setCell (p := ⟨w.heap.size, 3, none⟩) (Nat.le_refl _) x3).setCell (p := ⟨w.heap.size, 4, none⟩) (Nat.le_refl _) x4).setCell (p := ⟨w.heap.size, 5, none⟩) (Nat.le_refl _) x5).setCell (p := ⟨w.heap.size, 6, none⟩) (Nat.le_refl _) x6).setCell (p := ⟨w.heap.size, 7, none⟩) (Nat.le_refl _) x7).setCell (p := ⟨w.heap.size, 8, none⟩) (Nat.le_refl _) x8).setCell (p := ⟨w.heap.size, 9, none⟩) (Nat.le_refl _) x9).setCell (p := ⟨w.heap.size, 10, none⟩) (Nat.le_refl _) x10).setCell (p := ⟨w.heap.size, 11, none⟩) (Nat.le_refl _) x11)
  have hP := parts_any ⟨l.toArray⟩ W (by show l.toArray.size ≤ _; simp; omega)
  have hws8 : Hid (∀ ws : List ByteArray, txt ws = spl l → ∀ x ∈ ws, x.size ≤ 140737488355320) := fun ws h x hx => by
    have hm : x.data.toList ∈ spc 32 l := by rw [← spl_spc, ← h]; exact List.mem_map_of_mem hx
    have : ∀ (l : List UInt8) (y : List UInt8), y ∈ spc 32 l → y.length ≤ l.length := by
      intro l
      induction l with
      | nil => intro y hy; simp [spc] at hy; subst hy; simp
      | cons c r ih =>
        intro y hy
        rw [spc] at hy
        split at hy
        · rcases List.mem_cons.1 hy with rfl | hy
          · simp
          · have := ih y hy; simp; omega
        · split at hy
          · simp at hy; subst hy; simp
          · rename_i q qs e
            rcases List.mem_cons.1 hy with rfl | hy
            · have := ih q (by rw [e]; simp); simp; omega
            · have := ih y (by rw [e]; simp [hy]); simp; omega
    have h9 := this l _ hm
    have : x.size = x.data.toList.length := rfl
    omega
  clear eO bW bx
  go_enter Tryd.func30, Tryd.ntmps30
  go_upto_region 1 with (fail)
  rw [← hW]
  clear hW
  go_upto_region 2 with (go_at_call 58; refine hP.mono ?_; rintro e u1 ⟨a, n, c, ws, rfl, hst, htx, hu1⟩)
  clear hP
  have hz := hws8.out ws htx
  have htx2 : txt ws = spc 32 l := by rw [← spl_spc]; exact htx
  obtain ⟨w0, r, rfl⟩ : ∃ w0 r, ws = w0 :: r := by
    cases ws with
    | nil => exact absurd htx2.symm (spc_ne 32 l)
    | cons x y => exact ⟨x, y, rfl⟩
  obtain ⟨⟨L⟩⟩ := w0
  have hn0 : n = r.length + 1 := hst.1.symm
  have hnl : n ≤ l.length + 1 := by
    have h1 : (txt (⟨⟨L⟩⟩ :: r)).length = n := by simp [txt, hn0]
    rw [htx2] at h1
    have : ∀ (l : List UInt8), (spc 32 l).length ≤ l.length + 1 := by
      intro l
      induction l with
      | nil => simp [spc]
      | cons c r ih =>
        rw [spc]
        split
        · simp; omega
        · split
          · simp
          · rename_i q qs e; rw [e] at ih; simp at ih ⊢; omega
    have := this l
    omega
  have hc9 : c ≤ 9223372036854775807 := hst.2.2.1
  have hnc := hst.2.1
  obtain ⟨b, off, rfl, zb, hcw⟩ := hst.2.2.2 (by omega)
  have HSt : Hid (∀ U, Below u1.heap.size u1 U → IsStrs U (some ⟨b, off, none⟩) n c (⟨⟨L⟩⟩ :: r) ∧ Below W.heap.size W U) := fun U hU => ⟨hst.below hU, hu1.trans (hU.mono hu1.size)⟩
  have HZ : Hid (∀ x ∈ r, x.size ≤ 140737488355320) := fun x hx => hz x (by simp [hx])
  have HD : Hid (O = dcAct (L :: txt r)) := by show _ = _; rw [HO.out, ← htx2]; rfl
  have HCl : Hid (∀ U, Below u1.heap.size u1 U → U.cell? ⟨b, off, none⟩ = some (.string ⟨L.toArray⟩) ∧ b < U.heap.size) := fun U hU => ⟨(hU.cell (p := ⟨b, off, none⟩) zb).trans (hcw 0 (by omega)), Nat.lt_of_lt_of_le zb hU.size⟩
  have hrl : r.length = n - 1 := by omega
  have HR : Hid (r.length = n - 1) := hrl
  have hn1 : 1 ≤ n := by omega
  have hn8 : n ≤ 8000001 := by omega
  clear hz htx htx2 HO hst hcw hws8 hn0 hnl zb hrl
  obtain ⟨hcl, zbu⟩ := HCl.out u1 (Below.refl _ _)
  by_cases hA : L = [97, 115, 107] ∨ L = [116, 121, 112, 101]
  · have HD2 : Hid (O = if (txt r).length < 3 then none else dcA1 L (txt r) (stKept ((txt r).take 2))) := by show _ = _; rw [HD.out]; exact dcAct_A hA
    have htl : (txt r).length = n - 1 := by simp [txt, HR.out]
    clear HD
    by_cases h4 : n < 4
    · have hO : O = none := by rw [HD2.out, if_pos (by omega)]
      have h4' : (n : Int) < 4 := by omega
      clear HD2 HR HZ HCl
      have hbb := (HSt.out u1 (Below.refl _ _)).2
      rcases hA with hA | hA
      all_goals
        subst hA
        obtain ⟨bx, hbw⟩ := KB.out u1 hbb
        have b0 := (bx.c 0 (by decide)).1
        have b1 := (bx.c 1 (by decide)).1
        have b2 := (bx.c 2 (by decide)).1
        have b3 := (bx.c 3 (by decide)).1
        have b4 := (bx.c 4 (by decide)).1
        have b5 := (bx.c 5 (by decide)).1
        have b6 := (bx.c 6 (by decide)).1
        have b7 := (bx.c 7 (by decide)).1
        have b8 := (bx.c 8 (by decide)).1
        have b9 := (bx.c 9 (by decide)).1
        have b10 := (bx.c 10 (by decide)).1
        have b11 := (bx.c 11 (by decide)).1
        have e0 := (bx.c 0 (by decide)).2
        have e1 := (bx.c 1 (by decide)).2
        have e2 := (bx.c 2 (by decide)).2
        have e3 := (bx.c 3 (by decide)).2
        have e4 := (bx.c 4 (by decide)).2
        have e5 := (bx.c 5 (by decide)).2
        have e6 := (bx.c 6 (by decide)).2
        have e7 := (bx.c 7 (by decide)).2
        have e8 := (bx.c 8 (by decide)).2
        have e9 := (bx.c 9 (by decide)).2
        have e10 := (bx.c 10 (by decide)).2
        have e11 := (bx.c 11 (by decide)).2
        have z5 := bx.lt
        simp only [List.getD_cons_zero, List.getD_cons_succ] at b0 b1 b2 b3 b4 b5 b6 b7 b8 b9 b10 b11
        obtain ⟨F, hF⟩ : ∃ F : World, F = (((((((((((u1.setCell ⟨w.heap.size, 0, none⟩ (.int .i64 0)).setCell ⟨w.heap.size, 1, none⟩ (.int .i64 0)).setCell ⟨w.heap.size, 2, none⟩ (.int .i64 0)).setCell ⟨w.heap.size, 3, none⟩ (.int .i64 0)).setCell ⟨w.heap.size, 4, none⟩ (.int .i64 0)).setCell ⟨w.heap.size, 5, none⟩ (.slice none 0 0)).setCell ⟨w.heap.size, 6, none⟩ (.int .i64 0)).setCell ⟨w.heap.size, 7, none⟩ (.int .i64 0)).setCell ⟨w.heap.size, 8, none⟩ (.int .i64 0)).setCell ⟨w.heap.size, 9, none⟩ (.int .i64 0)).setCell ⟨w.heap.size, 10, none⟩ (.int .i64 0)).setCell ⟨w.heap.size, 11, none⟩ (.string ⟨#[]⟩) := ⟨_, rfl⟩
        have k0 : F.cell? ⟨w.heap.size, 0, none⟩ = some (.int .i64 0) := by rw [hF]; go_simp
        have k1 : F.cell? ⟨w.heap.size, 1, none⟩ = some (.int .i64 0) := by rw [hF]; go_simp
        have k2 : F.cell? ⟨w.heap.size, 2, none⟩ = some (.int .i64 0) := by rw [hF]; go_simp
        have k3 : F.cell? ⟨w.heap.size, 3, none⟩ = some (.int .i64 0) := by rw [hF]; go_simp
        have k4 : F.cell? ⟨w.heap.size, 4, none⟩ = some (.int .i64 0) := by rw [hF]; go_simp
        have k5 : F.cell? ⟨w.heap.size, 5, none⟩ = some (.slice none 0 0) := by rw [hF]; go_simp
        have k6 : F.cell? ⟨w.heap.size, 6, none⟩ = some (.int .i64 0) := by rw [hF]; go_simp
        have k7 : F.cell? ⟨w.heap.size, 7, none⟩ = some (.int .i64 0) := by rw [hF]; go_simp
        have k8 : F.cell? ⟨w.heap.size, 8, none⟩ = some (.int .i64 0) := by rw [hF]; go_simp
        have k9 : F.cell? ⟨w.heap.size, 9, none⟩ = some (.int .i64 0) := by rw [hF]; go_simp
        have k10 : F.cell? ⟨w.heap.size, 10, none⟩ = some (.int .i64 0) := by rw [hF]; go_simp
        have k11 : F.cell? ⟨w.heap.size, 11, none⟩ = some (.string ⟨#[]⟩) := by rw [hF]; go_simp
        have HF := HFin.out F ⟨0, 0, 0, 0, 0, none, 0, 0, 0, 0, 0, 0, 0, ⟨#[]⟩, []⟩ (by rw [hF]; exact (H12.out u1 _ _ _ _ _ _ _ _ _ _ _ _ hbw)) (keep_nil _ _ _ rfl rfl rfl rfl) (by intro cv hcv; rw [hO] at hcv; cases hcv)
        rw [hO] at HF
        have HF2 : Hid (LineTo l w F (.returned (.tuple #[.agg #[.int .i64 0, .int .i64 0, .int .i64 0, .int .i64 0, .int .i64 0, .slice none 0 0, .int .i64 0, .int .i64 0, .int .i64 0, .int .i64 0, .int .i64 0, .string ⟨#[]⟩], .bool false]))) := HF
        clear HF HFin H12 KB bx hbw hO 
        go_wp2
        rw [← hF]
        refine bodyPost_ret (v := .tuple #[.agg #[.int .i64 0, .int .i64 0, .int .i64 0, .int .i64 0, .int .i64 0, .slice none 0 0, .int .i64 0, .int .i64 0, .int .i64 0, .int .i64 0, .int .i64 0, .string ⟨#[]⟩], .bool false]) (by simp [results, Tryd.results30, go_sem, k0, k1, k2, k3, k4, k5, k6, k7, k8, k9, k10, k11]) rfl HF2.out
    · have h4' : ¬ (n : Int) < 4 := by omega
      have h3 : 3 ≤ n := by omega
      have hs13 := fun U => slice_t13 b off n c U h3 hnc hc9
      have hsi := strs_two (HSt.out u1 (Below.refl _ _)).1 (by omega)
      have hWh := wholes_any (some ⟨b, off + 1, none⟩) 2 (c - 1) (r.take 2) u1 hsi (by omega) (fun x hx => by have := HZ.out x (List.mem_of_mem_take hx); omega)
      have htk : txt (r.take 2) = (txt r).take 2 := txt_take r 2
      obtain ⟨Q, eQ⟩ : ∃ Q, Q = stKept ((txt r).take 2) := ⟨_, rfl⟩
      have HD3 : Hid (O = dcA1 L (txt r) Q) := by
        show _ = _
        rw [HD2.out, if_neg (by omega), ← eQ]
      have HQl : Hid (∀ l, Q = some l → l.length = 2) := fun l h => by
        rw [eQ] at h
        rw [stKept_len h, List.length_take]
        omega
      have HWh : Hid (Calls Tryd.prog 59 #[.slice (some ⟨b, off + 1, none⟩) 2 (c - 1)] u1 fun e w' => ∃ a5 n5 c5 zs, e = .returned (.tuple #[.slice a5 n5 c5, .bool Q.isSome]) ∧ w'.ownsRow u1.heap.size 3 1 (.slice a5 n5 c5) n5 (St.flat iC zs) ∧ zs.length = n5 ∧ (∀ l, Q = some l → zs = l) ∧ Below u1.heap.size u1 w') := hWh.mono fun e w' ⟨a5, n5, c5, zs, h1, h2, h3, h4, h5, h6⟩ => by
        rw [htk, ← eQ] at h1 h5
        exact ⟨a5, n5, c5, zs, h1, h2, h3, h5, h6⟩
      have hWh := HWh.out
      clear HWh HD2 eQ htk hsi h4
      cases Q with
      | none =>
        have hO : O = none := HD3.out
        clear HD3 HQl
        rcases hA with hA | hA
        all_goals
          subst hA
          go_upto_region 6 with (go_at_call 59; refine hWh.mono ?_; rintro e u ⟨a5, n5, c5, zs, rfl, hO5, hzl, hzs, hUW⟩)
          have hbb := (HSt.out u hUW).2
          clear hWh hO5 hzs hs13 HSt HR HZ HCl
          obtain ⟨bx, hbw⟩ := KB.out u hbb
          have b0 := (bx.c 0 (by decide)).1
          have b1 := (bx.c 1 (by decide)).1
          have b2 := (bx.c 2 (by decide)).1
          have b3 := (bx.c 3 (by decide)).1
          have b4 := (bx.c 4 (by decide)).1
          have b5 := (bx.c 5 (by decide)).1
          have b6 := (bx.c 6 (by decide)).1
          have b7 := (bx.c 7 (by decide)).1
          have b8 := (bx.c 8 (by decide)).1
          have b9 := (bx.c 9 (by decide)).1
          have b10 := (bx.c 10 (by decide)).1
          have b11 := (bx.c 11 (by decide)).1
          have e0 := (bx.c 0 (by decide)).2
          have e1 := (bx.c 1 (by decide)).2
          have e2 := (bx.c 2 (by decide)).2
          have e3 := (bx.c 3 (by decide)).2
          have e4 := (bx.c 4 (by decide)).2
          have e5 := (bx.c 5 (by decide)).2
          have e6 := (bx.c 6 (by decide)).2
          have e7 := (bx.c 7 (by decide)).2
          have e8 := (bx.c 8 (by decide)).2
          have e9 := (bx.c 9 (by decide)).2
          have e10 := (bx.c 10 (by decide)).2
          have e11 := (bx.c 11 (by decide)).2
          have z5 := bx.lt
          simp only [List.getD_cons_zero, List.getD_cons_succ] at b0 b1 b2 b3 b4 b5 b6 b7 b8 b9 b10 b11
          obtain ⟨F, hF⟩ : ∃ F : World, F = (((((((((((u.setCell ⟨w.heap.size, 0, none⟩ (.int .i64 0)).setCell ⟨w.heap.size, 1, none⟩ (.int .i64 0)).setCell ⟨w.heap.size, 2, none⟩ (.int .i64 0)).setCell ⟨w.heap.size, 3, none⟩ (.int .i64 0)).setCell ⟨w.heap.size, 4, none⟩ (.int .i64 0)).setCell ⟨w.heap.size, 5, none⟩ (.slice none 0 0)).setCell ⟨w.heap.size, 6, none⟩ (.int .i64 0)).setCell ⟨w.heap.size, 7, none⟩ (.int .i64 0)).setCell ⟨w.heap.size, 8, none⟩ (.int .i64 0)).setCell ⟨w.heap.size, 9, none⟩ (.int .i64 0)).setCell ⟨w.heap.size, 10, none⟩ (.int .i64 0)).setCell ⟨w.heap.size, 11, none⟩ (.string ⟨#[]⟩) := ⟨_, rfl⟩
          have k0 : F.cell? ⟨w.heap.size, 0, none⟩ = some (.int .i64 0) := by rw [hF]; go_simp
          have k1 : F.cell? ⟨w.heap.size, 1, none⟩ = some (.int .i64 0) := by rw [hF]; go_simp
          have k2 : F.cell? ⟨w.heap.size, 2, none⟩ = some (.int .i64 0) := by rw [hF]; go_simp
          have k3 : F.cell? ⟨w.heap.size, 3, none⟩ = some (.int .i64 0) := by rw [hF]; go_simp
          have k4 : F.cell? ⟨w.heap.size, 4, none⟩ = some (.int .i64 0) := by rw [hF]; go_simp
          have k5 : F.cell? ⟨w.heap.size, 5, none⟩ = some (.slice none 0 0) := by rw [hF]; go_simp
          have k6 : F.cell? ⟨w.heap.size, 6, none⟩ = some (.int .i64 0) := by rw [hF]; go_simp
          have k7 : F.cell? ⟨w.heap.size, 7, none⟩ = some (.int .i64 0) := by rw [hF]; go_simp
          have k8 : F.cell? ⟨w.heap.size, 8, none⟩ = some (.int .i64 0) := by rw [hF]; go_simp
          have k9 : F.cell? ⟨w.heap.size, 9, none⟩ = some (.int .i64 0) := by rw [hF]; go_simp
          have k10 : F.cell? ⟨w.heap.size, 10, none⟩ = some (.int .i64 0) := by rw [hF]; go_simp
          have k11 : F.cell? ⟨w.heap.size, 11, none⟩ = some (.string ⟨#[]⟩) := by rw [hF]; go_simp
          have HF := HFin.out F ⟨0, 0, 0, 0, 0, none, 0, 0, 0, 0, 0, 0, 0, ⟨#[]⟩, []⟩ (by rw [hF]; exact (H12.out u _ _ _ _ _ _ _ _ _ _ _ _ hbw)) (keep_nil _ _ _ rfl rfl rfl rfl) (by intro cv hcv; rw [hO] at hcv; cases hcv)
          rw [hO] at HF
          have HF2 : Hid (LineTo l w F (.returned (.tuple #[.agg #[.int .i64 0, .int .i64 0, .int .i64 0, .int .i64 0, .int .i64 0, .slice none 0 0, .int .i64 0, .int .i64 0, .int .i64 0, .int .i64 0, .int .i64 0, .string ⟨#[]⟩], .bool false]))) := HF
          clear HF HFin H12 KB bx hbw hO 
          go_wp2
          rw [← hF]
          refine bodyPost_ret (v := .tuple #[.agg #[.int .i64 0, .int .i64 0, .int .i64 0, .int .i64 0, .int .i64 0, .slice none 0 0, .int .i64 0, .int .i64 0, .int .i64 0, .int .i64 0, .int .i64 0, .string ⟨#[]⟩], .bool false]) (by simp [results, Tryd.results30, go_sem, k0, k1, k2, k3, k4, k5, k6, k7, k8, k9, k10, k11]) rfl HF2.out
      | some l2 =>
        have hl2 := HQl.out l2 rfl
        clear HQl
        rcases hA with hA | hA
        · have HD4 : Hid (O = (dcCall ((txt r).drop 2)).map fun c => mkA 1 [l2.getD 0 0, 0, l2.getD 1 0, 0] [] c []) := by show _ = _; rw [HD3.out]; exact if_pos (show L = askW from hA)
          subst hA
          clear HD3
          go_upto_region 8 with (go_at_call 59; refine hWh.mono ?_; rintro e u ⟨a5, n5, c5, zs, rfl, hO5, hzl, hzs, hUW⟩)
          obtain rfl : zs = l2 := hzs l2 rfl
          obtain rfl : n5 = 2 := by omega
          obtain ⟨b5, cur5, rfl, hB5, zb5, -, -, -, hc5⟩ := ints_at hO5 hzl (by omega)
          obtain ⟨p0, ep0⟩ : ∃ p, p = zs.getD 0 0 := ⟨_, rfl⟩
          obtain ⟨p1, ep1⟩ : ∃ p, p = zs.getD 1 0 := ⟨_, rfl⟩
          have d0 := hc5 0 (by omega)
          have d1 := hc5 1 (by omega)
          rw [← ep0] at d0 HD4
          rw [← ep1] at d1 HD4
          have HZ5 : Hid (∀ U, Below u.heap.size u U → U.cell? ⟨b5, 0, none⟩ = some (.int .i64 p0) ∧ U.cell? ⟨b5, 1, none⟩ = some (.int .i64 p1) ∧ b5 < U.heap.size) := fun U hU => ⟨(hU.cell (p := ⟨b5, 0, none⟩) zb5).trans d0, (hU.cell (p := ⟨b5, 1, none⟩) zb5).trans d1, Nat.lt_of_lt_of_le zb5 hU.size⟩
          have hUW2 : Hid (Below u1.heap.size u1 u) := hUW
          obtain ⟨hcl2, zbu2⟩ := HCl.out u hUW
          obtain ⟨a3, ea3⟩ : ∃ a3, a3 = (if c = 3 then some ⟨b, off, none⟩ else some ⟨b, off + 3, none⟩ : Option Addr) := ⟨_, rfl⟩
          have hs3 : ∀ U : World, (Instr.slice 45 (.slice (some ⟨b, off, none⟩) n c) (some (.int .i64 3)) none none).run Tryd.prog U = .ok (.slice a3 (n - 3) (c - 3)) U := fun U => by rw [ea3]; exact slice_t3 b off n c U h3 hnc hc9
          have hCo := callOf_any a3 (n - 3) (c - 3) (r.drop 2) u (strs_tail (HSt.out u hUW).1 3 (by omega) a3 ea3) (by omega) (fun x hx => by have := HZ.out x (List.mem_of_mem_drop hx); omega)
          have hCo2 : Calls Tryd.prog 60 #[.slice a3 (n - 3) (c - 3)] u fun e w' => ∃ (k : Nat) (q0 q1 q2 q3 : Int) (ok : Bool), e = .returned (.tuple #[.agg #[.int .i64 (k : Int), .int .i64 q0, .int .i64 q1, .int .i64 q2, .int .i64 q3], .bool ok]) ∧ Hid (ok = (dcCall ((txt r).drop 2)).isSome) ∧ (∀ cv, dcCall ((txt r).drop 2) = some cv → cv = ⟨k, [q0, q1, q2, q3]⟩) ∧ Below u.heap.size u w' := hCo.mono fun e w' ⟨k, q0, q1, q2, q3, h1, h2, h3⟩ => by
            rw [txt_drop] at h1 h2
            exact ⟨k, q0, q1, q2, q3, _, h1, rfl, h2, h3⟩
          clear hCo hWh hO5 hzs hs13 hc5 d0 d1 ep0 ep1 zb5 hzl hl2 ea3 hB5 hcl zbu hUW
          go_upto_region 10 with (go_at_call 60; refine hCo2.mono ?_; rintro e u2 ⟨k, q0, q1, q2, q3, ok, rfl, hok, hcv, hu2⟩)
          obtain ⟨Y, hY⟩ : ∃ Y : World, Y = u2.alloc (.cells #[.int .i64 (k : Int), .int .i64 q0, .int .i64 q1, .int .i64 q2, .int .i64 q3] 39) := ⟨_, rfl⟩
          have bY : Below u2.heap.size u2 Y := by rw [hY]; exact (Below.refl _ _).alloc (Nat.le_refl _) _
          have bxC : BoxN Y u2.heap.size 5 [.int .i64 (k : Int), .int .i64 q0, .int .i64 q1, .int .i64 q2, .int .i64 q3] := by rw [hY]; exact boxn_new u2 #[.int .i64 (k : Int), .int .i64 q0, .int .i64 q1, .int .i64 q2, .int .i64 q3] 39 5 rfl
          rw [← hY]
          have buY : Below u.heap.size u Y := hu2.trans (bY.mono hu2.size)
          obtain ⟨d0, d1, zb5⟩ := HZ5.out Y buY
          have hbb : Below W.heap.size W Y := (HSt.out Y (hUW2.out.trans (buY.mono hUW2.out.size))).2
          have y0 : Y.cell? ⟨u2.heap.size, 0, none⟩ = some (.int .i64 (k : Int)) := (bxC.c 0 (by decide)).1
          have y1 : Y.cell? ⟨u2.heap.size, 1, none⟩ = some (.int .i64 q0) := (bxC.c 1 (by decide)).1
          have y2 : Y.cell? ⟨u2.heap.size, 2, none⟩ = some (.int .i64 q1) := (bxC.c 2 (by decide)).1
          have y3 : Y.cell? ⟨u2.heap.size, 3, none⟩ = some (.int .i64 q2) := (bxC.c 3 (by decide)).1
          have y4 : Y.cell? ⟨u2.heap.size, 4, none⟩ = some (.int .i64 q3) := (bxC.c 4 (by decide)).1
          have zy := bxC.lt
          obtain ⟨OV, eOV⟩ : ∃ OV, OV = O := ⟨_, rfl⟩
          have hOs : O.isSome = ok := by rw [HD4.out, hok.out]; cases dcCall ((txt r).drop 2) <;> rfl
          have hOw : ∀ a, O = some a → a = nk ⟨1, p0, 0, p1, 0, none, 0, 0, (k : Int), q0, q1, q2, q3, ⟨#[]⟩, []⟩ := fun a ha => by
            rw [HD4.out] at ha
            cases hd : dcCall ((txt r).drop 2) with
            | none => rw [hd] at ha; cases ha
            | some cv =>
              rw [hd] at ha
              have := hcv cv hd
              subst this
              cases ha
              rfl
          have hO : O.isSome = ok := hOs
          clear hY hCo2 HD4 hcv hok hu2 bY bxC buY HZ5 hUW2 HSt HR HZ HCl hs3 hcl2 zbu2 eOV OV
          obtain ⟨bx, hbw⟩ := KB.out Y hbb
          have b0 := (bx.c 0 (by decide)).1
          have b1 := (bx.c 1 (by decide)).1
          have b2 := (bx.c 2 (by decide)).1
          have b3 := (bx.c 3 (by decide)).1
          have b4 := (bx.c 4 (by decide)).1
          have b5 := (bx.c 5 (by decide)).1
          have b6 := (bx.c 6 (by decide)).1
          have b7 := (bx.c 7 (by decide)).1
          have b8 := (bx.c 8 (by decide)).1
          have b9 := (bx.c 9 (by decide)).1
          have b10 := (bx.c 10 (by decide)).1
          have b11 := (bx.c 11 (by decide)).1
          have e0 := (bx.c 0 (by decide)).2
          have e1 := (bx.c 1 (by decide)).2
          have e2 := (bx.c 2 (by decide)).2
          have e3 := (bx.c 3 (by decide)).2
          have e4 := (bx.c 4 (by decide)).2
          have e5 := (bx.c 5 (by decide)).2
          have e6 := (bx.c 6 (by decide)).2
          have e7 := (bx.c 7 (by decide)).2
          have e8 := (bx.c 8 (by decide)).2
          have e9 := (bx.c 9 (by decide)).2
          have e10 := (bx.c 10 (by decide)).2
          have e11 := (bx.c 11 (by decide)).2
          have z5 := bx.lt
          simp only [List.getD_cons_zero, List.getD_cons_succ] at b0 b1 b2 b3 b4 b5 b6 b7 b8 b9 b10 b11
          obtain ⟨F, hF⟩ : ∃ F : World, F = (((((((((((Y.setCell ⟨w.heap.size, 0, none⟩ (.int .i64 1)).setCell ⟨w.heap.size, 1, none⟩ (.int .i64 p0)).setCell ⟨w.heap.size, 2, none⟩ (.int .i64 0)).setCell ⟨w.heap.size, 3, none⟩ (.int .i64 p1)).setCell ⟨w.heap.size, 4, none⟩ (.int .i64 0)).setCell ⟨w.heap.size, 5, none⟩ (.slice none 0 0)).setCell ⟨w.heap.size, 6, none⟩ (.int .i64 (k : Int))).setCell ⟨w.heap.size, 7, none⟩ (.int .i64 q0)).setCell ⟨w.heap.size, 8, none⟩ (.int .i64 q1)).setCell ⟨w.heap.size, 9, none⟩ (.int .i64 q2)).setCell ⟨w.heap.size, 10, none⟩ (.int .i64 q3)).setCell ⟨w.heap.size, 11, none⟩ (.string ⟨#[]⟩) := ⟨_, rfl⟩
          have k0 : F.cell? ⟨w.heap.size, 0, none⟩ = some (.int .i64 1) := by rw [hF]; go_simp
          have k1 : F.cell? ⟨w.heap.size, 1, none⟩ = some (.int .i64 p0) := by rw [hF]; go_simp
          have k2 : F.cell? ⟨w.heap.size, 2, none⟩ = some (.int .i64 0) := by rw [hF]; go_simp
          have k3 : F.cell? ⟨w.heap.size, 3, none⟩ = some (.int .i64 p1) := by rw [hF]; go_simp
          have k4 : F.cell? ⟨w.heap.size, 4, none⟩ = some (.int .i64 0) := by rw [hF]; go_simp
          have k5 : F.cell? ⟨w.heap.size, 5, none⟩ = some (.slice none 0 0) := by rw [hF]; go_simp
          have k6 : F.cell? ⟨w.heap.size, 6, none⟩ = some (.int .i64 (k : Int)) := by rw [hF]; go_simp
          have k7 : F.cell? ⟨w.heap.size, 7, none⟩ = some (.int .i64 q0) := by rw [hF]; go_simp
          have k8 : F.cell? ⟨w.heap.size, 8, none⟩ = some (.int .i64 q1) := by rw [hF]; go_simp
          have k9 : F.cell? ⟨w.heap.size, 9, none⟩ = some (.int .i64 q2) := by rw [hF]; go_simp
          have k10 : F.cell? ⟨w.heap.size, 10, none⟩ = some (.int .i64 q3) := by rw [hF]; go_simp
          have k11 : F.cell? ⟨w.heap.size, 11, none⟩ = some (.string ⟨#[]⟩) := by rw [hF]; go_simp
          have HF := HFin.out F.drew ⟨1, p0, 0, p1, 0, none, 0, 0, (k : Int), q0, q1, q2, q3, ⟨#[]⟩, []⟩ (by rw [hF]; exact (H12.out Y _ _ _ _ _ _ _ _ _ _ _ _ hbw).drew) (keep_nil _ _ _ rfl rfl rfl rfl) (hOw)
          rw [hO] at HF
          have HF2 : Hid (LineTo l w F.drew (.returned (.tuple #[.agg #[.int .i64 1, .int .i64 p0, .int .i64 0, .int .i64 p1, .int .i64 0, .slice none 0 0, .int .i64 (k : Int), .int .i64 q0, .int .i64 q1, .int .i64 q2, .int .i64 q3, .string ⟨#[]⟩], .bool ok]))) := HF
          clear HF HFin H12 KB bx hbw hO hOw hOs
          go_region
          go_wp2
          rw [← hF]
          refine bodyPost_ret (v := .tuple #[.agg #[.int .i64 1, .int .i64 p0, .int .i64 0, .int .i64 p1, .int .i64 0, .slice none 0 0, .int .i64 (k : Int), .int .i64 q0, .int .i64 q1, .int .i64 q2, .int .i64 q3, .string ⟨#[]⟩], .bool ok]) (by simp [results, Tryd.results30, go_sem, k0, k1, k2, k3, k4, k5, k6, k7, k8, k9, k10, k11]) rfl HF2.out
        · have HD4 : Hid (O = if (txt r).length = 3 then (stText ((txt r).getD 2 [])).map fun t => mkA 8 [l2.getD 0 0, 0, l2.getD 1 0, 0] [] CV.nil t else none) := by show _ = _; rw [HD3.out]; exact if_neg (show ¬ L = askW by rw [hA]; decide)
          subst hA
          clear HD3
          go_upto_region 8 with (go_at_call 59; refine hWh.mono ?_; rintro e u ⟨a5, n5, c5, zs, rfl, hO5, hzl, hzs, hUW⟩)
          obtain rfl : zs = l2 := hzs l2 rfl
          obtain rfl : n5 = 2 := by omega
          obtain ⟨b5, cur5, rfl, hB5, zb5, -, -, -, hc5⟩ := ints_at hO5 hzl (by omega)
          obtain ⟨p0, ep0⟩ : ∃ p, p = zs.getD 0 0 := ⟨_, rfl⟩
          obtain ⟨p1, ep1⟩ : ∃ p, p = zs.getD 1 0 := ⟨_, rfl⟩
          have d0 := hc5 0 (by omega)
          have d1 := hc5 1 (by omega)
          rw [← ep0] at d0 HD4
          rw [← ep1] at d1 HD4
          have HZ5 : Hid (∀ U, Below u.heap.size u U → U.cell? ⟨b5, 0, none⟩ = some (.int .i64 p0) ∧ U.cell? ⟨b5, 1, none⟩ = some (.int .i64 p1) ∧ b5 < U.heap.size) := fun U hU => ⟨(hU.cell (p := ⟨b5, 0, none⟩) zb5).trans d0, (hU.cell (p := ⟨b5, 1, none⟩) zb5).trans d1, Nat.lt_of_lt_of_le zb5 hU.size⟩
          have hUW2 : Hid (Below u1.heap.size u1 u) := hUW
          obtain ⟨hcl2, zbu2⟩ := HCl.out u hUW
          obtain ⟨⟨⟨T⟩⟩, eT⟩ : ∃ T, T = r.getD 2 .empty := ⟨_, rfl⟩
          have hcT : u.cell? ⟨b, off + 3, none⟩ = some (.string ⟨T.toArray⟩) := by
            obtain ⟨b', off', ea, zz, hcc⟩ := (HSt.out u hUW).1.2.2.2 (by omega)
            cases ea
            have h9 := hcc 3 (by omega)
            rw [h9]
            show some (Value.string (r.getD 2 .empty)) = _
            rw [← eT]
          have hTt : (txt r).getD 2 [] = T := by
            have h2 : 2 < r.length := by have := HR.out; omega
            have : (txt r).getD 2 [] = (r.getD 2 .empty).data.toList := by simp [txt, List.getD, h2]
            rw [this, ← eT]
          have hTl : T.length ≤ 140737488355320 := by
            have h2 : 2 < r.length := by have := HR.out; omega
            exact HZ.out ⟨⟨T⟩⟩ (by rw [eT]; simp [List.getD, h2])
          have hUn := undotted_any T u hTl
          rw [hTt] at HD4
          clear hWh hO5 hzs hs13 hc5 d0 d1 ep0 ep1 zb5 hzl hl2 hB5 hcl zbu hUW eT hTt hTl
          cases hst : stText T with
          | none =>
            rw [hst] at hUn
            replace hUn := hUn.mono (fun e v h => (show e = .returned (.tuple #[.string ⟨#[]⟩, .bool false]) ∧ Below u.heap.size u v from h))
            have hO : O = none := by rw [HD4.out, hst]; split <;> rfl
            go_upto_region 12 with (go_at_call 61; refine hUn.mono ?_; rintro e Y ⟨rfl, buY⟩)
            obtain ⟨d0, d1, zb5⟩ := HZ5.out Y buY
            have hbb : Below W.heap.size W Y := (HSt.out Y (hUW2.out.trans (buY.mono hUW2.out.size))).2
            clear hUn HD4 hst buY HZ5 hUW2 HSt HR HZ HCl hcl2 zbu2 hcT
            obtain ⟨bx, hbw⟩ := KB.out Y hbb
            have b0 := (bx.c 0 (by decide)).1
            have b1 := (bx.c 1 (by decide)).1
            have b2 := (bx.c 2 (by decide)).1
            have b3 := (bx.c 3 (by decide)).1
            have b4 := (bx.c 4 (by decide)).1
            have b5 := (bx.c 5 (by decide)).1
            have b6 := (bx.c 6 (by decide)).1
            have b7 := (bx.c 7 (by decide)).1
            have b8 := (bx.c 8 (by decide)).1
            have b9 := (bx.c 9 (by decide)).1
            have b10 := (bx.c 10 (by decide)).1
            have b11 := (bx.c 11 (by decide)).1
            have e0 := (bx.c 0 (by decide)).2
            have e1 := (bx.c 1 (by decide)).2
            have e2 := (bx.c 2 (by decide)).2
            have e3 := (bx.c 3 (by decide)).2
            have e4 := (bx.c 4 (by decide)).2
            have e5 := (bx.c 5 (by decide)).2
            have e6 := (bx.c 6 (by decide)).2
            have e7 := (bx.c 7 (by decide)).2
            have e8 := (bx.c 8 (by decide)).2
            have e9 := (bx.c 9 (by decide)).2
            have e10 := (bx.c 10 (by decide)).2
            have e11 := (bx.c 11 (by decide)).2
            have z5 := bx.lt
            simp only [List.getD_cons_zero, List.getD_cons_succ] at b0 b1 b2 b3 b4 b5 b6 b7 b8 b9 b10 b11
            obtain ⟨F, hF⟩ : ∃ F : World, F = (((((((((((Y.setCell ⟨w.heap.size, 0, none⟩ (.int .i64 8)).setCell ⟨w.heap.size, 1, none⟩ (.int .i64 p0)).setCell ⟨w.heap.size, 2, none⟩ (.int .i64 0)).setCell ⟨w.heap.size, 3, none⟩ (.int .i64 p1)).setCell ⟨w.heap.size, 4, none⟩ (.int .i64 0)).setCell ⟨w.heap.size, 5, none⟩ (.slice none 0 0)).setCell ⟨w.heap.size, 6, none⟩ (.int .i64 0)).setCell ⟨w.heap.size, 7, none⟩ (.int .i64 0)).setCell ⟨w.heap.size, 8, none⟩ (.int .i64 0)).setCell ⟨w.heap.size, 9, none⟩ (.int .i64 0)).setCell ⟨w.heap.size, 10, none⟩ (.int .i64 0)).setCell ⟨w.heap.size, 11, none⟩ (.string ⟨#[]⟩) := ⟨_, rfl⟩
            have k0 : F.cell? ⟨w.heap.size, 0, none⟩ = some (.int .i64 8) := by rw [hF]; go_simp
            have k1 : F.cell? ⟨w.heap.size, 1, none⟩ = some (.int .i64 p0) := by rw [hF]; go_simp
            have k2 : F.cell? ⟨w.heap.size, 2, none⟩ = some (.int .i64 0) := by rw [hF]; go_simp
            have k3 : F.cell? ⟨w.heap.size, 3, none⟩ = some (.int .i64 p1) := by rw [hF]; go_simp
            have k4 : F.cell? ⟨w.heap.size, 4, none⟩ = some (.int .i64 0) := by rw [hF]; go_simp
            have k5 : F.cell? ⟨w.heap.size, 5, none⟩ = some (.slice none 0 0) := by rw [hF]; go_simp
            have k6 : F.cell? ⟨w.heap.size, 6, none⟩ = some (.int .i64 0) := by rw [hF]; go_simp
            have k7 : F.cell? ⟨w.heap.size, 7, none⟩ = some (.int .i64 0) := by rw [hF]; go_simp
            have k8 : F.cell? ⟨w.heap.size, 8, none⟩ = some (.int .i64 0) := by rw [hF]; go_simp
            have k9 : F.cell? ⟨w.heap.size, 9, none⟩ = some (.int .i64 0) := by rw [hF]; go_simp
            have k10 : F.cell? ⟨w.heap.size, 10, none⟩ = some (.int .i64 0) := by rw [hF]; go_simp
            have k11 : F.cell? ⟨w.heap.size, 11, none⟩ = some (.string ⟨#[]⟩) := by rw [hF]; go_simp
            have HF := HFin.out F.drew ⟨8, p0, 0, p1, 0, none, 0, 0, 0, 0, 0, 0, 0, ⟨#[]⟩, []⟩ (by rw [hF]; exact (H12.out Y _ _ _ _ _ _ _ _ _ _ _ _ hbw).drew) (keep_nil _ _ _ rfl rfl rfl rfl) (by intro cv hcv; rw [hO] at hcv; cases hcv)
            rw [hO] at HF
            have HF2 : Hid (LineTo l w F.drew (.returned (.tuple #[.agg #[.int .i64 8, .int .i64 p0, .int .i64 0, .int .i64 p1, .int .i64 0, .slice none 0 0, .int .i64 0, .int .i64 0, .int .i64 0, .int .i64 0, .int .i64 0, .string ⟨#[]⟩], .bool false]))) := HF
            clear HF HFin H12 KB bx hbw hO 
            go_region
            go_wp2
            rw [← hF]
            refine bodyPost_ret (v := .tuple #[.agg #[.int .i64 8, .int .i64 p0, .int .i64 0, .int .i64 p1, .int .i64 0, .slice none 0 0, .int .i64 0, .int .i64 0, .int .i64 0, .int .i64 0, .int .i64 0, .string ⟨#[]⟩], .bool false]) (by simp [results, Tryd.results30, go_sem, k0, k1, k2, k3, k4, k5, k6, k7, k8, k9, k10, k11]) rfl HF2.out
          | some t =>
            rw [hst] at hUn
            replace hUn := hUn.mono (fun e v h => (show e = .returned (.tuple #[.string ⟨t.toArray⟩, .bool true]) ∧ Below u.heap.size u v from h))
            by_cases hn4 : n = 4
            · have hO : O = some (mkA 8 [p0, 0, p1, 0] [] CV.nil t) := by rw [HD4.out, if_pos (by omega), hst]; rfl
              have hn4' : (n : Int) = 4 := by omega
              go_upto_region 12 with (go_at_call 61; refine hUn.mono ?_; rintro e Y ⟨rfl, buY⟩)
              obtain ⟨d0, d1, zb5⟩ := HZ5.out Y buY
              have hbb : Below W.heap.size W Y := (HSt.out Y (hUW2.out.trans (buY.mono hUW2.out.size))).2
              clear hUn HD4 hst buY HZ5 hUW2 HSt HR HZ HCl hcl2 zbu2 hcT hn4
              obtain ⟨bx, hbw⟩ := KB.out Y hbb
              have b0 := (bx.c 0 (by decide)).1
              have b1 := (bx.c 1 (by decide)).1
              have b2 := (bx.c 2 (by decide)).1
              have b3 := (bx.c 3 (by decide)).1
              have b4 := (bx.c 4 (by decide)).1
              have b5 := (bx.c 5 (by decide)).1
              have b6 := (bx.c 6 (by decide)).1
              have b7 := (bx.c 7 (by decide)).1
              have b8 := (bx.c 8 (by decide)).1
              have b9 := (bx.c 9 (by decide)).1
              have b10 := (bx.c 10 (by decide)).1
              have b11 := (bx.c 11 (by decide)).1
              have e0 := (bx.c 0 (by decide)).2
              have e1 := (bx.c 1 (by decide)).2
              have e2 := (bx.c 2 (by decide)).2
              have e3 := (bx.c 3 (by decide)).2
              have e4 := (bx.c 4 (by decide)).2
              have e5 := (bx.c 5 (by decide)).2
              have e6 := (bx.c 6 (by decide)).2
              have e7 := (bx.c 7 (by decide)).2
              have e8 := (bx.c 8 (by decide)).2
              have e9 := (bx.c 9 (by decide)).2
              have e10 := (bx.c 10 (by decide)).2
              have e11 := (bx.c 11 (by decide)).2
              have z5 := bx.lt
              simp only [List.getD_cons_zero, List.getD_cons_succ] at b0 b1 b2 b3 b4 b5 b6 b7 b8 b9 b10 b11
              obtain ⟨F, hF⟩ : ∃ F : World, F = (((((((((((Y.setCell ⟨w.heap.size, 0, none⟩ (.int .i64 8)).setCell ⟨w.heap.size, 1, none⟩ (.int .i64 p0)).setCell ⟨w.heap.size, 2, none⟩ (.int .i64 0)).setCell ⟨w.heap.size, 3, none⟩ (.int .i64 p1)).setCell ⟨w.heap.size, 4, none⟩ (.int .i64 0)).setCell ⟨w.heap.size, 5, none⟩ (.slice none 0 0)).setCell ⟨w.heap.size, 6, none⟩ (.int .i64 0)).setCell ⟨w.heap.size, 7, none⟩ (.int .i64 0)).setCell ⟨w.heap.size, 8, none⟩ (.int .i64 0)).setCell ⟨w.heap.size, 9, none⟩ (.int .i64 0)).setCell ⟨w.heap.size, 10, none⟩ (.int .i64 0)).setCell ⟨w.heap.size, 11, none⟩ (.string ⟨t.toArray⟩) := ⟨_, rfl⟩
              have k0 : F.cell? ⟨w.heap.size, 0, none⟩ = some (.int .i64 8) := by rw [hF]; go_simp
              have k1 : F.cell? ⟨w.heap.size, 1, none⟩ = some (.int .i64 p0) := by rw [hF]; go_simp
              have k2 : F.cell? ⟨w.heap.size, 2, none⟩ = some (.int .i64 0) := by rw [hF]; go_simp
              have k3 : F.cell? ⟨w.heap.size, 3, none⟩ = some (.int .i64 p1) := by rw [hF]; go_simp
              have k4 : F.cell? ⟨w.heap.size, 4, none⟩ = some (.int .i64 0) := by rw [hF]; go_simp
              have k5 : F.cell? ⟨w.heap.size, 5, none⟩ = some (.slice none 0 0) := by rw [hF]; go_simp
              have k6 : F.cell? ⟨w.heap.size, 6, none⟩ = some (.int .i64 0) := by rw [hF]; go_simp
              have k7 : F.cell? ⟨w.heap.size, 7, none⟩ = some (.int .i64 0) := by rw [hF]; go_simp
              have k8 : F.cell? ⟨w.heap.size, 8, none⟩ = some (.int .i64 0) := by rw [hF]; go_simp
              have k9 : F.cell? ⟨w.heap.size, 9, none⟩ = some (.int .i64 0) := by rw [hF]; go_simp
              have k10 : F.cell? ⟨w.heap.size, 10, none⟩ = some (.int .i64 0) := by rw [hF]; go_simp
              have k11 : F.cell? ⟨w.heap.size, 11, none⟩ = some (.string ⟨t.toArray⟩) := by rw [hF]; go_simp
              have HF := HFin.out F.drew ⟨8, p0, 0, p1, 0, none, 0, 0, 0, 0, 0, 0, 0, ⟨t.toArray⟩, []⟩ (by rw [hF]; exact (H12.out Y _ _ _ _ _ _ _ _ _ _ _ _ hbw).drew) (keep_nil _ _ _ rfl rfl rfl rfl) (by intro cv hcv; rw [hO] at hcv; cases hcv; rfl)
              rw [hO] at HF
              have HF2 : Hid (LineTo l w F.drew (.returned (.tuple #[.agg #[.int .i64 8, .int .i64 p0, .int .i64 0, .int .i64 p1, .int .i64 0, .slice none 0 0, .int .i64 0, .int .i64 0, .int .i64 0, .int .i64 0, .int .i64 0, .string ⟨t.toArray⟩], .bool true]))) := HF
              clear HF HFin H12 KB bx hbw hO 
              go_region
              go_wp2
              rw [← hF]
              refine bodyPost_ret (v := .tuple #[.agg #[.int .i64 8, .int .i64 p0, .int .i64 0, .int .i64 p1, .int .i64 0, .slice none 0 0, .int .i64 0, .int .i64 0, .int .i64 0, .int .i64 0, .int .i64 0, .string ⟨t.toArray⟩], .bool true]) (by simp [results, Tryd.results30, go_sem, k0, k1, k2, k3, k4, k5, k6, k7, k8, k9, k10, k11]) rfl HF2.out
            · have hO : O = none := by rw [HD4.out, if_neg (by omega)]
              have hn4' : ¬ (n : Int) = 4 := by omega
              have hn4'' : ((n : Int) == 4) = false := beq_eq_false_iff_ne.2 hn4'
              go_upto_region 12 with (go_at_call 61; refine hUn.mono ?_; rintro e Y ⟨rfl, buY⟩)
              obtain ⟨d0, d1, zb5⟩ := HZ5.out Y buY
              have hbb : Below W.heap.size W Y := (HSt.out Y (hUW2.out.trans (buY.mono hUW2.out.size))).2
              clear hUn HD4 hst buY HZ5 hUW2 HSt HR HZ HCl hcl2 zbu2 hcT hn4
              obtain ⟨bx, hbw⟩ := KB.out Y hbb
              have b0 := (bx.c 0 (by decide)).1
              have b1 := (bx.c 1 (by decide)).1
              have b2 := (bx.c 2 (by decide)).1
              have b3 := (bx.c 3 (by decide)).1
              have b4 := (bx.c 4 (by decide)).1
              have b5 := (bx.c 5 (by decide)).1
              have b6 := (bx.c 6 (by decide)).1
              have b7 := (bx.c 7 (by decide)).1
              have b8 := (bx.c 8 (by decide)).1
              have b9 := (bx.c 9 (by decide)).1
              have b10 := (bx.c 10 (by decide)).1
              have b11 := (bx.c 11 (by decide)).1
              have e0 := (bx.c 0 (by decide)).2
              have e1 := (bx.c 1 (by decide)).2
              have e2 := (bx.c 2 (by decide)).2
              have e3 := (bx.c 3 (by decide)).2
              have e4 := (bx.c 4 (by decide)).2
              have e5 := (bx.c 5 (by decide)).2
              have e6 := (bx.c 6 (by decide)).2
              have e7 := (bx.c 7 (by decide)).2
              have e8 := (bx.c 8 (by decide)).2
              have e9 := (bx.c 9 (by decide)).2
              have e10 := (bx.c 10 (by decide)).2
              have e11 := (bx.c 11 (by decide)).2
              have z5 := bx.lt
              simp only [List.getD_cons_zero, List.getD_cons_succ] at b0 b1 b2 b3 b4 b5 b6 b7 b8 b9 b10 b11
              obtain ⟨F, hF⟩ : ∃ F : World, F = (((((((((((Y.setCell ⟨w.heap.size, 0, none⟩ (.int .i64 8)).setCell ⟨w.heap.size, 1, none⟩ (.int .i64 p0)).setCell ⟨w.heap.size, 2, none⟩ (.int .i64 0)).setCell ⟨w.heap.size, 3, none⟩ (.int .i64 p1)).setCell ⟨w.heap.size, 4, none⟩ (.int .i64 0)).setCell ⟨w.heap.size, 5, none⟩ (.slice none 0 0)).setCell ⟨w.heap.size, 6, none⟩ (.int .i64 0)).setCell ⟨w.heap.size, 7, none⟩ (.int .i64 0)).setCell ⟨w.heap.size, 8, none⟩ (.int .i64 0)).setCell ⟨w.heap.size, 9, none⟩ (.int .i64 0)).setCell ⟨w.heap.size, 10, none⟩ (.int .i64 0)).setCell ⟨w.heap.size, 11, none⟩ (.string ⟨t.toArray⟩) := ⟨_, rfl⟩
              have k0 : F.cell? ⟨w.heap.size, 0, none⟩ = some (.int .i64 8) := by rw [hF]; go_simp
              have k1 : F.cell? ⟨w.heap.size, 1, none⟩ = some (.int .i64 p0) := by rw [hF]; go_simp
              have k2 : F.cell? ⟨w.heap.size, 2, none⟩ = some (.int .i64 0) := by rw [hF]; go_simp
              have k3 : F.cell? ⟨w.heap.size, 3, none⟩ = some (.int .i64 p1) := by rw [hF]; go_simp
              have k4 : F.cell? ⟨w.heap.size, 4, none⟩ = some (.int .i64 0) := by rw [hF]; go_simp
              have k5 : F.cell? ⟨w.heap.size, 5, none⟩ = some (.slice none 0 0) := by rw [hF]; go_simp
              have k6 : F.cell? ⟨w.heap.size, 6, none⟩ = some (.int .i64 0) := by rw [hF]; go_simp
              have k7 : F.cell? ⟨w.heap.size, 7, none⟩ = some (.int .i64 0) := by rw [hF]; go_simp
              have k8 : F.cell? ⟨w.heap.size, 8, none⟩ = some (.int .i64 0) := by rw [hF]; go_simp
              have k9 : F.cell? ⟨w.heap.size, 9, none⟩ = some (.int .i64 0) := by rw [hF]; go_simp
              have k10 : F.cell? ⟨w.heap.size, 10, none⟩ = some (.int .i64 0) := by rw [hF]; go_simp
              have k11 : F.cell? ⟨w.heap.size, 11, none⟩ = some (.string ⟨t.toArray⟩) := by rw [hF]; go_simp
              have HF := HFin.out F.drew ⟨8, p0, 0, p1, 0, none, 0, 0, 0, 0, 0, 0, 0, ⟨t.toArray⟩, []⟩ (by rw [hF]; exact (H12.out Y _ _ _ _ _ _ _ _ _ _ _ _ hbw).drew) (keep_nil _ _ _ rfl rfl rfl rfl) (by intro cv hcv; rw [hO] at hcv; cases hcv)
              rw [hO] at HF
              have HF2 : Hid (LineTo l w F.drew (.returned (.tuple #[.agg #[.int .i64 8, .int .i64 p0, .int .i64 0, .int .i64 p1, .int .i64 0, .slice none 0 0, .int .i64 0, .int .i64 0, .int .i64 0, .int .i64 0, .int .i64 0, .string ⟨t.toArray⟩], .bool false]))) := HF
              clear HF HFin H12 KB bx hbw hO 
              go_region
              go_wp2
              rw [← hF]
              refine bodyPost_ret (v := .tuple #[.agg #[.int .i64 8, .int .i64 p0, .int .i64 0, .int .i64 p1, .int .i64 0, .slice none 0 0, .int .i64 0, .int .i64 0, .int .i64 0, .int .i64 0, .int .i64 0, .string ⟨t.toArray⟩], .bool false]) (by simp [results, Tryd.results30, go_sem, k0, k1, k2, k3, k4, k5, k6, k7, k8, k9, k10, k11]) rfl HF2.out
  · have hA1 : ¬ L = [97, 115, 107] := fun h => hA (Or.inl h)
    have hA2 : ¬ L = [116, 121, 112, 101] := fun h => hA (Or.inr h)
    clear hA
    obtain ⟨a1, ea1⟩ : ∃ a1, a1 = (if c = 1 then some ⟨b, off, none⟩ else some ⟨b, off + 1, none⟩ : Option Addr) := ⟨_, rfl⟩
    have hsl : ∀ U : World, (Instr.slice 45 (.slice (some ⟨b, off, none⟩) n c) (some (.int .i64 1)) none none).run Tryd.prog U = .ok (.slice a1 (n - 1) (c - 1)) U := fun U => by rw [ea1]; exact slice_t1 b off n c U hn1 hnc hc9
    have hWh := wholes_any a1 (n - 1) (c - 1) r u1 (strs_tail (HSt.out u1 (Below.refl _ _)).1 1 (by omega) a1 ea1) (by omega) (fun x hx => by have := HZ.out x hx; omega)
    obtain ⟨Q, eQ⟩ : ∃ Q, Q = stKept (txt r) := ⟨_, rfl⟩
    have HD2 : Hid (O = dcB1 L Q) := by show _ = _; rw [HD.out, dcAct_B hA1 hA2, ← eQ]
    have hWh2 : Calls Tryd.prog 59 #[.slice a1 (n - 1) (c - 1)] u1 fun e w' => ∃ a5 n5 c5 zs, e = .returned (.tuple #[.slice a5 n5 c5, .bool Q.isSome]) ∧ w'.ownsRow u1.heap.size 3 1 (.slice a5 n5 c5) n5 (St.flat iC zs) ∧ zs.length = n5 ∧ (∀ z ∈ zs, i64n z) ∧ (∀ l, Q = some l → zs = l) ∧ Below u1.heap.size u1 w' := hWh.mono fun e w' ⟨a5, n5, c5, zs, h1, h2, h3, h4, h5, h6⟩ => by
      rw [← eQ] at h1 h5
      exact ⟨a5, n5, c5, zs, h1, h2, h3, h4, h5, h6⟩
    have hg1 : (L == [97, 115, 107]) = false := beq_eq_false_iff_ne.2 hA1
    have hg2 : (L == [116, 121, 112, 101]) = false := beq_eq_false_iff_ne.2 hA2
    clear hWh HD eQ ea1
    go_upto_region 14 with (go_at_call 59; refine hWh2.mono ?_; rintro e u ⟨a5, n5, c5, zs, rfl, hO5, hzl, hzi, hzs, hUW⟩)
    have hbb := (HSt.out u hUW).2
    have hWu1 : W.heap.size ≤ u1.heap.size := (HSt.out u1 (Below.refl _ _)).2.size
    obtain ⟨hcl2, zbu2⟩ := HCl.out u hUW
    clear hWh2 hsl HR HZ HCl HSt hcl zbu
    cases Q with
    | none =>
      have hO : O = none := HD2.out
      clear HD2 hO5 hzs hzi hcl2 zbu2
      obtain ⟨bx, hbw⟩ := KB.out u hbb
      have b0 := (bx.c 0 (by decide)).1
      have b1 := (bx.c 1 (by decide)).1
      have b2 := (bx.c 2 (by decide)).1
      have b3 := (bx.c 3 (by decide)).1
      have b4 := (bx.c 4 (by decide)).1
      have b5 := (bx.c 5 (by decide)).1
      have b6 := (bx.c 6 (by decide)).1
      have b7 := (bx.c 7 (by decide)).1
      have b8 := (bx.c 8 (by decide)).1
      have b9 := (bx.c 9 (by decide)).1
      have b10 := (bx.c 10 (by decide)).1
      have b11 := (bx.c 11 (by decide)).1
      have e0 := (bx.c 0 (by decide)).2
      have e1 := (bx.c 1 (by decide)).2
      have e2 := (bx.c 2 (by decide)).2
      have e3 := (bx.c 3 (by decide)).2
      have e4 := (bx.c 4 (by decide)).2
      have e5 := (bx.c 5 (by decide)).2
      have e6 := (bx.c 6 (by decide)).2
      have e7 := (bx.c 7 (by decide)).2
      have e8 := (bx.c 8 (by decide)).2
      have e9 := (bx.c 9 (by decide)).2
      have e10 := (bx.c 10 (by decide)).2
      have e11 := (bx.c 11 (by decide)).2
      have z5 := bx.lt
      simp only [List.getD_cons_zero, List.getD_cons_succ] at b0 b1 b2 b3 b4 b5 b6 b7 b8 b9 b10 b11
      obtain ⟨F, hF⟩ : ∃ F : World, F = (((((((((((u.setCell ⟨w.heap.size, 0, none⟩ (.int .i64 0)).setCell ⟨w.heap.size, 1, none⟩ (.int .i64 0)).setCell ⟨w.heap.size, 2, none⟩ (.int .i64 0)).setCell ⟨w.heap.size, 3, none⟩ (.int .i64 0)).setCell ⟨w.heap.size, 4, none⟩ (.int .i64 0)).setCell ⟨w.heap.size, 5, none⟩ (.slice none 0 0)).setCell ⟨w.heap.size, 6, none⟩ (.int .i64 0)).setCell ⟨w.heap.size, 7, none⟩ (.int .i64 0)).setCell ⟨w.heap.size, 8, none⟩ (.int .i64 0)).setCell ⟨w.heap.size, 9, none⟩ (.int .i64 0)).setCell ⟨w.heap.size, 10, none⟩ (.int .i64 0)).setCell ⟨w.heap.size, 11, none⟩ (.string ⟨#[]⟩) := ⟨_, rfl⟩
      have k0 : F.cell? ⟨w.heap.size, 0, none⟩ = some (.int .i64 0) := by rw [hF]; go_simp
      have k1 : F.cell? ⟨w.heap.size, 1, none⟩ = some (.int .i64 0) := by rw [hF]; go_simp
      have k2 : F.cell? ⟨w.heap.size, 2, none⟩ = some (.int .i64 0) := by rw [hF]; go_simp
      have k3 : F.cell? ⟨w.heap.size, 3, none⟩ = some (.int .i64 0) := by rw [hF]; go_simp
      have k4 : F.cell? ⟨w.heap.size, 4, none⟩ = some (.int .i64 0) := by rw [hF]; go_simp
      have k5 : F.cell? ⟨w.heap.size, 5, none⟩ = some (.slice none 0 0) := by rw [hF]; go_simp
      have k6 : F.cell? ⟨w.heap.size, 6, none⟩ = some (.int .i64 0) := by rw [hF]; go_simp
      have k7 : F.cell? ⟨w.heap.size, 7, none⟩ = some (.int .i64 0) := by rw [hF]; go_simp
      have k8 : F.cell? ⟨w.heap.size, 8, none⟩ = some (.int .i64 0) := by rw [hF]; go_simp
      have k9 : F.cell? ⟨w.heap.size, 9, none⟩ = some (.int .i64 0) := by rw [hF]; go_simp
      have k10 : F.cell? ⟨w.heap.size, 10, none⟩ = some (.int .i64 0) := by rw [hF]; go_simp
      have k11 : F.cell? ⟨w.heap.size, 11, none⟩ = some (.string ⟨#[]⟩) := by rw [hF]; go_simp
      have HF := HFin.out F ⟨0, 0, 0, 0, 0, none, 0, 0, 0, 0, 0, 0, 0, ⟨#[]⟩, []⟩ (by rw [hF]; exact (H12.out u _ _ _ _ _ _ _ _ _ _ _ _ hbw)) (keep_nil _ _ _ rfl rfl rfl rfl) (by intro cv hcv; rw [hO] at hcv; cases hcv)
      rw [hO] at HF
      have HF2 : Hid (LineTo l w F (.returned (.tuple #[.agg #[.int .i64 0, .int .i64 0, .int .i64 0, .int .i64 0, .int .i64 0, .slice none 0 0, .int .i64 0, .int .i64 0, .int .i64 0, .int .i64 0, .int .i64 0, .string ⟨#[]⟩], .bool false]))) := HF
      clear HF HFin H12 KB bx hbw hO 
      go_wp2
      rw [← hF]
      refine bodyPost_ret (v := .tuple #[.agg #[.int .i64 0, .int .i64 0, .int .i64 0, .int .i64 0, .int .i64 0, .slice none 0 0, .int .i64 0, .int .i64 0, .int .i64 0, .int .i64 0, .int .i64 0, .string ⟨#[]⟩], .bool false]) (by simp [results, Tryd.results30, go_sem, k0, k1, k2, k3, k4, k5, k6, k7, k8, k9, k10, k11]) rfl HF2.out
    | some l5 =>
      obtain rfl : zs = l5 := hzs l5 rfl
      have HOw : Hid (u.ownsRow u1.heap.size 3 1 (.slice a5 n5 c5) n5 (St.flat iC zs)) := hO5
      have HI : Hid (∀ z ∈ zs, i64n z) := hzi
      clear hO5 hzs hzi
      by_cases htck : L = [116, 105, 99, 107]
      · have hD4 := HD2.out
        unfold dcB1 at hD4
        simp only [if_pos (show L = tckW from htck)] at hD4
        by_cases hm : zs.length = 0
        · have hO : O = some (mkA 5 [0, 0, 0, 0] [] CV.nil []) := by rw [hD4, if_pos hm]
          obtain rfl : n5 = 0 := by omega
          subst htck
          clear hD4 HD2 HOw HI hzl hm
          obtain ⟨bx, hbw⟩ := KB.out u hbb
          have b0 := (bx.c 0 (by decide)).1
          have b1 := (bx.c 1 (by decide)).1
          have b2 := (bx.c 2 (by decide)).1
          have b3 := (bx.c 3 (by decide)).1
          have b4 := (bx.c 4 (by decide)).1
          have b5 := (bx.c 5 (by decide)).1
          have b6 := (bx.c 6 (by decide)).1
          have b7 := (bx.c 7 (by decide)).1
          have b8 := (bx.c 8 (by decide)).1
          have b9 := (bx.c 9 (by decide)).1
          have b10 := (bx.c 10 (by decide)).1
          have b11 := (bx.c 11 (by decide)).1
          have e0 := (bx.c 0 (by decide)).2
          have e1 := (bx.c 1 (by decide)).2
          have e2 := (bx.c 2 (by decide)).2
          have e3 := (bx.c 3 (by decide)).2
          have e4 := (bx.c 4 (by decide)).2
          have e5 := (bx.c 5 (by decide)).2
          have e6 := (bx.c 6 (by decide)).2
          have e7 := (bx.c 7 (by decide)).2
          have e8 := (bx.c 8 (by decide)).2
          have e9 := (bx.c 9 (by decide)).2
          have e10 := (bx.c 10 (by decide)).2
          have e11 := (bx.c 11 (by decide)).2
          have z5 := bx.lt
          simp only [List.getD_cons_zero, List.getD_cons_succ] at b0 b1 b2 b3 b4 b5 b6 b7 b8 b9 b10 b11
          obtain ⟨F, hF⟩ : ∃ F : World, F = (((((((((((u.setCell ⟨w.heap.size, 0, none⟩ (.int .i64 5)).setCell ⟨w.heap.size, 1, none⟩ (.int .i64 0)).setCell ⟨w.heap.size, 2, none⟩ (.int .i64 0)).setCell ⟨w.heap.size, 3, none⟩ (.int .i64 0)).setCell ⟨w.heap.size, 4, none⟩ (.int .i64 0)).setCell ⟨w.heap.size, 5, none⟩ (.slice none 0 0)).setCell ⟨w.heap.size, 6, none⟩ (.int .i64 0)).setCell ⟨w.heap.size, 7, none⟩ (.int .i64 0)).setCell ⟨w.heap.size, 8, none⟩ (.int .i64 0)).setCell ⟨w.heap.size, 9, none⟩ (.int .i64 0)).setCell ⟨w.heap.size, 10, none⟩ (.int .i64 0)).setCell ⟨w.heap.size, 11, none⟩ (.string ⟨#[]⟩) := ⟨_, rfl⟩
          have k0 : F.cell? ⟨w.heap.size, 0, none⟩ = some (.int .i64 5) := by rw [hF]; go_simp
          have k1 : F.cell? ⟨w.heap.size, 1, none⟩ = some (.int .i64 0) := by rw [hF]; go_simp
          have k2 : F.cell? ⟨w.heap.size, 2, none⟩ = some (.int .i64 0) := by rw [hF]; go_simp
          have k3 : F.cell? ⟨w.heap.size, 3, none⟩ = some (.int .i64 0) := by rw [hF]; go_simp
          have k4 : F.cell? ⟨w.heap.size, 4, none⟩ = some (.int .i64 0) := by rw [hF]; go_simp
          have k5 : F.cell? ⟨w.heap.size, 5, none⟩ = some (.slice none 0 0) := by rw [hF]; go_simp
          have k6 : F.cell? ⟨w.heap.size, 6, none⟩ = some (.int .i64 0) := by rw [hF]; go_simp
          have k7 : F.cell? ⟨w.heap.size, 7, none⟩ = some (.int .i64 0) := by rw [hF]; go_simp
          have k8 : F.cell? ⟨w.heap.size, 8, none⟩ = some (.int .i64 0) := by rw [hF]; go_simp
          have k9 : F.cell? ⟨w.heap.size, 9, none⟩ = some (.int .i64 0) := by rw [hF]; go_simp
          have k10 : F.cell? ⟨w.heap.size, 10, none⟩ = some (.int .i64 0) := by rw [hF]; go_simp
          have k11 : F.cell? ⟨w.heap.size, 11, none⟩ = some (.string ⟨#[]⟩) := by rw [hF]; go_simp
          have HF := HFin.out F ⟨5, 0, 0, 0, 0, none, 0, 0, 0, 0, 0, 0, 0, ⟨#[]⟩, []⟩ (by rw [hF]; exact (H12.out u _ _ _ _ _ _ _ _ _ _ _ _ hbw)) (keep_nil _ _ _ rfl rfl rfl rfl) (by intro cv hcv; rw [hO] at hcv; cases hcv; rfl)
          rw [hO] at HF
          have HF2 : Hid (LineTo l w F (.returned (.tuple #[.agg #[.int .i64 5, .int .i64 0, .int .i64 0, .int .i64 0, .int .i64 0, .slice none 0 0, .int .i64 0, .int .i64 0, .int .i64 0, .int .i64 0, .int .i64 0, .string ⟨#[]⟩], .bool true]))) := HF
          clear HF HFin H12 KB bx hbw hO 
          go_wp2
          rw [← hF]
          refine bodyPost_ret (v := .tuple #[.agg #[.int .i64 5, .int .i64 0, .int .i64 0, .int .i64 0, .int .i64 0, .slice none 0 0, .int .i64 0, .int .i64 0, .int .i64 0, .int .i64 0, .int .i64 0, .string ⟨#[]⟩], .bool true]) (by simp [results, Tryd.results30, go_sem, k0, k1, k2, k3, k4, k5, k6, k7, k8, k9, k10, k11]) rfl HF2.out
        · have hO : O = none := by rw [hD4, if_neg hm]
          have hm5 : ¬ (n5 : Int) = 0 := by omega
          have hm6 : ((n5 : Int) == 0) = false := beq_eq_false_iff_ne.2 hm5
          subst htck
          clear hD4 HD2 HOw HI hzl hm
          obtain ⟨bx, hbw⟩ := KB.out u hbb
          have b0 := (bx.c 0 (by decide)).1
          have b1 := (bx.c 1 (by decide)).1
          have b2 := (bx.c 2 (by decide)).1
          have b3 := (bx.c 3 (by decide)).1
          have b4 := (bx.c 4 (by decide)).1
          have b5 := (bx.c 5 (by decide)).1
          have b6 := (bx.c 6 (by decide)).1
          have b7 := (bx.c 7 (by decide)).1
          have b8 := (bx.c 8 (by decide)).1
          have b9 := (bx.c 9 (by decide)).1
          have b10 := (bx.c 10 (by decide)).1
          have b11 := (bx.c 11 (by decide)).1
          have e0 := (bx.c 0 (by decide)).2
          have e1 := (bx.c 1 (by decide)).2
          have e2 := (bx.c 2 (by decide)).2
          have e3 := (bx.c 3 (by decide)).2
          have e4 := (bx.c 4 (by decide)).2
          have e5 := (bx.c 5 (by decide)).2
          have e6 := (bx.c 6 (by decide)).2
          have e7 := (bx.c 7 (by decide)).2
          have e8 := (bx.c 8 (by decide)).2
          have e9 := (bx.c 9 (by decide)).2
          have e10 := (bx.c 10 (by decide)).2
          have e11 := (bx.c 11 (by decide)).2
          have z5 := bx.lt
          simp only [List.getD_cons_zero, List.getD_cons_succ] at b0 b1 b2 b3 b4 b5 b6 b7 b8 b9 b10 b11
          obtain ⟨F, hF⟩ : ∃ F : World, F = (((((((((((u.setCell ⟨w.heap.size, 0, none⟩ (.int .i64 5)).setCell ⟨w.heap.size, 1, none⟩ (.int .i64 0)).setCell ⟨w.heap.size, 2, none⟩ (.int .i64 0)).setCell ⟨w.heap.size, 3, none⟩ (.int .i64 0)).setCell ⟨w.heap.size, 4, none⟩ (.int .i64 0)).setCell ⟨w.heap.size, 5, none⟩ (.slice none 0 0)).setCell ⟨w.heap.size, 6, none⟩ (.int .i64 0)).setCell ⟨w.heap.size, 7, none⟩ (.int .i64 0)).setCell ⟨w.heap.size, 8, none⟩ (.int .i64 0)).setCell ⟨w.heap.size, 9, none⟩ (.int .i64 0)).setCell ⟨w.heap.size, 10, none⟩ (.int .i64 0)).setCell ⟨w.heap.size, 11, none⟩ (.string ⟨#[]⟩) := ⟨_, rfl⟩
          have k0 : F.cell? ⟨w.heap.size, 0, none⟩ = some (.int .i64 5) := by rw [hF]; go_simp
          have k1 : F.cell? ⟨w.heap.size, 1, none⟩ = some (.int .i64 0) := by rw [hF]; go_simp
          have k2 : F.cell? ⟨w.heap.size, 2, none⟩ = some (.int .i64 0) := by rw [hF]; go_simp
          have k3 : F.cell? ⟨w.heap.size, 3, none⟩ = some (.int .i64 0) := by rw [hF]; go_simp
          have k4 : F.cell? ⟨w.heap.size, 4, none⟩ = some (.int .i64 0) := by rw [hF]; go_simp
          have k5 : F.cell? ⟨w.heap.size, 5, none⟩ = some (.slice none 0 0) := by rw [hF]; go_simp
          have k6 : F.cell? ⟨w.heap.size, 6, none⟩ = some (.int .i64 0) := by rw [hF]; go_simp
          have k7 : F.cell? ⟨w.heap.size, 7, none⟩ = some (.int .i64 0) := by rw [hF]; go_simp
          have k8 : F.cell? ⟨w.heap.size, 8, none⟩ = some (.int .i64 0) := by rw [hF]; go_simp
          have k9 : F.cell? ⟨w.heap.size, 9, none⟩ = some (.int .i64 0) := by rw [hF]; go_simp
          have k10 : F.cell? ⟨w.heap.size, 10, none⟩ = some (.int .i64 0) := by rw [hF]; go_simp
          have k11 : F.cell? ⟨w.heap.size, 11, none⟩ = some (.string ⟨#[]⟩) := by rw [hF]; go_simp
          have HF := HFin.out F ⟨5, 0, 0, 0, 0, none, 0, 0, 0, 0, 0, 0, 0, ⟨#[]⟩, []⟩ (by rw [hF]; exact (H12.out u _ _ _ _ _ _ _ _ _ _ _ _ hbw)) (keep_nil _ _ _ rfl rfl rfl rfl) (by intro cv hcv; rw [hO] at hcv; cases hcv)
          rw [hO] at HF
          have HF2 : Hid (LineTo l w F (.returned (.tuple #[.agg #[.int .i64 5, .int .i64 0, .int .i64 0, .int .i64 0, .int .i64 0, .slice none 0 0, .int .i64 0, .int .i64 0, .int .i64 0, .int .i64 0, .int .i64 0, .string ⟨#[]⟩], .bool false]))) := HF
          clear HF HFin H12 KB bx hbw hO 
          go_wp2
          rw [← hF]
          refine bodyPost_ret (v := .tuple #[.agg #[.int .i64 5, .int .i64 0, .int .i64 0, .int .i64 0, .int .i64 0, .slice none 0 0, .int .i64 0, .int .i64 0, .int .i64 0, .int .i64 0, .int .i64 0, .string ⟨#[]⟩], .bool false]) (by simp [results, Tryd.results30, go_sem, k0, k1, k2, k3, k4, k5, k6, k7, k8, k9, k10, k11]) rfl HF2.out
      · skip
        by_cases hstu : L = [115, 116, 97, 114, 116]
        · have hD4 := HD2.out
          unfold dcB1 at hD4
          simp only [if_neg (show ¬ L = tckW from htck), if_pos (show L = stuW from hstu)] at hD4
          by_cases hm : zs.length = 1
          · obtain rfl : n5 = 1 := by omega
            obtain ⟨b5, cur5, rfl, hB5, zb5, hblk, hn5c, hc5m, hc5⟩ := ints_at HOw.out hzl (by omega)
            obtain ⟨p0, ep0⟩ : ∃ p, p = zs.getD 0 0 := ⟨_, rfl⟩
            have d0 := hc5 0 (by omega)
            rw [← ep0] at d0 hD4
            have hO : O = some (mkA 7 [p0, 0, 0, 0] [] CV.nil []) := by rw [hD4, if_pos hm]
            subst hstu
            clear hD4 HD2 HOw HI hzl hm hc5 hblk hc5m ep0
            obtain ⟨bx, hbw⟩ := KB.out u hbb
            have b0 := (bx.c 0 (by decide)).1
            have b1 := (bx.c 1 (by decide)).1
            have b2 := (bx.c 2 (by decide)).1
            have b3 := (bx.c 3 (by decide)).1
            have b4 := (bx.c 4 (by decide)).1
            have b5 := (bx.c 5 (by decide)).1
            have b6 := (bx.c 6 (by decide)).1
            have b7 := (bx.c 7 (by decide)).1
            have b8 := (bx.c 8 (by decide)).1
            have b9 := (bx.c 9 (by decide)).1
            have b10 := (bx.c 10 (by decide)).1
            have b11 := (bx.c 11 (by decide)).1
            have e0 := (bx.c 0 (by decide)).2
            have e1 := (bx.c 1 (by decide)).2
            have e2 := (bx.c 2 (by decide)).2
            have e3 := (bx.c 3 (by decide)).2
            have e4 := (bx.c 4 (by decide)).2
            have e5 := (bx.c 5 (by decide)).2
            have e6 := (bx.c 6 (by decide)).2
            have e7 := (bx.c 7 (by decide)).2
            have e8 := (bx.c 8 (by decide)).2
            have e9 := (bx.c 9 (by decide)).2
            have e10 := (bx.c 10 (by decide)).2
            have e11 := (bx.c 11 (by decide)).2
            have z5 := bx.lt
            simp only [List.getD_cons_zero, List.getD_cons_succ] at b0 b1 b2 b3 b4 b5 b6 b7 b8 b9 b10 b11
            obtain ⟨F, hF⟩ : ∃ F : World, F = (((((((((((u.setCell ⟨w.heap.size, 0, none⟩ (.int .i64 7)).setCell ⟨w.heap.size, 1, none⟩ (.int .i64 p0)).setCell ⟨w.heap.size, 2, none⟩ (.int .i64 0)).setCell ⟨w.heap.size, 3, none⟩ (.int .i64 0)).setCell ⟨w.heap.size, 4, none⟩ (.int .i64 0)).setCell ⟨w.heap.size, 5, none⟩ (.slice none 0 0)).setCell ⟨w.heap.size, 6, none⟩ (.int .i64 0)).setCell ⟨w.heap.size, 7, none⟩ (.int .i64 0)).setCell ⟨w.heap.size, 8, none⟩ (.int .i64 0)).setCell ⟨w.heap.size, 9, none⟩ (.int .i64 0)).setCell ⟨w.heap.size, 10, none⟩ (.int .i64 0)).setCell ⟨w.heap.size, 11, none⟩ (.string ⟨#[]⟩) := ⟨_, rfl⟩
            have k0 : F.cell? ⟨w.heap.size, 0, none⟩ = some (.int .i64 7) := by rw [hF]; go_simp
            have k1 : F.cell? ⟨w.heap.size, 1, none⟩ = some (.int .i64 p0) := by rw [hF]; go_simp
            have k2 : F.cell? ⟨w.heap.size, 2, none⟩ = some (.int .i64 0) := by rw [hF]; go_simp
            have k3 : F.cell? ⟨w.heap.size, 3, none⟩ = some (.int .i64 0) := by rw [hF]; go_simp
            have k4 : F.cell? ⟨w.heap.size, 4, none⟩ = some (.int .i64 0) := by rw [hF]; go_simp
            have k5 : F.cell? ⟨w.heap.size, 5, none⟩ = some (.slice none 0 0) := by rw [hF]; go_simp
            have k6 : F.cell? ⟨w.heap.size, 6, none⟩ = some (.int .i64 0) := by rw [hF]; go_simp
            have k7 : F.cell? ⟨w.heap.size, 7, none⟩ = some (.int .i64 0) := by rw [hF]; go_simp
            have k8 : F.cell? ⟨w.heap.size, 8, none⟩ = some (.int .i64 0) := by rw [hF]; go_simp
            have k9 : F.cell? ⟨w.heap.size, 9, none⟩ = some (.int .i64 0) := by rw [hF]; go_simp
            have k10 : F.cell? ⟨w.heap.size, 10, none⟩ = some (.int .i64 0) := by rw [hF]; go_simp
            have k11 : F.cell? ⟨w.heap.size, 11, none⟩ = some (.string ⟨#[]⟩) := by rw [hF]; go_simp
            have HF := HFin.out F ⟨7, p0, 0, 0, 0, none, 0, 0, 0, 0, 0, 0, 0, ⟨#[]⟩, []⟩ (by rw [hF]; exact (H12.out u _ _ _ _ _ _ _ _ _ _ _ _ hbw)) (keep_nil _ _ _ rfl rfl rfl rfl) (by intro cv hcv; rw [hO] at hcv; cases hcv; rfl)
            rw [hO] at HF
            have HF2 : Hid (LineTo l w F (.returned (.tuple #[.agg #[.int .i64 7, .int .i64 p0, .int .i64 0, .int .i64 0, .int .i64 0, .slice none 0 0, .int .i64 0, .int .i64 0, .int .i64 0, .int .i64 0, .int .i64 0, .string ⟨#[]⟩], .bool true]))) := HF
            clear HF HFin H12 KB bx hbw hO 
            go_wp2
            rw [← hF]
            refine bodyPost_ret (v := .tuple #[.agg #[.int .i64 7, .int .i64 p0, .int .i64 0, .int .i64 0, .int .i64 0, .slice none 0 0, .int .i64 0, .int .i64 0, .int .i64 0, .int .i64 0, .int .i64 0, .string ⟨#[]⟩], .bool true]) (by simp [results, Tryd.results30, go_sem, k0, k1, k2, k3, k4, k5, k6, k7, k8, k9, k10, k11]) rfl HF2.out
          · have hO : O = none := by rw [hD4, if_neg hm]
            have hm5 : ¬ (n5 : Int) = 1 := by omega
            have hm6 : ((n5 : Int) == 1) = false := beq_eq_false_iff_ne.2 hm5
            subst hstu
            clear hD4 HD2 HOw HI hzl hm
            obtain ⟨bx, hbw⟩ := KB.out u hbb
            have b0 := (bx.c 0 (by decide)).1
            have b1 := (bx.c 1 (by decide)).1
            have b2 := (bx.c 2 (by decide)).1
            have b3 := (bx.c 3 (by decide)).1
            have b4 := (bx.c 4 (by decide)).1
            have b5 := (bx.c 5 (by decide)).1
            have b6 := (bx.c 6 (by decide)).1
            have b7 := (bx.c 7 (by decide)).1
            have b8 := (bx.c 8 (by decide)).1
            have b9 := (bx.c 9 (by decide)).1
            have b10 := (bx.c 10 (by decide)).1
            have b11 := (bx.c 11 (by decide)).1
            have e0 := (bx.c 0 (by decide)).2
            have e1 := (bx.c 1 (by decide)).2
            have e2 := (bx.c 2 (by decide)).2
            have e3 := (bx.c 3 (by decide)).2
            have e4 := (bx.c 4 (by decide)).2
            have e5 := (bx.c 5 (by decide)).2
            have e6 := (bx.c 6 (by decide)).2
            have e7 := (bx.c 7 (by decide)).2
            have e8 := (bx.c 8 (by decide)).2
            have e9 := (bx.c 9 (by decide)).2
            have e10 := (bx.c 10 (by decide)).2
            have e11 := (bx.c 11 (by decide)).2
            have z5 := bx.lt
            simp only [List.getD_cons_zero, List.getD_cons_succ] at b0 b1 b2 b3 b4 b5 b6 b7 b8 b9 b10 b11
            obtain ⟨F, hF⟩ : ∃ F : World, F = (((((((((((u.setCell ⟨w.heap.size, 0, none⟩ (.int .i64 0)).setCell ⟨w.heap.size, 1, none⟩ (.int .i64 0)).setCell ⟨w.heap.size, 2, none⟩ (.int .i64 0)).setCell ⟨w.heap.size, 3, none⟩ (.int .i64 0)).setCell ⟨w.heap.size, 4, none⟩ (.int .i64 0)).setCell ⟨w.heap.size, 5, none⟩ (.slice none 0 0)).setCell ⟨w.heap.size, 6, none⟩ (.int .i64 0)).setCell ⟨w.heap.size, 7, none⟩ (.int .i64 0)).setCell ⟨w.heap.size, 8, none⟩ (.int .i64 0)).setCell ⟨w.heap.size, 9, none⟩ (.int .i64 0)).setCell ⟨w.heap.size, 10, none⟩ (.int .i64 0)).setCell ⟨w.heap.size, 11, none⟩ (.string ⟨#[]⟩) := ⟨_, rfl⟩
            have k0 : F.cell? ⟨w.heap.size, 0, none⟩ = some (.int .i64 0) := by rw [hF]; go_simp
            have k1 : F.cell? ⟨w.heap.size, 1, none⟩ = some (.int .i64 0) := by rw [hF]; go_simp
            have k2 : F.cell? ⟨w.heap.size, 2, none⟩ = some (.int .i64 0) := by rw [hF]; go_simp
            have k3 : F.cell? ⟨w.heap.size, 3, none⟩ = some (.int .i64 0) := by rw [hF]; go_simp
            have k4 : F.cell? ⟨w.heap.size, 4, none⟩ = some (.int .i64 0) := by rw [hF]; go_simp
            have k5 : F.cell? ⟨w.heap.size, 5, none⟩ = some (.slice none 0 0) := by rw [hF]; go_simp
            have k6 : F.cell? ⟨w.heap.size, 6, none⟩ = some (.int .i64 0) := by rw [hF]; go_simp
            have k7 : F.cell? ⟨w.heap.size, 7, none⟩ = some (.int .i64 0) := by rw [hF]; go_simp
            have k8 : F.cell? ⟨w.heap.size, 8, none⟩ = some (.int .i64 0) := by rw [hF]; go_simp
            have k9 : F.cell? ⟨w.heap.size, 9, none⟩ = some (.int .i64 0) := by rw [hF]; go_simp
            have k10 : F.cell? ⟨w.heap.size, 10, none⟩ = some (.int .i64 0) := by rw [hF]; go_simp
            have k11 : F.cell? ⟨w.heap.size, 11, none⟩ = some (.string ⟨#[]⟩) := by rw [hF]; go_simp
            have HF := HFin.out F ⟨0, 0, 0, 0, 0, none, 0, 0, 0, 0, 0, 0, 0, ⟨#[]⟩, []⟩ (by rw [hF]; exact (H12.out u _ _ _ _ _ _ _ _ _ _ _ _ hbw)) (keep_nil _ _ _ rfl rfl rfl rfl) (by intro cv hcv; rw [hO] at hcv; cases hcv)
            rw [hO] at HF
            have HF2 : Hid (LineTo l w F (.returned (.tuple #[.agg #[.int .i64 0, .int .i64 0, .int .i64 0, .int .i64 0, .int .i64 0, .slice none 0 0, .int .i64 0, .int .i64 0, .int .i64 0, .int .i64 0, .int .i64 0, .string ⟨#[]⟩], .bool false]))) := HF
            clear HF HFin H12 KB bx hbw hO 
            go_wp2
            rw [← hF]
            refine bodyPost_ret (v := .tuple #[.agg #[.int .i64 0, .int .i64 0, .int .i64 0, .int .i64 0, .int .i64 0, .slice none 0 0, .int .i64 0, .int .i64 0, .int .i64 0, .int .i64 0, .int .i64 0, .string ⟨#[]⟩], .bool false]) (by simp [results, Tryd.results30, go_sem, k0, k1, k2, k3, k4, k5, k6, k7, k8, k9, k10, k11]) rfl HF2.out
        · skip
          by_cases hcrs : L = [99, 114, 97, 115, 104]
          · have hD4 := HD2.out
            unfold dcB1 at hD4
            simp only [if_neg (show ¬ L = tckW from htck), if_neg (show ¬ L = stuW from hstu), if_pos (show L = crsW from hcrs)] at hD4
            by_cases hm : 0 < zs.length
            · obtain ⟨b5, cur5, rfl, hB5, zb5, hblk, hn5c, hc5m, hc5⟩ := ints_at HOw.out hzl (by omega)
              obtain ⟨p0, ep0⟩ : ∃ p, p = zs.getD 0 0 := ⟨_, rfl⟩
              have d0 := hc5 0 (by omega)
              rw [← ep0] at d0 hD4
              have hO : O = some (mkA 6 [p0, 0, 0, 0] zs.tail CV.nil []) := by rw [hD4, if_pos hm]
              obtain ⟨a6, ea6⟩ : ∃ a6, a6 = (if c5 = 1 then some ⟨b5, 0, none⟩ else some ⟨b5, 0 + 1, none⟩ : Option Addr) := ⟨_, rfl⟩
              have hs6 : ∀ U : World, (Instr.slice 34 (.slice (some ⟨b5, 0, none⟩) n5 c5) (some (.int .i64 1)) none none).run Tryd.prog U = .ok (.slice a6 (n5 - 1) (c5 - 1)) U := fun U => by rw [ea6]; exact slice_i1 b5 0 n5 c5 U (by omega) hn5c hc5m
              have hKp : KeepIn u u1.heap.size ⟨6, p0, 0, 0, 0, a6, n5 - 1, c5 - 1, 0, 0, 0, 0, 0, ⟨#[]⟩, zs.tail⟩ := by
                have ht : zs.tail.length = n5 - 1 := by rw [List.length_tail, hzl]
                have hcut : ∀ i, zs.tail.getD i 0 = zs.getD (i + 1) 0 := fun i => by cases zs <;> simp [List.getD]
                refine ⟨⟨ht, by show n5 - 1 ≤ c5 - 1; omega, by show c5 - 1 ≤ maxLen; omega, fun i => ?_, fun h0 => ?_⟩, fun h0 => ?_⟩
                · show -9223372036854775808 ≤ zs.tail.getD i 0 ∧ zs.tail.getD i 0 ≤ 9223372036854775807
                  rw [hcut]
                  by_cases hi : i + 1 < zs.length
                  · have := HI.out (zs.getD (i + 1) 0) (by simp [List.getD, hi])
                    exact this
                  · have : zs.getD (i + 1) 0 = 0 := by simp [List.getD, hi]
                    omega
                · have h0 : 0 < n5 - 1 := h0
                  refine ⟨b5, 1, by show a6 = _; rw [ea6, if_neg (by omega)], zb5, fun i hi => ?_⟩
                  have hi : i < n5 - 1 := hi
                  rw [Nat.add_comm 1 i, hc5 (i + 1) (by omega)]
                  show _ = some (Value.int .i64 (zs.tail.getD i 0))
                  rw [hcut]
                · have h0 : 0 < n5 - 1 := h0
                  exact ⟨b5, 1, cur5, by show a6 = _; rw [ea6, if_neg (by omega)], hB5, hblk⟩
              have hm5 : (0 : Int) < (n5 : Int) := by omega
              have hn5p : 0 < n5 := by omega
              subst hcrs
              clear hD4 HD2 HOw HI hm hc5 ep0 ea6 hblk hc5m
              obtain ⟨bx, hbw⟩ := KB.out u hbb
              have b0 := (bx.c 0 (by decide)).1
              have b1 := (bx.c 1 (by decide)).1
              have b2 := (bx.c 2 (by decide)).1
              have b3 := (bx.c 3 (by decide)).1
              have b4 := (bx.c 4 (by decide)).1
              have b5 := (bx.c 5 (by decide)).1
              have b6 := (bx.c 6 (by decide)).1
              have b7 := (bx.c 7 (by decide)).1
              have b8 := (bx.c 8 (by decide)).1
              have b9 := (bx.c 9 (by decide)).1
              have b10 := (bx.c 10 (by decide)).1
              have b11 := (bx.c 11 (by decide)).1
              have e0 := (bx.c 0 (by decide)).2
              have e1 := (bx.c 1 (by decide)).2
              have e2 := (bx.c 2 (by decide)).2
              have e3 := (bx.c 3 (by decide)).2
              have e4 := (bx.c 4 (by decide)).2
              have e5 := (bx.c 5 (by decide)).2
              have e6 := (bx.c 6 (by decide)).2
              have e7 := (bx.c 7 (by decide)).2
              have e8 := (bx.c 8 (by decide)).2
              have e9 := (bx.c 9 (by decide)).2
              have e10 := (bx.c 10 (by decide)).2
              have e11 := (bx.c 11 (by decide)).2
              have z5 := bx.lt
              simp only [List.getD_cons_zero, List.getD_cons_succ] at b0 b1 b2 b3 b4 b5 b6 b7 b8 b9 b10 b11
              obtain ⟨F, hF⟩ : ∃ F : World, F = (((((((((((u.setCell ⟨w.heap.size, 0, none⟩ (.int .i64 6)).setCell ⟨w.heap.size, 1, none⟩ (.int .i64 p0)).setCell ⟨w.heap.size, 2, none⟩ (.int .i64 0)).setCell ⟨w.heap.size, 3, none⟩ (.int .i64 0)).setCell ⟨w.heap.size, 4, none⟩ (.int .i64 0)).setCell ⟨w.heap.size, 5, none⟩ (.slice a6 (n5 - 1) (c5 - 1))).setCell ⟨w.heap.size, 6, none⟩ (.int .i64 0)).setCell ⟨w.heap.size, 7, none⟩ (.int .i64 0)).setCell ⟨w.heap.size, 8, none⟩ (.int .i64 0)).setCell ⟨w.heap.size, 9, none⟩ (.int .i64 0)).setCell ⟨w.heap.size, 10, none⟩ (.int .i64 0)).setCell ⟨w.heap.size, 11, none⟩ (.string ⟨#[]⟩) := ⟨_, rfl⟩
              have k0 : F.cell? ⟨w.heap.size, 0, none⟩ = some (.int .i64 6) := by rw [hF]; go_simp
              have k1 : F.cell? ⟨w.heap.size, 1, none⟩ = some (.int .i64 p0) := by rw [hF]; go_simp
              have k2 : F.cell? ⟨w.heap.size, 2, none⟩ = some (.int .i64 0) := by rw [hF]; go_simp
              have k3 : F.cell? ⟨w.heap.size, 3, none⟩ = some (.int .i64 0) := by rw [hF]; go_simp
              have k4 : F.cell? ⟨w.heap.size, 4, none⟩ = some (.int .i64 0) := by rw [hF]; go_simp
              have k5 : F.cell? ⟨w.heap.size, 5, none⟩ = some (.slice a6 (n5 - 1) (c5 - 1)) := by rw [hF]; go_simp
              have k6 : F.cell? ⟨w.heap.size, 6, none⟩ = some (.int .i64 0) := by rw [hF]; go_simp
              have k7 : F.cell? ⟨w.heap.size, 7, none⟩ = some (.int .i64 0) := by rw [hF]; go_simp
              have k8 : F.cell? ⟨w.heap.size, 8, none⟩ = some (.int .i64 0) := by rw [hF]; go_simp
              have k9 : F.cell? ⟨w.heap.size, 9, none⟩ = some (.int .i64 0) := by rw [hF]; go_simp
              have k10 : F.cell? ⟨w.heap.size, 10, none⟩ = some (.int .i64 0) := by rw [hF]; go_simp
              have k11 : F.cell? ⟨w.heap.size, 11, none⟩ = some (.string ⟨#[]⟩) := by rw [hF]; go_simp
              have HF := HFin.out F.drew ⟨6, p0, 0, 0, 0, a6, n5 - 1, c5 - 1, 0, 0, 0, 0, 0, ⟨#[]⟩, zs.tail⟩ (by rw [hF]; exact (H12.out u _ _ _ _ _ _ _ _ _ _ _ _ hbw).drew) (((by rw [hF]; exact KeepIn.low ((((((((((((hKp.far (by omega)).far (by omega)).far (by omega)).far (by omega)).far (by omega)).far (by omega)).far (by omega)).far (by omega)).far (by omega)).far (by omega)).far (by omega)).far (by omega)) (by omega) : KeepIn F w.heap.size _)).below (Below.refl _ _).drew) (by intro cv hcv; rw [hO] at hcv; cases hcv; show mkA 6 [p0, 0, 0, 0] zs.tail CV.nil [] = ⟨6, p0, 0, 0, 0, none, n5 - 1, 0, 0, 0, 0, 0, 0, ⟨#[]⟩, zs.tail⟩; rw [show n5 - 1 = zs.tail.length by rw [List.length_tail, hzl]]; rfl)
              rw [hO] at HF
              have HF2 : Hid (LineTo l w F.drew (.returned (.tuple #[.agg #[.int .i64 6, .int .i64 p0, .int .i64 0, .int .i64 0, .int .i64 0, .slice a6 (n5 - 1) (c5 - 1), .int .i64 0, .int .i64 0, .int .i64 0, .int .i64 0, .int .i64 0, .string ⟨#[]⟩], .bool true]))) := HF
              clear HF HFin H12 KB bx hbw hO hKp hzl
              go_upto_region 24 with (fail)
              go_region
              go_wp2
              rw [← hF]
              refine bodyPost_ret (v := .tuple #[.agg #[.int .i64 6, .int .i64 p0, .int .i64 0, .int .i64 0, .int .i64 0, .slice a6 (n5 - 1) (c5 - 1), .int .i64 0, .int .i64 0, .int .i64 0, .int .i64 0, .int .i64 0, .string ⟨#[]⟩], .bool true]) (by simp [results, Tryd.results30, go_sem, k0, k1, k2, k3, k4, k5, k6, k7, k8, k9, k10, k11]) rfl HF2.out
            · have hO : O = none := by rw [hD4, if_neg hm]
              have hm5 : ¬ (0 : Int) < (n5 : Int) := by omega
              subst hcrs
              clear hD4 HD2 HOw HI hzl hm
              obtain ⟨bx, hbw⟩ := KB.out u hbb
              have b0 := (bx.c 0 (by decide)).1
              have b1 := (bx.c 1 (by decide)).1
              have b2 := (bx.c 2 (by decide)).1
              have b3 := (bx.c 3 (by decide)).1
              have b4 := (bx.c 4 (by decide)).1
              have b5 := (bx.c 5 (by decide)).1
              have b6 := (bx.c 6 (by decide)).1
              have b7 := (bx.c 7 (by decide)).1
              have b8 := (bx.c 8 (by decide)).1
              have b9 := (bx.c 9 (by decide)).1
              have b10 := (bx.c 10 (by decide)).1
              have b11 := (bx.c 11 (by decide)).1
              have e0 := (bx.c 0 (by decide)).2
              have e1 := (bx.c 1 (by decide)).2
              have e2 := (bx.c 2 (by decide)).2
              have e3 := (bx.c 3 (by decide)).2
              have e4 := (bx.c 4 (by decide)).2
              have e5 := (bx.c 5 (by decide)).2
              have e6 := (bx.c 6 (by decide)).2
              have e7 := (bx.c 7 (by decide)).2
              have e8 := (bx.c 8 (by decide)).2
              have e9 := (bx.c 9 (by decide)).2
              have e10 := (bx.c 10 (by decide)).2
              have e11 := (bx.c 11 (by decide)).2
              have z5 := bx.lt
              simp only [List.getD_cons_zero, List.getD_cons_succ] at b0 b1 b2 b3 b4 b5 b6 b7 b8 b9 b10 b11
              obtain ⟨F, hF⟩ : ∃ F : World, F = (((((((((((u.setCell ⟨w.heap.size, 0, none⟩ (.int .i64 0)).setCell ⟨w.heap.size, 1, none⟩ (.int .i64 0)).setCell ⟨w.heap.size, 2, none⟩ (.int .i64 0)).setCell ⟨w.heap.size, 3, none⟩ (.int .i64 0)).setCell ⟨w.heap.size, 4, none⟩ (.int .i64 0)).setCell ⟨w.heap.size, 5, none⟩ (.slice none 0 0)).setCell ⟨w.heap.size, 6, none⟩ (.int .i64 0)).setCell ⟨w.heap.size, 7, none⟩ (.int .i64 0)).setCell ⟨w.heap.size, 8, none⟩ (.int .i64 0)).setCell ⟨w.heap.size, 9, none⟩ (.int .i64 0)).setCell ⟨w.heap.size, 10, none⟩ (.int .i64 0)).setCell ⟨w.heap.size, 11, none⟩ (.string ⟨#[]⟩) := ⟨_, rfl⟩
              have k0 : F.cell? ⟨w.heap.size, 0, none⟩ = some (.int .i64 0) := by rw [hF]; go_simp
              have k1 : F.cell? ⟨w.heap.size, 1, none⟩ = some (.int .i64 0) := by rw [hF]; go_simp
              have k2 : F.cell? ⟨w.heap.size, 2, none⟩ = some (.int .i64 0) := by rw [hF]; go_simp
              have k3 : F.cell? ⟨w.heap.size, 3, none⟩ = some (.int .i64 0) := by rw [hF]; go_simp
              have k4 : F.cell? ⟨w.heap.size, 4, none⟩ = some (.int .i64 0) := by rw [hF]; go_simp
              have k5 : F.cell? ⟨w.heap.size, 5, none⟩ = some (.slice none 0 0) := by rw [hF]; go_simp
              have k6 : F.cell? ⟨w.heap.size, 6, none⟩ = some (.int .i64 0) := by rw [hF]; go_simp
              have k7 : F.cell? ⟨w.heap.size, 7, none⟩ = some (.int .i64 0) := by rw [hF]; go_simp
              have k8 : F.cell? ⟨w.heap.size, 8, none⟩ = some (.int .i64 0) := by rw [hF]; go_simp
              have k9 : F.cell? ⟨w.heap.size, 9, none⟩ = some (.int .i64 0) := by rw [hF]; go_simp
              have k10 : F.cell? ⟨w.heap.size, 10, none⟩ = some (.int .i64 0) := by rw [hF]; go_simp
              have k11 : F.cell? ⟨w.heap.size, 11, none⟩ = some (.string ⟨#[]⟩) := by rw [hF]; go_simp
              have HF := HFin.out F ⟨0, 0, 0, 0, 0, none, 0, 0, 0, 0, 0, 0, 0, ⟨#[]⟩, []⟩ (by rw [hF]; exact (H12.out u _ _ _ _ _ _ _ _ _ _ _ _ hbw)) (keep_nil _ _ _ rfl rfl rfl rfl) (by intro cv hcv; rw [hO] at hcv; cases hcv)
              rw [hO] at HF
              have HF2 : Hid (LineTo l w F (.returned (.tuple #[.agg #[.int .i64 0, .int .i64 0, .int .i64 0, .int .i64 0, .int .i64 0, .slice none 0 0, .int .i64 0, .int .i64 0, .int .i64 0, .int .i64 0, .int .i64 0, .string ⟨#[]⟩], .bool false]))) := HF
              clear HF HFin H12 KB bx hbw hO 
              go_wp2
              rw [← hF]
              refine bodyPost_ret (v := .tuple #[.agg #[.int .i64 0, .int .i64 0, .int .i64 0, .int .i64 0, .int .i64 0, .slice none 0 0, .int .i64 0, .int .i64 0, .int .i64 0, .int .i64 0, .int .i64 0, .string ⟨#[]⟩], .bool false]) (by simp [results, Tryd.results30, go_sem, k0, k1, k2, k3, k4, k5, k6, k7, k8, k9, k10, k11]) rfl HF2.out
          · skip
            by_cases hdlv : L = [100, 101, 108, 105, 118, 101, 114]
            · have hD4 := HD2.out
              unfold dcB1 at hD4
              simp only [if_neg (show ¬ L = tckW from htck), if_neg (show ¬ L = stuW from hstu), if_neg (show ¬ L = crsW from hcrs), if_pos (show L = dlvW from hdlv)] at hD4
              by_cases hm : zs.length = 4
              · obtain rfl : n5 = 4 := by omega
                obtain ⟨b5, cur5, rfl, hB5, zb5, hblk, hn5c, hc5m, hc5⟩ := ints_at HOw.out hzl (by omega)
                obtain ⟨p0, ep0⟩ : ∃ p, p = zs.getD 0 0 := ⟨_, rfl⟩
                have d0 := hc5 0 (by omega)
                rw [← ep0] at d0 hD4
                obtain ⟨p1, ep1⟩ : ∃ p, p = zs.getD 1 0 := ⟨_, rfl⟩
                have d1 := hc5 1 (by omega)
                rw [← ep1] at d1 hD4
                obtain ⟨p2, ep2⟩ : ∃ p, p = zs.getD 2 0 := ⟨_, rfl⟩
                have d2 := hc5 2 (by omega)
                rw [← ep2] at d2 hD4
                obtain ⟨p3, ep3⟩ : ∃ p, p = zs.getD 3 0 := ⟨_, rfl⟩
                have d3 := hc5 3 (by omega)
                rw [← ep3] at d3 hD4
                have hO : O = some (mkA 2 [p0, p1, p2, p3] [] CV.nil []) := by rw [hD4, if_pos hm]
                subst hdlv
                clear hD4 HD2 HOw HI hzl hm hc5 hblk hc5m ep0 ep1 ep2 ep3
                obtain ⟨bx, hbw⟩ := KB.out u hbb
                have b0 := (bx.c 0 (by decide)).1
                have b1 := (bx.c 1 (by decide)).1
                have b2 := (bx.c 2 (by decide)).1
                have b3 := (bx.c 3 (by decide)).1
                have b4 := (bx.c 4 (by decide)).1
                have b5 := (bx.c 5 (by decide)).1
                have b6 := (bx.c 6 (by decide)).1
                have b7 := (bx.c 7 (by decide)).1
                have b8 := (bx.c 8 (by decide)).1
                have b9 := (bx.c 9 (by decide)).1
                have b10 := (bx.c 10 (by decide)).1
                have b11 := (bx.c 11 (by decide)).1
                have e0 := (bx.c 0 (by decide)).2
                have e1 := (bx.c 1 (by decide)).2
                have e2 := (bx.c 2 (by decide)).2
                have e3 := (bx.c 3 (by decide)).2
                have e4 := (bx.c 4 (by decide)).2
                have e5 := (bx.c 5 (by decide)).2
                have e6 := (bx.c 6 (by decide)).2
                have e7 := (bx.c 7 (by decide)).2
                have e8 := (bx.c 8 (by decide)).2
                have e9 := (bx.c 9 (by decide)).2
                have e10 := (bx.c 10 (by decide)).2
                have e11 := (bx.c 11 (by decide)).2
                have z5 := bx.lt
                simp only [List.getD_cons_zero, List.getD_cons_succ] at b0 b1 b2 b3 b4 b5 b6 b7 b8 b9 b10 b11
                obtain ⟨F, hF⟩ : ∃ F : World, F = (((((((((((u.setCell ⟨w.heap.size, 0, none⟩ (.int .i64 2)).setCell ⟨w.heap.size, 1, none⟩ (.int .i64 p0)).setCell ⟨w.heap.size, 2, none⟩ (.int .i64 p1)).setCell ⟨w.heap.size, 3, none⟩ (.int .i64 p2)).setCell ⟨w.heap.size, 4, none⟩ (.int .i64 p3)).setCell ⟨w.heap.size, 5, none⟩ (.slice none 0 0)).setCell ⟨w.heap.size, 6, none⟩ (.int .i64 0)).setCell ⟨w.heap.size, 7, none⟩ (.int .i64 0)).setCell ⟨w.heap.size, 8, none⟩ (.int .i64 0)).setCell ⟨w.heap.size, 9, none⟩ (.int .i64 0)).setCell ⟨w.heap.size, 10, none⟩ (.int .i64 0)).setCell ⟨w.heap.size, 11, none⟩ (.string ⟨#[]⟩) := ⟨_, rfl⟩
                have k0 : F.cell? ⟨w.heap.size, 0, none⟩ = some (.int .i64 2) := by rw [hF]; go_simp
                have k1 : F.cell? ⟨w.heap.size, 1, none⟩ = some (.int .i64 p0) := by rw [hF]; go_simp
                have k2 : F.cell? ⟨w.heap.size, 2, none⟩ = some (.int .i64 p1) := by rw [hF]; go_simp
                have k3 : F.cell? ⟨w.heap.size, 3, none⟩ = some (.int .i64 p2) := by rw [hF]; go_simp
                have k4 : F.cell? ⟨w.heap.size, 4, none⟩ = some (.int .i64 p3) := by rw [hF]; go_simp
                have k5 : F.cell? ⟨w.heap.size, 5, none⟩ = some (.slice none 0 0) := by rw [hF]; go_simp
                have k6 : F.cell? ⟨w.heap.size, 6, none⟩ = some (.int .i64 0) := by rw [hF]; go_simp
                have k7 : F.cell? ⟨w.heap.size, 7, none⟩ = some (.int .i64 0) := by rw [hF]; go_simp
                have k8 : F.cell? ⟨w.heap.size, 8, none⟩ = some (.int .i64 0) := by rw [hF]; go_simp
                have k9 : F.cell? ⟨w.heap.size, 9, none⟩ = some (.int .i64 0) := by rw [hF]; go_simp
                have k10 : F.cell? ⟨w.heap.size, 10, none⟩ = some (.int .i64 0) := by rw [hF]; go_simp
                have k11 : F.cell? ⟨w.heap.size, 11, none⟩ = some (.string ⟨#[]⟩) := by rw [hF]; go_simp
                have HF := HFin.out F.drew ⟨2, p0, p1, p2, p3, none, 0, 0, 0, 0, 0, 0, 0, ⟨#[]⟩, []⟩ (by rw [hF]; exact (H12.out u _ _ _ _ _ _ _ _ _ _ _ _ hbw).drew) (keep_nil _ _ _ rfl rfl rfl rfl) (by intro cv hcv; rw [hO] at hcv; cases hcv; rfl)
                rw [hO] at HF
                have HF2 : Hid (LineTo l w F.drew (.returned (.tuple #[.agg #[.int .i64 2, .int .i64 p0, .int .i64 p1, .int .i64 p2, .int .i64 p3, .slice none 0 0, .int .i64 0, .int .i64 0, .int .i64 0, .int .i64 0, .int .i64 0, .string ⟨#[]⟩], .bool true]))) := HF
                clear HF HFin H12 KB bx hbw hO 
                go_upto_region 34 with (fail)
                go_region
                go_wp2
                rw [← hF]
                refine bodyPost_ret (v := .tuple #[.agg #[.int .i64 2, .int .i64 p0, .int .i64 p1, .int .i64 p2, .int .i64 p3, .slice none 0 0, .int .i64 0, .int .i64 0, .int .i64 0, .int .i64 0, .int .i64 0, .string ⟨#[]⟩], .bool true]) (by simp [results, Tryd.results30, go_sem, k0, k1, k2, k3, k4, k5, k6, k7, k8, k9, k10, k11]) rfl HF2.out
              · have hO : O = none := by rw [hD4, if_neg hm]
                have hm5 : ¬ (n5 : Int) = 4 := by omega
                have hm6 : ((n5 : Int) == 4) = false := beq_eq_false_iff_ne.2 hm5
                subst hdlv
                clear hD4 HD2 HOw HI hzl hm
                obtain ⟨bx, hbw⟩ := KB.out u hbb
                have b0 := (bx.c 0 (by decide)).1
                have b1 := (bx.c 1 (by decide)).1
                have b2 := (bx.c 2 (by decide)).1
                have b3 := (bx.c 3 (by decide)).1
                have b4 := (bx.c 4 (by decide)).1
                have b5 := (bx.c 5 (by decide)).1
                have b6 := (bx.c 6 (by decide)).1
                have b7 := (bx.c 7 (by decide)).1
                have b8 := (bx.c 8 (by decide)).1
                have b9 := (bx.c 9 (by decide)).1
                have b10 := (bx.c 10 (by decide)).1
                have b11 := (bx.c 11 (by decide)).1
                have e0 := (bx.c 0 (by decide)).2
                have e1 := (bx.c 1 (by decide)).2
                have e2 := (bx.c 2 (by decide)).2
                have e3 := (bx.c 3 (by decide)).2
                have e4 := (bx.c 4 (by decide)).2
                have e5 := (bx.c 5 (by decide)).2
                have e6 := (bx.c 6 (by decide)).2
                have e7 := (bx.c 7 (by decide)).2
                have e8 := (bx.c 8 (by decide)).2
                have e9 := (bx.c 9 (by decide)).2
                have e10 := (bx.c 10 (by decide)).2
                have e11 := (bx.c 11 (by decide)).2
                have z5 := bx.lt
                simp only [List.getD_cons_zero, List.getD_cons_succ] at b0 b1 b2 b3 b4 b5 b6 b7 b8 b9 b10 b11
                obtain ⟨F, hF⟩ : ∃ F : World, F = (((((((((((u.setCell ⟨w.heap.size, 0, none⟩ (.int .i64 0)).setCell ⟨w.heap.size, 1, none⟩ (.int .i64 0)).setCell ⟨w.heap.size, 2, none⟩ (.int .i64 0)).setCell ⟨w.heap.size, 3, none⟩ (.int .i64 0)).setCell ⟨w.heap.size, 4, none⟩ (.int .i64 0)).setCell ⟨w.heap.size, 5, none⟩ (.slice none 0 0)).setCell ⟨w.heap.size, 6, none⟩ (.int .i64 0)).setCell ⟨w.heap.size, 7, none⟩ (.int .i64 0)).setCell ⟨w.heap.size, 8, none⟩ (.int .i64 0)).setCell ⟨w.heap.size, 9, none⟩ (.int .i64 0)).setCell ⟨w.heap.size, 10, none⟩ (.int .i64 0)).setCell ⟨w.heap.size, 11, none⟩ (.string ⟨#[]⟩) := ⟨_, rfl⟩
                have k0 : F.cell? ⟨w.heap.size, 0, none⟩ = some (.int .i64 0) := by rw [hF]; go_simp
                have k1 : F.cell? ⟨w.heap.size, 1, none⟩ = some (.int .i64 0) := by rw [hF]; go_simp
                have k2 : F.cell? ⟨w.heap.size, 2, none⟩ = some (.int .i64 0) := by rw [hF]; go_simp
                have k3 : F.cell? ⟨w.heap.size, 3, none⟩ = some (.int .i64 0) := by rw [hF]; go_simp
                have k4 : F.cell? ⟨w.heap.size, 4, none⟩ = some (.int .i64 0) := by rw [hF]; go_simp
                have k5 : F.cell? ⟨w.heap.size, 5, none⟩ = some (.slice none 0 0) := by rw [hF]; go_simp
                have k6 : F.cell? ⟨w.heap.size, 6, none⟩ = some (.int .i64 0) := by rw [hF]; go_simp
                have k7 : F.cell? ⟨w.heap.size, 7, none⟩ = some (.int .i64 0) := by rw [hF]; go_simp
                have k8 : F.cell? ⟨w.heap.size, 8, none⟩ = some (.int .i64 0) := by rw [hF]; go_simp
                have k9 : F.cell? ⟨w.heap.size, 9, none⟩ = some (.int .i64 0) := by rw [hF]; go_simp
                have k10 : F.cell? ⟨w.heap.size, 10, none⟩ = some (.int .i64 0) := by rw [hF]; go_simp
                have k11 : F.cell? ⟨w.heap.size, 11, none⟩ = some (.string ⟨#[]⟩) := by rw [hF]; go_simp
                have HF := HFin.out F ⟨0, 0, 0, 0, 0, none, 0, 0, 0, 0, 0, 0, 0, ⟨#[]⟩, []⟩ (by rw [hF]; exact (H12.out u _ _ _ _ _ _ _ _ _ _ _ _ hbw)) (keep_nil _ _ _ rfl rfl rfl rfl) (by intro cv hcv; rw [hO] at hcv; cases hcv)
                rw [hO] at HF
                have HF2 : Hid (LineTo l w F (.returned (.tuple #[.agg #[.int .i64 0, .int .i64 0, .int .i64 0, .int .i64 0, .int .i64 0, .slice none 0 0, .int .i64 0, .int .i64 0, .int .i64 0, .int .i64 0, .int .i64 0, .string ⟨#[]⟩], .bool false]))) := HF
                clear HF HFin H12 KB bx hbw hO 
                go_wp2
                rw [← hF]
                refine bodyPost_ret (v := .tuple #[.agg #[.int .i64 0, .int .i64 0, .int .i64 0, .int .i64 0, .int .i64 0, .slice none 0 0, .int .i64 0, .int .i64 0, .int .i64 0, .int .i64 0, .int .i64 0, .string ⟨#[]⟩], .bool false]) (by simp [results, Tryd.results30, go_sem, k0, k1, k2, k3, k4, k5, k6, k7, k8, k9, k10, k11]) rfl HF2.out
            · skip
              by_cases hdrp : L = [100, 114, 111, 112]
              · have hD4 := HD2.out
                unfold dcB1 at hD4
                simp only [if_neg (show ¬ L = tckW from htck), if_neg (show ¬ L = stuW from hstu), if_neg (show ¬ L = crsW from hcrs), if_neg (show ¬ L = dlvW from hdlv), if_pos (show L = drpW from hdrp)] at hD4
                by_cases hm : zs.length = 4
                · obtain rfl : n5 = 4 := by omega
                  obtain ⟨b5, cur5, rfl, hB5, zb5, hblk, hn5c, hc5m, hc5⟩ := ints_at HOw.out hzl (by omega)
                  obtain ⟨p0, ep0⟩ : ∃ p, p = zs.getD 0 0 := ⟨_, rfl⟩
                  have d0 := hc5 0 (by omega)
                  rw [← ep0] at d0 hD4
                  obtain ⟨p1, ep1⟩ : ∃ p, p = zs.getD 1 0 := ⟨_, rfl⟩
                  have d1 := hc5 1 (by omega)
                  rw [← ep1] at d1 hD4
                  obtain ⟨p2, ep2⟩ : ∃ p, p = zs.getD 2 0 := ⟨_, rfl⟩
                  have d2 := hc5 2 (by omega)
                  rw [← ep2] at d2 hD4
                  obtain ⟨p3, ep3⟩ : ∃ p, p = zs.getD 3 0 := ⟨_, rfl⟩
                  have d3 := hc5 3 (by omega)
                  rw [← ep3] at d3 hD4
                  have hO : O = some (mkA 3 [p0, p1, p2, p3] [] CV.nil []) := by rw [hD4, if_pos hm]
                  subst hdrp
                  clear hD4 HD2 HOw HI hzl hm hc5 hblk hc5m ep0 ep1 ep2 ep3
                  obtain ⟨bx, hbw⟩ := KB.out u hbb
                  have b0 := (bx.c 0 (by decide)).1
                  have b1 := (bx.c 1 (by decide)).1
                  have b2 := (bx.c 2 (by decide)).1
                  have b3 := (bx.c 3 (by decide)).1
                  have b4 := (bx.c 4 (by decide)).1
                  have b5 := (bx.c 5 (by decide)).1
                  have b6 := (bx.c 6 (by decide)).1
                  have b7 := (bx.c 7 (by decide)).1
                  have b8 := (bx.c 8 (by decide)).1
                  have b9 := (bx.c 9 (by decide)).1
                  have b10 := (bx.c 10 (by decide)).1
                  have b11 := (bx.c 11 (by decide)).1
                  have e0 := (bx.c 0 (by decide)).2
                  have e1 := (bx.c 1 (by decide)).2
                  have e2 := (bx.c 2 (by decide)).2
                  have e3 := (bx.c 3 (by decide)).2
                  have e4 := (bx.c 4 (by decide)).2
                  have e5 := (bx.c 5 (by decide)).2
                  have e6 := (bx.c 6 (by decide)).2
                  have e7 := (bx.c 7 (by decide)).2
                  have e8 := (bx.c 8 (by decide)).2
                  have e9 := (bx.c 9 (by decide)).2
                  have e10 := (bx.c 10 (by decide)).2
                  have e11 := (bx.c 11 (by decide)).2
                  have z5 := bx.lt
                  simp only [List.getD_cons_zero, List.getD_cons_succ] at b0 b1 b2 b3 b4 b5 b6 b7 b8 b9 b10 b11
                  obtain ⟨F, hF⟩ : ∃ F : World, F = (((((((((((u.setCell ⟨w.heap.size, 0, none⟩ (.int .i64 3)).setCell ⟨w.heap.size, 1, none⟩ (.int .i64 p0)).setCell ⟨w.heap.size, 2, none⟩ (.int .i64 p1)).setCell ⟨w.heap.size, 3, none⟩ (.int .i64 p2)).setCell ⟨w.heap.size, 4, none⟩ (.int .i64 p3)).setCell ⟨w.heap.size, 5, none⟩ (.slice none 0 0)).setCell ⟨w.heap.size, 6, none⟩ (.int .i64 0)).setCell ⟨w.heap.size, 7, none⟩ (.int .i64 0)).setCell ⟨w.heap.size, 8, none⟩ (.int .i64 0)).setCell ⟨w.heap.size, 9, none⟩ (.int .i64 0)).setCell ⟨w.heap.size, 10, none⟩ (.int .i64 0)).setCell ⟨w.heap.size, 11, none⟩ (.string ⟨#[]⟩) := ⟨_, rfl⟩
                  have k0 : F.cell? ⟨w.heap.size, 0, none⟩ = some (.int .i64 3) := by rw [hF]; go_simp
                  have k1 : F.cell? ⟨w.heap.size, 1, none⟩ = some (.int .i64 p0) := by rw [hF]; go_simp
                  have k2 : F.cell? ⟨w.heap.size, 2, none⟩ = some (.int .i64 p1) := by rw [hF]; go_simp
                  have k3 : F.cell? ⟨w.heap.size, 3, none⟩ = some (.int .i64 p2) := by rw [hF]; go_simp
                  have k4 : F.cell? ⟨w.heap.size, 4, none⟩ = some (.int .i64 p3) := by rw [hF]; go_simp
                  have k5 : F.cell? ⟨w.heap.size, 5, none⟩ = some (.slice none 0 0) := by rw [hF]; go_simp
                  have k6 : F.cell? ⟨w.heap.size, 6, none⟩ = some (.int .i64 0) := by rw [hF]; go_simp
                  have k7 : F.cell? ⟨w.heap.size, 7, none⟩ = some (.int .i64 0) := by rw [hF]; go_simp
                  have k8 : F.cell? ⟨w.heap.size, 8, none⟩ = some (.int .i64 0) := by rw [hF]; go_simp
                  have k9 : F.cell? ⟨w.heap.size, 9, none⟩ = some (.int .i64 0) := by rw [hF]; go_simp
                  have k10 : F.cell? ⟨w.heap.size, 10, none⟩ = some (.int .i64 0) := by rw [hF]; go_simp
                  have k11 : F.cell? ⟨w.heap.size, 11, none⟩ = some (.string ⟨#[]⟩) := by rw [hF]; go_simp
                  have HF := HFin.out F.drew ⟨3, p0, p1, p2, p3, none, 0, 0, 0, 0, 0, 0, 0, ⟨#[]⟩, []⟩ (by rw [hF]; exact (H12.out u _ _ _ _ _ _ _ _ _ _ _ _ hbw).drew) (keep_nil _ _ _ rfl rfl rfl rfl) (by intro cv hcv; rw [hO] at hcv; cases hcv; rfl)
                  rw [hO] at HF
                  have HF2 : Hid (LineTo l w F.drew (.returned (.tuple #[.agg #[.int .i64 3, .int .i64 p0, .int .i64 p1, .int .i64 p2, .int .i64 p3, .slice none 0 0, .int .i64 0, .int .i64 0, .int .i64 0, .int .i64 0, .int .i64 0, .string ⟨#[]⟩], .bool true]))) := HF
                  clear HF HFin H12 KB bx hbw hO 
                  go_upto_region 34 with (fail)
                  go_region
                  go_wp2
                  rw [← hF]
                  refine bodyPost_ret (v := .tuple #[.agg #[.int .i64 3, .int .i64 p0, .int .i64 p1, .int .i64 p2, .int .i64 p3, .slice none 0 0, .int .i64 0, .int .i64 0, .int .i64 0, .int .i64 0, .int .i64 0, .string ⟨#[]⟩], .bool true]) (by simp [results, Tryd.results30, go_sem, k0, k1, k2, k3, k4, k5, k6, k7, k8, k9, k10, k11]) rfl HF2.out
                · have hO : O = none := by rw [hD4, if_neg hm]
                  have hm5 : ¬ (n5 : Int) = 4 := by omega
                  have hm6 : ((n5 : Int) == 4) = false := beq_eq_false_iff_ne.2 hm5
                  subst hdrp
                  clear hD4 HD2 HOw HI hzl hm
                  obtain ⟨bx, hbw⟩ := KB.out u hbb
                  have b0 := (bx.c 0 (by decide)).1
                  have b1 := (bx.c 1 (by decide)).1
                  have b2 := (bx.c 2 (by decide)).1
                  have b3 := (bx.c 3 (by decide)).1
                  have b4 := (bx.c 4 (by decide)).1
                  have b5 := (bx.c 5 (by decide)).1
                  have b6 := (bx.c 6 (by decide)).1
                  have b7 := (bx.c 7 (by decide)).1
                  have b8 := (bx.c 8 (by decide)).1
                  have b9 := (bx.c 9 (by decide)).1
                  have b10 := (bx.c 10 (by decide)).1
                  have b11 := (bx.c 11 (by decide)).1
                  have e0 := (bx.c 0 (by decide)).2
                  have e1 := (bx.c 1 (by decide)).2
                  have e2 := (bx.c 2 (by decide)).2
                  have e3 := (bx.c 3 (by decide)).2
                  have e4 := (bx.c 4 (by decide)).2
                  have e5 := (bx.c 5 (by decide)).2
                  have e6 := (bx.c 6 (by decide)).2
                  have e7 := (bx.c 7 (by decide)).2
                  have e8 := (bx.c 8 (by decide)).2
                  have e9 := (bx.c 9 (by decide)).2
                  have e10 := (bx.c 10 (by decide)).2
                  have e11 := (bx.c 11 (by decide)).2
                  have z5 := bx.lt
                  simp only [List.getD_cons_zero, List.getD_cons_succ] at b0 b1 b2 b3 b4 b5 b6 b7 b8 b9 b10 b11
                  obtain ⟨F, hF⟩ : ∃ F : World, F = (((((((((((u.setCell ⟨w.heap.size, 0, none⟩ (.int .i64 0)).setCell ⟨w.heap.size, 1, none⟩ (.int .i64 0)).setCell ⟨w.heap.size, 2, none⟩ (.int .i64 0)).setCell ⟨w.heap.size, 3, none⟩ (.int .i64 0)).setCell ⟨w.heap.size, 4, none⟩ (.int .i64 0)).setCell ⟨w.heap.size, 5, none⟩ (.slice none 0 0)).setCell ⟨w.heap.size, 6, none⟩ (.int .i64 0)).setCell ⟨w.heap.size, 7, none⟩ (.int .i64 0)).setCell ⟨w.heap.size, 8, none⟩ (.int .i64 0)).setCell ⟨w.heap.size, 9, none⟩ (.int .i64 0)).setCell ⟨w.heap.size, 10, none⟩ (.int .i64 0)).setCell ⟨w.heap.size, 11, none⟩ (.string ⟨#[]⟩) := ⟨_, rfl⟩
                  have k0 : F.cell? ⟨w.heap.size, 0, none⟩ = some (.int .i64 0) := by rw [hF]; go_simp
                  have k1 : F.cell? ⟨w.heap.size, 1, none⟩ = some (.int .i64 0) := by rw [hF]; go_simp
                  have k2 : F.cell? ⟨w.heap.size, 2, none⟩ = some (.int .i64 0) := by rw [hF]; go_simp
                  have k3 : F.cell? ⟨w.heap.size, 3, none⟩ = some (.int .i64 0) := by rw [hF]; go_simp
                  have k4 : F.cell? ⟨w.heap.size, 4, none⟩ = some (.int .i64 0) := by rw [hF]; go_simp
                  have k5 : F.cell? ⟨w.heap.size, 5, none⟩ = some (.slice none 0 0) := by rw [hF]; go_simp
                  have k6 : F.cell? ⟨w.heap.size, 6, none⟩ = some (.int .i64 0) := by rw [hF]; go_simp
                  have k7 : F.cell? ⟨w.heap.size, 7, none⟩ = some (.int .i64 0) := by rw [hF]; go_simp
                  have k8 : F.cell? ⟨w.heap.size, 8, none⟩ = some (.int .i64 0) := by rw [hF]; go_simp
                  have k9 : F.cell? ⟨w.heap.size, 9, none⟩ = some (.int .i64 0) := by rw [hF]; go_simp
                  have k10 : F.cell? ⟨w.heap.size, 10, none⟩ = some (.int .i64 0) := by rw [hF]; go_simp
                  have k11 : F.cell? ⟨w.heap.size, 11, none⟩ = some (.string ⟨#[]⟩) := by rw [hF]; go_simp
                  have HF := HFin.out F ⟨0, 0, 0, 0, 0, none, 0, 0, 0, 0, 0, 0, 0, ⟨#[]⟩, []⟩ (by rw [hF]; exact (H12.out u _ _ _ _ _ _ _ _ _ _ _ _ hbw)) (keep_nil _ _ _ rfl rfl rfl rfl) (by intro cv hcv; rw [hO] at hcv; cases hcv)
                  rw [hO] at HF
                  have HF2 : Hid (LineTo l w F (.returned (.tuple #[.agg #[.int .i64 0, .int .i64 0, .int .i64 0, .int .i64 0, .int .i64 0, .slice none 0 0, .int .i64 0, .int .i64 0, .int .i64 0, .int .i64 0, .int .i64 0, .string ⟨#[]⟩], .bool false]))) := HF
                  clear HF HFin H12 KB bx hbw hO 
                  go_wp2
                  rw [← hF]
                  refine bodyPost_ret (v := .tuple #[.agg #[.int .i64 0, .int .i64 0, .int .i64 0, .int .i64 0, .int .i64 0, .slice none 0 0, .int .i64 0, .int .i64 0, .int .i64 0, .int .i64 0, .int .i64 0, .string ⟨#[]⟩], .bool false]) (by simp [results, Tryd.results30, go_sem, k0, k1, k2, k3, k4, k5, k6, k7, k8, k9, k10, k11]) rfl HF2.out
              · skip
                by_cases hcpy : L = [99, 111, 112, 121]
                · have hD4 := HD2.out
                  unfold dcB1 at hD4
                  simp only [if_neg (show ¬ L = tckW from htck), if_neg (show ¬ L = stuW from hstu), if_neg (show ¬ L = crsW from hcrs), if_neg (show ¬ L = dlvW from hdlv), if_neg (show ¬ L = drpW from hdrp), if_pos (show L = cpyW from hcpy)] at hD4
                  by_cases hm : zs.length = 4
                  · obtain rfl : n5 = 4 := by omega
                    obtain ⟨b5, cur5, rfl, hB5, zb5, hblk, hn5c, hc5m, hc5⟩ := ints_at HOw.out hzl (by omega)
                    obtain ⟨p0, ep0⟩ : ∃ p, p = zs.getD 0 0 := ⟨_, rfl⟩
                    have d0 := hc5 0 (by omega)
                    rw [← ep0] at d0 hD4
                    obtain ⟨p1, ep1⟩ : ∃ p, p = zs.getD 1 0 := ⟨_, rfl⟩
                    have d1 := hc5 1 (by omega)
                    rw [← ep1] at d1 hD4
                    obtain ⟨p2, ep2⟩ : ∃ p, p = zs.getD 2 0 := ⟨_, rfl⟩
                    have d2 := hc5 2 (by omega)
                    rw [← ep2] at d2 hD4
                    obtain ⟨p3, ep3⟩ : ∃ p, p = zs.getD 3 0 := ⟨_, rfl⟩
                    have d3 := hc5 3 (by omega)
                    rw [← ep3] at d3 hD4
                    have hO : O = some (mkA 4 [p0, p1, p2, p3] [] CV.nil []) := by rw [hD4, if_pos hm]
                    subst hcpy
                    clear hD4 HD2 HOw HI hzl hm hc5 hblk hc5m ep0 ep1 ep2 ep3
                    obtain ⟨bx, hbw⟩ := KB.out u hbb
                    have b0 := (bx.c 0 (by decide)).1
                    have b1 := (bx.c 1 (by decide)).1
                    have b2 := (bx.c 2 (by decide)).1
                    have b3 := (bx.c 3 (by decide)).1
                    have b4 := (bx.c 4 (by decide)).1
                    have b5 := (bx.c 5 (by decide)).1
                    have b6 := (bx.c 6 (by decide)).1
                    have b7 := (bx.c 7 (by decide)).1
                    have b8 := (bx.c 8 (by decide)).1
                    have b9 := (bx.c 9 (by decide)).1
                    have b10 := (bx.c 10 (by decide)).1
                    have b11 := (bx.c 11 (by decide)).1
                    have e0 := (bx.c 0 (by decide)).2
                    have e1 := (bx.c 1 (by decide)).2
                    have e2 := (bx.c 2 (by decide)).2
                    have e3 := (bx.c 3 (by decide)).2
                    have e4 := (bx.c 4 (by decide)).2
                    have e5 := (bx.c 5 (by decide)).2
                    have e6 := (bx.c 6 (by decide)).2
                    have e7 := (bx.c 7 (by decide)).2
                    have e8 := (bx.c 8 (by decide)).2
                    have e9 := (bx.c 9 (by decide)).2
                    have e10 := (bx.c 10 (by decide)).2
                    have e11 := (bx.c 11 (by decide)).2
                    have z5 := bx.lt
                    simp only [List.getD_cons_zero, List.getD_cons_succ] at b0 b1 b2 b3 b4 b5 b6 b7 b8 b9 b10 b11
                    obtain ⟨F, hF⟩ : ∃ F : World, F = (((((((((((u.setCell ⟨w.heap.size, 0, none⟩ (.int .i64 4)).setCell ⟨w.heap.size, 1, none⟩ (.int .i64 p0)).setCell ⟨w.heap.size, 2, none⟩ (.int .i64 p1)).setCell ⟨w.heap.size, 3, none⟩ (.int .i64 p2)).setCell ⟨w.heap.size, 4, none⟩ (.int .i64 p3)).setCell ⟨w.heap.size, 5, none⟩ (.slice none 0 0)).setCell ⟨w.heap.size, 6, none⟩ (.int .i64 0)).setCell ⟨w.heap.size, 7, none⟩ (.int .i64 0)).setCell ⟨w.heap.size, 8, none⟩ (.int .i64 0)).setCell ⟨w.heap.size, 9, none⟩ (.int .i64 0)).setCell ⟨w.heap.size, 10, none⟩ (.int .i64 0)).setCell ⟨w.heap.size, 11, none⟩ (.string ⟨#[]⟩) := ⟨_, rfl⟩
                    have k0 : F.cell? ⟨w.heap.size, 0, none⟩ = some (.int .i64 4) := by rw [hF]; go_simp
                    have k1 : F.cell? ⟨w.heap.size, 1, none⟩ = some (.int .i64 p0) := by rw [hF]; go_simp
                    have k2 : F.cell? ⟨w.heap.size, 2, none⟩ = some (.int .i64 p1) := by rw [hF]; go_simp
                    have k3 : F.cell? ⟨w.heap.size, 3, none⟩ = some (.int .i64 p2) := by rw [hF]; go_simp
                    have k4 : F.cell? ⟨w.heap.size, 4, none⟩ = some (.int .i64 p3) := by rw [hF]; go_simp
                    have k5 : F.cell? ⟨w.heap.size, 5, none⟩ = some (.slice none 0 0) := by rw [hF]; go_simp
                    have k6 : F.cell? ⟨w.heap.size, 6, none⟩ = some (.int .i64 0) := by rw [hF]; go_simp
                    have k7 : F.cell? ⟨w.heap.size, 7, none⟩ = some (.int .i64 0) := by rw [hF]; go_simp
                    have k8 : F.cell? ⟨w.heap.size, 8, none⟩ = some (.int .i64 0) := by rw [hF]; go_simp
                    have k9 : F.cell? ⟨w.heap.size, 9, none⟩ = some (.int .i64 0) := by rw [hF]; go_simp
                    have k10 : F.cell? ⟨w.heap.size, 10, none⟩ = some (.int .i64 0) := by rw [hF]; go_simp
                    have k11 : F.cell? ⟨w.heap.size, 11, none⟩ = some (.string ⟨#[]⟩) := by rw [hF]; go_simp
                    have HF := HFin.out F.drew ⟨4, p0, p1, p2, p3, none, 0, 0, 0, 0, 0, 0, 0, ⟨#[]⟩, []⟩ (by rw [hF]; exact (H12.out u _ _ _ _ _ _ _ _ _ _ _ _ hbw).drew) (keep_nil _ _ _ rfl rfl rfl rfl) (by intro cv hcv; rw [hO] at hcv; cases hcv; rfl)
                    rw [hO] at HF
                    have HF2 : Hid (LineTo l w F.drew (.returned (.tuple #[.agg #[.int .i64 4, .int .i64 p0, .int .i64 p1, .int .i64 p2, .int .i64 p3, .slice none 0 0, .int .i64 0, .int .i64 0, .int .i64 0, .int .i64 0, .int .i64 0, .string ⟨#[]⟩], .bool true]))) := HF
                    clear HF HFin H12 KB bx hbw hO 
                    go_upto_region 34 with (fail)
                    go_region
                    go_wp2
                    rw [← hF]
                    refine bodyPost_ret (v := .tuple #[.agg #[.int .i64 4, .int .i64 p0, .int .i64 p1, .int .i64 p2, .int .i64 p3, .slice none 0 0, .int .i64 0, .int .i64 0, .int .i64 0, .int .i64 0, .int .i64 0, .string ⟨#[]⟩], .bool true]) (by simp [results, Tryd.results30, go_sem, k0, k1, k2, k3, k4, k5, k6, k7, k8, k9, k10, k11]) rfl HF2.out
                  · have hO : O = none := by rw [hD4, if_neg hm]
                    have hm5 : ¬ (n5 : Int) = 4 := by omega
                    have hm6 : ((n5 : Int) == 4) = false := beq_eq_false_iff_ne.2 hm5
                    subst hcpy
                    clear hD4 HD2 HOw HI hzl hm
                    obtain ⟨bx, hbw⟩ := KB.out u hbb
                    have b0 := (bx.c 0 (by decide)).1
                    have b1 := (bx.c 1 (by decide)).1
                    have b2 := (bx.c 2 (by decide)).1
                    have b3 := (bx.c 3 (by decide)).1
                    have b4 := (bx.c 4 (by decide)).1
                    have b5 := (bx.c 5 (by decide)).1
                    have b6 := (bx.c 6 (by decide)).1
                    have b7 := (bx.c 7 (by decide)).1
                    have b8 := (bx.c 8 (by decide)).1
                    have b9 := (bx.c 9 (by decide)).1
                    have b10 := (bx.c 10 (by decide)).1
                    have b11 := (bx.c 11 (by decide)).1
                    have e0 := (bx.c 0 (by decide)).2
                    have e1 := (bx.c 1 (by decide)).2
                    have e2 := (bx.c 2 (by decide)).2
                    have e3 := (bx.c 3 (by decide)).2
                    have e4 := (bx.c 4 (by decide)).2
                    have e5 := (bx.c 5 (by decide)).2
                    have e6 := (bx.c 6 (by decide)).2
                    have e7 := (bx.c 7 (by decide)).2
                    have e8 := (bx.c 8 (by decide)).2
                    have e9 := (bx.c 9 (by decide)).2
                    have e10 := (bx.c 10 (by decide)).2
                    have e11 := (bx.c 11 (by decide)).2
                    have z5 := bx.lt
                    simp only [List.getD_cons_zero, List.getD_cons_succ] at b0 b1 b2 b3 b4 b5 b6 b7 b8 b9 b10 b11
                    obtain ⟨F, hF⟩ : ∃ F : World, F = (((((((((((u.setCell ⟨w.heap.size, 0, none⟩ (.int .i64 0)).setCell ⟨w.heap.size, 1, none⟩ (.int .i64 0)).setCell ⟨w.heap.size, 2, none⟩ (.int .i64 0)).setCell ⟨w.heap.size, 3, none⟩ (.int .i64 0)).setCell ⟨w.heap.size, 4, none⟩ (.int .i64 0)).setCell ⟨w.heap.size, 5, none⟩ (.slice none 0 0)).setCell ⟨w.heap.size, 6, none⟩ (.int .i64 0)).setCell ⟨w.heap.size, 7, none⟩ (.int .i64 0)).setCell ⟨w.heap.size, 8, none⟩ (.int .i64 0)).setCell ⟨w.heap.size, 9, none⟩ (.int .i64 0)).setCell ⟨w.heap.size, 10, none⟩ (.int .i64 0)).setCell ⟨w.heap.size, 11, none⟩ (.string ⟨#[]⟩) := ⟨_, rfl⟩
                    have k0 : F.cell? ⟨w.heap.size, 0, none⟩ = some (.int .i64 0) := by rw [hF]; go_simp
                    have k1 : F.cell? ⟨w.heap.size, 1, none⟩ = some (.int .i64 0) := by rw [hF]; go_simp
                    have k2 : F.cell? ⟨w.heap.size, 2, none⟩ = some (.int .i64 0) := by rw [hF]; go_simp
                    have k3 : F.cell? ⟨w.heap.size, 3, none⟩ = some (.int .i64 0) := by rw [hF]; go_simp
                    have k4 : F.cell? ⟨w.heap.size, 4, none⟩ = some (.int .i64 0) := by rw [hF]; go_simp
                    have k5 : F.cell? ⟨w.heap.size, 5, none⟩ = some (.slice none 0 0) := by rw [hF]; go_simp
                    have k6 : F.cell? ⟨w.heap.size, 6, none⟩ = some (.int .i64 0) := by rw [hF]; go_simp
                    have k7 : F.cell? ⟨w.heap.size, 7, none⟩ = some (.int .i64 0) := by rw [hF]; go_simp
                    have k8 : F.cell? ⟨w.heap.size, 8, none⟩ = some (.int .i64 0) := by rw [hF]; go_simp
                    have k9 : F.cell? ⟨w.heap.size, 9, none⟩ = some (.int .i64 0) := by rw [hF]; go_simp
                    have k10 : F.cell? ⟨w.heap.size, 10, none⟩ = some (.int .i64 0) := by rw [hF]; go_simp
                    have k11 : F.cell? ⟨w.heap.size, 11, none⟩ = some (.string ⟨#[]⟩) := by rw [hF]; go_simp
                    have HF := HFin.out F ⟨0, 0, 0, 0, 0, none, 0, 0, 0, 0, 0, 0, 0, ⟨#[]⟩, []⟩ (by rw [hF]; exact (H12.out u _ _ _ _ _ _ _ _ _ _ _ _ hbw)) (keep_nil _ _ _ rfl rfl rfl rfl) (by intro cv hcv; rw [hO] at hcv; cases hcv)
                    rw [hO] at HF
                    have HF2 : Hid (LineTo l w F (.returned (.tuple #[.agg #[.int .i64 0, .int .i64 0, .int .i64 0, .int .i64 0, .int .i64 0, .slice none 0 0, .int .i64 0, .int .i64 0, .int .i64 0, .int .i64 0, .int .i64 0, .string ⟨#[]⟩], .bool false]))) := HF
                    clear HF HFin H12 KB bx hbw hO 
                    go_wp2
                    rw [← hF]
                    refine bodyPost_ret (v := .tuple #[.agg #[.int .i64 0, .int .i64 0, .int .i64 0, .int .i64 0, .int .i64 0, .slice none 0 0, .int .i64 0, .int .i64 0, .int .i64 0, .int .i64 0, .int .i64 0, .string ⟨#[]⟩], .bool false]) (by simp [results, Tryd.results30, go_sem, k0, k1, k2, k3, k4, k5, k6, k7, k8, k9, k10, k11]) rfl HF2.out
                · skip
                  have hD4 := HD2.out
                  unfold dcB1 at hD4
                  simp only [if_neg (show ¬ L = tckW from htck), if_neg (show ¬ L = stuW from hstu), if_neg (show ¬ L = crsW from hcrs), if_neg (show ¬ L = dlvW from hdlv), if_neg (show ¬ L = drpW from hdrp), if_neg (show ¬ L = cpyW from hcpy)] at hD4
                  have hO : O = none := hD4
                  clear hD4 HD2 HOw HI hzl
                  have gtck : (L == [116, 105, 99, 107]) = false := beq_eq_false_iff_ne.2 htck
                  have gstu : (L == [115, 116, 97, 114, 116]) = false := beq_eq_false_iff_ne.2 hstu
                  have gcrs : (L == [99, 114, 97, 115, 104]) = false := beq_eq_false_iff_ne.2 hcrs
                  have gdlv : (L == [100, 101, 108, 105, 118, 101, 114]) = false := beq_eq_false_iff_ne.2 hdlv
                  have gdrp : (L == [100, 114, 111, 112]) = false := beq_eq_false_iff_ne.2 hdrp
                  have gcpy : (L == [99, 111, 112, 121]) = false := beq_eq_false_iff_ne.2 hcpy
                  obtain ⟨bx, hbw⟩ := KB.out u hbb
                  have b0 := (bx.c 0 (by decide)).1
                  have b1 := (bx.c 1 (by decide)).1
                  have b2 := (bx.c 2 (by decide)).1
                  have b3 := (bx.c 3 (by decide)).1
                  have b4 := (bx.c 4 (by decide)).1
                  have b5 := (bx.c 5 (by decide)).1
                  have b6 := (bx.c 6 (by decide)).1
                  have b7 := (bx.c 7 (by decide)).1
                  have b8 := (bx.c 8 (by decide)).1
                  have b9 := (bx.c 9 (by decide)).1
                  have b10 := (bx.c 10 (by decide)).1
                  have b11 := (bx.c 11 (by decide)).1
                  have e0 := (bx.c 0 (by decide)).2
                  have e1 := (bx.c 1 (by decide)).2
                  have e2 := (bx.c 2 (by decide)).2
                  have e3 := (bx.c 3 (by decide)).2
                  have e4 := (bx.c 4 (by decide)).2
                  have e5 := (bx.c 5 (by decide)).2
                  have e6 := (bx.c 6 (by decide)).2
                  have e7 := (bx.c 7 (by decide)).2
                  have e8 := (bx.c 8 (by decide)).2
                  have e9 := (bx.c 9 (by decide)).2
                  have e10 := (bx.c 10 (by decide)).2
                  have e11 := (bx.c 11 (by decide)).2
                  have z5 := bx.lt
                  simp only [List.getD_cons_zero, List.getD_cons_succ] at b0 b1 b2 b3 b4 b5 b6 b7 b8 b9 b10 b11
                  obtain ⟨F, hF⟩ : ∃ F : World, F = (((((((((((u.setCell ⟨w.heap.size, 0, none⟩ (.int .i64 0)).setCell ⟨w.heap.size, 1, none⟩ (.int .i64 0)).setCell ⟨w.heap.size, 2, none⟩ (.int .i64 0)).setCell ⟨w.heap.size, 3, none⟩ (.int .i64 0)).setCell ⟨w.heap.size, 4, none⟩ (.int .i64 0)).setCell ⟨w.heap.size, 5, none⟩ (.slice none 0 0)).setCell ⟨w.heap.size, 6, none⟩ (.int .i64 0)).setCell ⟨w.heap.size, 7, none⟩ (.int .i64 0)).setCell ⟨w.heap.size, 8, none⟩ (.int .i64 0)).setCell ⟨w.heap.size, 9, none⟩ (.int .i64 0)).setCell ⟨w.heap.size, 10, none⟩ (.int .i64 0)).setCell ⟨w.heap.size, 11, none⟩ (.string ⟨#[]⟩) := ⟨_, rfl⟩
                  have k0 : F.cell? ⟨w.heap.size, 0, none⟩ = some (.int .i64 0) := by rw [hF]; go_simp
                  have k1 : F.cell? ⟨w.heap.size, 1, none⟩ = some (.int .i64 0) := by rw [hF]; go_simp
                  have k2 : F.cell? ⟨w.heap.size, 2, none⟩ = some (.int .i64 0) := by rw [hF]; go_simp
                  have k3 : F.cell? ⟨w.heap.size, 3, none⟩ = some (.int .i64 0) := by rw [hF]; go_simp
                  have k4 : F.cell? ⟨w.heap.size, 4, none⟩ = some (.int .i64 0) := by rw [hF]; go_simp
                  have k5 : F.cell? ⟨w.heap.size, 5, none⟩ = some (.slice none 0 0) := by rw [hF]; go_simp
                  have k6 : F.cell? ⟨w.heap.size, 6, none⟩ = some (.int .i64 0) := by rw [hF]; go_simp
                  have k7 : F.cell? ⟨w.heap.size, 7, none⟩ = some (.int .i64 0) := by rw [hF]; go_simp
                  have k8 : F.cell? ⟨w.heap.size, 8, none⟩ = some (.int .i64 0) := by rw [hF]; go_simp
                  have k9 : F.cell? ⟨w.heap.size, 9, none⟩ = some (.int .i64 0) := by rw [hF]; go_simp
                  have k10 : F.cell? ⟨w.heap.size, 10, none⟩ = some (.int .i64 0) := by rw [hF]; go_simp
                  have k11 : F.cell? ⟨w.heap.size, 11, none⟩ = some (.string ⟨#[]⟩) := by rw [hF]; go_simp
                  have HF := HFin.out F ⟨0, 0, 0, 0, 0, none, 0, 0, 0, 0, 0, 0, 0, ⟨#[]⟩, []⟩ (by rw [hF]; exact (H12.out u _ _ _ _ _ _ _ _ _ _ _ _ hbw)) (keep_nil _ _ _ rfl rfl rfl rfl) (by intro cv hcv; rw [hO] at hcv; cases hcv)
                  rw [hO] at HF
                  have HF2 : Hid (LineTo l w F (.returned (.tuple #[.agg #[.int .i64 0, .int .i64 0, .int .i64 0, .int .i64 0, .int .i64 0, .slice none 0 0, .int .i64 0, .int .i64 0, .int .i64 0, .int .i64 0, .int .i64 0, .string ⟨#[]⟩], .bool false]))) := HF
                  clear HF HFin H12 KB bx hbw hO 
                  go_wp2
                  rw [← hF]
                  refine bodyPost_ret (v := .tuple #[.agg #[.int .i64 0, .int .i64 0, .int .i64 0, .int .i64 0, .int .i64 0, .slice none 0 0, .int .i64 0, .int .i64 0, .int .i64 0, .int .i64 0, .int .i64 0, .string ⟨#[]⟩], .bool false]) (by simp [results, Tryd.results30, go_sem, k0, k1, k2, k3, k4, k5, k6, k7, k8, k9, k10, k11]) rfl HF2.out
end Go.Proofs.YtlaagfnoepcnlaaDoor.Ln
