/- Texts of this claim, one behind the other. -/
import Derived.Test.YtlaagfnoepcnlaaDoorM15LinesReads
import Derived.Test.YtlaagfnoepcnlaaDoorM22LinesReads
import Derived.Test.YtlaagfnoepcnlaaDoorM21LinesReads
import Derived.Test.YtlaagfnoepcnlaaDoorM19LinesReads
/- The document's hexDigit, blanked, actWords and callWords. -/
namespace Go.Proofs.YtlaagfnoepcnlaaDoor.Ln
open Go.ChangeShapes Go.WideShapes Go.ChangeAt Go.RowKit
open Go.Proofs.YtlaagfnoepcnlaaDoor.St (BoxN boxn_new own_below IsRow Elem flat flat_append own_isRow)
open Go.Proofs.YtlaagfnoepcnlaaDoor.Dc (decS dec_ref decS_size)
set_option linter.unusedVariables false

theorem hexRef_any (n : Nat) (w : World) (h : n < 16) : Calls Tryd.prog 55 #[.int .i64 (n : Int)] w fun e w' => e = .returned (.int .u8 ((hexD n).toNat : Int)) ∧ Below w.heap.size w w' := by
  by_cases h10 : n < 10
  · have hlt : (n : Int) < 10 := by omega
    have w1 : IntKind.i64.wrap (48 + (n : Int)) = 48 + (n : Int) := by simp [IntKind.wrap, IntKind.bits, IntKind.signed]; omega
    have w2 : IntKind.u8.wrap (48 + (n : Int)) = 48 + (n : Int) := by simp [IntKind.wrap, IntKind.bits, IntKind.signed]; omega
    have hD : ((hexD n).toNat : Int) = 48 + (n : Int) := by unfold hexD; rw [if_pos h10]; simp; omega
    rw [hD]
    clear hD
    go_enter Tryd.func55, Tryd.ntmps55
    go_wp2
    go_ret
    exact ⟨rfl, Below.refl _ _⟩
  · have hlt : ¬ (n : Int) < 10 := by omega
    have w1 : IntKind.i64.wrap (97 + (n : Int)) = 97 + (n : Int) := by simp [IntKind.wrap, IntKind.bits, IntKind.signed]; omega
    have w3 : IntKind.i64.wrap (97 + (n : Int) - 10) = 97 + (n : Int) - 10 := by simp [IntKind.wrap, IntKind.bits, IntKind.signed]; omega
    have w2 : IntKind.u8.wrap (97 + (n : Int) - 10) = 97 + (n : Int) - 10 := by simp [IntKind.wrap, IntKind.bits, IntKind.signed]; omega
    have hD : ((hexD n).toNat : Int) = 97 + (n : Int) - 10 := by unfold hexD; rw [if_neg h10]; simp; omega
    rw [hD]
    clear hD
    go_enter Tryd.func55, Tryd.ntmps55
    go_wp2
    go_ret
    exact ⟨rfl, Below.refl _ _⟩
/-- Numbers, each behind a blank. -/
def blankL : List Int → List UInt8
  | [] => []
  | z :: r => 32 :: Lib.itoa z ++ blankL r
def blankS (l : List Int) : ByteArray := ⟨(blankL l).toArray⟩
theorem blankL_snoc (l : List Int) (z : Int) : blankL (l ++ [z]) = blankL l ++ 32 :: Lib.itoa z := by
  induction l with
  | nil => simp [blankL]
  | cons x r ih => simp [blankL, ih]
theorem blankL_app (l m : List Int) : blankL (l ++ m) = blankL l ++ blankL m := by
  induction l with
  | nil => simp [blankL]
  | cons x r ih => simp [blankL, ih]
set_option maxHeartbeats 4000000 in
theorem blanked_any (a : Option Addr) (n c : Nat) (zs : List Int) (w : World) (hn : n ≤ 10) (hl : zs.length = n) (hz : ∀ z ∈ zs, 0 ≤ z ∧ z ≤ 9223372036854775807)
    (hc : 0 < n → ∃ b off, a = some ⟨b, off, none⟩ ∧ b < w.heap.size ∧ ∀ i, i < n → w.cell? ⟨b, off + i, none⟩ = some (.int .i64 (zs.getD i 0))) :
    Calls Tryd.prog 53 #[.slice a n c] w fun e w' => e = .returned (.string (blankS zs)) ∧ Below w.heap.size w w' := by
  have HZ : Hid (∀ z ∈ zs, 0 ≤ z ∧ z ≤ 9223372036854775807) := hz
  have HC : Hid (0 < n → ∃ b off, a = some ⟨b, off, none⟩ ∧ b < w.heap.size ∧ ∀ i, i < n → w.cell? ⟨b, off + i, none⟩ = some (.int .i64 (zs.getD i 0))) := hc
  have HT0 : Hid ((⟨#[]⟩ : ByteArray).data.toList = blankL (zs.take 0)) := by show _ = _; simp [blankL]
  clear hz hc
  go_enter Tryd.func53, Tryd.ntmps53
  go_wp2
  go_loopw [3, 4] (fun s3 s4 wr => ∃ (k : Nat) (T : ByteArray), s3 = .string T ∧ s4 = .int .i64 (k : Int) ∧ k ≤ n ∧ T.size ≤ 30 * k ∧ Hid (T.data.toList = blankL (zs.take k)) ∧ Below w.heap.size w wr) (fun _ s4 _ => n - (intOf s4).toNat)
  case atStart => exact ⟨0, ⟨#[]⟩, rfl, rfl, by omega, (show (0 : Nat) ≤ 30 * 0 by omega), HT0, Below.refl _ _⟩
  case round =>
    clear HT0
    obtain ⟨k, T, rfl, rfl, hk, hT, hE, hb⟩ := hrel
    by_cases hlt : k < n
    · have hlt' : (k : Int) < (n : Int) := by omega
      have HJ : Hid (k + 1 ≤ n) := hlt
      obtain ⟨b, off, rfl, zb, hcl⟩ := HC.out (by omega)
      have c0 := (hb.cell (p := ⟨b, off + k, none⟩) zb).trans (hcl k hlt)
      have zb2 : b < wr.heap.size := Nat.lt_of_lt_of_le zb hb.size
      have hzk := HZ.out (zs.getD k 0) (by rw [List.getD, List.getElem?_eq_getElem (by omega)]; exact List.getElem_mem _)
      have htk : zs.take (k + 1) = zs.take k ++ [zs.getD k 0] := by
        rw [List.take_succ_eq_append_getElem (by omega : k < zs.length)]
        simp [List.getD, show k < zs.length by omega]
      obtain ⟨z, ez⟩ : ∃ z, z = zs.getD k 0 := ⟨_, rfl⟩
      rw [← ez] at c0 hzk htk
      clear ez hcl
      obtain ⟨m, rfl⟩ : ∃ m : Nat, z = m := ⟨z.toNat, by omega⟩
      have hm : m ≤ 9223372036854775807 := by omega
      have hD := dec_ref m m wr (Nat.le_refl _) hm
      have hds := decS_size hm
      obtain ⟨T1, t1⟩ : ∃ x : ByteArray, T ++ ⟨#[32]⟩ = x := ⟨_, rfl⟩
      have s1 : T1.size = T.size + 1 := by rw [← t1, ByteArray.size_append]; rfl
      obtain ⟨T2, t2⟩ : ∃ x : ByteArray, T1 ++ decS m = x := ⟨_, rfl⟩
      have s2 : T2.size = T1.size + (decS m).size := by rw [← t2, ByteArray.size_append]
      have z1 : ¬ (9223372036854775807 < T.size + 1) := by omega
      have z2 : ¬ (9223372036854775807 < T1.size + (decS m).size) := by omega
      have hE2 : Hid (T2.data.toList = blankL (zs.take (k + 1))) := by
        show _ = _
        rw [htk, blankL_snoc, ← hE.out, ← t2, ← t1, Lib.itoa_nonneg]
        simp [decS]
      have hs2 : T2.size ≤ 30 * (k + 1) := by omega
      clear hE htk hzk s1 s2 hds
      go_wp2_with (go_at_call 72; refine hD.mono ?_; rintro e u ⟨rfl, bu⟩)
      go_roundw
      case rel => exact ⟨k + 1, T2, rfl, by go_num, HJ.out, hs2, hE2, hb.trans (bu.mono hb.size)⟩
      case measure => have := HJ.out; simp [intOf]; omega
    · obtain rfl : k = n := by omega
      have hnl : ¬ ((k : Int) < (k : Int)) := by omega
      have hF : Hid (T = blankS zs) := by
        show _ = _
        have h := hE.out
        rw [List.take_of_length_le (by omega)] at h
        apply ByteArray.ext
        rw [← Array.toList_inj, h]
        simp [blankS]
      clear hE
      go_wp2
      go_ret
      exact ⟨by rw [← hF.out]; rfl, hb⟩
theorem awRef_any (w : World) : Calls Tryd.prog 52 #[] w fun e w' => ∃ b, e = .returned (.slice (some ⟨b, 0, none⟩) 9 9) ∧ (b < w'.heap.size ∧ ∀ i, i < 9 → w'.cell? ⟨b, i, none⟩ = some (.string (aWord i))) ∧ Below w.heap.size w w' := by
  have b0 : Below w.heap.size w (w.alloc (.cells #[.string ⟨#[]⟩, .string (aWord 1), .string (aWord 2), .string (aWord 3), .string (aWord 4), .string (aWord 5), .string (aWord 6), .string (aWord 7), .string (aWord 8)] 9)) := (Below.refl _ _).alloc (Nat.le_refl _) _
  have bx := boxn_new w #[.string ⟨#[]⟩, .string (aWord 1), .string (aWord 2), .string (aWord 3), .string (aWord 4), .string (aWord 5), .string (aWord 6), .string (aWord 7), .string (aWord 8)] 9 9 rfl
  have HF : Hid ((w.heap.size < (w.alloc (.cells #[.string ⟨#[]⟩, .string (aWord 1), .string (aWord 2), .string (aWord 3), .string (aWord 4), .string (aWord 5), .string (aWord 6), .string (aWord 7), .string (aWord 8)] 9)).heap.size ∧ ∀ i, i < 9 → (w.alloc (.cells #[.string ⟨#[]⟩, .string (aWord 1), .string (aWord 2), .string (aWord 3), .string (aWord 4), .string (aWord 5), .string (aWord 6), .string (aWord 7), .string (aWord 8)] 9)).cell? ⟨w.heap.size, i, none⟩ = some (.string (aWord i))) ∧ Below w.heap.size w (w.alloc (.cells #[.string ⟨#[]⟩, .string (aWord 1), .string (aWord 2), .string (aWord 3), .string (aWord 4), .string (aWord 5), .string (aWord 6), .string (aWord 7), .string (aWord 8)] 9))) := ⟨⟨bx.lt, fun i hi => by
    rw [(bx.c i hi).1]
    rcases (by omega : i = 0 ∨ i = 1 ∨ i = 2 ∨ i = 3 ∨ i = 4 ∨ i = 5 ∨ i = 6 ∨ i = 7 ∨ i = 8) with rfl | rfl | rfl | rfl | rfl | rfl | rfl | rfl | rfl <;> rfl⟩, b0⟩
  clear b0 bx
  go_enter Tryd.func52, Tryd.ntmps52
  go_wp2
  go_ret
  exact ⟨_, rfl, HF.out.1, HF.out.2⟩
theorem cwRef_any (w : World) : Calls Tryd.prog 54 #[] w fun e w' => ∃ b, e = .returned (.slice (some ⟨b, 0, none⟩) 6 6) ∧ (b < w'.heap.size ∧ ∀ i, i < 6 → w'.cell? ⟨b, i, none⟩ = some (.string (cWord i))) ∧ Below w.heap.size w w' := by
  have b0 : Below w.heap.size w (w.alloc (.cells #[.string ⟨#[]⟩, .string (cWord 1), .string (cWord 2), .string (cWord 3), .string (cWord 4), .string (cWord 5)] 9)) := (Below.refl _ _).alloc (Nat.le_refl _) _
  have bx := boxn_new w #[.string ⟨#[]⟩, .string (cWord 1), .string (cWord 2), .string (cWord 3), .string (cWord 4), .string (cWord 5)] 9 6 rfl
  have HF : Hid ((w.heap.size < (w.alloc (.cells #[.string ⟨#[]⟩, .string (cWord 1), .string (cWord 2), .string (cWord 3), .string (cWord 4), .string (cWord 5)] 9)).heap.size ∧ ∀ i, i < 6 → (w.alloc (.cells #[.string ⟨#[]⟩, .string (cWord 1), .string (cWord 2), .string (cWord 3), .string (cWord 4), .string (cWord 5)] 9)).cell? ⟨w.heap.size, i, none⟩ = some (.string (cWord i))) ∧ Below w.heap.size w (w.alloc (.cells #[.string ⟨#[]⟩, .string (cWord 1), .string (cWord 2), .string (cWord 3), .string (cWord 4), .string (cWord 5)] 9))) := ⟨⟨bx.lt, fun i hi => by
    rw [(bx.c i hi).1]
    rcases (by omega : i = 0 ∨ i = 1 ∨ i = 2 ∨ i = 3 ∨ i = 4 ∨ i = 5) with rfl | rfl | rfl | rfl | rfl | rfl <;> rfl⟩, b0⟩
  clear b0 bx
  go_enter Tryd.func54, Tryd.ntmps54
  go_wp2
  go_ret
  exact ⟨_, rfl, HF.out.1, HF.out.2⟩
end Go.Proofs.YtlaagfnoepcnlaaDoor.Ln
/- The document's sixteenth and wholes. -/
namespace Go.Proofs.YtlaagfnoepcnlaaDoor.Ln
open Go.ChangeShapes Go.WideShapes Go.ChangeAt Go.RowKit
open Go.Proofs.YtlaagfnoepcnlaaDoor.St (BoxN boxn_new own_below IsRow Elem own_isRow)
set_option linter.unusedVariables false

theorem dgt_none {c : UInt8} (h : ∀ j, j < 16 → hexD j ≠ c) : dgt c = -1 := by
  have hg := Lib.indexByte_ge digs c
  by_cases h0 : 0 ≤ dgt c
  · have := hexD_dgt h0
    exact absurd this.1 (h _ this.2)
  · have : -1 ≤ dgt c := hg
    omega
set_option maxHeartbeats 4000000 in
theorem sixteenth_any (c : UInt8) (C : Nat) (w : World) (hC : c.toNat = C) :
    Calls Tryd.prog 81 #[.int .u8 (C : Int)] w fun e w' => e = .returned (.int .i64 (dgt c)) ∧ Below w.heap.size w w' := by
  obtain ⟨R, eR⟩ : ∃ R, R = dgt c := ⟨_, rfl⟩
  have HN : Hid ((∀ j, j < 16 → hexD j ≠ c) → R = -1) := fun h => by rw [eR]; exact dgt_none h
  have HY : Hid (∀ j, j < 16 → hexD j = c → R = (j : Int)) := fun j hj h => by rw [eR, ← h]; exact dgt_hex ⟨j, hj⟩
  rw [← eR]
  clear eR
  go_enter Tryd.func81, Tryd.ntmps81
  go_upto_region 2 with (fail)
  go_loopw [3] (fun s3 wr => ∃ (k : Nat), s3 = .int .i64 (k : Int) ∧ k ≤ 16 ∧ Hid (∀ j, j < k → hexD j ≠ c) ∧ Below w.heap.size w wr) (fun s3 _ => 16 - (intOf s3).toNat)
  case atStart => exact ⟨0, rfl, by omega, (by intro j hj; omega), Below.refl _ _⟩
  case round =>
    obtain ⟨k, rfl, hk, hK, hb⟩ := hrel
    by_cases hlt : k < 16
    · have hlt' : (k : Int) < 16 := by omega
      have hH := hexRef_any k wr hlt
      obtain ⟨X, eX⟩ : ∃ X, X = (hexD k).toNat := ⟨_, rfl⟩
      rw [← eX] at hH
      by_cases he : X = C
      · have hRk := HY.out k hlt (UInt8.toNat_inj.1 (by rw [← eX, he, hC]))
        subst he
        clear HN HY hK eX
        go_wp2_with (go_at_call 55; refine hH.mono ?_; rintro e u ⟨rfl, hu⟩; have hbu := hb.trans (hu.mono hb.size))
        go_ret
        exact ⟨by first | (rw [hRk]; done) | (rw [hRk]; rfl) | rfl, hbu⟩
      · have hne : hexD k ≠ c := fun h => he (by rw [eX, h, hC])
        have HK2 : Hid (∀ j, j < k + 1 → hexD j ≠ c) := fun j hj => by
          by_cases hjk : j = k
          · rw [hjk]; exact hne
          · exact hK.out j (by omega)
        have he' : ¬ ((X : Int) = (C : Int)) := by omega
        clear hK eX hne HY
        go_wp2_with (go_at_call 55; refine hH.mono ?_; rintro e u ⟨rfl, hu⟩; have hbu := hb.trans (hu.mono hb.size))
        go_roundw
        case rel => exact ⟨k + 1, by go_num, by omega, HK2, hbu⟩
        case measure => simp [intOf]; omega
    · obtain rfl : k = 16 := by omega
      have hR := HN.out hK.out
      clear HN HY hK
      go_wp2
      go_ret
      exact ⟨by first | (rw [hR]; done) | (rw [hR]; rfl) | rfl, hb⟩
end Go.Proofs.YtlaagfnoepcnlaaDoor.Ln
/- The document's wholes: all words are numbers. -/
namespace Go.Proofs.YtlaagfnoepcnlaaDoor.Ln
open Go.ChangeShapes Go.WideShapes Go.ChangeAt Go.RowKit
open Go.Proofs.YtlaagfnoepcnlaaDoor.St (BoxN boxn_new own_below IsRow Elem own_isRow)
set_option linter.unusedVariables false

/-- Numbers of all words. -/
def WholesTo (ws : List ByteArray) (w w' : World) (e : Ending) : Prop := ∃ a n c zs, e = .returned (.tuple #[.slice a n c, .bool (stKept (txt ws)).isSome]) ∧ w'.ownsRow w.heap.size 3 1 (.slice a n c) n (St.flat iC zs) ∧ zs.length = n ∧ (∀ z ∈ zs, i64n z) ∧ (∀ l, stKept (txt ws) = some l → zs = l) ∧ Below w.heap.size w w'
theorem kept_at {ws : List ByteArray} {k : Nat} (hk : k < ws.length) : stKept ((txt ws).drop k) = match numL (ws.getD k .empty).data.toList with | none => none | some n => (stKept ((txt ws).drop (k + 1))).map (n :: ·) := by
  have hl : k < (txt ws).length := by simpa [txt] using hk
  rw [List.drop_eq_getElem_cons hl, stKept]
  have e : (txt ws)[k] = (ws.getD k .empty).data.toList := by simp [txt, List.getD, hk]
  rw [e]
  rfl
theorem numL_i64 {l : List UInt8} {n : Int} (h : numL l = some n) : i64n n := by
  unfold numL at h
  split at h
  · rename_i v e
    split at h
    · cases h; exact atoi_range e
    · cases h
  · cases h
set_option maxRecDepth 100000 in
set_option maxHeartbeats 8000000 in
theorem wholes_any (a : Option Addr) (n c : Nat) (ws : List ByteArray) (w : World) (h : IsStrs w a n c ws) (hn8 : n ≤ 8000000000000) (hz : ∀ x ∈ ws, x.size ≤ 140737488355328) :
    Calls Tryd.prog 59 #[.slice a n c] w fun e w' => WholesTo ws w w' e := by
  obtain ⟨iE, EI⟩ := iCElem
  obtain ⟨O, eO⟩ : ∃ O, O = stKept (txt ws) := ⟨_, rfl⟩
  have HFin : Hid (∀ (w' : World) (a5 : Option Addr) (n5 c5 : Nat) (zs : List Int), w'.ownsRow w.heap.size 3 1 (.slice a5 n5 c5) n5 (St.flat iC zs) → zs.length = n5 → (∀ z ∈ zs, i64n z) → (∀ l, O = some l → zs = l) → Below w.heap.size w w' → WholesTo ws w w' (.returned (.tuple #[.slice a5 n5 c5, .bool O.isSome]))) := fun w' a5 n5 c5 zs h1 h2 h3 h4 h5 => ⟨a5, n5, c5, zs, by rw [eO], h1, h2, h3, by rw [← eO]; exact h4, h5⟩
  have hwl := h.1
  have HS : Hid (∀ U, Below w.heap.size w U → IsStrs U a n c ws) := fun U hU => h.below hU
  have HO0 : Hid (O = (stKept ((txt ws).drop 0)).map (([] : List Int) ++ ·)) := by show _ = _; rw [eO, List.drop_zero]; cases stKept (txt ws) <;> simp
  have HZ : Hid (∀ x ∈ ws, x.size ≤ 140737488355328) := hz
  clear eO h hz
  go_enter Tryd.func59, Tryd.ntmps59
  go_upto_region 3 with (fail)
  go_loopw [4, 5] (fun s4 s5 wr => ∃ (a5 : Option Addr) (c5 k : Nat) (zs : List Int), s4 = .slice a5 k c5 ∧ s5 = .int .i64 (k : Int) ∧ k ≤ n ∧ zs.length = k ∧ Hid (wr.ownsRow w.heap.size 3 1 (.slice a5 k c5) k (St.flat iC zs)) ∧ Hid (∀ z ∈ zs, i64n z) ∧ Hid (O = (stKept ((txt ws).drop k)).map (zs ++ ·)) ∧ Hid (Below w.heap.size w wr)) (fun _ s5 _ => n - (intOf s5).toNat)
  case atStart => exact ⟨none, 0, 0, [], rfl, rfl, by omega, rfl, ⟨rfl, Or.inl ⟨rfl, rfl⟩⟩, (by intro z hz; cases hz), HO0, Below.refl _ _⟩
  case round =>
    clear HO0
    obtain ⟨a5, c5, k, zs, rfl, rfl, hk, hzl, HOw, HI, HT, HB⟩ := hrel
    obtain ⟨wo, ewo⟩ : ∃ X : World, X = wr := ⟨_, rfl⟩
    subst ewo
    by_cases hlt : k < n
    · have hlt' : (k : Int) < (n : Int) := by omega
      obtain ⟨b, off, rfl, zb, hc⟩ := (HS.out wo HB.out).2.2.2 (by omega)
      have hck := hc k hlt
      obtain ⟨⟨⟨L⟩⟩, eL⟩ : ∃ x, x = ws.getD k .empty := ⟨_, rfl⟩
      rw [← eL] at hck
      have hLz : L.length ≤ 140737488355328 := HZ.out ⟨⟨L⟩⟩ (by rw [eL]; simp [List.getD, show k < ws.length by omega])
      have HT2 : Hid (O = (match numL L with | none => none | some m => (stKept ((txt ws).drop (k + 1))).map (m :: ·)).map (zs ++ ·)) := by
        show _ = _
        rw [HT.out, kept_at (by omega), ← eL]
      have hW := whole_any L wo hLz
      rw [whole_num] at hW
      have hck' : wo.cell? ⟨b, off + k, none⟩ = some (.string ⟨L.toArray⟩) := hck
      clear hc hck eL HT
      cases eN : numL L with
      | none =>
        rw [eN] at hW
        replace hW := hW.mono (fun e u h => (show e = .returned (.tuple #[.int .i64 0, .bool false]) ∧ u = wo from h))
        have HE : O = none := by rw [HT2.out, eN]; rfl
        have HR := HFin.out wo none 0 0 [] ⟨rfl, Or.inl ⟨rfl, rfl⟩⟩ rfl (by intro z hz; cases hz) (by intro l hl; rw [HE] at hl; cases hl) HB.out
        rw [HE] at HR
        have HR2 : Hid (WholesTo ws w wo (.returned (.tuple #[.slice none 0 0, .bool false]))) := HR
        clear HR HE HT2 HOw HI HFin HS HZ eN
        go_wp2_with (go_at_call 80; refine hW.mono ?_; rintro e u ⟨rfl, hu⟩; rw [hu]; clear hu)
        go_ret2
        exact HR2.out
      | some m =>
        rw [eN] at hW
        replace hW := hW.mono (fun e u h => (show e = .returned (.tuple #[.int .i64 m, .bool true]) ∧ u = wo from h))
        have him := numL_i64 eN
        have HT3 : Hid (O = (stKept ((txt ws).drop (k + 1))).map ((zs ++ [m]) ++ ·)) := by
          show _ = _
          rw [HT2.out, eN]
          show Option.map _ (Option.map _ _) = Option.map _ _
          cases stKept ((txt ws).drop (k + 1)) with
          | none => rfl
          | some t => simp
        have HI2 : Hid (∀ z ∈ zs ++ [m], i64n z) := fun z hz => by
          rcases List.mem_append.1 hz with h | h
          · exact HI.out z h
          · simp only [List.mem_singleton] at h
            subst h
            exact him
        have hk1 : IntKind.i64.wrap ((k : Int) + 1) = ((k + 1 : Nat) : Int) := by rw [IntKind.wrap_i64]; omega
        have HFn : Hid (∀ (w5 : World), (wo.alloc (.cells #[.int .i64 m] 3)).grownBy w5 (Value.slice a5 k c5).ownBlock → Below w.heap.size w w5) := fun w5 h8 => by
          have b1 : Below w.heap.size w (wo.alloc (.cells #[.int .i64 m] 3)) := HB.out.alloc HB.out.size _
          exact b1.grown h8 b1.size (fun g hg => (HOw.out.lt g hg).1)
        have hz1 : w.heap.size ≤ wo.heap.size := HB.out.size
        have hO1 := HOw.out
        clear HT2 HI eN HFin HS HZ him HOw
        go_wp2_with (first | (go_at_call 80; refine hW.mono ?_; rintro e u ⟨rfl, hu⟩; rw [hu]; clear hu) | (at_builtin; go_loud (refine St.wpList_append_row EI (by rfl) _ _ (by rfl) w.heap.size (.slice a5 k c5) k zs (by rfl) (own_below hO1 ((Below.refl _ _).alloc (Nat.le_refl _) _)) _ 1 1 [m] (by rfl) (int1 wo m _ rfl) (by unfold maxLen; omega) (by omega) (by simp; omega) ?_; intro a6 c6 w5 own5 gr5 at5; have HF5 : Hid (Below w.heap.size w w5) := HFn.out w5 gr5)))
        go_roundw
        case rel => exact ⟨a6, c6, k + 1, zs ++ [m], rfl, by go_num, by omega, by simp [hzl], own5, HI2, HT3, HF5⟩
        case measure => simp [intOf]; omega
    · obtain rfl : k = n := by omega
      have hnl : ¬ ((k : Int) < (k : Int)) := by omega
      have HE : O = some zs := by
        rw [HT.out, List.drop_of_length_le (by simp [txt]; omega)]
        simp [stKept]
      have HR := HFin.out wo a5 k c5 zs HOw.out hzl HI.out (by intro l hl; rw [HE] at hl; cases hl; rfl) HB.out
      rw [HE] at HR
      have HR2 : Hid (WholesTo ws w wo (.returned (.tuple #[.slice a5 k c5, .bool true]))) := HR
      clear HR HE HT HOw HI HFin HS HZ
      go_wp2
      go_ret2
      exact HR2.out
end Go.Proofs.YtlaagfnoepcnlaaDoor.Ln
