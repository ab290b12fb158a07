/- Contracts of the document's bytesOf and bitByte: a number as so many bytes, a yes or no as one, in new memory. -/
import Derived.Test.YtilhkonanncfiaaDoorWBytes
import Derived.Test.YtilhkonanncfiaaDoorWNum
import Derived.LoopTactic
namespace Go.Proofs.YtilhkonanncfiaaDoor
open Go.ChangeShapes Go.WideShapes Go.ChangeAt Go.RowKit
set_option linter.unusedVariables false

theorem be_at (n : Int) : ∀ (k j : Nat), j < k → (be n k).getD j 0 = n / 256 ^ (k - 1 - j) % 256 := by
  intro k
  induction k with
  | zero => intro j hj; omega
  | succ k ih =>
    intro j hj
    cases j with
    | zero => simp [be]
    | succ j =>
      have := ih j (by omega)
      simp only [be, List.getD_cons_succ]
      rw [this]
      congr 2
      congr 1
      omega
theorem be_take {n : Int} {k j : Nat} (hj : j < k) : (be n k).take (j + 1) = (be n k).take j ++ [n / 256 ^ (k - 1 - j) % 256] := by
  have hl : j < (be n k).length := by rw [be_len]; exact hj
  rw [List.take_succ_eq_append_getElem hl, ← be_at n k j hj]
  simp [List.getD, hl]
theorem wrapB {n : Int} (h : -9223372036854775808 ≤ n ∧ n ≤ 9223372036854775807) : IntKind.i64.wrap n = n := by
  simp [IntKind.wrap, IntKind.bits, IntKind.signed]
  omega
theorem wrapU {n : Int} (h : 0 ≤ n ∧ n < 256) : IntKind.u8.wrap n = n := by
  simp [IntKind.wrap, IntKind.bits, IntKind.signed]
  omega
theorem pow_bd {e : Nat} (h : e ≤ 3) : (1 : Int) ≤ 256 ^ e ∧ (256 : Int) ^ e ≤ 16777216 := by
  rcases (by omega : e = 0 ∨ e = 1 ∨ e = 2 ∨ e = 3) with rfl | rfl | rfl | rfl <;> decide

set_option maxRecDepth 100000 in
set_option maxHeartbeats 1000000 in
theorem bytesOf_any (n : Int) (k : Nat) (w : World) (h0 : 0 ≤ n) (h1 : n ≤ 9223372036854775807) (hk1 : 1 ≤ k) (hk4 : k ≤ 4) :
    Calls Tryd.prog 21 #[.int .i64 n, .int .i64 (k : Int)] w fun e w' => ∃ a' c', e = .returned (.slice a' k c') ∧ w'.ownsRow w.heap.size 5 1 (.slice a' k c') k (bytesV (be n k)) ∧ Below w.heap.size w w' := by
  go_enter Tryd.func21, Tryd.ntmps21
  go_wp2
  go_loopw [6, 7] (fun f i wr => ∃ (j : Nat) (G : Int), 1 ≤ j ∧ j ≤ k ∧ f = .int .i64 G ∧ i = .int .i64 (j : Int) ∧ Hid (G = 256 ^ (j - 1)) ∧ wr = w) (fun _ i _ => k - (intOf i).toNat)
  case atStart => exact ⟨1, 1, Nat.le_refl _, hk1, rfl, rfl, rfl, rfl⟩
  case round =>
    obtain ⟨j, G, hj1, hjk, rfl, rfl, hG, rfl⟩ := hrel
    have hGb : 1 ≤ G ∧ G ≤ 16777216 := by rw [hG.out]; exact pow_bd (by omega)
    by_cases hlt : j < k
    · have hlt' : (j : Int) < (k : Int) := by omega
      have wG : IntKind.i64.wrap (G * 256) = G * 256 := wrapB (by omega)
      go_wp2
      go_roundw
      case rel =>
        refine ⟨j + 1, G * 256, by omega, by omega, rfl, by go_num, ?_, by first | rfl | trivial⟩
        show _ = _
        rw [hG.out, show j + 1 - 1 = (j - 1) + 1 by omega, Int.pow_succ]
      case measure => simp [intOf]; omega
    · obtain rfl : j = k := by omega
      have hlt' : ¬ (j : Int) < (j : Int) := by omega
      have HG0 : Hid (G = 256 ^ (j - 1)) := hG
      clear hG
      rename World => wo
      go_upto_region 8 with (fail)
      go_loopw [5, 6, 8] (fun v f i wx => ∃ (q : Nat) (F : Int) (a5 : Option Addr) (c5 : Nat) (cs : List Int), q ≤ j ∧ v = .slice a5 q c5 ∧ f = .int .i64 F ∧ i = .int .i64 (q : Int) ∧ Hid (q < j → F = 256 ^ (j - 1 - q)) ∧ 0 ≤ F ∧ F ≤ 16777216 ∧ Hid (cs = (be n j).take q) ∧ cs.length = q ∧ wx.ownsRow wo.heap.size 5 1 (.slice a5 q c5) q (bytesV cs) ∧ Below wo.heap.size wo wx) (fun _ _ i _ => j - (intOf i).toNat)
      case atStart => exact ⟨0, G, none, 0, [], Nat.zero_le _, rfl, rfl, rfl, (fun _ => HG0.out), by omega, by omega, rfl, rfl, World.ownsRow_nil _ _ _ _, Below.refl _ _⟩
      case round =>
        obtain ⟨q, F, a5, c5, cs, hq, rfl, rfl, rfl, hF, hF0, hF1, hcs, hcl, hown, hb⟩ := hrel
        by_cases hlt : q < j
        · have hlt2 : (q : Int) < (j : Int) := by omega
          have hFe := hF.out hlt
          have hFp : 1 ≤ F := by rw [hFe]; exact (pow_bd (by omega)).1
          have hFz : ¬ F = 0 := by omega
          have e1 : n.tdiv F = n / F := Int.tdiv_eq_ediv_of_nonneg h0
          have hq0 : 0 ≤ n / F := Int.ediv_nonneg h0 (by omega)
          have hq1 : n / F ≤ n := Int.ediv_le_self _ h0
          have HN : Hid ((be n j).take (q + 1) = cs ++ [n / F % 256]) := by
            show _ = _
            rw [be_take hlt, ← hFe, hcs.out]
          have HNX : Hid (q + 1 < j → F / 256 = 256 ^ (j - 1 - (q + 1))) := fun h => by
            rw [hFe, show j - 1 - q = (j - 1 - (q + 1)) + 1 by omega, Int.pow_succ]
            exact Int.mul_ediv_cancel _ (by decide)
          clear hFe
          obtain ⟨D, eD⟩ : ∃ D, D = n / F := ⟨_, rfl⟩
          rw [← eD] at e1 hq0 hq1 HN
          clear eD
          have wD : IntKind.i64.wrap D = D := wrapB (by omega)
          have e2 : D.tmod 256 = D % 256 := Int.tmod_eq_emod_of_nonneg hq0
          obtain ⟨R, eR⟩ : ∃ R, R = D % 256 := ⟨_, rfl⟩
          have hR : 0 ≤ R ∧ R < 256 := by omega
          rw [← eR] at e2 HN
          clear eR
          have wR : IntKind.i64.wrap R = R := wrapB (by omega)
          have uR : IntKind.u8.wrap R = R := wrapU hR
          have mR : R % 256 = R := by omega
          have e3 : F.tdiv 256 = F / 256 := Int.tdiv_eq_ediv_of_nonneg (by omega)
          obtain ⟨F2, eF2⟩ : ∃ F2, F2 = F / 256 := ⟨_, rfl⟩
          have hF2 : 0 ≤ F2 ∧ F2 ≤ 16777216 := by omega
          rw [← eF2] at e3 HNX
          clear eF2
          have wF : IntKind.i64.wrap F2 = F2 := wrapB (by omega)
          have hz := hb.size
          have hone := isB_one wr R hR.1 hR.2
          go_wp2_with (at_builtin; go_loud (refine wpList_append_bytes (by rfl) _ _ (by rfl) wo.heap.size (.slice a5 q c5) q cs (by rfl) (hown.alloc _) (some ⟨wr.heap.size, 0, none⟩) 1 1 [R] (by rfl) hone (by omega) (by simp; omega) ?_; intro v' w6 own6 gr6 at6; obtain ⟨a6, c6, rfl⟩ := own_slice own6))
          go_roundw
          case rel =>
            exact ⟨q + 1, F2, a6, c6, cs ++ [R], by omega, rfl, rfl, by go_num, HNX, hF2.1, hF2.2, HN.out.symm, by simp; omega, own6, (hb.alloc hz _).grown gr6 (by simp; omega) (fun m hm => (hown.lt m hm).1)⟩
          case measure => simp [intOf]; omega
        · obtain rfl : q = j := by omega
          have hfin : cs = be n q := by rw [hcs.out]; exact List.take_of_length_le (by rw [be_len]; exact Nat.le_refl _)
          rw [hfin] at hown
          clear hfin hcs hcl
          go_wp2
          go_ret
          exact ⟨a5, c5, rfl, hown, hb⟩
theorem bitByte_any (b : Bool) (w : World) : Calls Tryd.prog 22 #[.bool b] w fun e w' => ∃ a' c', e = .returned (.slice a' 1 c') ∧ w'.ownsRow w.heap.size 5 1 (.slice a' 1 c') 1 (bytesV [if b then 1 else 0]) ∧ Below w.heap.size w w' := by
  have key : ∀ x : Int, (w.alloc (.cells #[.int .u8 x] 5)).ownsRow w.heap.size 5 1 (.slice (some ⟨w.heap.size, 0, none⟩) 1 1) 1 (bytesV [x]) := fun x =>
    ⟨rfl, .inr ⟨w.heap.size, 1, _, rfl, Nat.le_refl _, heap_alloc_new w _, Nat.le_refl _, by unfold maxLen; omega, rfl, rfl⟩⟩
  have hb : ∀ x : Int, Below w.heap.size w (w.alloc (.cells #[.int .u8 x] 5)) := fun x => (Below.refl _ _).alloc (Nat.le_refl _) _
  cases b
  · go_enter Tryd.func22, Tryd.ntmps22
    go_wp2
    go_ret
    exact ⟨_, 1, rfl, key 0, hb 0⟩
  · go_enter Tryd.func22, Tryd.ntmps22
    go_wp2
    go_ret
    exact ⟨_, 1, rfl, key 1, hb 1⟩
end Go.Proofs.YtilhkonanncfiaaDoor
