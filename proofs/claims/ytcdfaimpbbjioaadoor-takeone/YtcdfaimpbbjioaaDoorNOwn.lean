/- The contract of net.own: the same in memory of its own. -/
import Derived.Test.YtcdfaimpbbjioaaDoorNFly
import Derived.Test.YtcdfaimpbbjioaaDoorNCheck
import Derived.Test.YtcdfaimpbbjioaaDoorNAppend
import Derived.Deep.RegionHeld3
import Derived.Deep.DeepCutAuto
namespace Go.Proofs.YtcdfaimpbbjioaaDoor.Nt
open Go.ChangeShapes Go.WideShapes Go.ChangeAt Go.RowKit
set_option linter.unusedVariables false

/-- What is known of messages, and of lists of them. -/
theorem msElem : ∃ i, Elem 12 mcells 40 28 i (.agg #[.int .i64 0, .int .i64 0, .int .i64 0, .int .i64 0, .int .i64 0, .int .i64 0, .int .i64 0, .int .i64 0, .int .i64 0, .int .i64 0, .bool false, .int .i64 0]) 96 := by
  obtain ⟨j0, hj, lj0, lj1, lj2⟩ := info_parts msInfo
  exact ⟨j0, mcells_len, by decide, mcells_one, Tryd.underlying28, hj, lj0, lj1, lj2, rfl⟩
theorem flElem : ∃ i, Elem 1 FL.cells 28 30 i (.slice none 0 0) 24 := by
  obtain ⟨j0, hj, lj0, lj1, lj2⟩ := info_parts slInfo
  exact ⟨j0, fcells_len, by decide, fcells_one, Tryd.underlying30, hj, lj0, lj1, lj2, rfl⟩

theorem own_new {v : Value} {H m : Nat} (h : v.ownBlock = (Value.slice none 0 0).ownBlock ∨ v.ownBlock = some H) (hm : v.ownBlock = some m) : H ≤ m := by
  rcases h with h | h
  · rw [hm] at h
    simp [Value.ownBlock] at h
  · rw [hm] at h
    simp at h
    omega
/-- Lists that hold the same messages. -/
def SameFl (fs gs : List FL) : Prop := gs.length = fs.length ∧ ∀ i, i < fs.length → (gs.getD i default).ms = (fs.getD i default).ms

set_option maxRecDepth 100000 in
set_option maxHeartbeats 2000000 in
theorem own_any (fa : Option Addr) (fl fc : Nat) (fs : List FL) (w : World) (h : IsFly w fa fl fc fs) (h16 : fl ≤ 16) (h30 : ∀ i, i < fl → (fs.getD i default).len ≤ 30) :
    Calls Tryd.prog 17 #[.slice fa fl fc] w fun e w' => ∃ g gs, e = .returned (.slice (some ⟨g, 0, none⟩) fl fl) ∧ OwnFly w' w.heap.size (.slice (some ⟨g, 0, none⟩) fl fl) gs ∧ SameFl fs gs ∧ Below w.heap.size w w' := by
  obtain ⟨i0, hi, li0, li1, li2⟩ := info_parts slInfo
  obtain ⟨j0, E⟩ := msElem
  have HN : Hid (fs.length = fl) := h.row.1
  have H30 : Hid (∀ i, i < fl → (fs.getD i default).len ≤ 30) := h30
  clear h30
  go_enter Tryd.func17, Tryd.ntmps17
  go_wp2_with (refine wpList_make_full _ (by rfl) (.tmp 7) (.tmp 7) 30 (by rfl) w.heap.size 28 i0 (.slice none 0 0) 1 Tryd.underlying30 hi li0 li1 .i64 .i64 _ _ fl (by rfl) (by rfl) (by rfl) (by rfl) (by rw [li2]; omega) (by unfold maxLen; omega) (Nat.le_refl _) ?_; intro w1 hown hgr)
  have hO := ownFly_made hown
  have hb0 := grownN hgr
  clear hown hgr
  obtain ⟨g, eg⟩ : ∃ g, g = w.heap.size := ⟨_, rfl⟩
  have HG : Hid (g = w.heap.size) := eg
  go_loopw [11] (fun i wr => ∃ (k : Nat) (gs : List FL), k ≤ fl ∧ i = .int .i64 k ∧ OwnFly wr w.heap.size (.slice (some ⟨w.heap.size, 0, none⟩) fl fl) gs ∧ Hid (gs.length = fl ∧ (∀ j, j < k → (gs.getD j default).ms = (fs.getD j default).ms) ∧ ∀ j, k ≤ j → gs.getD j default = default) ∧ Below w.heap.size w wr) (fun i _ => fl - (intOf i).toNat)
  case atStart => exact ⟨0, _, Nat.zero_le _, rfl, hO, ⟨by simp, fun j hj => absurd hj (Nat.not_lt_zero j), fun j _ => by by_cases hj : j < fl <;> simp [List.getD, hj]⟩, hb0⟩
  case round =>
    obtain ⟨k, gs, hk, rfl, hOk, hgs, hb⟩ := hrel
    by_cases hlt : k < fl
    · have hlt' : (k : Int) < (fl : Int) := by omega
      have h30 := H30.out k hlt
      obtain ⟨b, off, rfl, hlb, hcell, hM⟩ := (h.below hb).at hlt
      obtain ⟨f, ef⟩ : ∃ f, f = fs.getD k default := ⟨_, rfl⟩
      have EF : Hid (f = fs.getD k default) := ef
      rw [← ef] at hcell hM h30
      clear ef
      obtain ⟨xa, xl, xc, xs⟩ := f
      simp only [] at hcell hM h30
      have hgl : w.heap.size < wr.heap.size := (hOk.row.lt w.heap.size rfl).2
      have hE := hgs.out.2.2 k (Nat.le_refl _)
      have HG : Hid (gs.length = fl) := hgs.out.1
      go_upto_region 5 with (fail)
      go_wp2_with (first | (at_builtin; go_loud (refine wpList_append_row E (by rfl) _ _ (by rfl) w.heap.size (.slice none 0 0) 0 [] (by rfl) (World.ownsRow_nil _ _ _ _) xa xl xc xs (by rfl) hM (by unfold maxLen; omega) (by omega) (Nat.le_of_lt hgl) ?_; intro a5 c5 w5 own5 gr5 at5; simp only [Nat.zero_add, List.nil_append] at own5 at5 ⊢; have hPut := hOk.put (k := k) (f := ⟨a5, xl, c5, xs⟩) (by rw [HG.out]; exact hlt) (by rw [hE]; exact gr5) own5 hM.1 (.inr (fun m hm => own_new at5 hm)); obtain ⟨hO5, fz5, ⟨u5, cl5⟩, _, _⟩ := hPut; simp only [FL.val] at hO5)))
      go_roundw
      case rel =>
        refine ⟨k + 1, _, by omega, by go_num, hO5, ?_, ?_⟩
        · refine ⟨by simpa using HG.out, fun j hj => ?_, fun j hj => ?_⟩
          · rw [getD_set _ _ _ _ (by rw [HG.out]; exact hlt)]
            split
            · rename_i e
              rw [e, ← EF.out]
            · exact hgs.out.2.1 j (by omega)
          · rw [getD_set _ _ _ _ (by rw [HG.out]; exact hlt), if_neg (by omega)]
            exact hgs.out.2.2 j (by omega)
        · exact (hb.grown gr5 hb.size (fun m hm => by simp [Value.ownBlock] at hm)).setCell (by simp) _
      case measure => simp [intOf]; omega
    · go_wp2
      go_ret
      obtain ⟨q1, q2, _⟩ := hgs.out
      exact ⟨w.heap.size, gs, rfl, hOk, ⟨by rw [q1, HN.out], fun i hi => q2 i (by rw [HN.out] at hi; omega)⟩, hb⟩
end Go.Proofs.YtcdfaimpbbjioaaDoor.Nt
