/- The contract of label.purgeKeep: a copy of an act's Keep, in a crash with 0 at the places of labels that are not seen; in memory of its own. -/
import Derived.Test.YtjihmhijnpjnoaaGreatDoorHides
import Derived.Test.YtjihmhijnpjnoaaGreatDoorOwnMore
import Derived.LoopTactic
import Derived.WalkSmall
import Derived.Deep.AppendLies
namespace Go.Proofs.YtjihmhijnpjnoaaGreatDoor
open Go.ChangeShapes Go.WideShapes Go.ChangeAt Go.RowKit
set_option linter.unusedVariables false

theorem intInfo : (Tryz.prog.info? 3).map (fun i => (i.zero, i.size, i.bytes)) = some (some (.int .i64 0), 1, 8) := by kernel_rfl

def AV.val (a : AV) : Value := .agg #[.int .i64 a.kind, .int .i64 a.site, .int .i64 a.to, .int .i64 a.label, .int .i64 a.pick, .slice a.ka a.kl a.kc, .int .i64 a.c0, .int .i64 a.c1, .int .i64 a.c2, .int .i64 a.c3, .int .i64 a.c4, .string a.line]

/-- The Keep behind k rounds. -/
def keepAt (ls : List (Int × Int)) (l : Int) (keep : List Int) (k : Nat) : List Int := keep.zipIdx.map fun p => if p.2 < k ∧ hid ls l (p.2 : Int) = true then 0 else p.1
theorem keepAt_len (ls : List (Int × Int)) (l : Int) (keep : List Int) (k : Nat) : (keepAt ls l keep k).length = keep.length := by simp [keepAt]
theorem keepAt_zero (ls : List (Int × Int)) (l : Int) (keep : List Int) : keepAt ls l keep 0 = keep := by
  unfold keepAt
  apply List.ext_getElem (by simp)
  intro i h1 h2
  simp
theorem keepAt_end (ls : List (Int × Int)) (l : Int) (keep : List Int) : keepAt ls l keep keep.length = keepOf ls l 6 keep := by
  unfold keepAt keepOf
  rw [if_pos rfl]
  apply List.ext_getElem (by simp)
  intro i h1 h2
  have hi : i < keep.length := by simpa using h1
  simp [hi]
theorem keepAt_hid (ls : List (Int × Int)) (l : Int) (keep : List Int) (k : Nat) (hk : k < keep.length) (h : hid ls l (k : Int) = true) : keepAt ls l keep (k + 1) = (keepAt ls l keep k).set k 0 := by
  unfold keepAt
  apply List.ext_getElem (by simp)
  intro i h1 h2
  simp only [List.getElem_map, List.getElem_zipIdx, List.getElem_set, Nat.zero_add]
  by_cases e : k = i
  · subst e
    simp [h]
  · have : i < k + 1 ↔ i < k := by omega
    simp [e, this]
theorem keepAt_not (ls : List (Int × Int)) (l : Int) (keep : List Int) (k : Nat) (h : hid ls l (k : Int) = false) : keepAt ls l keep (k + 1) = keepAt ls l keep k := by
  unfold keepAt
  apply List.ext_getElem (by simp)
  intro i h1 h2
  simp only [List.getElem_map, List.getElem_zipIdx, Nat.zero_add]
  by_cases e : k = i
  · subst e
    simp [h]
  · have : i < k + 1 ↔ i < k := by omega
    simp [this]

theorem news_ints {w : World} {b off : Nat} {zs : List Int} (h : ∀ i, i < zs.length → w.cell? ⟨b, off + i, none⟩ = some (.int .i64 (zs.getD i 0))) : ∀ j u, (zs.map (Value.int .i64))[j]? = some u → w.cell? ((⟨b, off, none⟩ : Addr).add j) = some u := by
  intro j u hu
  have e : (⟨b, off, none⟩ : Addr).add j = ⟨b, off + j, none⟩ := by
    unfold Addr.add
    by_cases hj : j = 0 <;> simp [hj]
  have hj : j < zs.length := by
    have := (List.getElem?_eq_some_iff.1 hu).1
    simpa using this
  rw [e, h j hj, ← hu]
  simp [List.getD, hj]
theorem ints_one (zs : List Int) : ∀ u ∈ zs.map (Value.int .i64), u.oneCell' = true := by
  intro u hu
  simp at hu
  obtain ⟨_, _, rfl⟩ := hu
  rfl

end Go.Proofs.YtjihmhijnpjnoaaGreatDoor
