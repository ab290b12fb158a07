/- What a store has that is made of raw numbers: few transactions, few keys; what Read, Write and End leave so. -/
import Derived.Test.YtgohpgollpjlnaaDoorM14ShowHidden
namespace Go.Proofs.YtgohpgollpjlnaaDoor.St
open Go.ChangeShapes Go.WideShapes Go.ChangeAt Go.RowKit
set_option linter.unusedVariables false

def isT (t : Int × Int) : Prop := t ∈ [((0 : Int), (1 : Int)), (0, 2), (1, 1), (1, 2)]
structure Gd (p : PS) (v : Int) : Prop where
  ok : OKP p
  ver : ∀ x ∈ p.items, x.version ≤ v
  ik : ∀ x ∈ p.items, x.key ≤ 4
  lt : ∀ k ∈ p.locks, isT k.t ∧ k.key ≤ 4
  ot : ∀ t ∈ p.over, isT t
  da0 : ∀ d ∈ p.doubts, d.age = 0
theorem gd_nil : Gd PS.nil 1 := ⟨(okP_iff _).1 (by decide), by simp [PS.nil], by simp [PS.nil], by simp [PS.nil], by simp [PS.nil], by simp [PS.nil]⟩
theorem Gd.mono {p : PS} {v u : Int} (h : Gd p v) (hu : v ≤ u) : Gd p u := ⟨h.ok, fun x hx => by have := h.ver x hx; omega, h.ik, h.lt, h.ot, h.da0⟩
theorem holdL_mem {l : List LkV} {k o : LkV} (h : o ∈ holdL l k) : o = k ∨ o ∈ l := by
  unfold holdL at h
  split at h
  · rcases mem_set h with e | ⟨j, hj, _, e⟩
    · exact .inl e
    · exact .inr (e ▸ List.getElem_mem hj)
  · rcases List.mem_append.1 h with h | h
    · exact .inr h
    · simp at h; exact .inl h
theorem holdD0 {l : List DbV} {t : Int × Int} (h : ∀ d ∈ l, d.age = 0) : ∀ d ∈ holdD l t, d.age = 0 := by
  intro d hd
  unfold holdD at hd
  split at hd
  · exact h d hd
  · rcases List.mem_append.1 hd with hd | hd
    · exact h d hd
    · simp at hd; rw [hd]
theorem gd_read {s : SV} {v : Int} (h : Gd s.data v) {t : Int × Int} {key : Int} (ht : isT t) (hk : key ≤ 4) (he : readErr s t key = 0) : Gd (readData s t key) v := by
  have hok := read_ok he
  have e : readData s t key = if idxI (byT t key) s.locks < 0 then ⟨s.items, holdL s.locks ⟨t, key, false, 0, 0⟩, holdD s.doubts t, s.over⟩ else ⟨s.items, s.locks, s.doubts, s.over⟩ := by unfold readData; rw [if_pos he]
  rw [e] at hok ⊢
  split
  · rename_i hi
    rw [if_pos hi] at hok
    refine ⟨hok, h.ver, h.ik, fun k hk2 => ?_, h.ot, holdD0 h.da0⟩
    rcases holdL_mem hk2 with rfl | hk2
    · exact ⟨ht, hk⟩
    · exact h.lt k hk2
  · exact h
theorem gd_write {s : SV} {v : Int} (h : Gd s.data v) {t : Int × Int} {key value ask : Int} (ht : isT t) (hk : key ≤ 4) (he : writeErr s t key value ask = 0) : Gd (writeData s t key value ask) v := by
  have hok := write_ok he
  have e : writeData s t key value ask = ⟨s.items, holdL s.locks ⟨t, key, true, value, ask⟩, holdD s.doubts t, s.over⟩ := by unfold writeData; rw [if_pos he]
  rw [e] at hok ⊢
  refine ⟨hok, h.ver, h.ik, fun k hk2 => ?_, h.ot, holdD0 h.da0⟩
  rcases holdL_mem hk2 with rfl | hk2
  · exact ⟨ht, hk⟩
  · exact h.lt k hk2
theorem gd_end {s : SV} {v : Int} (h : Gd s.data v) (v1 : 1 ≤ v) (v2 : v ≤ 1048000) {t : Int × Int} {yes : Bool} (ht : isT t) (he : endErr s t yes = 0) : Gd (endData s t yes) (v + 24) := by
  obtain ⟨hok, hver⟩ := end_ok he v1 v2 h.ver
  have e : endData s t yes = ⟨if yes then putAll s.items (s.locks.filter (wOf t)) else s.items, keep (ofT t) s.locks, keep (dbT t) s.doubts, if t ∈ s.over then s.over else s.over ++ [t]⟩ := by unfold endData; rw [if_pos he]
  rw [e] at hok hver ⊢
  refine ⟨hok, hver, ?_, fun k hk2 => h.lt k (mem_keep.1 hk2).1, ?_, fun d hd => h.da0 d (mem_keep.1 hd).1⟩
  · show ∀ x ∈ (if yes then putAll s.items (s.locks.filter (wOf t)) else s.items), x.key ≤ 4
    split
    · exact putAll_keys (fun k => k ≤ 4) _ _ (fun k hk => (h.lt k (List.mem_filter.1 hk).1).2) h.ik
    · exact h.ik
  · show ∀ x ∈ (if t ∈ s.over then s.over else s.over ++ [t]), isT x
    split
    · exact h.ot
    · intro x hx
      rcases List.mem_append.1 hx with hx | hx
      · exact h.ot x hx
      · simp at hx; subst hx; exact ht
theorem nodup_le {α : Type} [BEq α] [LawfulBEq α] : ∀ (l m : List α), l.Nodup → (∀ x ∈ l, x ∈ m) → l.length ≤ m.length
  | [], m, _, _ => Nat.zero_le _
  | x :: r, m, h1, h2 => by
    rw [List.nodup_cons] at h1
    have hx := h2 x (by simp)
    have := nodup_le r (m.erase x) h1.2 (fun y hy => (List.mem_erase_of_ne (a := y) (b := x) (fun e => h1.1 (by rw [← e]; exact hy))).2 (h2 y (by simp [hy])))
    rw [List.length_erase_of_mem hx] at this
    have hp := List.length_pos_of_mem hx
    simp only [List.length_cons]
    omega
theorem Gd.over4 {p : PS} {v : Int} (h : Gd p v) : p.over.length ≤ 4 := nodup_le p.over _ h.ok.ov h.ot
theorem Gd.locks20 {p : PS} {v : Int} (h : Gd p v) : p.locks.length ≤ 20 := by
  have hn : (p.locks.map (fun k => (k.t, k.key))).Nodup := by
    rw [List.Nodup, List.pairwise_map]
    refine h.ok.nag.imp ?_
    intro a b hab e
    simp only [Prod.mk.injEq] at e
    simp [against, e.1, e.2] at hab
  have := nodup_le _ [(((0 : Int), (1 : Int)), (0 : Int)), ((0, 1), 1), ((0, 1), 2), ((0, 1), 3), ((0, 1), 4), ((0, 2), 0), ((0, 2), 1), ((0, 2), 2), ((0, 2), 3), ((0, 2), 4), ((1, 1), 0), ((1, 1), 1), ((1, 1), 2), ((1, 1), 3), ((1, 1), 4), ((1, 2), 0), ((1, 2), 1), ((1, 2), 2), ((1, 2), 3), ((1, 2), 4)] hn (fun x hx => by
    obtain ⟨k, hk, rfl⟩ := List.mem_map.1 hx
    obtain ⟨h1, h2⟩ := h.lt k hk
    have h3 := h.ok.lk k hk
    simp only [lockOK, Bool.and_eq_true] at h3
    have h4 := inR_of h3.1.1.1.2
    have h5 : k.key = 0 ∨ k.key = 1 ∨ k.key = 2 ∨ k.key = 3 ∨ k.key = 4 := by omega
    simp only [isT, List.mem_cons, List.not_mem_nil, or_false] at h1
    rcases h1 with e1 | e1 | e1 | e1 <;> rcases h5 with e2 | e2 | e2 | e2 | e2 <;> rw [e1, e2] <;> decide)
  simpa using this
theorem Gd.wf {s : SV} {v : Int} (h : Gd s.data v) : ∀ t ∈ s.over, TxWf t := by
  intro t ht
  have := h.ot t ht
  simp only [isT, List.mem_cons, List.not_mem_nil, or_false] at this
  rcases this with e | e | e | e <;> rw [e] <;> exact ⟨by decide, by decide⟩
theorem Gd.h4 {s : SV} {w : World} {v : Int} (h : Gd s.data v) (hs : IsStore w s) : s.ol * 16 ≤ 140737488351232 := by
  have h1 := h.over4
  have h2 : s.over.length = s.ol := hs.over.1
  have h3 : s.over.length ≤ 4 := h1
  omega
end Go.Proofs.YtgohpgollpjlnaaDoor.St
