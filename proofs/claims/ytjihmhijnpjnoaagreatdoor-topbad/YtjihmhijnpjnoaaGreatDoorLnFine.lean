/- Acts that may be, kind by kind. -/
import Derived.Test.YtjihmhijnpjnoaaGreatDoorLnPlain
import Derived.Test.YtjihmhijnpjnoaaGreatDoorOwnActs
namespace Go.Proofs.YtjihmhijnpjnoaaGreatDoor.Ln
open Go.ChangeShapes Go.WideShapes Go.ChangeAt Go.RowKit
set_option linter.unusedVariables false
/-- What is known of each act that is made. -/
def Fine (S : Int) (len : Nat) (a : AV) : Prop := inR a.kind 1 8 = true ∧ actIn S len a = true ∧ only (aHas.getD a.kind.toNat []) (aParts a) = true ∧ (a.kind = 1 → callFault a.c0 a.c1 a.c2 a.c3 a.c4 = 0)
theorem Fine.fault {S : Int} {len : Nat} {a : AV} {ls : List (Int × Int)} {p : Int} (h : Fine S len a) (hc : cfgFault S ls p = 0) (hl : ls.length = len) : actFault S ls p a = 0 := by
  obtain ⟨h1, h2, h3, h4⟩ := h
  unfold actFault
  rw [if_neg (by simpa using hc), if_neg (by rw [h1]; simp), if_neg (by rw [hl, h2]; simp), if_neg (by rw [h3]; simp)]
  by_cases hk : a.kind = 1
  · rw [if_pos hk]; exact h4 hk
  · rw [if_neg hk]
/-- Numbers that a Keep is given. -/
def K40 (zs : List Int) : Prop := ∀ z ∈ zs, 0 ≤ z ∧ z < 40
theorem k40_nil : K40 [] := fun z hz => by cases hz
theorem k40_snoc {zs : List Int} {z : Int} (h : K40 zs) (hz : 0 ≤ z ∧ z < 40) : K40 (zs ++ [z]) := fun x hx => by
  rcases List.mem_append.1 hx with hx | hx
  · exact h x hx
  · simp at hx; subst hx; exact hz
theorem k40_nums {zs : List Int} (h : K40 zs) : Nums zs := fun i => by
  by_cases hi : i < zs.length
  · have := h zs[i] (List.getElem_mem hi)
    have e : zs.getD i 0 = zs[i] := by simp [List.getD, hi]
    rw [e]
    omega
  · simp [List.getD, hi]
theorem in_site {S x : Int} (h : 0 ≤ x ∧ x < S) : inR x 0 (S - 1) = true := inR_true h.1 (by omega)
theorem in_plc {len : Nat} {x : Int} (h : 0 ≤ x ∧ x < (len : Int)) : plc x len = true := by simpa [plc] using h
theorem actIn_of {S : Int} {len : Nat} {a : AV} (h1 : a.kl ≤ len) (h2 : keepIn a.keep = true) (h3 : a.line.size ≤ 60) (h4 : 0 ≤ a.pick ∧ a.pick < 3) (h5 : 0 ≤ a.site ∧ a.site < S) (h6 : 0 ≤ a.to ∧ a.to < S) (h7 : 0 ≤ a.label ∧ a.label < (len : Int)) : actIn S len a = true := by
  unfold actIn
  rw [decide_eq_true h1, h2, decide_eq_true h3, inR_true h4.1 (by omega), in_site h5, in_site h6, in_plc h7]
  rfl
theorem fine_ask {S : Int} {len : Nat} {site label c0 c1 c2 c3 c4 : Int} (hs : 0 ≤ site ∧ site < S) (hl : 0 ≤ label ∧ label < (len : Int)) (hc : callFault c0 c1 c2 c3 c4 = 0) : Fine S len ⟨1, site, 0, label, 0, none, 0, 0, c0, c1, c2, c3, c4, .empty, []⟩ :=
  ⟨rfl, actIn_of (Nat.zero_le _) rfl (Nat.zero_le _) (by simp) hs ⟨Int.le_refl 0, by show (0 : Int) < S; omega⟩ hl, rfl, fun _ => hc⟩
theorem fine_go {S : Int} {len : Nat} {site to1 label pick : Int} (k : Int) (hk : 2 ≤ k ∧ k ≤ 4) (hs : 0 ≤ site ∧ site < S) (ht : 0 ≤ to1 ∧ to1 < S) (hl : 0 ≤ label ∧ label < (len : Int)) (hp : 0 ≤ pick ∧ pick < 3) : Fine S len ⟨k, site, to1, label, pick, none, 0, 0, 0, 0, 0, 0, 0, .empty, []⟩ := by
  rcases (by omega : k = 2 ∨ k = 3 ∨ k = 4) with rfl | rfl | rfl
  all_goals exact ⟨rfl, actIn_of (Nat.zero_le _) rfl (Nat.zero_le _) hp hs ht hl, rfl, fun h => by simp at h⟩
theorem fine_tick {S : Int} {len : Nat} (hS : 1 ≤ S) (hl : 1 ≤ len) : Fine S len ⟨5, 0, 0, 0, 0, none, 0, 0, 0, 0, 0, 0, 0, .empty, []⟩ :=
  ⟨rfl, actIn_of (Nat.zero_le _) rfl (Nat.zero_le _) (by simp) ⟨Int.le_refl 0, by show (0 : Int) < S; omega⟩ ⟨Int.le_refl 0, by show (0 : Int) < S; omega⟩ ⟨Int.le_refl 0, by show (0 : Int) < (len : Int); omega⟩, rfl, fun h => by simp at h⟩
theorem fine_start {S : Int} {len : Nat} {site : Int} (hs : 0 ≤ site ∧ site < S) (hl : 1 ≤ len) : Fine S len ⟨7, site, 0, 0, 0, none, 0, 0, 0, 0, 0, 0, 0, .empty, []⟩ :=
  ⟨rfl, actIn_of (Nat.zero_le _) rfl (Nat.zero_le _) (by simp) hs ⟨Int.le_refl 0, by show (0 : Int) < S; omega⟩ ⟨Int.le_refl 0, by show (0 : Int) < (len : Int); omega⟩, rfl, fun h => by simp at h⟩
theorem fine_type {S : Int} {len : Nat} {site label : Int} {t : ByteArray} (hs : 0 ≤ site ∧ site < S) (hl : 0 ≤ label ∧ label < (len : Int)) (ht : t.size ≤ 60) : Fine S len ⟨8, site, 0, label, 0, none, 0, 0, 0, 0, 0, 0, 0, t, []⟩ :=
  ⟨rfl, actIn_of (Nat.zero_le _) rfl ht (by simp) hs ⟨Int.le_refl 0, by show (0 : Int) < S; omega⟩ hl, rfl, fun h => by simp at h⟩
theorem fine_crash {S : Int} {len : Nat} {site : Int} {ka : Option Addr} {n kc : Nat} {keep : List Int} (hs : 0 ≤ site ∧ site < S) (hl : 1 ≤ len) (hn : n ≤ len) (hk : K40 keep) : Fine S len ⟨6, site, 0, 0, 0, ka, n, kc, 0, 0, 0, 0, 0, .empty, keep⟩ := by
  have hki : keepIn keep = true := by
    unfold keepIn
    rw [List.all_eq_true]
    intro z hz
    have := hk z hz
    exact inR_true this.1 (by omega)
  exact ⟨rfl, actIn_of hn hki (Nat.zero_le _) (by simp) hs ⟨Int.le_refl 0, by show (0 : Int) < S; omega⟩ ⟨Int.le_refl 0, by show (0 : Int) < (len : Int); omega⟩, rfl, fun h => by simp at h⟩
theorem fine_bds {S : Int} {len : Nat} {a : AV} (h : Fine S len a) : (0 ≤ a.site ∧ a.site < S) ∧ (0 ≤ a.label ∧ a.label < (len : Int)) := by
  have h2 := h.2.1
  unfold actIn at h2
  simp only [Bool.and_eq_true] at h2
  have h3 := inR_of h2.2.1.1
  have h4 := h2.2.2
  simp [plc] at h4
  exact ⟨by omega, h4⟩

end Go.Proofs.YtjihmhijnpjnoaaGreatDoor.Ln
