/- Texts of this claim, one behind the other. -/
import Derived.Test.YtlaagfnoepcnlaaDoorM12LinesShows
import Derived.Test.YtlaagfnoepcnlaaDoorM7LinesShows
import Derived.Test.YtlaagfnoepcnlaaDoorM20LinesShows
import Derived.Deep.RegionWith
import Derived.LoopTactic
/- Acts that may be, kind by kind. -/
namespace Go.Proofs.YtlaagfnoepcnlaaDoor.Ln
open Go.ChangeShapes Go.WideShapes Go.ChangeAt Go.RowKit
set_option linter.unusedVariables false
/-- What is known of each act that is made. -/
def Fine (S : Int) (len : Nat) (a : AV) : Prop := inR a.kind 1 8 = true ∧ actIn S len a = true ∧ only (aHas.getD a.kind.toNat []) (aParts a) = true ∧ (a.kind = 1 → callFault a.c0 a.c1 a.c2 a.c3 a.c4 = 0)
theorem Fine.fault {S : Int} {len : Nat} {a : AV} {ls : List (Int × Int)} {p : Int} (h : Fine S len a) (hc : cfgFault S ls p = 0) (hl : ls.length = len) : actFault S ls p a = 0 := by
  obtain ⟨h1, h2, h3, h4⟩ := h
  unfold actFault
  rw [if_neg (by simpa using hc), if_neg (by rw [h1]; simp), if_neg (by rw [hl, h2]; simp), if_neg (by rw [h3]; simp)]
  by_cases hk : a.kind = 1
  · rw [if_pos hk]; exact h4 hk
  · rw [if_neg hk]
/-- Numbers that a Keep is given. -/
def K40 (zs : List Int) : Prop := ∀ z ∈ zs, 0 ≤ z ∧ z < 40
theorem k40_nil : K40 [] := fun z hz => by cases hz
theorem k40_snoc {zs : List Int} {z : Int} (h : K40 zs) (hz : 0 ≤ z ∧ z < 40) : K40 (zs ++ [z]) := fun x hx => by
  rcases List.mem_append.1 hx with hx | hx
  · exact h x hx
  · simp at hx; subst hx; exact hz
theorem k40_nums {zs : List Int} (h : K40 zs) : Nums zs := fun i => by
  by_cases hi : i < zs.length
  · have := h zs[i] (List.getElem_mem hi)
    have e : zs.getD i 0 = zs[i] := by simp [List.getD, hi]
    rw [e]
    omega
  · simp [List.getD, hi]
theorem in_site {S x : Int} (h : 0 ≤ x ∧ x < S) : inR x 0 (S - 1) = true := inR_true h.1 (by omega)
theorem in_plc {len : Nat} {x : Int} (h : 0 ≤ x ∧ x < (len : Int)) : plc x len = true := by simpa [plc] using h
theorem actIn_of {S : Int} {len : Nat} {a : AV} (h1 : a.kl ≤ len) (h2 : keepIn a.keep = true) (h3 : a.line.size ≤ 60) (h4 : 0 ≤ a.pick ∧ a.pick < 3) (h5 : 0 ≤ a.site ∧ a.site < S) (h6 : 0 ≤ a.to ∧ a.to < S) (h7 : 0 ≤ a.label ∧ a.label < (len : Int)) : actIn S len a = true := by
  unfold actIn
  rw [decide_eq_true h1, h2, decide_eq_true h3, inR_true h4.1 (by omega), in_site h5, in_site h6, in_plc h7]
  rfl
theorem fine_ask {S : Int} {len : Nat} {site label c0 c1 c2 c3 c4 : Int} (hs : 0 ≤ site ∧ site < S) (hl : 0 ≤ label ∧ label < (len : Int)) (hc : callFault c0 c1 c2 c3 c4 = 0) : Fine S len ⟨1, site, 0, label, 0, none, 0, 0, c0, c1, c2, c3, c4, .empty, []⟩ :=
  ⟨rfl, actIn_of (Nat.zero_le _) rfl (Nat.zero_le _) (by simp) hs ⟨Int.le_refl 0, by show (0 : Int) < S; omega⟩ hl, rfl, fun _ => hc⟩
theorem fine_go {S : Int} {len : Nat} {site to1 label pick : Int} (k : Int) (hk : 2 ≤ k ∧ k ≤ 4) (hs : 0 ≤ site ∧ site < S) (ht : 0 ≤ to1 ∧ to1 < S) (hl : 0 ≤ label ∧ label < (len : Int)) (hp : 0 ≤ pick ∧ pick < 3) : Fine S len ⟨k, site, to1, label, pick, none, 0, 0, 0, 0, 0, 0, 0, .empty, []⟩ := by
  rcases (by omega : k = 2 ∨ k = 3 ∨ k = 4) with rfl | rfl | rfl
  all_goals exact ⟨rfl, actIn_of (Nat.zero_le _) rfl (Nat.zero_le _) hp hs ht hl, rfl, fun h => by simp at h⟩
theorem fine_tick {S : Int} {len : Nat} (hS : 1 ≤ S) (hl : 1 ≤ len) : Fine S len ⟨5, 0, 0, 0, 0, none, 0, 0, 0, 0, 0, 0, 0, .empty, []⟩ :=
  ⟨rfl, actIn_of (Nat.zero_le _) rfl (Nat.zero_le _) (by simp) ⟨Int.le_refl 0, by show (0 : Int) < S; omega⟩ ⟨Int.le_refl 0, by show (0 : Int) < S; omega⟩ ⟨Int.le_refl 0, by show (0 : Int) < (len : Int); omega⟩, rfl, fun h => by simp at h⟩
theorem fine_start {S : Int} {len : Nat} {site : Int} (hs : 0 ≤ site ∧ site < S) (hl : 1 ≤ len) : Fine S len ⟨7, site, 0, 0, 0, none, 0, 0, 0, 0, 0, 0, 0, .empty, []⟩ :=
  ⟨rfl, actIn_of (Nat.zero_le _) rfl (Nat.zero_le _) (by simp) hs ⟨Int.le_refl 0, by show (0 : Int) < S; omega⟩ ⟨Int.le_refl 0, by show (0 : Int) < (len : Int); omega⟩, rfl, fun h => by simp at h⟩
theorem fine_type {S : Int} {len : Nat} {site label : Int} {t : ByteArray} (hs : 0 ≤ site ∧ site < S) (hl : 0 ≤ label ∧ label < (len : Int)) (ht : t.size ≤ 60) : Fine S len ⟨8, site, 0, label, 0, none, 0, 0, 0, 0, 0, 0, 0, t, []⟩ :=
  ⟨rfl, actIn_of (Nat.zero_le _) rfl ht (by simp) hs ⟨Int.le_refl 0, by show (0 : Int) < S; omega⟩ hl, rfl, fun h => by simp at h⟩
theorem fine_crash {S : Int} {len : Nat} {site : Int} {ka : Option Addr} {n kc : Nat} {keep : List Int} (hs : 0 ≤ site ∧ site < S) (hl : 1 ≤ len) (hn : n ≤ len) (hk : K40 keep) : Fine S len ⟨6, site, 0, 0, 0, ka, n, kc, 0, 0, 0, 0, 0, .empty, keep⟩ := by
  have hki : keepIn keep = true := by
    unfold keepIn
    rw [List.all_eq_true]
    intro z hz
    have := hk z hz
    exact inR_true this.1 (by omega)
  exact ⟨rfl, actIn_of hn hki (Nat.zero_le _) (by simp) hs ⟨Int.le_refl 0, by show (0 : Int) < S; omega⟩ ⟨Int.le_refl 0, by show (0 : Int) < (len : Int); omega⟩, rfl, fun h => by simp at h⟩
theorem fine_bds {S : Int} {len : Nat} {a : AV} (h : Fine S len a) : (0 ≤ a.site ∧ a.site < S) ∧ (0 ≤ a.label ∧ a.label < (len : Int)) := by
  have h2 := h.2.1
  unfold actIn at h2
  simp only [Bool.and_eq_true] at h2
  have h3 := inR_of h2.2.1.1
  have h4 := h2.2.2
  simp [plc] at h4
  exact ⟨by omega, h4⟩

end Go.Proofs.YtlaagfnoepcnlaaDoor.Ln
/- The contract of ask: a call of raw numbers is some numbers; what was in memory stays. -/
namespace Go.Proofs.YtlaagfnoepcnlaaDoor.Ln
open Go.ChangeShapes Go.WideShapes Go.ChangeAt Go.RowKit
set_option linter.unusedVariables false

theorem cf_of {c0 c1 c2 c3 c4 : Int} (h0 : inR c0 1 5 = true) (h1 : inTops cTops [c1, c2, c3, c4] = true) (h2 : only (cHas.getD c0.toNat []) [c1, c2, c3, c4] = true) : callFault c0 c1 c2 c3 c4 = 0 := by
  unfold callFault
  rw [if_neg (by rw [h0]; simp), if_neg (by rw [h1]; simp), if_neg (by rw [h2]; simp)]
set_option maxHeartbeats 2000000 in
theorem ask_any (kd ra rb rc rd re : Int) (w : World) (hkd : -9223372036854775808 ≤ kd ∧ kd ≤ 9223372036854775807) (hra : -9223372036854775808 ≤ ra ∧ ra ≤ 9223372036854775807) (hrb : -9223372036854775808 ≤ rb ∧ rb ≤ 9223372036854775807) (hrc : -9223372036854775808 ≤ rc ∧ rc ≤ 9223372036854775807) (hrd : -9223372036854775808 ≤ rd ∧ rd ≤ 9223372036854775807) :
    Calls Tryd.prog 33 #[.agg #[.int .i64 kd, .int .i64 ra, .int .i64 rb, .int .i64 rc, .int .i64 rd, .int .i64 re]] w fun e w' => ∃ c0 c1 c2 c3 c4 : Int, e = .returned (.agg #[.int .i64 c0, .int .i64 c1, .int .i64 c2, .int .i64 c3, .int .i64 c4]) ∧ (0 ≤ c3 ∧ c3 ≤ 3) ∧ callFault c0 c1 c2 c3 c4 = 0 ∧ Below w.heap.size w w' := by
  have zK := pk_bd kd 5 (by decide)
  have zA := pk_bd ra 4 (by decide)
  have zB := pk_bd rb 3 (by decide)
  have zC := pk_bd rc 4 (by decide)
  have zD := pk_bd rd 99 (by decide)
  have cK := fun w' => picked_any kd 5 w' hkd (by decide) (by decide)
  have cA := fun w' => picked_any ra 4 w' hra (by decide) (by decide)
  have cB := fun w' => picked_any rb 3 w' hrb (by decide) (by decide)
  have cC := fun w' => picked_any rc 4 w' hrc (by decide) (by decide)
  have cD := fun w' => picked_any rd 99 w' hrd (by decide) (by decide)
  obtain ⟨K, eK⟩ : ∃ x, x = pk kd 5 := ⟨_, rfl⟩
  obtain ⟨A, eA⟩ : ∃ x, x = pk ra 4 := ⟨_, rfl⟩
  obtain ⟨B, eB⟩ : ∃ x, x = pk rb 3 := ⟨_, rfl⟩
  obtain ⟨C, eC⟩ : ∃ x, x = pk rc 4 := ⟨_, rfl⟩
  obtain ⟨D, eD⟩ : ∃ x, x = pk rd 99 := ⟨_, rfl⟩
  rw [← eK] at zK cK
  rw [← eA] at zA cA
  rw [← eB] at zB cB
  rw [← eC] at zC cC
  rw [← eD] at zD cD
  clear eK eA eB eC eD
  obtain ⟨zA1, zA2⟩ := zA
  obtain ⟨zC1, zC2⟩ := zC
  have hK : K = 0 ∨ K = 1 ∨ K = 2 ∨ K = 3 ∨ K = 4 := by omega
  rcases hK with rfl | rfl | rfl | rfl | rfl
  · go_enter Tryd.func33, Tryd.ntmps33
    go_wp2_with (first | (go_at_call_of 18 (Value.int .i64 kd); refine (cK _).mono ?_; rintro e w1 ⟨rfl, rfl⟩) | (go_at_call_of 18 (Value.int .i64 ra); refine (cA _).mono ?_; rintro e w1 ⟨rfl, rfl⟩) | (go_at_call_of 18 (Value.int .i64 rb); refine (cB _).mono ?_; rintro e w1 ⟨rfl, rfl⟩) | (go_at_call_of 18 (Value.int .i64 rc); refine (cC _).mono ?_; rintro e w1 ⟨rfl, rfl⟩) | (go_at_call_of 18 (Value.int .i64 rd); refine (cD _).mono ?_; rintro e w1 ⟨rfl, rfl⟩))
    refine bodyPost_ret (v := .agg #[.int .i64 1, .int .i64 0, .int .i64 0, .int .i64 0, .int .i64 0]) (by simp [results, Tryd.results33, go_sem]) rfl ⟨_, _, _, _, _, rfl, by omega, cf_of (by decide) (by simp [inTops, cTops, inR]; try omega) (by simp [only, cHas]), ?_⟩
    repeat (first | exact Below.refl _ _ | refine Below.setCell ?_ (by first | (simp; done) | (simp; omega)) _ | refine Below.alloc ?_ (by first | (simp; done) | (simp; omega)) _)
  · go_enter Tryd.func33, Tryd.ntmps33
    go_wp2_with (first | (go_at_call_of 18 (Value.int .i64 kd); refine (cK _).mono ?_; rintro e w1 ⟨rfl, rfl⟩) | (go_at_call_of 18 (Value.int .i64 ra); refine (cA _).mono ?_; rintro e w1 ⟨rfl, rfl⟩) | (go_at_call_of 18 (Value.int .i64 rb); refine (cB _).mono ?_; rintro e w1 ⟨rfl, rfl⟩) | (go_at_call_of 18 (Value.int .i64 rc); refine (cC _).mono ?_; rintro e w1 ⟨rfl, rfl⟩) | (go_at_call_of 18 (Value.int .i64 rd); refine (cD _).mono ?_; rintro e w1 ⟨rfl, rfl⟩))
    refine bodyPost_ret (v := .agg #[.int .i64 2, .int .i64 (1 + A), .int .i64 B, .int .i64 C, .int .i64 0]) (by simp [results, Tryd.results33, go_sem]) rfl ⟨_, _, _, _, _, rfl, by omega, cf_of (by decide) (by simp [inTops, cTops, inR]; try omega) (by simp [only, cHas]), ?_⟩
    repeat (first | exact Below.refl _ _ | refine Below.setCell ?_ (by first | (simp; done) | (simp; omega)) _ | refine Below.alloc ?_ (by first | (simp; done) | (simp; omega)) _)
  · go_enter Tryd.func33, Tryd.ntmps33
    go_wp2_with (first | (go_at_call_of 18 (Value.int .i64 kd); refine (cK _).mono ?_; rintro e w1 ⟨rfl, rfl⟩) | (go_at_call_of 18 (Value.int .i64 ra); refine (cA _).mono ?_; rintro e w1 ⟨rfl, rfl⟩) | (go_at_call_of 18 (Value.int .i64 rb); refine (cB _).mono ?_; rintro e w1 ⟨rfl, rfl⟩) | (go_at_call_of 18 (Value.int .i64 rc); refine (cC _).mono ?_; rintro e w1 ⟨rfl, rfl⟩) | (go_at_call_of 18 (Value.int .i64 rd); refine (cD _).mono ?_; rintro e w1 ⟨rfl, rfl⟩))
    refine bodyPost_ret (v := .agg #[.int .i64 3, .int .i64 (1 + A), .int .i64 0, .int .i64 C, .int .i64 D]) (by simp [results, Tryd.results33, go_sem]) rfl ⟨_, _, _, _, _, rfl, by omega, cf_of (by decide) (by simp [inTops, cTops, inR]; try omega) (by simp [only, cHas]), ?_⟩
    repeat (first | exact Below.refl _ _ | refine Below.setCell ?_ (by first | (simp; done) | (simp; omega)) _ | refine Below.alloc ?_ (by first | (simp; done) | (simp; omega)) _)
  · go_enter Tryd.func33, Tryd.ntmps33
    go_wp2_with (first | (go_at_call_of 18 (Value.int .i64 kd); refine (cK _).mono ?_; rintro e w1 ⟨rfl, rfl⟩) | (go_at_call_of 18 (Value.int .i64 ra); refine (cA _).mono ?_; rintro e w1 ⟨rfl, rfl⟩) | (go_at_call_of 18 (Value.int .i64 rb); refine (cB _).mono ?_; rintro e w1 ⟨rfl, rfl⟩) | (go_at_call_of 18 (Value.int .i64 rc); refine (cC _).mono ?_; rintro e w1 ⟨rfl, rfl⟩) | (go_at_call_of 18 (Value.int .i64 rd); refine (cD _).mono ?_; rintro e w1 ⟨rfl, rfl⟩))
    refine bodyPost_ret (v := .agg #[.int .i64 4, .int .i64 (1 + A), .int .i64 0, .int .i64 0, .int .i64 0]) (by simp [results, Tryd.results33, go_sem]) rfl ⟨_, _, _, _, _, rfl, by omega, cf_of (by decide) (by simp [inTops, cTops, inR]; try omega) (by simp [only, cHas]), ?_⟩
    repeat (first | exact Below.refl _ _ | refine Below.setCell ?_ (by first | (simp; done) | (simp; omega)) _ | refine Below.alloc ?_ (by first | (simp; done) | (simp; omega)) _)
  · go_enter Tryd.func33, Tryd.ntmps33
    go_wp2_with (first | (go_at_call_of 18 (Value.int .i64 kd); refine (cK _).mono ?_; rintro e w1 ⟨rfl, rfl⟩) | (go_at_call_of 18 (Value.int .i64 ra); refine (cA _).mono ?_; rintro e w1 ⟨rfl, rfl⟩) | (go_at_call_of 18 (Value.int .i64 rb); refine (cB _).mono ?_; rintro e w1 ⟨rfl, rfl⟩) | (go_at_call_of 18 (Value.int .i64 rc); refine (cC _).mono ?_; rintro e w1 ⟨rfl, rfl⟩) | (go_at_call_of 18 (Value.int .i64 rd); refine (cD _).mono ?_; rintro e w1 ⟨rfl, rfl⟩))
    refine bodyPost_ret (v := .agg #[.int .i64 5, .int .i64 (1 + A), .int .i64 0, .int .i64 0, .int .i64 0]) (by simp [results, Tryd.results33, go_sem]) rfl ⟨_, _, _, _, _, rfl, by omega, cf_of (by decide) (by simp [inTops, cTops, inR]; try omega) (by simp [only, cHas]), ?_⟩
    repeat (first | exact Below.refl _ _ | refine Below.setCell ?_ (by first | (simp; done) | (simp; omega)) _ | refine Below.alloc ?_ (by first | (simp; done) | (simp; omega)) _)
end Go.Proofs.YtlaagfnoepcnlaaDoor.Ln
/- The contract of label.Purge: the acts that a label sees, in their order, in memory of their own; or the error. -/
namespace Go.Proofs.YtlaagfnoepcnlaaDoor
open Go.ChangeShapes Go.WideShapes Go.ChangeAt Go.RowKit
set_option linter.unusedVariables false

theorem actInfo : (Tryd.prog.info? 41).map (fun i => (i.zero, i.size, i.bytes)) = some (some (.agg #[.int .i64 0, .int .i64 0, .int .i64 0, .int .i64 0, .int .i64 0, .slice none 0 0, .int .i64 0, .int .i64 0, .int .i64 0, .int .i64 0, .int .i64 0, .string .empty]), 12, 120) := by kernel_rfl

def purgeErr (s : Int) (ls : List (Int × Int)) (p l : Int) : Int := if cfgFault s ls p = 0 then (if plc l ls.length then 0 else 6) else cfgFault s ls p
def purgeR (s : Int) (ls : List (Int × Int)) (p l : Int) (xs : List AV) : List AV := if purgeErr s ls p l = 0 then purgeF ls l xs else []

theorem keepOf_nums {ls : List (Int × Int)} {l kind : Int} {keep : List Int} (h : Nums keep) : Nums (keepOf ls l kind keep) := by
  intro i
  unfold keepOf
  split
  · by_cases hi : i < keep.length
    · have := h i
      simp only [List.getD, List.getElem?_map, List.getElem?_zipIdx] at this ⊢
      simp [hi] at this ⊢
      split <;> simp_all
    · simp [List.getD, hi]
  · exact h i

theorem news_new {W : World} {n : Nat} (cs : Array Value) (t : TypeId) (h : W.heap.size = n) : ∀ j u, cs.toList[j]? = some u → (W.alloc (.cells cs t)).cell? ((⟨n, 0, none⟩ : Addr).add j) = some u := by
  subst h
  exact World.news_of_block (heap_alloc_new W _)

theorem cells_one (y : AV) : ∀ u ∈ y.cells, u.oneCell' = true := by
  intro u hu
  simp [AV.cells] at hu
  rcases hu with h | h | h | h | h | h | h | h | h | h | h | h <;> subst h <;> rfl

theorem ret_purge {ao : Option Addr} {n m cp : Nat} {e f : Int} (h : n = m) (he : e = f) : Ending.returned (.tuple #[.slice ao n cp, .int .i64 e]) = .returned (.tuple #[.slice ao m cp, .int .i64 f]) := by rw [h, he]

end Go.Proofs.YtlaagfnoepcnlaaDoor
