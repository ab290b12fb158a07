/- Texts of this claim, one behind the other. -/
import Derived.Test.YtlaagfnoepcnlaaDoorM10LinesBad
import Derived.Test.YtlaagfnoepcnlaaDoorM11LinesBad
import Derived.Deep.RegionWith
import Derived.LoopTactic
import Derived.Test.YtlaagfnoepcnlaaDoorM8LinesBad
import Derived.Deep.RegionHeld3
import Derived.Deep.RegionLaw
import Derived.Deep.AppendLies
import Derived.Deep.DeepCutAuto
import Derived.Deep.CutBlock
/- The contract of ask: a call of raw numbers is some numbers; what was in memory stays. -/
namespace Go.Proofs.YtlaagfnoepcnlaaDoor.Ln
open Go.ChangeShapes Go.WideShapes Go.ChangeAt Go.RowKit
set_option linter.unusedVariables false

theorem cf_of {c0 c1 c2 c3 c4 : Int} (h0 : inR c0 1 5 = true) (h1 : inTops cTops [c1, c2, c3, c4] = true) (h2 : only (cHas.getD c0.toNat []) [c1, c2, c3, c4] = true) : callFault c0 c1 c2 c3 c4 = 0 := by
  unfold callFault
  rw [if_neg (by rw [h0]; simp), if_neg (by rw [h1]; simp), if_neg (by rw [h2]; simp)]
set_option maxHeartbeats 2000000 in
theorem ask_any (kd ra rb rc rd re : Int) (w : World) (hkd : -9223372036854775808 ≤ kd ∧ kd ≤ 9223372036854775807) (hra : -9223372036854775808 ≤ ra ∧ ra ≤ 9223372036854775807) (hrb : -9223372036854775808 ≤ rb ∧ rb ≤ 9223372036854775807) (hrc : -9223372036854775808 ≤ rc ∧ rc ≤ 9223372036854775807) (hrd : -9223372036854775808 ≤ rd ∧ rd ≤ 9223372036854775807) :
    Calls Tryd.prog 33 #[.agg #[.int .i64 kd, .int .i64 ra, .int .i64 rb, .int .i64 rc, .int .i64 rd, .int .i64 re]] w fun e w' => ∃ c0 c1 c2 c3 c4 : Int, e = .returned (.agg #[.int .i64 c0, .int .i64 c1, .int .i64 c2, .int .i64 c3, .int .i64 c4]) ∧ (0 ≤ c3 ∧ c3 ≤ 3) ∧ callFault c0 c1 c2 c3 c4 = 0 ∧ Below w.heap.size w w' := by
  have zK := pk_bd kd 5 (by decide)
  have zA := pk_bd ra 4 (by decide)
  have zB := pk_bd rb 3 (by decide)
  have zC := pk_bd rc 4 (by decide)
  have zD := pk_bd rd 99 (by decide)
  have cK := fun w' => picked_any kd 5 w' hkd (by decide) (by decide)
  have cA := fun w' => picked_any ra 4 w' hra (by decide) (by decide)
  have cB := fun w' => picked_any rb 3 w' hrb (by decide) (by decide)
  have cC := fun w' => picked_any rc 4 w' hrc (by decide) (by decide)
  have cD := fun w' => picked_any rd 99 w' hrd (by decide) (by decide)
  obtain ⟨K, eK⟩ : ∃ x, x = pk kd 5 := ⟨_, rfl⟩
  obtain ⟨A, eA⟩ : ∃ x, x = pk ra 4 := ⟨_, rfl⟩
  obtain ⟨B, eB⟩ : ∃ x, x = pk rb 3 := ⟨_, rfl⟩
  obtain ⟨C, eC⟩ : ∃ x, x = pk rc 4 := ⟨_, rfl⟩
  obtain ⟨D, eD⟩ : ∃ x, x = pk rd 99 := ⟨_, rfl⟩
  rw [← eK] at zK cK
  rw [← eA] at zA cA
  rw [← eB] at zB cB
  rw [← eC] at zC cC
  rw [← eD] at zD cD
  clear eK eA eB eC eD
  obtain ⟨zA1, zA2⟩ := zA
  obtain ⟨zC1, zC2⟩ := zC
  have hK : K = 0 ∨ K = 1 ∨ K = 2 ∨ K = 3 ∨ K = 4 := by omega
  rcases hK with rfl | rfl | rfl | rfl | rfl
  · go_enter Tryd.func33, Tryd.ntmps33
    go_wp2_with (first | (go_at_call_of 18 (Value.int .i64 kd); refine (cK _).mono ?_; rintro e w1 ⟨rfl, rfl⟩) | (go_at_call_of 18 (Value.int .i64 ra); refine (cA _).mono ?_; rintro e w1 ⟨rfl, rfl⟩) | (go_at_call_of 18 (Value.int .i64 rb); refine (cB _).mono ?_; rintro e w1 ⟨rfl, rfl⟩) | (go_at_call_of 18 (Value.int .i64 rc); refine (cC _).mono ?_; rintro e w1 ⟨rfl, rfl⟩) | (go_at_call_of 18 (Value.int .i64 rd); refine (cD _).mono ?_; rintro e w1 ⟨rfl, rfl⟩))
    refine bodyPost_ret (v := .agg #[.int .i64 1, .int .i64 0, .int .i64 0, .int .i64 0, .int .i64 0]) (by simp [results, Tryd.results33, go_sem]) rfl ⟨_, _, _, _, _, rfl, by omega, cf_of (by decide) (by simp [inTops, cTops, inR]; try omega) (by simp [only, cHas]), ?_⟩
    repeat (first | exact Below.refl _ _ | refine Below.setCell ?_ (by first | (simp; done) | (simp; omega)) _ | refine Below.alloc ?_ (by first | (simp; done) | (simp; omega)) _)
  · go_enter Tryd.func33, Tryd.ntmps33
    go_wp2_with (first | (go_at_call_of 18 (Value.int .i64 kd); refine (cK _).mono ?_; rintro e w1 ⟨rfl, rfl⟩) | (go_at_call_of 18 (Value.int .i64 ra); refine (cA _).mono ?_; rintro e w1 ⟨rfl, rfl⟩) | (go_at_call_of 18 (Value.int .i64 rb); refine (cB _).mono ?_; rintro e w1 ⟨rfl, rfl⟩) | (go_at_call_of 18 (Value.int .i64 rc); refine (cC _).mono ?_; rintro e w1 ⟨rfl, rfl⟩) | (go_at_call_of 18 (Value.int .i64 rd); refine (cD _).mono ?_; rintro e w1 ⟨rfl, rfl⟩))
    refine bodyPost_ret (v := .agg #[.int .i64 2, .int .i64 (1 + A), .int .i64 B, .int .i64 C, .int .i64 0]) (by simp [results, Tryd.results33, go_sem]) rfl ⟨_, _, _, _, _, rfl, by omega, cf_of (by decide) (by simp [inTops, cTops, inR]; try omega) (by simp [only, cHas]), ?_⟩
    repeat (first | exact Below.refl _ _ | refine Below.setCell ?_ (by first | (simp; done) | (simp; omega)) _ | refine Below.alloc ?_ (by first | (simp; done) | (simp; omega)) _)
  · go_enter Tryd.func33, Tryd.ntmps33
    go_wp2_with (first | (go_at_call_of 18 (Value.int .i64 kd); refine (cK _).mono ?_; rintro e w1 ⟨rfl, rfl⟩) | (go_at_call_of 18 (Value.int .i64 ra); refine (cA _).mono ?_; rintro e w1 ⟨rfl, rfl⟩) | (go_at_call_of 18 (Value.int .i64 rb); refine (cB _).mono ?_; rintro e w1 ⟨rfl, rfl⟩) | (go_at_call_of 18 (Value.int .i64 rc); refine (cC _).mono ?_; rintro e w1 ⟨rfl, rfl⟩) | (go_at_call_of 18 (Value.int .i64 rd); refine (cD _).mono ?_; rintro e w1 ⟨rfl, rfl⟩))
    refine bodyPost_ret (v := .agg #[.int .i64 3, .int .i64 (1 + A), .int .i64 0, .int .i64 C, .int .i64 D]) (by simp [results, Tryd.results33, go_sem]) rfl ⟨_, _, _, _, _, rfl, by omega, cf_of (by decide) (by simp [inTops, cTops, inR]; try omega) (by simp [only, cHas]), ?_⟩
    repeat (first | exact Below.refl _ _ | refine Below.setCell ?_ (by first | (simp; done) | (simp; omega)) _ | refine Below.alloc ?_ (by first | (simp; done) | (simp; omega)) _)
  · go_enter Tryd.func33, Tryd.ntmps33
    go_wp2_with (first | (go_at_call_of 18 (Value.int .i64 kd); refine (cK _).mono ?_; rintro e w1 ⟨rfl, rfl⟩) | (go_at_call_of 18 (Value.int .i64 ra); refine (cA _).mono ?_; rintro e w1 ⟨rfl, rfl⟩) | (go_at_call_of 18 (Value.int .i64 rb); refine (cB _).mono ?_; rintro e w1 ⟨rfl, rfl⟩) | (go_at_call_of 18 (Value.int .i64 rc); refine (cC _).mono ?_; rintro e w1 ⟨rfl, rfl⟩) | (go_at_call_of 18 (Value.int .i64 rd); refine (cD _).mono ?_; rintro e w1 ⟨rfl, rfl⟩))
    refine bodyPost_ret (v := .agg #[.int .i64 4, .int .i64 (1 + A), .int .i64 0, .int .i64 0, .int .i64 0]) (by simp [results, Tryd.results33, go_sem]) rfl ⟨_, _, _, _, _, rfl, by omega, cf_of (by decide) (by simp [inTops, cTops, inR]; try omega) (by simp [only, cHas]), ?_⟩
    repeat (first | exact Below.refl _ _ | refine Below.setCell ?_ (by first | (simp; done) | (simp; omega)) _ | refine Below.alloc ?_ (by first | (simp; done) | (simp; omega)) _)
  · go_enter Tryd.func33, Tryd.ntmps33
    go_wp2_with (first | (go_at_call_of 18 (Value.int .i64 kd); refine (cK _).mono ?_; rintro e w1 ⟨rfl, rfl⟩) | (go_at_call_of 18 (Value.int .i64 ra); refine (cA _).mono ?_; rintro e w1 ⟨rfl, rfl⟩) | (go_at_call_of 18 (Value.int .i64 rb); refine (cB _).mono ?_; rintro e w1 ⟨rfl, rfl⟩) | (go_at_call_of 18 (Value.int .i64 rc); refine (cC _).mono ?_; rintro e w1 ⟨rfl, rfl⟩) | (go_at_call_of 18 (Value.int .i64 rd); refine (cD _).mono ?_; rintro e w1 ⟨rfl, rfl⟩))
    refine bodyPost_ret (v := .agg #[.int .i64 5, .int .i64 (1 + A), .int .i64 0, .int .i64 0, .int .i64 0]) (by simp [results, Tryd.results33, go_sem]) rfl ⟨_, _, _, _, _, rfl, by omega, cf_of (by decide) (by simp [inTops, cTops, inR]; try omega) (by simp [only, cHas]), ?_⟩
    repeat (first | exact Below.refl _ _ | refine Below.setCell ?_ (by first | (simp; done) | (simp; omega)) _ | refine Below.alloc ?_ (by first | (simp; done) | (simp; omega)) _)
end Go.Proofs.YtlaagfnoepcnlaaDoor.Ln
/- The contract of label.Purge: the acts that a label sees, in their order, in memory of their own; or the error. -/
namespace Go.Proofs.YtlaagfnoepcnlaaDoor
open Go.ChangeShapes Go.WideShapes Go.ChangeAt Go.RowKit
set_option linter.unusedVariables false

theorem actInfo : (Tryd.prog.info? 41).map (fun i => (i.zero, i.size, i.bytes)) = some (some (.agg #[.int .i64 0, .int .i64 0, .int .i64 0, .int .i64 0, .int .i64 0, .slice none 0 0, .int .i64 0, .int .i64 0, .int .i64 0, .int .i64 0, .int .i64 0, .string .empty]), 12, 120) := by kernel_rfl

def purgeErr (s : Int) (ls : List (Int × Int)) (p l : Int) : Int := if cfgFault s ls p = 0 then (if plc l ls.length then 0 else 6) else cfgFault s ls p
def purgeR (s : Int) (ls : List (Int × Int)) (p l : Int) (xs : List AV) : List AV := if purgeErr s ls p l = 0 then purgeF ls l xs else []

theorem keepOf_nums {ls : List (Int × Int)} {l kind : Int} {keep : List Int} (h : Nums keep) : Nums (keepOf ls l kind keep) := by
  intro i
  unfold keepOf
  split
  · by_cases hi : i < keep.length
    · have := h i
      simp only [List.getD, List.getElem?_map, List.getElem?_zipIdx] at this ⊢
      simp [hi] at this ⊢
      split <;> simp_all
    · simp [List.getD, hi]
  · exact h i

theorem news_new {W : World} {n : Nat} (cs : Array Value) (t : TypeId) (h : W.heap.size = n) : ∀ j u, cs.toList[j]? = some u → (W.alloc (.cells cs t)).cell? ((⟨n, 0, none⟩ : Addr).add j) = some u := by
  subst h
  exact World.news_of_block (heap_alloc_new W _)

theorem cells_one (y : AV) : ∀ u ∈ y.cells, u.oneCell' = true := by
  intro u hu
  simp [AV.cells] at hu
  rcases hu with h | h | h | h | h | h | h | h | h | h | h | h <;> subst h <;> rfl

theorem ret_purge {ao : Option Addr} {n m cp : Nat} {e f : Int} (h : n = m) (he : e = f) : Ending.returned (.tuple #[.slice ao n cp, .int .i64 e]) = .returned (.tuple #[.slice ao m cp, .int .i64 f]) := by rw [h, he]

end Go.Proofs.YtlaagfnoepcnlaaDoor
/- The contract of the raw Acts: some acts, each of a label that there is, at most so many; in memory of their own. -/
namespace Go.Proofs.YtlaagfnoepcnlaaDoor.Ln
open Go.ChangeShapes Go.WideShapes Go.ChangeAt Go.RowKit
set_option linter.unusedVariables false

/-- An act in a block of its own. -/
def BoxAt (w : World) (g : Nat) (a : AV) : Prop :=
  g < w.heap.size ∧ ∀ j, j < 12 → w.cell? ⟨g, j, none⟩ = a.cells[j]? ∧ w.frozen? ⟨g, j, none⟩ = false

theorem wrap_in {n : Int} (h : -9223372036854775808 ≤ n ∧ n ≤ 9223372036854775807) : IntKind.i64.wrap n = n := by
  rw [IntKind.wrap_i64]
  omega

theorem OwnActs.push2 {w w1 w2 : World} {B : Nat} {v v' : Value} {ys : List AV} {y z : AV} (h : OwnActs w B v ys) (hb : Below w.heap.size w w1)
    (hy : y.ka = none ∧ y.kl = 0 ∧ y.kc = 0 ∧ y.keep = []) (hz : z.ka = none ∧ z.kl = 0 ∧ z.kc = 0 ∧ z.keep = [])
    (hown : w2.ownsRow B 41 12 v' (ys.length + 2) (flatActs ys ++ (y.cells ++ z.cells))) (hg : w1.grownBy w2 v.ownBlock) : OwnActs w2 B v' (ys ++ [y, z]) := by
  have h1 := h.below hb
  refine ⟨?_, fun x hx => ?_⟩
  · have e : flatActs (ys ++ [y, z]) = flatActs ys ++ (y.cells ++ z.cells) := by simp [flatActs]
    rw [e]
    simpa using hown
  · rcases List.mem_append.1 hx with hx | hx
    · exact ⟨(h1.keeps x hx).1.kept hg (own_apart (h1.keeps x hx).1 h1.row (by decide)), (h1.keeps x hx).2⟩
    · simp at hx
      rcases hx with rfl | rfl
      · rw [hy.1, hy.2.1, hy.2.2.1, hy.2.2.2]
        exact ⟨World.ownsRow_nil _ _ _ _, fun i => by simp⟩
      · rw [hz.1, hz.2.1, hz.2.2.1, hz.2.2.2]
        exact ⟨World.ownsRow_nil _ _ _ _, fun i => by simp⟩

theorem nums_snoc {zs : List Int} {z : Int} (h : Nums zs) (hz : 0 ≤ z ∧ z < 40) : Nums (zs ++ [z]) := fun i => by
  have hi := h i
  rw [List.getD_eq_getElem?_getD] at hi ⊢
  rw [List.getElem?_append]
  split
  · exact hi
  · cases hj : i - zs.length with
    | zero => simp; omega
    | succ m => simp

set_option maxHeartbeats 4000000 in
set_option maxRecDepth 100000 in
theorem acts_most (S p : Int) (ad : Option Addr) (len cap : Nat) (aa : Option Addr) (alen acap : Nat) (rs : List RV) (w : World) (hS : 1 ≤ S ∧ S ≤ 4) (hlen : 1 ≤ len ∧ len ≤ 4) (hx : IsRaws w aa alen acap rs) (most : Nat) (hmo : most ≤ 1000) :
    Calls Tryd.prog 15 #[.agg #[.int .i64 S, .slice ad len cap, .int .i64 p], .slice aa alen acap, .int .i64 (most : Int), .bool true] w fun e w' => ∃ (ao : Option Addr) (cp : Nat) (ys : List AV),
      e = .returned (.slice ao ys.length cp) ∧ (∃ B : Nat, w.heap.size ≤ B ∧ OwnActs w' B (.slice ao ys.length cp) ys) ∧ (∀ y ∈ ys, Fine S len y) ∧ ys.length ≤ most + 2 ∧ Below w.heap.size w w' := by
  obtain ⟨i0, hi, li0, li1, li2⟩ := info_parts actInfo
  obtain ⟨j0, hj, lj0, lj1, lj2⟩ := info_parts intInfo
  obtain ⟨S1, S4⟩ := hS
  obtain ⟨n1, n4⟩ := hlen
  have m1 : (1 : Int) ≤ (len : Int) := by omega
  have m4 : (len : Int) ≤ 4 := by omega
  have hmx : alen ≤ maxLen := Nat.le_trans hx.2.1 hx.2.2.1
  unfold maxLen at hmx
  obtain ⟨W, hW⟩ : ∃ W : World, W = w.alloc (.cells #[.int .i64 S, .slice ad len cap, .int .i64 p] 24) := ⟨_, rfl⟩
  have hA : Below w.heap.size w W := by rw [hW]; exact (Below.refl _ _).alloc (Nat.le_refl _) _
  have zW : w.heap.size < W.heap.size := by rw [hW]; simp
  have d0 : W.cell? ⟨w.heap.size, 0, none⟩ = some (.int .i64 S) := by rw [hW]; go_simp
  have d1 : W.cell? ⟨w.heap.size, 1, none⟩ = some (.slice ad len cap) := by rw [hW]; go_simp
  have hxW := hx.below hA
  go_enter Tryd.func15, Tryd.ntmps15
  go_wp2
  rw [← hW]
  clear hW
  go_loopw [9, 10] (fun v i wr => ∃ (k : Nat) (ao : Option Addr) (cp : Nat) (ys : List AV), k ≤ alen ∧ i = .int .i64 k ∧ v = .slice ao ys.length cp ∧ OwnActs wr W.heap.size (.slice ao ys.length cp) ys ∧ (∀ y ∈ ys, Fine S len y) ∧ ys.length ≤ most + 2 ∧ Below W.heap.size W wr) (fun _ i _ => alen - (intOf i).toNat)
  case atStart => exact ⟨0, none, 0, [], Nat.zero_le _, rfl, rfl, ownActs_nil _ _, by simp, by simp, Below.refl _ _⟩
  case round =>
    obtain ⟨k, ao, cp, ys, hk, rfl, rfl, hO, hfine, hyl, hb⟩ := hrel
    have hlx := hxW.1
    have x0 := (hb.cell (p := ⟨w.heap.size, 0, none⟩) zW).trans d0
    have x1 := (hb.cell (p := ⟨w.heap.size, 1, none⟩) zW).trans d1
    have zr : w.heap.size < wr.heap.size := Nat.lt_of_lt_of_le zW hb.size
    by_cases hlt : k < alen ∧ ys.length < most
    · obtain ⟨hlt, h30⟩ := hlt
      have hlt' : (k : Int) < (alen : Int) := by omega
      have h30' : (ys.length : Int) < (most : Int) := by omega
      obtain ⟨b, off, rfl, hAt⟩ := (hxW.below hb).2.2.2.2 (by omega)
      have hcells := hAt.2 k (by omega)
      have hok := hxW.2.2.2.1 k
      obtain ⟨r, er⟩ : ∃ r, r = rs.getD k default := ⟨_, rfl⟩
      rw [← er] at hcells hok
      clear er
      obtain ⟨kd, ra, rb, rc, rd, re⟩ := r
      obtain ⟨hkd, hra, hrb, hrc, hrd, hre⟩ := hok
      simp only [Bd] at hkd hra hrb hrc hrd hre
      obtain ⟨ka1, ka2⟩ := id hra
      obtain ⟨kb1, kb2⟩ := id hrb
      obtain ⟨kc1, kc2⟩ := id hrc
      obtain ⟨kd1, kd2⟩ := id hrd
      obtain ⟨ke1, ke2⟩ := id hre
      obtain ⟨kk1, kk2⟩ := id hkd
      have a0 := hcells 0 (by decide)
      have a1 := hcells 1 (by decide)
      have a2 := hcells 2 (by decide)
      have a3 := hcells 3 (by decide)
      have a4 := hcells 4 (by decide)
      have a5 := hcells 5 (by decide)
      simp [RV.cells] at a0 a1 a2 a3 a4 a5
      clear hcells
      have zS := pk_bd (ra.tdiv 31) S (by omega)
      have zL := pk_bd (rb.tdiv 31) (len : Int) (by omega)
      have bA := tdiv_bd (n := ra) (m := 31) hra (by decide)
      have bB := tdiv_bd (n := rb) (m := 31) hrb (by decide)
      have wq1 := wrap_in bA
      have wq2 := wrap_in bB
      go_wp2
      obtain ⟨V, hV⟩ : ∃ V : World, V = wr.alloc (.cells #[.int .i64 kd, .int .i64 ra, .int .i64 rb, .int .i64 rc, .int .i64 rd, .int .i64 re] 73) := ⟨_, rfl⟩
      have hVb : Below wr.heap.size wr V := by rw [hV]; exact (Below.refl _ _).alloc (Nat.le_refl _) _
      have zV : V.heap.size = wr.heap.size + 1 := by rw [hV]; simp
      have v0 : V.cell? ⟨wr.heap.size, 0, none⟩ = some (.int .i64 kd) := by rw [hV]; go_simp
      have v1 : V.cell? ⟨wr.heap.size, 1, none⟩ = some (.int .i64 ra) := by rw [hV]; go_simp
      have v2 : V.cell? ⟨wr.heap.size, 2, none⟩ = some (.int .i64 rb) := by rw [hV]; go_simp
      have v3 : V.cell? ⟨wr.heap.size, 3, none⟩ = some (.int .i64 rc) := by rw [hV]; go_simp
      have v4 : V.cell? ⟨wr.heap.size, 4, none⟩ = some (.int .i64 rd) := by rw [hV]; go_simp
      have v5 : V.cell? ⟨wr.heap.size, 5, none⟩ = some (.int .i64 re) := by rw [hV]; go_simp
      have y0 := (hVb.cell (p := ⟨w.heap.size, 0, none⟩) zr).trans x0
      have y1 := (hVb.cell (p := ⟨w.heap.size, 1, none⟩) zr).trans x1
      rw [← hV]
      clear hV
      go_cut [12] (fun s12 wc => s12 = .pointer (some ⟨wr.heap.size + 1, 0, none⟩) ∧ BoxAt wc (wr.heap.size + 1) ⟨0, pk (ra.tdiv 31) S, 0, pk (rb.tdiv 31) len, 0, none, 0, 0, 0, 0, 0, 0, 0, .empty, []⟩ ∧ Below V.heap.size V wc)
      case first =>
        go_region_held3 (fun w' => w'.cell? ⟨wr.heap.size, 1, none⟩ = some (.int .i64 ra) ∧ w'.cell? ⟨wr.heap.size, 2, none⟩ = some (.int .i64 rb) ∧ w'.cell? ⟨w.heap.size, 0, none⟩ = some (.int .i64 S) ∧ w'.cell? ⟨w.heap.size, 1, none⟩ = some (.slice ad len cap))
          (go_keep)
          ((go_at_call 18; refine (picked_any _ _ _ (by assumption) (by omega) (by omega)).mono ?_; rintro e u1 ⟨rfl, rfl⟩))
        all_goals
          go_wp2_with fail
          go_meet
          case rel =>
            refine ⟨by simp, ⟨by simp [zV], fun j hj => ?_⟩, by repeat (first | exact Below.refl _ _ | apply Below.drew | refine Below.alloc ?_ (by simp) _)⟩
            have hj' : j = 0 ∨ j = 1 ∨ j = 2 ∨ j = 3 ∨ j = 4 ∨ j = 5 ∨ j = 6 ∨ j = 7 ∨ j = 8 ∨ j = 9 ∨ j = 10 ∨ j = 11 := by omega
            rw [← zV]
            rcases hj' with rfl | rfl | rfl | rfl | rfl | rfl | rfl | rfl | rfl | rfl | rfl | rfl <;> exact ⟨by go_simp; rfl, by go_simp⟩
      case rest =>
        obtain ⟨rfl, hBox, hVc⟩ := hcut
        have hwc : Below wr.heap.size wr wc := hVb.trans (hVc.mono hVb.size)
        have hO2 := hO.below hwc
        have hzc := hVc.size
        have q0 := (hVc.cell (p := ⟨wr.heap.size, 0, none⟩) (by show wr.heap.size < _; omega)).trans v0
        have q1 := (hVc.cell (p := ⟨wr.heap.size, 1, none⟩) (by show wr.heap.size < _; omega)).trans v1
        have q2 := (hVc.cell (p := ⟨wr.heap.size, 2, none⟩) (by show wr.heap.size < _; omega)).trans v2
        have q3 := (hVc.cell (p := ⟨wr.heap.size, 3, none⟩) (by show wr.heap.size < _; omega)).trans v3
        have q4 := (hVc.cell (p := ⟨wr.heap.size, 4, none⟩) (by show wr.heap.size < _; omega)).trans v4
        have q5 := (hVc.cell (p := ⟨wr.heap.size, 5, none⟩) (by show wr.heap.size < _; omega)).trans v5
        have q6 := (hVc.cell (p := ⟨w.heap.size, 0, none⟩) (by show w.heap.size < _; omega)).trans y0
        have q7 := (hVc.cell (p := ⟨w.heap.size, 1, none⟩) (by show w.heap.size < _; omega)).trans y1
        go_upto_block 2 with ((go_at_call 18; refine (picked_any _ _ _ (by assumption) (by omega) (by omega)).mono ?_; rintro e u1 ⟨rfl, rfl⟩))
        have b0 := (hBox.2 0 (by decide)).1
        have f0 := (hBox.2 0 (by decide)).2
        have b1 := (hBox.2 1 (by decide)).1
        have f1 := (hBox.2 1 (by decide)).2
        have b2 := (hBox.2 2 (by decide)).1
        have f2 := (hBox.2 2 (by decide)).2
        have b3 := (hBox.2 3 (by decide)).1
        have f3 := (hBox.2 3 (by decide)).2
        have b4 := (hBox.2 4 (by decide)).1
        have f4 := (hBox.2 4 (by decide)).2
        have b5 := (hBox.2 5 (by decide)).1
        have f5 := (hBox.2 5 (by decide)).2
        have b6 := (hBox.2 6 (by decide)).1
        have f6 := (hBox.2 6 (by decide)).2
        have b7 := (hBox.2 7 (by decide)).1
        have f7 := (hBox.2 7 (by decide)).2
        have b8 := (hBox.2 8 (by decide)).1
        have f8 := (hBox.2 8 (by decide)).2
        have b9 := (hBox.2 9 (by decide)).1
        have f9 := (hBox.2 9 (by decide)).2
        have b10 := (hBox.2 10 (by decide)).1
        have f10 := (hBox.2 10 (by decide)).2
        have b11 := (hBox.2 11 (by decide)).1
        have f11 := (hBox.2 11 (by decide)).2
        simp [AV.cells] at b0 b1 b2 b3 b4 b5 b6 b7 b8 b9 b10 b11
        obtain ⟨K, eK⟩ : ∃ K, K = pk kd 20 := ⟨_, rfl⟩
        have zK := pk_bd kd 20 (by decide)
        rw [← eK] at zK ⊢
        clear eK
        go_cut [] (fun wx => ∃ a : AV, BoxAt wx (wr.heap.size + 1) a ∧ wx.ownsRow W.heap.size 3 1 (.slice a.ka a.kl a.kc) a.kl (a.keep.map (Value.int .i64)) ∧ Nums a.keep ∧ Fine S len a ∧ (0 ≤ a.c3 ∧ a.c3 ≤ 3) ∧ Below V.heap.size V wx)
        case first =>
          have zE := pk_bd re 2 (by decide)
          have hB1 := hBox.1
          have bC := tdiv_bd (n := rc) (m := 9) hrc (by decide)
          by_cases h8 : K < 8
          · go_wp2_with (go_at_call 33; refine (ask_any _ _ _ _ _ _ _ (by assumption) (by assumption) (by assumption) (by assumption) (by assumption)).mono ?_; rintro e w3 ⟨c0, c1, c2, c3, c4, rfl, hc3, hcf, hb3⟩; have z3 : wr.heap.size + 1 < w3.heap.size := (by have := hb3.size; simp at this; omega); obtain ⟨hc3', hf3'⟩ := bcell hb3)
            go_meet
            case rel =>
              refine ⟨⟨1, pk (ra.tdiv 31) S, 0, pk (rb.tdiv 31) len, 0, none, 0, 0, c0, c1, c2, c3, c4, .empty, []⟩, ⟨by simp; omega, fun j hj => ?_⟩, World.ownsRow_nil _ _ _ _, fun i => by simp, fine_ask zS zL hcf, (by first | exact hc3 | simp), (((((((hVc.setCell (by show V.heap.size ≤ wr.heap.size + 1; omega) _).trans (hb3.mono (by simp; omega))).setCell (by show V.heap.size ≤ wr.heap.size + 1; omega) _).setCell (by show V.heap.size ≤ wr.heap.size + 1; omega) _).setCell (by show V.heap.size ≤ wr.heap.size + 1; omega) _).setCell (by show V.heap.size ≤ wr.heap.size + 1; omega) _).setCell (by show V.heap.size ≤ wr.heap.size + 1; omega) _)⟩
              have hj' : j = 0 ∨ j = 1 ∨ j = 2 ∨ j = 3 ∨ j = 4 ∨ j = 5 ∨ j = 6 ∨ j = 7 ∨ j = 8 ∨ j = 9 ∨ j = 10 ∨ j = 11 := by omega
              rcases hj' with rfl | rfl | rfl | rfl | rfl | rfl | rfl | rfl | rfl | rfl | rfl | rfl <;> exact ⟨by first | (go_simp; done) | (go_simp; rfl), by go_simp⟩
          · by_cases h15 : K < 15
            · have e1 : ¬ K < 8 := by omega
              have e2 : K < 15 := by omega
              go_wp2_with (go_at_call 18; refine (picked_any _ _ _ (by assumption) (by omega) (by omega)).mono ?_; rintro e u1 ⟨rfl, rfl⟩)
              go_meet
              case rel =>
                refine ⟨⟨2, pk (ra.tdiv 31) S, pk rc S, pk (rb.tdiv 31) len, pk rd 3, none, 0, 0, 0, 0, 0, 0, 0, .empty, []⟩, ⟨by simp; omega, fun j hj => ?_⟩, World.ownsRow_nil _ _ _ _, fun i => by simp, fine_go 2 (by omega) zS (pk_bd rc S (by omega)) zL (pk_bd rd 3 (by decide)), (by first | exact hc3 | simp), (((hVc.setCell (by show V.heap.size ≤ wr.heap.size + 1; omega) _).setCell (by show V.heap.size ≤ wr.heap.size + 1; omega) _).setCell (by show V.heap.size ≤ wr.heap.size + 1; omega) _)⟩
                have hj' : j = 0 ∨ j = 1 ∨ j = 2 ∨ j = 3 ∨ j = 4 ∨ j = 5 ∨ j = 6 ∨ j = 7 ∨ j = 8 ∨ j = 9 ∨ j = 10 ∨ j = 11 := by omega
                rcases hj' with rfl | rfl | rfl | rfl | rfl | rfl | rfl | rfl | rfl | rfl | rfl | rfl <;> exact ⟨by first | (go_simp; done) | (go_simp; rfl), by go_simp⟩
            · have hKs : K = 15 ∨ K = 16 ∨ K = 17 ∨ K = 18 ∨ K = 19 := by omega
              rcases hKs with hK | hK | hK | hK | hK
              · obtain rfl : K = 15 := by omega
                go_wp2_with (go_at_call 18; refine (picked_any _ _ _ (by assumption) (by omega) (by omega)).mono ?_; rintro e u1 ⟨rfl, rfl⟩)
                go_meet
                case rel =>
                  refine ⟨⟨4 - pk re 2, pk (ra.tdiv 31) S, pk rc S, pk (rb.tdiv 31) len, pk rd 3, none, 0, 0, 0, 0, 0, 0, 0, .empty, []⟩, ⟨by simp; omega, fun j hj => ?_⟩, World.ownsRow_nil _ _ _ _, fun i => by simp, fine_go (4 - pk re 2) (by omega) zS (pk_bd rc S (by omega)) zL (pk_bd rd 3 (by decide)), (by first | exact hc3 | simp), (((hVc.setCell (by show V.heap.size ≤ wr.heap.size + 1; omega) _).setCell (by show V.heap.size ≤ wr.heap.size + 1; omega) _).setCell (by show V.heap.size ≤ wr.heap.size + 1; omega) _)⟩
                  have hj' : j = 0 ∨ j = 1 ∨ j = 2 ∨ j = 3 ∨ j = 4 ∨ j = 5 ∨ j = 6 ∨ j = 7 ∨ j = 8 ∨ j = 9 ∨ j = 10 ∨ j = 11 := by omega
                  rcases hj' with rfl | rfl | rfl | rfl | rfl | rfl | rfl | rfl | rfl | rfl | rfl | rfl <;> exact ⟨by first | (go_simp; done) | (go_simp; rfl), by go_simp⟩
              · obtain rfl : K = 16 := by omega
                go_wp2_with fail
                go_meet
                case rel =>
                  refine ⟨⟨5, 0, 0, 0, 0, none, 0, 0, 0, 0, 0, 0, 0, .empty, []⟩, ⟨by simp; omega, fun j hj => ?_⟩, World.ownsRow_nil _ _ _ _, fun i => by simp, fine_tick S1 n1, (by first | exact hc3 | simp), ((((((((((((hVc.setCell (by show V.heap.size ≤ wr.heap.size + 1; omega) _).setCell (by show V.heap.size ≤ wr.heap.size + 1; omega) _).setCell (by show V.heap.size ≤ wr.heap.size + 1; omega) _).setCell (by show V.heap.size ≤ wr.heap.size + 1; omega) _).setCell (by show V.heap.size ≤ wr.heap.size + 1; omega) _).setCell (by show V.heap.size ≤ wr.heap.size + 1; omega) _).setCell (by show V.heap.size ≤ wr.heap.size + 1; omega) _).setCell (by show V.heap.size ≤ wr.heap.size + 1; omega) _).setCell (by show V.heap.size ≤ wr.heap.size + 1; omega) _).setCell (by show V.heap.size ≤ wr.heap.size + 1; omega) _).setCell (by show V.heap.size ≤ wr.heap.size + 1; omega) _).setCell (by show V.heap.size ≤ wr.heap.size + 1; omega) _)⟩
                  have hj' : j = 0 ∨ j = 1 ∨ j = 2 ∨ j = 3 ∨ j = 4 ∨ j = 5 ∨ j = 6 ∨ j = 7 ∨ j = 8 ∨ j = 9 ∨ j = 10 ∨ j = 11 := by omega
                  rcases hj' with rfl | rfl | rfl | rfl | rfl | rfl | rfl | rfl | rfl | rfl | rfl | rfl <;> exact ⟨by first | (go_simp; done) | (go_simp; rfl), by go_simp⟩
              · obtain rfl : K = 17 := by omega
                obtain ⟨wo, rfl⟩ : ∃ wo : World, wo = wr := ⟨_, rfl⟩
                go_wp2_with fail
                go_loopw [14] (fun i wx => ∃ (n : Nat) (ka : Option Addr) (kc : Nat) (keep : List Int), n ≤ len ∧ i = .int .i64 n ∧ BoxAt wx (wo.heap.size + 1) ⟨6, pk (ra.tdiv 31) S, 0, 0, 0, ka, n, kc, 0, 0, 0, 0, 0, .empty, keep⟩ ∧ wx.ownsRow (wo.heap.size + 2) 3 1 (.slice ka n kc) n (keep.map (Value.int .i64)) ∧ K40 keep ∧ Below V.heap.size V wx) (fun i _ => len - (intOf i).toNat)
                case atStart =>
                  refine ⟨0, none, 0, [], Nat.zero_le _, rfl, ⟨by simp; omega, fun j hj => ?_⟩, World.ownsRow_nil _ _ _ _, k40_nil, ((((((((((((hVc.setCell (by show V.heap.size ≤ wo.heap.size + 1; omega) _).setCell (by show V.heap.size ≤ wo.heap.size + 1; omega) _).setCell (by show V.heap.size ≤ wo.heap.size + 1; omega) _).setCell (by show V.heap.size ≤ wo.heap.size + 1; omega) _).setCell (by show V.heap.size ≤ wo.heap.size + 1; omega) _).setCell (by show V.heap.size ≤ wo.heap.size + 1; omega) _).setCell (by show V.heap.size ≤ wo.heap.size + 1; omega) _).setCell (by show V.heap.size ≤ wo.heap.size + 1; omega) _).setCell (by show V.heap.size ≤ wo.heap.size + 1; omega) _).setCell (by show V.heap.size ≤ wo.heap.size + 1; omega) _).setCell (by show V.heap.size ≤ wo.heap.size + 1; omega) _).setCell (by show V.heap.size ≤ wo.heap.size + 1; omega) _)⟩
                  have hj' : j = 0 ∨ j = 1 ∨ j = 2 ∨ j = 3 ∨ j = 4 ∨ j = 5 ∨ j = 6 ∨ j = 7 ∨ j = 8 ∨ j = 9 ∨ j = 10 ∨ j = 11 := by omega
                  rcases hj' with rfl | rfl | rfl | rfl | rfl | rfl | rfl | rfl | rfl | rfl | rfl | rfl <;> exact ⟨by first | (go_simp; done) | (go_simp; rfl), by go_simp⟩
                case round =>
                  obtain ⟨n, ka, kc, keep, hn, rfl, hBn, hon, hnn, hbn⟩ := hrel
                  have hzn := hbn.size
                  have hg1 := hBn.1
                  have t1 := (hbn.cell (p := ⟨w.heap.size, 1, none⟩) (by show w.heap.size < _; omega)).trans y1
                  have t4 := (hbn.cell (p := ⟨wo.heap.size, 4, none⟩) (by show wo.heap.size < _; omega)).trans v4
                  have x0' := (hBn.2 0 (by decide)).1
                  have z0' := (hBn.2 0 (by decide)).2
                  have x1' := (hBn.2 1 (by decide)).1
                  have z1' := (hBn.2 1 (by decide)).2
                  have x2' := (hBn.2 2 (by decide)).1
                  have z2' := (hBn.2 2 (by decide)).2
                  have x3' := (hBn.2 3 (by decide)).1
                  have z3' := (hBn.2 3 (by decide)).2
                  have x4' := (hBn.2 4 (by decide)).1
                  have z4' := (hBn.2 4 (by decide)).2
                  have x5' := (hBn.2 5 (by decide)).1
                  have z5' := (hBn.2 5 (by decide)).2
                  have x6' := (hBn.2 6 (by decide)).1
                  have z6' := (hBn.2 6 (by decide)).2
                  have x7' := (hBn.2 7 (by decide)).1
                  have z7' := (hBn.2 7 (by decide)).2
                  have x8' := (hBn.2 8 (by decide)).1
                  have z8' := (hBn.2 8 (by decide)).2
                  have x9' := (hBn.2 9 (by decide)).1
                  have z9' := (hBn.2 9 (by decide)).2
                  have x10' := (hBn.2 10 (by decide)).1
                  have z10' := (hBn.2 10 (by decide)).2
                  have x11' := (hBn.2 11 (by decide)).1
                  have z11' := (hBn.2 11 (by decide)).2
                  simp [AV.cells] at x0' x1' x2' x3' x4' x5' x6' x7' x8' x9' x10' x11'
                  by_cases hl : n < len
                  · have hl' : (n : Int) < (len : Int) := by omega
                    have bq := tdiv_bd (n := rd) (m := (n : Int) + 1) hrd (by omega)
                    have w1' : IntKind.i64.wrap ((n : Int) + 1) = (n : Int) + 1 := wrap_in (by omega)
                    have w2' := wrap_in bq
                    have nz : ¬ ((n : Int) + 1 = 0) := by omega
                    have honD : wr.drew.ownsRow (wo.heap.size + 2) 3 1 (.slice ka n kc) n (keep.map (Value.int .i64)) := hon
                    go_wp2
                    have m40 := pk_bd (rd.tdiv ((n : Int) + 1)) 40 (by decide)
                    have hlk : ∀ m, (Value.slice ka n kc).ownBlock = some m → wo.heap.size + 2 ≤ m := fun m hm => (hon.lt m hm).1
                    go_region_law (first
                      | (refine step_append_lies _ (by rfl) (.tmp 122) (.tmp 129) _ (by rfl) (wo.heap.size + 2) 3 j0 (.int .i64 0) 1 8 Tryd.underlying34 hj lj0 lj1 lj2 rfl (by decide) (.slice ka n kc) n (keep.map (Value.int .i64)) (by rfl) (honD.alloc _) _ 1 1 [.int .i64 (pk (rd.tdiv ((n : Int) + 1)) 40)] (by rfl) rfl (news_new #[.int .i64 (pk (rd.tdiv ((n : Int) + 1)) 40)] _ rfl) (by intro u hu; simp at hu; subst hu; rfl) (by omega) (by unfold maxLen; omega) (by omega) (by simp; omega) _ rfl ?_; intro g2 cap2 v2 hown2 hgrow2 hat2 hlt2; have hk2 : Below (wo.heap.size + 2) wr v2 := Below.grown (by repeat (first | exact Below.refl _ _ | apply Below.drew | refine Below.alloc ?_ (by first | omega | (simp; omega) | (show _ ≤ wr.heap.size; omega)) _)) hgrow2 (by simp; omega) hlk; have e5 : v2.cell? ⟨wo.heap.size + 1, 5, none⟩ = some (.slice ka n kc) := (hk2.cell (p := ⟨wo.heap.size + 1, 5, none⟩) (by show wo.heap.size + 1 < _; omega)).trans x5'; have ef : v2.frozen? ⟨wo.heap.size + 1, 5, none⟩ = false := (hk2.frozen (p := ⟨wo.heap.size + 1, 5, none⟩) (by show wo.heap.size + 1 < _; omega)).trans z5')
                      | (go_simp; go_at_call 18; refine (picked_any _ _ _ (by assumption) (by omega) (by omega)).mono ?_; rintro e u1 ⟨rfl, hu1⟩; rw [hu1]; clear hu1))
                    all_goals
                      go_wp2
                      go_roundw
                      case rel =>
                        have hs2 := hk2.size
                        have hcj : ∀ j, v2.cell? ⟨wo.heap.size + 1, j, none⟩ = wr.cell? ⟨wo.heap.size + 1, j, none⟩ := fun j => hk2.cell (p := ⟨wo.heap.size + 1, j, none⟩) (by show wo.heap.size + 1 < _; omega)
                        have hfj : ∀ j, v2.frozen? ⟨wo.heap.size + 1, j, none⟩ = wr.frozen? ⟨wo.heap.size + 1, j, none⟩ := fun j => hk2.frozen (p := ⟨wo.heap.size + 1, j, none⟩) (by show wo.heap.size + 1 < _; omega)
                        refine ⟨n + 1, some ⟨g2, 0, none⟩, cap2, keep ++ [pk (rd.tdiv ((n : Int) + 1)) 40], by omega, by go_num, ⟨by simp; omega, fun j hj => ?_⟩, by simpa using ownsRow_setCell_below hown2 (a := ⟨wo.heap.size + 1, 5, none⟩) (by show wo.heap.size + 1 < wo.heap.size + 2; omega) _, k40_snoc hnn m40, (hbn.trans (hk2.mono (by omega))).setCell (by show V.heap.size ≤ wo.heap.size + 1; omega) _⟩
                        have hj' : j = 0 ∨ j = 1 ∨ j = 2 ∨ j = 3 ∨ j = 4 ∨ j = 5 ∨ j = 6 ∨ j = 7 ∨ j = 8 ∨ j = 9 ∨ j = 10 ∨ j = 11 := by omega
                        rcases hj' with rfl | rfl | rfl | rfl | rfl | rfl | rfl | rfl | rfl | rfl | rfl | rfl <;> exact ⟨by first | (go_simp; done) | (go_simp; rfl), by go_simp⟩
                      case measure => simp [intOf]; omega
                  · go_wp2
                    go_meet
                    case rel => exact ⟨⟨6, pk (ra.tdiv 31) S, 0, 0, 0, ka, n, kc, 0, 0, 0, 0, 0, .empty, keep⟩, hBn, own_base hon (by have := hb.size; omega), k40_nums hnn, fine_crash zS n1 hn hnn, by simp, hbn⟩
              · obtain rfl : K = 18 := by omega
                go_wp2_with fail
                go_meet
                case rel =>
                  refine ⟨⟨7, pk (ra.tdiv 31) S, 0, 0, 0, none, 0, 0, 0, 0, 0, 0, 0, .empty, []⟩, ⟨by simp; omega, fun j hj => ?_⟩, World.ownsRow_nil _ _ _ _, fun i => by simp, fine_start zS n1, (by first | exact hc3 | simp), ((((((((((((hVc.setCell (by show V.heap.size ≤ wr.heap.size + 1; omega) _).setCell (by show V.heap.size ≤ wr.heap.size + 1; omega) _).setCell (by show V.heap.size ≤ wr.heap.size + 1; omega) _).setCell (by show V.heap.size ≤ wr.heap.size + 1; omega) _).setCell (by show V.heap.size ≤ wr.heap.size + 1; omega) _).setCell (by show V.heap.size ≤ wr.heap.size + 1; omega) _).setCell (by show V.heap.size ≤ wr.heap.size + 1; omega) _).setCell (by show V.heap.size ≤ wr.heap.size + 1; omega) _).setCell (by show V.heap.size ≤ wr.heap.size + 1; omega) _).setCell (by show V.heap.size ≤ wr.heap.size + 1; omega) _).setCell (by show V.heap.size ≤ wr.heap.size + 1; omega) _).setCell (by show V.heap.size ≤ wr.heap.size + 1; omega) _)⟩
                  have hj' : j = 0 ∨ j = 1 ∨ j = 2 ∨ j = 3 ∨ j = 4 ∨ j = 5 ∨ j = 6 ∨ j = 7 ∨ j = 8 ∨ j = 9 ∨ j = 10 ∨ j = 11 := by omega
                  rcases hj' with rfl | rfl | rfl | rfl | rfl | rfl | rfl | rfl | rfl | rfl | rfl | rfl <;> exact ⟨by first | (go_simp; done) | (go_simp; rfl), by go_simp⟩
              · obtain rfl : K = 19 := by omega
                go_wp2_with (go_at_call 34; refine (typed_any _ _ _ _ _ _ _ hkd hra hrb hrc hrd hre).mono ?_; rintro e w3 ⟨t, rfl, ht60, hb3⟩; have z3 : wr.heap.size + 1 < w3.heap.size := (by have := hb3.size; simp at this; omega); obtain ⟨hc3', hf3'⟩ := bcell hb3)
                go_meet
                case rel =>
                  refine ⟨⟨8, pk (ra.tdiv 31) S, 0, pk (rb.tdiv 31) len, 0, none, 0, 0, 0, 0, 0, 0, 0, t, []⟩, ⟨by simp; omega, fun j hj => ?_⟩, World.ownsRow_nil _ _ _ _, fun i => by simp, fine_type zS zL ht60, (by first | exact hc3 | simp), (((hVc.setCell (by show V.heap.size ≤ wr.heap.size + 1; omega) _).trans (hb3.mono (by simp; omega))).setCell (by show V.heap.size ≤ wr.heap.size + 1; omega) _)⟩
                  have hj' : j = 0 ∨ j = 1 ∨ j = 2 ∨ j = 3 ∨ j = 4 ∨ j = 5 ∨ j = 6 ∨ j = 7 ∨ j = 8 ∨ j = 9 ∨ j = 10 ∨ j = 11 := by omega
                  rcases hj' with rfl | rfl | rfl | rfl | rfl | rfl | rfl | rfl | rfl | rfl | rfl | rfl <;> exact ⟨by first | (go_simp; done) | (go_simp; rfl), by go_simp⟩
        case rest =>
          obtain ⟨a, hBx, hkeep, hnum, hfin, hc3, hVx⟩ := hcut
          obtain ⟨kind, site, tu, label, pick, ka, kl, kc, c0, c1, c2, c3, c4, line, keep⟩ := a
          simp only [] at hkeep hnum hc3
          have b0 := (hBx.2 0 (by decide)).1
          have b1 := (hBx.2 1 (by decide)).1
          have b2 := (hBx.2 2 (by decide)).1
          have b3 := (hBx.2 3 (by decide)).1
          have b4 := (hBx.2 4 (by decide)).1
          have b5 := (hBx.2 5 (by decide)).1
          have b6 := (hBx.2 6 (by decide)).1
          have b7 := (hBx.2 7 (by decide)).1
          have b8 := (hBx.2 8 (by decide)).1
          have b9 := (hBx.2 9 (by decide)).1
          have b10 := (hBx.2 10 (by decide)).1
          have b11 := (hBx.2 11 (by decide)).1
          simp [AV.cells] at b0 b1 b2 b3 b4 b5 b6 b7 b8 b9 b10 b11
          have hzx := hVx.size
          have hgx := hBx.1
          have hwx : Below wr.heap.size wr wc := hVb.trans (hVx.mono hVb.size)
          have hOx := hO.below hwx
          have q5 := (hVx.cell (p := ⟨wr.heap.size, 5, none⟩) (by show wr.heap.size < _; omega)).trans v5
          have q6 := (hVx.cell (p := ⟨w.heap.size, 0, none⟩) (by show w.heap.size < _; omega)).trans y0
          have hne : ∀ m, (Value.slice ao ys.length cp).ownBlock = some m → W.heap.size ≤ m ∧ m < wr.heap.size := fun m hm => hO.row.lt m hm
          go_upto_region 32 with (at_builtin; refine wpList_append_own _ rfl _ _ 25 rfl W.heap.size 41 i0 (.agg #[.int .i64 0, .int .i64 0, .int .i64 0, .int .i64 0, .int .i64 0, .slice none 0 0, .int .i64 0, .int .i64 0, .int .i64 0, .int .i64 0, .int .i64 0, .string .empty]) 12 120 Tryd.underlying25 hi li0 li1 li2 rfl (by decide) (.slice ao ys.length cp) ys.length (flatActs ys) rfl (hOx.row.alloc _) ⟨wc.heap.size, 0, none⟩ 1 1 (AV.cells ⟨kind, site, tu, label, pick, ka, kl, kc, c0, c1, c2, c3, c4, line, keep⟩) rfl rfl (news_new #[.int .i64 kind, .int .i64 site, .int .i64 tu, .int .i64 label, .int .i64 pick, .slice ka kl kc, .int .i64 c0, .int .i64 c1, .int .i64 c2, .int .i64 c3, .int .i64 c4, .string line] _ rfl) (cells_one _) (by unfold maxLen; omega) (by omega) (by have := hb.size; simp; omega) ?_)
          intro v' w5 hown hgrow _
          obtain ⟨g5, cp5, hv', hg1, hg2⟩ := World.ownsRow.form hown (by omega)
          rw [hv'] at hown ⊢
          have R := hOx.push (w1 := wc.alloc (.cells #[.int .i64 kind, .int .i64 site, .int .i64 tu, .int .i64 label, .int .i64 pick, .slice ka kl kc, .int .i64 c0, .int .i64 c1, .int .i64 c2, .int .i64 c3, .int .i64 c4, .string line] 41)) (y := ⟨kind, site, tu, label, pick, ka, kl, kc, c0, c1, c2, c3, c4, line, keep⟩) ((Below.refl _ _).alloc (Nat.le_refl _) _) (hkeep.alloc _) hnum hown hgrow
          have hB5 : Below W.heap.size W w5 := Below.grown ((hb.trans (hwx.mono hb.size)).alloc (by have := hb.size; omega) _) hgrow (by have := hb.size; simp; omega) (fun m hm' => (hne m hm').1)
          have far5 : ∀ (q : Addr) (u : Value), wc.cell? q = some u → q.block < wc.heap.size → some q.block ≠ (Value.slice ao ys.length cp).ownBlock → w5.cell? q = some u := fun q u hq hl hn => hgrow.cell ((((Below.refl wc.heap.size wc).alloc (Nat.le_refl _) _).cell hl).trans hq) hn
          have nb : some (wr.heap.size + 1) ≠ (Value.slice ao ys.length cp).ownBlock := fun e => by have := hne _ e.symm; omega
          have nr : some wr.heap.size ≠ (Value.slice ao ys.length cp).ownBlock := fun e => by have := hne _ e.symm; omega
          have nw : some w.heap.size ≠ (Value.slice ao ys.length cp).ownBlock := fun e => by have := hne _ e.symm; omega
          have s0 := far5 ⟨wr.heap.size + 1, 0, none⟩ _ b0 hgx nb
          have s1 := far5 ⟨wr.heap.size + 1, 1, none⟩ _ b1 hgx nb
          have s3 := far5 ⟨wr.heap.size + 1, 3, none⟩ _ b3 hgx nb
          have s9 := far5 ⟨wr.heap.size + 1, 9, none⟩ _ b9 hgx nb
          have s5 := far5 ⟨wr.heap.size, 5, none⟩ _ q5 (by show wr.heap.size < _; omega) nr
          have s6 := far5 ⟨w.heap.size, 0, none⟩ _ q6 (by show w.heap.size < _; omega) nw
          have hf5 : ∀ y ∈ ys ++ [(⟨kind, site, tu, label, pick, ka, kl, kc, c0, c1, c2, c3, c4, line, keep⟩ : AV)], Fine S len y := fun y hy => by
            rcases List.mem_append.1 hy with hy | hy
            · exact hfine y hy
            · simp at hy; subst hy; exact hfin
          obtain ⟨c31, c32⟩ := hc3
          clear far5 hgrow
          by_cases hk1 : kind = 1
          · have e1 : (kind == 1) = true := by simpa using hk1
            have z4 := pk_bd re 4 (by decide)
            by_cases hp4 : 0 < pk re 4
            · clear hk1
              have hzw5 : W.heap.size ≤ w5.heap.size := hB5.size
              go_wp2_with (first
                | (go_at_call 18; refine (picked_any _ _ _ (by assumption) (by omega) (by omega)).mono ?_; rintro e u1 ⟨rfl, hu1⟩; rw [hu1]; clear hu1)
                | (at_builtin; refine wpList_append_own _ rfl _ _ 25 rfl W.heap.size 41 i0 (.agg #[.int .i64 0, .int .i64 0, .int .i64 0, .int .i64 0, .int .i64 0, .slice none 0 0, .int .i64 0, .int .i64 0, .int .i64 0, .int .i64 0, .int .i64 0, .string .empty]) 12 120 Tryd.underlying25 hi li0 li1 li2 rfl (by decide) (.slice (some ⟨g5, 0, none⟩) (ys.length + 1) cp5) (ys.length + 1) _ rfl (hown.alloc _) ⟨w5.heap.size, 0, none⟩ 2 2 (AV.cells ⟨2, site, c3 % S, label, 0, none, 0, 0, 0, 0, 0, 0, 0, .empty, []⟩ ++ AV.cells ⟨2, c3 % S, site, label, 0, none, 0, 0, 0, 0, 0, 0, 0, .empty, []⟩) rfl rfl (news_new #[.int .i64 2, .int .i64 site, .int .i64 (c3 % S), .int .i64 label, .int .i64 0, .slice none 0 0, .int .i64 0, .int .i64 0, .int .i64 0, .int .i64 0, .int .i64 0, .string .empty, .int .i64 2, .int .i64 (c3 % S), .int .i64 site, .int .i64 label, .int .i64 0, .slice none 0 0, .int .i64 0, .int .i64 0, .int .i64 0, .int .i64 0, .int .i64 0, .string .empty] _ rfl) (by intro u hu; rcases List.mem_append.1 hu with hu | hu <;> exact cells_one _ u hu) (by unfold maxLen; omega) (by omega) (by simp; omega) ?_))
              intro v'' w6 hown6 hgrow6 _
              obtain ⟨g6, cp6, hv6, hg61, hg62⟩ := World.ownsRow.form hown6 (by omega)
              rw [hv6] at hown6 ⊢
              have R2 := OwnActs.push2 R (y := ⟨2, site, c3 % S, label, 0, none, 0, 0, 0, 0, 0, 0, 0, .empty, []⟩) (z := ⟨2, c3 % S, site, label, 0, none, 0, 0, 0, 0, 0, 0, 0, .empty, []⟩) ((Below.refl _ _).alloc (Nat.le_refl _) _) ⟨rfl, rfl, rfl, rfl⟩ ⟨rfl, rfl, rfl, rfl⟩ (by rw [flatActs_append]; simpa using hown6) hgrow6
              have hB6 : Below W.heap.size W w6 := Below.grown (hB5.alloc hzw5 _) hgrow6 (by simp; omega) (fun m hm' => (R.row.lt m (by simpa using hm')).1)
              have hf6 : ∀ y ∈ (ys ++ [(⟨kind, site, tu, label, pick, ka, kl, kc, c0, c1, c2, c3, c4, line, keep⟩ : AV)]) ++ [(⟨2, site, c3 % S, label, 0, none, 0, 0, 0, 0, 0, 0, 0, .empty, []⟩ : AV), (⟨2, c3 % S, site, label, 0, none, 0, 0, 0, 0, 0, 0, 0, .empty, []⟩ : AV)], Fine S len y := fun y hy => by
                rcases List.mem_append.1 hy with hy | hy
                · exact hf5 y hy
                · simp at hy
                  rcases hy with rfl | rfl <;> first | exact fine_go 2 (by omega) (fine_bds hfin).1 ⟨Int.emod_nonneg _ (by omega), Int.emod_lt_of_pos _ (by omega)⟩ (fine_bds hfin).2 (by omega) | exact fine_go 2 (by omega) ⟨Int.emod_nonneg _ (by omega), Int.emod_lt_of_pos _ (by omega)⟩ (fine_bds hfin).1 (fine_bds hfin).2 (by omega)
              clear hown6 hgrow6
              go_wp2
              go_roundw
              case rel => exact ⟨k + 1, some ⟨g6, 0, none⟩, cp6, (ys ++ [⟨kind, site, tu, label, pick, ka, kl, kc, c0, c1, c2, c3, c4, line, keep⟩]) ++ [⟨2, site, c3 % S, label, 0, none, 0, 0, 0, 0, 0, 0, 0, .empty, []⟩, ⟨2, c3 % S, site, label, 0, none, 0, 0, 0, 0, 0, 0, 0, .empty, []⟩], by omega, by go_num, by simp, by simpa using R2, hf6, by simp; omega, hB6⟩
              case measure => simp [intOf]; omega
            · clear hk1
              go_wp2_with (go_at_call 18; refine (picked_any _ _ _ (by assumption) (by omega) (by omega)).mono ?_; rintro e u1 ⟨rfl, rfl⟩)
              go_roundw
              case rel => exact ⟨k + 1, some ⟨g5, 0, none⟩, cp5, ys ++ [⟨kind, site, tu, label, pick, ka, kl, kc, c0, c1, c2, c3, c4, line, keep⟩], by omega, by go_num, by simp, by simpa using R, hf5, by simp; omega, hB5⟩
              case measure => simp [intOf]; omega
          · have e1 : (kind == 1) = false := by simpa using hk1
            clear hk1
            go_wp2
            go_roundw
            case rel => exact ⟨k + 1, some ⟨g5, 0, none⟩, cp5, ys ++ [⟨kind, site, tu, label, pick, ka, kl, kc, c0, c1, c2, c3, c4, line, keep⟩], by omega, by go_num, by simp, by simpa using R, hf5, by simp; omega, hB5⟩
            case measure => simp [intOf]; omega
    · have hwk : Below w.heap.size w wr := hA.trans (hb.mono hA.size)
      by_cases hlt2 : k < alen
      · have h30 : ¬ (ys.length : Int) < (most : Int) := by omega
        have hlt' : (k : Int) < (alen : Int) := by omega
        go_wp2
        go_ret
        exact ⟨ao, cp, ys, rfl, ⟨W.heap.size, hA.size, hO⟩, hfine, hyl, hwk⟩
      · have hlt' : ¬ (k : Int) < (alen : Int) := by omega
        go_wp2
        go_ret
        exact ⟨ao, cp, ys, rfl, ⟨W.heap.size, hA.size, hO⟩, hfine, hyl, hwk⟩
end Go.Proofs.YtlaagfnoepcnlaaDoor.Ln
