/- Texts of this claim, one behind the other. -/
import Derived.Test.YtlaagfnoepcnlaaDoorM7LinesShows
import Derived.Test.YtlaagfnoepcnlaaDoorM12LinesShows
import Derived.Test.YtlaagfnoepcnlaaDoorM24LinesShows
import Derived.Test.YtlaagfnoepcnlaaDoorM25LinesShows
import Derived.LoopTactic
import Derived.Deep.RegionHeld3
import Derived.Deep.RegionLaw
import Derived.Deep.AppendLies
import Derived.Deep.DeepCutAuto
import Derived.Deep.CutBlock
import Derived.Test.YtlaagfnoepcnlaaDoorM8LinesShows
import Derived.Test.YtlaagfnoepcnlaaDoorM2LinesShows
import Derived.Test.YtlaagfnoepcnlaaDoorM19LinesShows
import Derived.Test.YtlaagfnoepcnlaaDoorM16LinesShows
/- The contract of the raw Acts: some acts, each of a label that there is, at most so many; in memory of their own. -/
namespace Go.Proofs.YtlaagfnoepcnlaaDoor.Ln
open Go.ChangeShapes Go.WideShapes Go.ChangeAt Go.RowKit
set_option linter.unusedVariables false

/-- An act in a block of its own. -/
def BoxAt (w : World) (g : Nat) (a : AV) : Prop :=
  g < w.heap.size ∧ ∀ j, j < 12 → w.cell? ⟨g, j, none⟩ = a.cells[j]? ∧ w.frozen? ⟨g, j, none⟩ = false

theorem wrap_in {n : Int} (h : -9223372036854775808 ≤ n ∧ n ≤ 9223372036854775807) : IntKind.i64.wrap n = n := by
  rw [IntKind.wrap_i64]
  omega

theorem OwnActs.push2 {w w1 w2 : World} {B : Nat} {v v' : Value} {ys : List AV} {y z : AV} (h : OwnActs w B v ys) (hb : Below w.heap.size w w1)
    (hy : y.ka = none ∧ y.kl = 0 ∧ y.kc = 0 ∧ y.keep = []) (hz : z.ka = none ∧ z.kl = 0 ∧ z.kc = 0 ∧ z.keep = [])
    (hown : w2.ownsRow B 41 12 v' (ys.length + 2) (flatActs ys ++ (y.cells ++ z.cells))) (hg : w1.grownBy w2 v.ownBlock) : OwnActs w2 B v' (ys ++ [y, z]) := by
  have h1 := h.below hb
  refine ⟨?_, fun x hx => ?_⟩
  · have e : flatActs (ys ++ [y, z]) = flatActs ys ++ (y.cells ++ z.cells) := by simp [flatActs]
    rw [e]
    simpa using hown
  · rcases List.mem_append.1 hx with hx | hx
    · exact ⟨(h1.keeps x hx).1.kept hg (own_apart (h1.keeps x hx).1 h1.row (by decide)), (h1.keeps x hx).2⟩
    · simp at hx
      rcases hx with rfl | rfl
      · rw [hy.1, hy.2.1, hy.2.2.1, hy.2.2.2]
        exact ⟨World.ownsRow_nil _ _ _ _, fun i => by simp⟩
      · rw [hz.1, hz.2.1, hz.2.2.1, hz.2.2.2]
        exact ⟨World.ownsRow_nil _ _ _ _, fun i => by simp⟩

theorem nums_snoc {zs : List Int} {z : Int} (h : Nums zs) (hz : 0 ≤ z ∧ z < 40) : Nums (zs ++ [z]) := fun i => by
  have hi := h i
  rw [List.getD_eq_getElem?_getD] at hi ⊢
  rw [List.getElem?_append]
  split
  · exact hi
  · cases hj : i - zs.length with
    | zero => simp; omega
    | succ m => simp

set_option maxHeartbeats 4000000 in
set_option maxRecDepth 100000 in
theorem acts_most (S p : Int) (ad : Option Addr) (len cap : Nat) (aa : Option Addr) (alen acap : Nat) (rs : List RV) (w : World) (hS : 1 ≤ S ∧ S ≤ 4) (hlen : 1 ≤ len ∧ len ≤ 4) (hx : IsRaws w aa alen acap rs) (most : Nat) (hmo : most ≤ 1000) :
    Calls Tryd.prog 15 #[.agg #[.int .i64 S, .slice ad len cap, .int .i64 p], .slice aa alen acap, .int .i64 (most : Int), .bool true] w fun e w' => ∃ (ao : Option Addr) (cp : Nat) (ys : List AV),
      e = .returned (.slice ao ys.length cp) ∧ (∃ B : Nat, w.heap.size ≤ B ∧ OwnActs w' B (.slice ao ys.length cp) ys) ∧ (∀ y ∈ ys, Fine S len y) ∧ ys.length ≤ most + 2 ∧ Below w.heap.size w w' := by
  obtain ⟨i0, hi, li0, li1, li2⟩ := info_parts actInfo
  obtain ⟨j0, hj, lj0, lj1, lj2⟩ := info_parts intInfo
  obtain ⟨S1, S4⟩ := hS
  obtain ⟨n1, n4⟩ := hlen
  have m1 : (1 : Int) ≤ (len : Int) := by omega
  have m4 : (len : Int) ≤ 4 := by omega
  have hmx : alen ≤ maxLen := Nat.le_trans hx.2.1 hx.2.2.1
  unfold maxLen at hmx
  obtain ⟨W, hW⟩ : ∃ W : World, W = w.alloc (.cells #[.int .i64 S, .slice ad len cap, .int .i64 p] 24) := ⟨_, rfl⟩
  have hA : Below w.heap.size w W := by rw [hW]; exact (Below.refl _ _).alloc (Nat.le_refl _) _
  have zW : w.heap.size < W.heap.size := by rw [hW]; simp
  have d0 : W.cell? ⟨w.heap.size, 0, none⟩ = some (.int .i64 S) := by rw [hW]; go_simp
  have d1 : W.cell? ⟨w.heap.size, 1, none⟩ = some (.slice ad len cap) := by rw [hW]; go_simp
  have hxW := hx.below hA
  go_enter Tryd.func15, Tryd.ntmps15
  go_wp2
  rw [← hW]
  clear hW
  go_loopw [9, 10] (fun v i wr => ∃ (k : Nat) (ao : Option Addr) (cp : Nat) (ys : List AV), k ≤ alen ∧ i = .int .i64 k ∧ v = .slice ao ys.length cp ∧ OwnActs wr W.heap.size (.slice ao ys.length cp) ys ∧ (∀ y ∈ ys, Fine S len y) ∧ ys.length ≤ most + 2 ∧ Below W.heap.size W wr) (fun _ i _ => alen - (intOf i).toNat)
  case atStart => exact ⟨0, none, 0, [], Nat.zero_le _, rfl, rfl, ownActs_nil _ _, by simp, by simp, Below.refl _ _⟩
  case round =>
    obtain ⟨k, ao, cp, ys, hk, rfl, rfl, hO, hfine, hyl, hb⟩ := hrel
    have hlx := hxW.1
    have x0 := (hb.cell (p := ⟨w.heap.size, 0, none⟩) zW).trans d0
    have x1 := (hb.cell (p := ⟨w.heap.size, 1, none⟩) zW).trans d1
    have zr : w.heap.size < wr.heap.size := Nat.lt_of_lt_of_le zW hb.size
    by_cases hlt : k < alen ∧ ys.length < most
    · obtain ⟨hlt, h30⟩ := hlt
      have hlt' : (k : Int) < (alen : Int) := by omega
      have h30' : (ys.length : Int) < (most : Int) := by omega
      obtain ⟨b, off, rfl, hAt⟩ := (hxW.below hb).2.2.2.2 (by omega)
      have hcells := hAt.2 k (by omega)
      have hok := hxW.2.2.2.1 k
      obtain ⟨r, er⟩ : ∃ r, r = rs.getD k default := ⟨_, rfl⟩
      rw [← er] at hcells hok
      clear er
      obtain ⟨kd, ra, rb, rc, rd, re⟩ := r
      obtain ⟨hkd, hra, hrb, hrc, hrd, hre⟩ := hok
      simp only [Bd] at hkd hra hrb hrc hrd hre
      obtain ⟨ka1, ka2⟩ := id hra
      obtain ⟨kb1, kb2⟩ := id hrb
      obtain ⟨kc1, kc2⟩ := id hrc
      obtain ⟨kd1, kd2⟩ := id hrd
      obtain ⟨ke1, ke2⟩ := id hre
      obtain ⟨kk1, kk2⟩ := id hkd
      have a0 := hcells 0 (by decide)
      have a1 := hcells 1 (by decide)
      have a2 := hcells 2 (by decide)
      have a3 := hcells 3 (by decide)
      have a4 := hcells 4 (by decide)
      have a5 := hcells 5 (by decide)
      simp [RV.cells] at a0 a1 a2 a3 a4 a5
      clear hcells
      have zS := pk_bd (ra.tdiv 31) S (by omega)
      have zL := pk_bd (rb.tdiv 31) (len : Int) (by omega)
      have bA := tdiv_bd (n := ra) (m := 31) hra (by decide)
      have bB := tdiv_bd (n := rb) (m := 31) hrb (by decide)
      have wq1 := wrap_in bA
      have wq2 := wrap_in bB
      go_wp2
      obtain ⟨V, hV⟩ : ∃ V : World, V = wr.alloc (.cells #[.int .i64 kd, .int .i64 ra, .int .i64 rb, .int .i64 rc, .int .i64 rd, .int .i64 re] 73) := ⟨_, rfl⟩
      have hVb : Below wr.heap.size wr V := by rw [hV]; exact (Below.refl _ _).alloc (Nat.le_refl _) _
      have zV : V.heap.size = wr.heap.size + 1 := by rw [hV]; simp
      have v0 : V.cell? ⟨wr.heap.size, 0, none⟩ = some (.int .i64 kd) := by rw [hV]; go_simp
      have v1 : V.cell? ⟨wr.heap.size, 1, none⟩ = some (.int .i64 ra) := by rw [hV]; go_simp
      have v2 : V.cell? ⟨wr.heap.size, 2, none⟩ = some (.int .i64 rb) := by rw [hV]; go_simp
      have v3 : V.cell? ⟨wr.heap.size, 3, none⟩ = some (.int .i64 rc) := by rw [hV]; go_simp
      have v4 : V.cell? ⟨wr.heap.size, 4, none⟩ = some (.int .i64 rd) := by rw [hV]; go_simp
      have v5 : V.cell? ⟨wr.heap.size, 5, none⟩ = some (.int .i64 re) := by rw [hV]; go_simp
      have y0 := (hVb.cell (p := ⟨w.heap.size, 0, none⟩) zr).trans x0
      have y1 := (hVb.cell (p := ⟨w.heap.size, 1, none⟩) zr).trans x1
      rw [← hV]
      clear hV
      go_cut [12] (fun s12 wc => s12 = .pointer (some ⟨wr.heap.size + 1, 0, none⟩) ∧ BoxAt wc (wr.heap.size + 1) ⟨0, pk (ra.tdiv 31) S, 0, pk (rb.tdiv 31) len, 0, none, 0, 0, 0, 0, 0, 0, 0, .empty, []⟩ ∧ Below V.heap.size V wc)
      case first =>
        go_region_held3 (fun w' => w'.cell? ⟨wr.heap.size, 1, none⟩ = some (.int .i64 ra) ∧ w'.cell? ⟨wr.heap.size, 2, none⟩ = some (.int .i64 rb) ∧ w'.cell? ⟨w.heap.size, 0, none⟩ = some (.int .i64 S) ∧ w'.cell? ⟨w.heap.size, 1, none⟩ = some (.slice ad len cap))
          (go_keep)
          ((go_at_call 18; refine (picked_any _ _ _ (by assumption) (by omega) (by omega)).mono ?_; rintro e u1 ⟨rfl, rfl⟩))
        all_goals
          go_wp2_with fail
          go_meet
          case rel =>
            refine ⟨by simp, ⟨by simp [zV], fun j hj => ?_⟩, by repeat (first | exact Below.refl _ _ | apply Below.drew | refine Below.alloc ?_ (by simp) _)⟩
            have hj' : j = 0 ∨ j = 1 ∨ j = 2 ∨ j = 3 ∨ j = 4 ∨ j = 5 ∨ j = 6 ∨ j = 7 ∨ j = 8 ∨ j = 9 ∨ j = 10 ∨ j = 11 := by omega
            rw [← zV]
            rcases hj' with rfl | rfl | rfl | rfl | rfl | rfl | rfl | rfl | rfl | rfl | rfl | rfl <;> exact ⟨by go_simp; rfl, by go_simp⟩
      case rest =>
        obtain ⟨rfl, hBox, hVc⟩ := hcut
        have hwc : Below wr.heap.size wr wc := hVb.trans (hVc.mono hVb.size)
        have hO2 := hO.below hwc
        have hzc := hVc.size
        have q0 := (hVc.cell (p := ⟨wr.heap.size, 0, none⟩) (by show wr.heap.size < _; omega)).trans v0
        have q1 := (hVc.cell (p := ⟨wr.heap.size, 1, none⟩) (by show wr.heap.size < _; omega)).trans v1
        have q2 := (hVc.cell (p := ⟨wr.heap.size, 2, none⟩) (by show wr.heap.size < _; omega)).trans v2
        have q3 := (hVc.cell (p := ⟨wr.heap.size, 3, none⟩) (by show wr.heap.size < _; omega)).trans v3
        have q4 := (hVc.cell (p := ⟨wr.heap.size, 4, none⟩) (by show wr.heap.size < _; omega)).trans v4
        have q5 := (hVc.cell (p := ⟨wr.heap.size, 5, none⟩) (by show wr.heap.size < _; omega)).trans v5
        have q6 := (hVc.cell (p := ⟨w.heap.size, 0, none⟩) (by show w.heap.size < _; omega)).trans y0
        have q7 := (hVc.cell (p := ⟨w.heap.size, 1, none⟩) (by show w.heap.size < _; omega)).trans y1
        go_upto_block 2 with ((go_at_call 18; refine (picked_any _ _ _ (by assumption) (by omega) (by omega)).mono ?_; rintro e u1 ⟨rfl, rfl⟩))
        have b0 := (hBox.2 0 (by decide)).1
        have f0 := (hBox.2 0 (by decide)).2
        have b1 := (hBox.2 1 (by decide)).1
        have f1 := (hBox.2 1 (by decide)).2
        have b2 := (hBox.2 2 (by decide)).1
        have f2 := (hBox.2 2 (by decide)).2
        have b3 := (hBox.2 3 (by decide)).1
        have f3 := (hBox.2 3 (by decide)).2
        have b4 := (hBox.2 4 (by decide)).1
        have f4 := (hBox.2 4 (by decide)).2
        have b5 := (hBox.2 5 (by decide)).1
        have f5 := (hBox.2 5 (by decide)).2
        have b6 := (hBox.2 6 (by decide)).1
        have f6 := (hBox.2 6 (by decide)).2
        have b7 := (hBox.2 7 (by decide)).1
        have f7 := (hBox.2 7 (by decide)).2
        have b8 := (hBox.2 8 (by decide)).1
        have f8 := (hBox.2 8 (by decide)).2
        have b9 := (hBox.2 9 (by decide)).1
        have f9 := (hBox.2 9 (by decide)).2
        have b10 := (hBox.2 10 (by decide)).1
        have f10 := (hBox.2 10 (by decide)).2
        have b11 := (hBox.2 11 (by decide)).1
        have f11 := (hBox.2 11 (by decide)).2
        simp [AV.cells] at b0 b1 b2 b3 b4 b5 b6 b7 b8 b9 b10 b11
        obtain ⟨K, eK⟩ : ∃ K, K = pk kd 20 := ⟨_, rfl⟩
        have zK := pk_bd kd 20 (by decide)
        rw [← eK] at zK ⊢
        clear eK
        go_cut [] (fun wx => ∃ a : AV, BoxAt wx (wr.heap.size + 1) a ∧ wx.ownsRow W.heap.size 3 1 (.slice a.ka a.kl a.kc) a.kl (a.keep.map (Value.int .i64)) ∧ Nums a.keep ∧ Fine S len a ∧ (0 ≤ a.c3 ∧ a.c3 ≤ 3) ∧ Below V.heap.size V wx)
        case first =>
          have zE := pk_bd re 2 (by decide)
          have hB1 := hBox.1
          have bC := tdiv_bd (n := rc) (m := 9) hrc (by decide)
          by_cases h8 : K < 8
          · go_wp2_with (go_at_call 33; refine (ask_any _ _ _ _ _ _ _ (by assumption) (by assumption) (by assumption) (by assumption) (by assumption)).mono ?_; rintro e w3 ⟨c0, c1, c2, c3, c4, rfl, hc3, hcf, hb3⟩; have z3 : wr.heap.size + 1 < w3.heap.size := (by have := hb3.size; simp at this; omega); obtain ⟨hc3', hf3'⟩ := bcell hb3)
            go_meet
            case rel =>
              refine ⟨⟨1, pk (ra.tdiv 31) S, 0, pk (rb.tdiv 31) len, 0, none, 0, 0, c0, c1, c2, c3, c4, .empty, []⟩, ⟨by simp; omega, fun j hj => ?_⟩, World.ownsRow_nil _ _ _ _, fun i => by simp, fine_ask zS zL hcf, (by first | exact hc3 | simp), (((((((hVc.setCell (by show V.heap.size ≤ wr.heap.size + 1; omega) _).trans (hb3.mono (by simp; omega))).setCell (by show V.heap.size ≤ wr.heap.size + 1; omega) _).setCell (by show V.heap.size ≤ wr.heap.size + 1; omega) _).setCell (by show V.heap.size ≤ wr.heap.size + 1; omega) _).setCell (by show V.heap.size ≤ wr.heap.size + 1; omega) _).setCell (by show V.heap.size ≤ wr.heap.size + 1; omega) _)⟩
              have hj' : j = 0 ∨ j = 1 ∨ j = 2 ∨ j = 3 ∨ j = 4 ∨ j = 5 ∨ j = 6 ∨ j = 7 ∨ j = 8 ∨ j = 9 ∨ j = 10 ∨ j = 11 := by omega
              rcases hj' with rfl | rfl | rfl | rfl | rfl | rfl | rfl | rfl | rfl | rfl | rfl | rfl <;> exact ⟨by first | (go_simp; done) | (go_simp; rfl), by go_simp⟩
          · by_cases h15 : K < 15
            · have e1 : ¬ K < 8 := by omega
              have e2 : K < 15 := by omega
              go_wp2_with (go_at_call 18; refine (picked_any _ _ _ (by assumption) (by omega) (by omega)).mono ?_; rintro e u1 ⟨rfl, rfl⟩)
              go_meet
              case rel =>
                refine ⟨⟨2, pk (ra.tdiv 31) S, pk rc S, pk (rb.tdiv 31) len, pk rd 3, none, 0, 0, 0, 0, 0, 0, 0, .empty, []⟩, ⟨by simp; omega, fun j hj => ?_⟩, World.ownsRow_nil _ _ _ _, fun i => by simp, fine_go 2 (by omega) zS (pk_bd rc S (by omega)) zL (pk_bd rd 3 (by decide)), (by first | exact hc3 | simp), (((hVc.setCell (by show V.heap.size ≤ wr.heap.size + 1; omega) _).setCell (by show V.heap.size ≤ wr.heap.size + 1; omega) _).setCell (by show V.heap.size ≤ wr.heap.size + 1; omega) _)⟩
                have hj' : j = 0 ∨ j = 1 ∨ j = 2 ∨ j = 3 ∨ j = 4 ∨ j = 5 ∨ j = 6 ∨ j = 7 ∨ j = 8 ∨ j = 9 ∨ j = 10 ∨ j = 11 := by omega
                rcases hj' with rfl | rfl | rfl | rfl | rfl | rfl | rfl | rfl | rfl | rfl | rfl | rfl <;> exact ⟨by first | (go_simp; done) | (go_simp; rfl), by go_simp⟩
            · have hKs : K = 15 ∨ K = 16 ∨ K = 17 ∨ K = 18 ∨ K = 19 := by omega
              rcases hKs with hK | hK | hK | hK | hK
              · obtain rfl : K = 15 := by omega
                go_wp2_with (go_at_call 18; refine (picked_any _ _ _ (by assumption) (by omega) (by omega)).mono ?_; rintro e u1 ⟨rfl, rfl⟩)
                go_meet
                case rel =>
                  refine ⟨⟨4 - pk re 2, pk (ra.tdiv 31) S, pk rc S, pk (rb.tdiv 31) len, pk rd 3, none, 0, 0, 0, 0, 0, 0, 0, .empty, []⟩, ⟨by simp; omega, fun j hj => ?_⟩, World.ownsRow_nil _ _ _ _, fun i => by simp, fine_go (4 - pk re 2) (by omega) zS (pk_bd rc S (by omega)) zL (pk_bd rd 3 (by decide)), (by first | exact hc3 | simp), (((hVc.setCell (by show V.heap.size ≤ wr.heap.size + 1; omega) _).setCell (by show V.heap.size ≤ wr.heap.size + 1; omega) _).setCell (by show V.heap.size ≤ wr.heap.size + 1; omega) _)⟩
                  have hj' : j = 0 ∨ j = 1 ∨ j = 2 ∨ j = 3 ∨ j = 4 ∨ j = 5 ∨ j = 6 ∨ j = 7 ∨ j = 8 ∨ j = 9 ∨ j = 10 ∨ j = 11 := by omega
                  rcases hj' with rfl | rfl | rfl | rfl | rfl | rfl | rfl | rfl | rfl | rfl | rfl | rfl <;> exact ⟨by first | (go_simp; done) | (go_simp; rfl), by go_simp⟩
              · obtain rfl : K = 16 := by omega
                go_wp2_with fail
                go_meet
                case rel =>
                  refine ⟨⟨5, 0, 0, 0, 0, none, 0, 0, 0, 0, 0, 0, 0, .empty, []⟩, ⟨by simp; omega, fun j hj => ?_⟩, World.ownsRow_nil _ _ _ _, fun i => by simp, fine_tick S1 n1, (by first | exact hc3 | simp), ((((((((((((hVc.setCell (by show V.heap.size ≤ wr.heap.size + 1; omega) _).setCell (by show V.heap.size ≤ wr.heap.size + 1; omega) _).setCell (by show V.heap.size ≤ wr.heap.size + 1; omega) _).setCell (by show V.heap.size ≤ wr.heap.size + 1; omega) _).setCell (by show V.heap.size ≤ wr.heap.size + 1; omega) _).setCell (by show V.heap.size ≤ wr.heap.size + 1; omega) _).setCell (by show V.heap.size ≤ wr.heap.size + 1; omega) _).setCell (by show V.heap.size ≤ wr.heap.size + 1; omega) _).setCell (by show V.heap.size ≤ wr.heap.size + 1; omega) _).setCell (by show V.heap.size ≤ wr.heap.size + 1; omega) _).setCell (by show V.heap.size ≤ wr.heap.size + 1; omega) _).setCell (by show V.heap.size ≤ wr.heap.size + 1; omega) _)⟩
                  have hj' : j = 0 ∨ j = 1 ∨ j = 2 ∨ j = 3 ∨ j = 4 ∨ j = 5 ∨ j = 6 ∨ j = 7 ∨ j = 8 ∨ j = 9 ∨ j = 10 ∨ j = 11 := by omega
                  rcases hj' with rfl | rfl | rfl | rfl | rfl | rfl | rfl | rfl | rfl | rfl | rfl | rfl <;> exact ⟨by first | (go_simp; done) | (go_simp; rfl), by go_simp⟩
              · obtain rfl : K = 17 := by omega
                obtain ⟨wo, rfl⟩ : ∃ wo : World, wo = wr := ⟨_, rfl⟩
                go_wp2_with fail
                go_loopw [14] (fun i wx => ∃ (n : Nat) (ka : Option Addr) (kc : Nat) (keep : List Int), n ≤ len ∧ i = .int .i64 n ∧ BoxAt wx (wo.heap.size + 1) ⟨6, pk (ra.tdiv 31) S, 0, 0, 0, ka, n, kc, 0, 0, 0, 0, 0, .empty, keep⟩ ∧ wx.ownsRow (wo.heap.size + 2) 3 1 (.slice ka n kc) n (keep.map (Value.int .i64)) ∧ K40 keep ∧ Below V.heap.size V wx) (fun i _ => len - (intOf i).toNat)
                case atStart =>
                  refine ⟨0, none, 0, [], Nat.zero_le _, rfl, ⟨by simp; omega, fun j hj => ?_⟩, World.ownsRow_nil _ _ _ _, k40_nil, ((((((((((((hVc.setCell (by show V.heap.size ≤ wo.heap.size + 1; omega) _).setCell (by show V.heap.size ≤ wo.heap.size + 1; omega) _).setCell (by show V.heap.size ≤ wo.heap.size + 1; omega) _).setCell (by show V.heap.size ≤ wo.heap.size + 1; omega) _).setCell (by show V.heap.size ≤ wo.heap.size + 1; omega) _).setCell (by show V.heap.size ≤ wo.heap.size + 1; omega) _).setCell (by show V.heap.size ≤ wo.heap.size + 1; omega) _).setCell (by show V.heap.size ≤ wo.heap.size + 1; omega) _).setCell (by show V.heap.size ≤ wo.heap.size + 1; omega) _).setCell (by show V.heap.size ≤ wo.heap.size + 1; omega) _).setCell (by show V.heap.size ≤ wo.heap.size + 1; omega) _).setCell (by show V.heap.size ≤ wo.heap.size + 1; omega) _)⟩
                  have hj' : j = 0 ∨ j = 1 ∨ j = 2 ∨ j = 3 ∨ j = 4 ∨ j = 5 ∨ j = 6 ∨ j = 7 ∨ j = 8 ∨ j = 9 ∨ j = 10 ∨ j = 11 := by omega
                  rcases hj' with rfl | rfl | rfl | rfl | rfl | rfl | rfl | rfl | rfl | rfl | rfl | rfl <;> exact ⟨by first | (go_simp; done) | (go_simp; rfl), by go_simp⟩
                case round =>
                  obtain ⟨n, ka, kc, keep, hn, rfl, hBn, hon, hnn, hbn⟩ := hrel
                  have hzn := hbn.size
                  have hg1 := hBn.1
                  have t1 := (hbn.cell (p := ⟨w.heap.size, 1, none⟩) (by show w.heap.size < _; omega)).trans y1
                  have t4 := (hbn.cell (p := ⟨wo.heap.size, 4, none⟩) (by show wo.heap.size < _; omega)).trans v4
                  have x0' := (hBn.2 0 (by decide)).1
                  have z0' := (hBn.2 0 (by decide)).2
                  have x1' := (hBn.2 1 (by decide)).1
                  have z1' := (hBn.2 1 (by decide)).2
                  have x2' := (hBn.2 2 (by decide)).1
                  have z2' := (hBn.2 2 (by decide)).2
                  have x3' := (hBn.2 3 (by decide)).1
                  have z3' := (hBn.2 3 (by decide)).2
                  have x4' := (hBn.2 4 (by decide)).1
                  have z4' := (hBn.2 4 (by decide)).2
                  have x5' := (hBn.2 5 (by decide)).1
                  have z5' := (hBn.2 5 (by decide)).2
                  have x6' := (hBn.2 6 (by decide)).1
                  have z6' := (hBn.2 6 (by decide)).2
                  have x7' := (hBn.2 7 (by decide)).1
                  have z7' := (hBn.2 7 (by decide)).2
                  have x8' := (hBn.2 8 (by decide)).1
                  have z8' := (hBn.2 8 (by decide)).2
                  have x9' := (hBn.2 9 (by decide)).1
                  have z9' := (hBn.2 9 (by decide)).2
                  have x10' := (hBn.2 10 (by decide)).1
                  have z10' := (hBn.2 10 (by decide)).2
                  have x11' := (hBn.2 11 (by decide)).1
                  have z11' := (hBn.2 11 (by decide)).2
                  simp [AV.cells] at x0' x1' x2' x3' x4' x5' x6' x7' x8' x9' x10' x11'
                  by_cases hl : n < len
                  · have hl' : (n : Int) < (len : Int) := by omega
                    have bq := tdiv_bd (n := rd) (m := (n : Int) + 1) hrd (by omega)
                    have w1' : IntKind.i64.wrap ((n : Int) + 1) = (n : Int) + 1 := wrap_in (by omega)
                    have w2' := wrap_in bq
                    have nz : ¬ ((n : Int) + 1 = 0) := by omega
                    have honD : wr.drew.ownsRow (wo.heap.size + 2) 3 1 (.slice ka n kc) n (keep.map (Value.int .i64)) := hon
                    go_wp2
                    have m40 := pk_bd (rd.tdiv ((n : Int) + 1)) 40 (by decide)
                    have hlk : ∀ m, (Value.slice ka n kc).ownBlock = some m → wo.heap.size + 2 ≤ m := fun m hm => (hon.lt m hm).1
                    go_region_law (first
                      | (refine step_append_lies _ (by rfl) (.tmp 122) (.tmp 129) _ (by rfl) (wo.heap.size + 2) 3 j0 (.int .i64 0) 1 8 Tryd.underlying34 hj lj0 lj1 lj2 rfl (by decide) (.slice ka n kc) n (keep.map (Value.int .i64)) (by rfl) (honD.alloc _) _ 1 1 [.int .i64 (pk (rd.tdiv ((n : Int) + 1)) 40)] (by rfl) rfl (news_new #[.int .i64 (pk (rd.tdiv ((n : Int) + 1)) 40)] _ rfl) (by intro u hu; simp at hu; subst hu; rfl) (by omega) (by unfold maxLen; omega) (by omega) (by simp; omega) _ rfl ?_; intro g2 cap2 v2 hown2 hgrow2 hat2 hlt2; have hk2 : Below (wo.heap.size + 2) wr v2 := Below.grown (by repeat (first | exact Below.refl _ _ | apply Below.drew | refine Below.alloc ?_ (by first | omega | (simp; omega) | (show _ ≤ wr.heap.size; omega)) _)) hgrow2 (by simp; omega) hlk; have e5 : v2.cell? ⟨wo.heap.size + 1, 5, none⟩ = some (.slice ka n kc) := (hk2.cell (p := ⟨wo.heap.size + 1, 5, none⟩) (by show wo.heap.size + 1 < _; omega)).trans x5'; have ef : v2.frozen? ⟨wo.heap.size + 1, 5, none⟩ = false := (hk2.frozen (p := ⟨wo.heap.size + 1, 5, none⟩) (by show wo.heap.size + 1 < _; omega)).trans z5')
                      | (go_simp; go_at_call 18; refine (picked_any _ _ _ (by assumption) (by omega) (by omega)).mono ?_; rintro e u1 ⟨rfl, hu1⟩; rw [hu1]; clear hu1))
                    all_goals
                      go_wp2
                      go_roundw
                      case rel =>
                        have hs2 := hk2.size
                        have hcj : ∀ j, v2.cell? ⟨wo.heap.size + 1, j, none⟩ = wr.cell? ⟨wo.heap.size + 1, j, none⟩ := fun j => hk2.cell (p := ⟨wo.heap.size + 1, j, none⟩) (by show wo.heap.size + 1 < _; omega)
                        have hfj : ∀ j, v2.frozen? ⟨wo.heap.size + 1, j, none⟩ = wr.frozen? ⟨wo.heap.size + 1, j, none⟩ := fun j => hk2.frozen (p := ⟨wo.heap.size + 1, j, none⟩) (by show wo.heap.size + 1 < _; omega)
                        refine ⟨n + 1, some ⟨g2, 0, none⟩, cap2, keep ++ [pk (rd.tdiv ((n : Int) + 1)) 40], by omega, by go_num, ⟨by simp; omega, fun j hj => ?_⟩, by simpa using ownsRow_setCell_below hown2 (a := ⟨wo.heap.size + 1, 5, none⟩) (by show wo.heap.size + 1 < wo.heap.size + 2; omega) _, k40_snoc hnn m40, (hbn.trans (hk2.mono (by omega))).setCell (by show V.heap.size ≤ wo.heap.size + 1; omega) _⟩
                        have hj' : j = 0 ∨ j = 1 ∨ j = 2 ∨ j = 3 ∨ j = 4 ∨ j = 5 ∨ j = 6 ∨ j = 7 ∨ j = 8 ∨ j = 9 ∨ j = 10 ∨ j = 11 := by omega
                        rcases hj' with rfl | rfl | rfl | rfl | rfl | rfl | rfl | rfl | rfl | rfl | rfl | rfl <;> exact ⟨by first | (go_simp; done) | (go_simp; rfl), by go_simp⟩
                      case measure => simp [intOf]; omega
                  · go_wp2
                    go_meet
                    case rel => exact ⟨⟨6, pk (ra.tdiv 31) S, 0, 0, 0, ka, n, kc, 0, 0, 0, 0, 0, .empty, keep⟩, hBn, own_base hon (by have := hb.size; omega), k40_nums hnn, fine_crash zS n1 hn hnn, by simp, hbn⟩
              · obtain rfl : K = 18 := by omega
                go_wp2_with fail
                go_meet
                case rel =>
                  refine ⟨⟨7, pk (ra.tdiv 31) S, 0, 0, 0, none, 0, 0, 0, 0, 0, 0, 0, .empty, []⟩, ⟨by simp; omega, fun j hj => ?_⟩, World.ownsRow_nil _ _ _ _, fun i => by simp, fine_start zS n1, (by first | exact hc3 | simp), ((((((((((((hVc.setCell (by show V.heap.size ≤ wr.heap.size + 1; omega) _).setCell (by show V.heap.size ≤ wr.heap.size + 1; omega) _).setCell (by show V.heap.size ≤ wr.heap.size + 1; omega) _).setCell (by show V.heap.size ≤ wr.heap.size + 1; omega) _).setCell (by show V.heap.size ≤ wr.heap.size + 1; omega) _).setCell (by show V.heap.size ≤ wr.heap.size + 1; omega) _).setCell (by show V.heap.size ≤ wr.heap.size + 1; omega) _).setCell (by show V.heap.size ≤ wr.heap.size + 1; omega) _).setCell (by show V.heap.size ≤ wr.heap.size + 1; omega) _).setCell (by show V.heap.size ≤ wr.heap.size + 1; omega) _).setCell (by show V.heap.size ≤ wr.heap.size + 1; omega) _).setCell (by show V.heap.size ≤ wr.heap.size + 1; omega) _)⟩
                  have hj' : j = 0 ∨ j = 1 ∨ j = 2 ∨ j = 3 ∨ j = 4 ∨ j = 5 ∨ j = 6 ∨ j = 7 ∨ j = 8 ∨ j = 9 ∨ j = 10 ∨ j = 11 := by omega
                  rcases hj' with rfl | rfl | rfl | rfl | rfl | rfl | rfl | rfl | rfl | rfl | rfl | rfl <;> exact ⟨by first | (go_simp; done) | (go_simp; rfl), by go_simp⟩
              · obtain rfl : K = 19 := by omega
                go_wp2_with (go_at_call 34; refine (typed_any _ _ _ _ _ _ _ hkd hra hrb hrc hrd hre).mono ?_; rintro e w3 ⟨t, rfl, ht60, hb3⟩; have z3 : wr.heap.size + 1 < w3.heap.size := (by have := hb3.size; simp at this; omega); obtain ⟨hc3', hf3'⟩ := bcell hb3)
                go_meet
                case rel =>
                  refine ⟨⟨8, pk (ra.tdiv 31) S, 0, pk (rb.tdiv 31) len, 0, none, 0, 0, 0, 0, 0, 0, 0, t, []⟩, ⟨by simp; omega, fun j hj => ?_⟩, World.ownsRow_nil _ _ _ _, fun i => by simp, fine_type zS zL ht60, (by first | exact hc3 | simp), (((hVc.setCell (by show V.heap.size ≤ wr.heap.size + 1; omega) _).trans (hb3.mono (by simp; omega))).setCell (by show V.heap.size ≤ wr.heap.size + 1; omega) _)⟩
                  have hj' : j = 0 ∨ j = 1 ∨ j = 2 ∨ j = 3 ∨ j = 4 ∨ j = 5 ∨ j = 6 ∨ j = 7 ∨ j = 8 ∨ j = 9 ∨ j = 10 ∨ j = 11 := by omega
                  rcases hj' with rfl | rfl | rfl | rfl | rfl | rfl | rfl | rfl | rfl | rfl | rfl | rfl <;> exact ⟨by first | (go_simp; done) | (go_simp; rfl), by go_simp⟩
        case rest =>
          obtain ⟨a, hBx, hkeep, hnum, hfin, hc3, hVx⟩ := hcut
          obtain ⟨kind, site, tu, label, pick, ka, kl, kc, c0, c1, c2, c3, c4, line, keep⟩ := a
          simp only [] at hkeep hnum hc3
          have b0 := (hBx.2 0 (by decide)).1
          have b1 := (hBx.2 1 (by decide)).1
          have b2 := (hBx.2 2 (by decide)).1
          have b3 := (hBx.2 3 (by decide)).1
          have b4 := (hBx.2 4 (by decide)).1
          have b5 := (hBx.2 5 (by decide)).1
          have b6 := (hBx.2 6 (by decide)).1
          have b7 := (hBx.2 7 (by decide)).1
          have b8 := (hBx.2 8 (by decide)).1
          have b9 := (hBx.2 9 (by decide)).1
          have b10 := (hBx.2 10 (by decide)).1
          have b11 := (hBx.2 11 (by decide)).1
          simp [AV.cells] at b0 b1 b2 b3 b4 b5 b6 b7 b8 b9 b10 b11
          have hzx := hVx.size
          have hgx := hBx.1
          have hwx : Below wr.heap.size wr wc := hVb.trans (hVx.mono hVb.size)
          have hOx := hO.below hwx
          have q5 := (hVx.cell (p := ⟨wr.heap.size, 5, none⟩) (by show wr.heap.size < _; omega)).trans v5
          have q6 := (hVx.cell (p := ⟨w.heap.size, 0, none⟩) (by show w.heap.size < _; omega)).trans y0
          have hne : ∀ m, (Value.slice ao ys.length cp).ownBlock = some m → W.heap.size ≤ m ∧ m < wr.heap.size := fun m hm => hO.row.lt m hm
          go_upto_region 32 with (at_builtin; refine wpList_append_own _ rfl _ _ 25 rfl W.heap.size 41 i0 (.agg #[.int .i64 0, .int .i64 0, .int .i64 0, .int .i64 0, .int .i64 0, .slice none 0 0, .int .i64 0, .int .i64 0, .int .i64 0, .int .i64 0, .int .i64 0, .string .empty]) 12 120 Tryd.underlying25 hi li0 li1 li2 rfl (by decide) (.slice ao ys.length cp) ys.length (flatActs ys) rfl (hOx.row.alloc _) ⟨wc.heap.size, 0, none⟩ 1 1 (AV.cells ⟨kind, site, tu, label, pick, ka, kl, kc, c0, c1, c2, c3, c4, line, keep⟩) rfl rfl (news_new #[.int .i64 kind, .int .i64 site, .int .i64 tu, .int .i64 label, .int .i64 pick, .slice ka kl kc, .int .i64 c0, .int .i64 c1, .int .i64 c2, .int .i64 c3, .int .i64 c4, .string line] _ rfl) (cells_one _) (by unfold maxLen; omega) (by omega) (by have := hb.size; simp; omega) ?_)
          intro v' w5 hown hgrow _
          obtain ⟨g5, cp5, hv', hg1, hg2⟩ := World.ownsRow.form hown (by omega)
          rw [hv'] at hown ⊢
          have R := hOx.push (w1 := wc.alloc (.cells #[.int .i64 kind, .int .i64 site, .int .i64 tu, .int .i64 label, .int .i64 pick, .slice ka kl kc, .int .i64 c0, .int .i64 c1, .int .i64 c2, .int .i64 c3, .int .i64 c4, .string line] 41)) (y := ⟨kind, site, tu, label, pick, ka, kl, kc, c0, c1, c2, c3, c4, line, keep⟩) ((Below.refl _ _).alloc (Nat.le_refl _) _) (hkeep.alloc _) hnum hown hgrow
          have hB5 : Below W.heap.size W w5 := Below.grown ((hb.trans (hwx.mono hb.size)).alloc (by have := hb.size; omega) _) hgrow (by have := hb.size; simp; omega) (fun m hm' => (hne m hm').1)
          have far5 : ∀ (q : Addr) (u : Value), wc.cell? q = some u → q.block < wc.heap.size → some q.block ≠ (Value.slice ao ys.length cp).ownBlock → w5.cell? q = some u := fun q u hq hl hn => hgrow.cell ((((Below.refl wc.heap.size wc).alloc (Nat.le_refl _) _).cell hl).trans hq) hn
          have nb : some (wr.heap.size + 1) ≠ (Value.slice ao ys.length cp).ownBlock := fun e => by have := hne _ e.symm; omega
          have nr : some wr.heap.size ≠ (Value.slice ao ys.length cp).ownBlock := fun e => by have := hne _ e.symm; omega
          have nw : some w.heap.size ≠ (Value.slice ao ys.length cp).ownBlock := fun e => by have := hne _ e.symm; omega
          have s0 := far5 ⟨wr.heap.size + 1, 0, none⟩ _ b0 hgx nb
          have s1 := far5 ⟨wr.heap.size + 1, 1, none⟩ _ b1 hgx nb
          have s3 := far5 ⟨wr.heap.size + 1, 3, none⟩ _ b3 hgx nb
          have s9 := far5 ⟨wr.heap.size + 1, 9, none⟩ _ b9 hgx nb
          have s5 := far5 ⟨wr.heap.size, 5, none⟩ _ q5 (by show wr.heap.size < _; omega) nr
          have s6 := far5 ⟨w.heap.size, 0, none⟩ _ q6 (by show w.heap.size < _; omega) nw
          have hf5 : ∀ y ∈ ys ++ [(⟨kind, site, tu, label, pick, ka, kl, kc, c0, c1, c2, c3, c4, line, keep⟩ : AV)], Fine S len y := fun y hy => by
            rcases List.mem_append.1 hy with hy | hy
            · exact hfine y hy
            · simp at hy; subst hy; exact hfin
          obtain ⟨c31, c32⟩ := hc3
          clear far5 hgrow
          by_cases hk1 : kind = 1
          · have e1 : (kind == 1) = true := by simpa using hk1
            have z4 := pk_bd re 4 (by decide)
            by_cases hp4 : 0 < pk re 4
            · clear hk1
              have hzw5 : W.heap.size ≤ w5.heap.size := hB5.size
              go_wp2_with (first
                | (go_at_call 18; refine (picked_any _ _ _ (by assumption) (by omega) (by omega)).mono ?_; rintro e u1 ⟨rfl, hu1⟩; rw [hu1]; clear hu1)
                | (at_builtin; refine wpList_append_own _ rfl _ _ 25 rfl W.heap.size 41 i0 (.agg #[.int .i64 0, .int .i64 0, .int .i64 0, .int .i64 0, .int .i64 0, .slice none 0 0, .int .i64 0, .int .i64 0, .int .i64 0, .int .i64 0, .int .i64 0, .string .empty]) 12 120 Tryd.underlying25 hi li0 li1 li2 rfl (by decide) (.slice (some ⟨g5, 0, none⟩) (ys.length + 1) cp5) (ys.length + 1) _ rfl (hown.alloc _) ⟨w5.heap.size, 0, none⟩ 2 2 (AV.cells ⟨2, site, c3 % S, label, 0, none, 0, 0, 0, 0, 0, 0, 0, .empty, []⟩ ++ AV.cells ⟨2, c3 % S, site, label, 0, none, 0, 0, 0, 0, 0, 0, 0, .empty, []⟩) rfl rfl (news_new #[.int .i64 2, .int .i64 site, .int .i64 (c3 % S), .int .i64 label, .int .i64 0, .slice none 0 0, .int .i64 0, .int .i64 0, .int .i64 0, .int .i64 0, .int .i64 0, .string .empty, .int .i64 2, .int .i64 (c3 % S), .int .i64 site, .int .i64 label, .int .i64 0, .slice none 0 0, .int .i64 0, .int .i64 0, .int .i64 0, .int .i64 0, .int .i64 0, .string .empty] _ rfl) (by intro u hu; rcases List.mem_append.1 hu with hu | hu <;> exact cells_one _ u hu) (by unfold maxLen; omega) (by omega) (by simp; omega) ?_))
              intro v'' w6 hown6 hgrow6 _
              obtain ⟨g6, cp6, hv6, hg61, hg62⟩ := World.ownsRow.form hown6 (by omega)
              rw [hv6] at hown6 ⊢
              have R2 := OwnActs.push2 R (y := ⟨2, site, c3 % S, label, 0, none, 0, 0, 0, 0, 0, 0, 0, .empty, []⟩) (z := ⟨2, c3 % S, site, label, 0, none, 0, 0, 0, 0, 0, 0, 0, .empty, []⟩) ((Below.refl _ _).alloc (Nat.le_refl _) _) ⟨rfl, rfl, rfl, rfl⟩ ⟨rfl, rfl, rfl, rfl⟩ (by rw [flatActs_append]; simpa using hown6) hgrow6
              have hB6 : Below W.heap.size W w6 := Below.grown (hB5.alloc hzw5 _) hgrow6 (by simp; omega) (fun m hm' => (R.row.lt m (by simpa using hm')).1)
              have hf6 : ∀ y ∈ (ys ++ [(⟨kind, site, tu, label, pick, ka, kl, kc, c0, c1, c2, c3, c4, line, keep⟩ : AV)]) ++ [(⟨2, site, c3 % S, label, 0, none, 0, 0, 0, 0, 0, 0, 0, .empty, []⟩ : AV), (⟨2, c3 % S, site, label, 0, none, 0, 0, 0, 0, 0, 0, 0, .empty, []⟩ : AV)], Fine S len y := fun y hy => by
                rcases List.mem_append.1 hy with hy | hy
                · exact hf5 y hy
                · simp at hy
                  rcases hy with rfl | rfl <;> first | exact fine_go 2 (by omega) (fine_bds hfin).1 ⟨Int.emod_nonneg _ (by omega), Int.emod_lt_of_pos _ (by omega)⟩ (fine_bds hfin).2 (by omega) | exact fine_go 2 (by omega) ⟨Int.emod_nonneg _ (by omega), Int.emod_lt_of_pos _ (by omega)⟩ (fine_bds hfin).1 (fine_bds hfin).2 (by omega)
              clear hown6 hgrow6
              go_wp2
              go_roundw
              case rel => exact ⟨k + 1, some ⟨g6, 0, none⟩, cp6, (ys ++ [⟨kind, site, tu, label, pick, ka, kl, kc, c0, c1, c2, c3, c4, line, keep⟩]) ++ [⟨2, site, c3 % S, label, 0, none, 0, 0, 0, 0, 0, 0, 0, .empty, []⟩, ⟨2, c3 % S, site, label, 0, none, 0, 0, 0, 0, 0, 0, 0, .empty, []⟩], by omega, by go_num, by simp, by simpa using R2, hf6, by simp; omega, hB6⟩
              case measure => simp [intOf]; omega
            · clear hk1
              go_wp2_with (go_at_call 18; refine (picked_any _ _ _ (by assumption) (by omega) (by omega)).mono ?_; rintro e u1 ⟨rfl, rfl⟩)
              go_roundw
              case rel => exact ⟨k + 1, some ⟨g5, 0, none⟩, cp5, ys ++ [⟨kind, site, tu, label, pick, ka, kl, kc, c0, c1, c2, c3, c4, line, keep⟩], by omega, by go_num, by simp, by simpa using R, hf5, by simp; omega, hB5⟩
              case measure => simp [intOf]; omega
          · have e1 : (kind == 1) = false := by simpa using hk1
            clear hk1
            go_wp2
            go_roundw
            case rel => exact ⟨k + 1, some ⟨g5, 0, none⟩, cp5, ys ++ [⟨kind, site, tu, label, pick, ka, kl, kc, c0, c1, c2, c3, c4, line, keep⟩], by omega, by go_num, by simp, by simpa using R, hf5, by simp; omega, hB5⟩
            case measure => simp [intOf]; omega
    · have hwk : Below w.heap.size w wr := hA.trans (hb.mono hA.size)
      by_cases hlt2 : k < alen
      · have h30 : ¬ (ys.length : Int) < (most : Int) := by omega
        have hlt' : (k : Int) < (alen : Int) := by omega
        go_wp2
        go_ret
        exact ⟨ao, cp, ys, rfl, ⟨W.heap.size, hA.size, hO⟩, hfine, hyl, hwk⟩
      · have hlt' : ¬ (k : Int) < (alen : Int) := by omega
        go_wp2
        go_ret
        exact ⟨ao, cp, ys, rfl, ⟨W.heap.size, hA.size, hO⟩, hfine, hyl, hwk⟩
end Go.Proofs.YtlaagfnoepcnlaaDoor.Ln
/- The config of two labels, the second one above the first one. -/
namespace Go.Proofs.YtlaagfnoepcnlaaDoor.Pt
open Go.ChangeShapes Go.WideShapes Go.ChangeAt Go.RowKit
set_option linter.unusedVariables false

def LS2 : List (Int × Int) := [(0, 0), (1, 0)]
theorem cfg_two {s p : Int} (h1 : 1 ≤ s) (h2 : s ≤ 4) (h3 : 1 ≤ p) (h4 : p ≤ 1048576) : cfgFault s LS2 p = 0 := by
  unfold cfgFault
  rw [if_neg (by omega), if_neg (by decide), if_neg (by decide), if_neg (by omega)]
set_option maxRecDepth 100000 in
theorem two_any (s : Int) (w : World) (hs : -9223372036854775808 ≤ s ∧ s ≤ 9223372036854775807) :
    Calls Tryd.prog 17 #[.int .i64 s] w fun e w' => ∃ g, e = .returned (.agg #[.int .i64 (1 + pk s 3), .slice (some ⟨g, 0, none⟩) 2 2, .int .i64 3]) ∧ IsLabs w' (some ⟨g, 0, none⟩) 2 2 LS2 ∧ w.heap.size ≤ g ∧ Below w.heap.size w w' := by
  have hp := pk_bd s 3 (by omega)
  have hwr : IntKind.i64.wrap (1 + pk s 3) = 1 + pk s 3 := by simp [IntKind.wrap, IntKind.bits, IntKind.signed]; omega
  have hP := fun u => picked_any s 3 u hs (by omega) (by omega)
  obtain ⟨K, eK⟩ : ∃ K, K = pk s 3 := ⟨_, rfl⟩
  rw [← eK] at hP hwr ⊢
  clear eK hp
  go_enter Tryd.func17, Tryd.ntmps17
  go_wp2_with (go_at_call 18; refine (hP _).mono ?_; rintro e u ⟨rfl, hu⟩; rw [hu]; clear hu)
  obtain ⟨X, eX⟩ : ∃ X : World, X = (w.alloc (.cells #[.int .i64 (1 + K), .slice (some ⟨w.heap.size + 1, 0, none⟩) 2 2, .int .i64 3] 24)).alloc (.cells #[.int .i64 0, .int .i64 0, .int .i64 1, .int .i64 0] 70) := ⟨_, rfl⟩
  have hb : Below w.heap.size w X := by rw [eX]; exact ((Below.refl _ _).alloc (Nat.le_refl _) _).alloc (by simp) _
  have c0 : X.cell? ⟨w.heap.size + 1, 0, none⟩ = some (.int .i64 0) := by rw [eX]; go_simp
  have c1 : X.cell? ⟨w.heap.size + 1, 1, none⟩ = some (.int .i64 0) := by rw [eX]; go_simp
  have c2 : X.cell? ⟨w.heap.size + 1, 2, none⟩ = some (.int .i64 1) := by rw [eX]; go_simp
  have c3 : X.cell? ⟨w.heap.size + 1, 3, none⟩ = some (.int .i64 0) := by rw [eX]; go_simp
  have q0 : X.cell? ⟨w.heap.size, 0, none⟩ = some (.int .i64 (1 + K)) := by rw [eX]; go_simp
  have q1 : X.cell? ⟨w.heap.size, 1, none⟩ = some (.slice (some ⟨w.heap.size + 1, 0, none⟩) 2 2) := by rw [eX]; go_simp
  have q2 : X.cell? ⟨w.heap.size, 2, none⟩ = some (.int .i64 3) := by rw [eX]; go_simp
  have zX : w.heap.size + 1 < X.heap.size := by rw [eX]; simp
  rw [← eX]
  clear eX
  refine bodyPost_ret (v := .agg #[.int .i64 (1 + K), .slice (some ⟨w.heap.size + 1, 0, none⟩) 2 2, .int .i64 3]) (by simp [results, Tryd.results17, go_sem, q0, q1, q2]) rfl ⟨w.heap.size + 1, rfl, ?_, by omega, ?_⟩
  · refine ⟨rfl, Nat.le_refl _, by unfold maxLen; omega, fun _ => ⟨w.heap.size + 1, 0, rfl, zX, fun i hi => ?_⟩⟩
    have hi2 : i = 0 ∨ i = 1 := by simp [LS2] at hi; omega
    rcases hi2 with rfl | rfl
    · exact ⟨c0, c1⟩
    · exact ⟨c2, c3⟩
  · exact hb
end Go.Proofs.YtlaagfnoepcnlaaDoor.Pt
/- The walk of the law LinesJoin: at any raw numbers it returns true and leaves what was in memory. -/
namespace Go.Proofs.YtlaagfnoepcnlaaDoor.Ln
open Go.ChangeShapes Go.WideShapes Go.ChangeAt Go.RowKit
open Go.Proofs.YtlaagfnoepcnlaaDoor.St (BoxN boxn_new own_below IsRow Elem flat own_isRow)
open Go.Proofs.YtlaagfnoepcnlaaDoor.Pt (LS2 two_any cfg_two)
set_option linter.unusedVariables false

def tickA : AV := ⟨5, 0, 0, 0, 0, none, 0, 0, 0, 0, 0, 0, 0, .empty, []⟩
theorem tick_fine : actFault 3 LS2 3 tickA = 0 := by rfl
theorem three_two : (1 : Int) + pk 2 3 = 3 := by decide
theorem av_len (x : AV) : x.cells.length = 12 := rfl
theorem av_one (y : AV) : ∀ u ∈ y.cells, u.oneCell' = true := by
  intro u hu
  simp only [AV.cells, List.mem_cons, List.not_mem_nil, or_false] at hu
  rcases hu with rfl | rfl | rfl | rfl | rfl | rfl | rfl | rfl | rfl | rfl | rfl | rfl <;> rfl
theorem avElem : ∃ i, Elem 12 AV.cells 41 25 i (.agg #[.int .i64 0, .int .i64 0, .int .i64 0, .int .i64 0, .int .i64 0, .slice none 0 0, .int .i64 0, .int .i64 0, .int .i64 0, .int .i64 0, .int .i64 0, .string .empty]) 120 := by
  obtain ⟨j0, hj, lj0, lj1, lj2⟩ := info_parts actInfo
  exact ⟨j0, av_len, by decide, av_one, Tryd.underlying25, hj, lj0, lj1, lj2, rfl⟩
theorem acts_row {U : World} {a : Option Addr} {n c : Nat} {ys : List AV} (hr : IsRow 12 AV.cells U a n c ys) (hk : ∀ y ∈ ys, IsInts U y.ka y.kl y.kc y.keep) : IsActs U a n c ys := by
  obtain ⟨h1, h2, h3, _, h5⟩ := hr
  refine ⟨h1, h2, h3, fun hp => ?_⟩
  obtain ⟨b, off, e, zb, hc⟩ := h5 hp
  refine ⟨b, off, e, zb, fun i hi => ⟨fun j hj => hc i (by omega) j hj, hk _ ?_⟩⟩
  simp [List.getD, hi]
theorem tick_row (U : World) (q : Nat) (hq : q = U.heap.size) : IsRow 12 AV.cells (U.alloc (.cells #[.int .i64 5, .int .i64 0, .int .i64 0, .int .i64 0, .int .i64 0, .slice none 0 0, .int .i64 0, .int .i64 0, .int .i64 0, .int .i64 0, .int .i64 0, .string .empty] 41)) (some ⟨q, 0, none⟩) 1 1 [tickA] := by
  subst hq
  have b := boxn_new U #[.int .i64 5, .int .i64 0, .int .i64 0, .int .i64 0, .int .i64 0, .slice none 0 0, .int .i64 0, .int .i64 0, .int .i64 0, .int .i64 0, .int .i64 0, .string .empty] 41 12 rfl
  refine ⟨rfl, Nat.le_refl _, by unfold maxLen; omega, nofun, fun _ => ⟨_, 0, rfl, b.lt, fun i hi j hj => ?_⟩⟩
  obtain rfl : i = 0 := by omega
  rw [Nat.zero_mul, Nat.zero_add, (b.c j hj).1]
  rcases (by omega : j = 0 ∨ j = 1 ∨ j = 2 ∨ j = 3 ∨ j = 4 ∨ j = 5 ∨ j = 6 ∨ j = 7 ∨ j = 8 ∨ j = 9 ∨ j = 10 ∨ j = 11) with rfl | rfl | rfl | rfl | rfl | rfl | rfl | rfl | rfl | rfl | rfl | rfl <;> rfl
theorem lowerA {w : World} {B C : Nat} {v : Value} {ys : List AV} (h : OwnActs w C v ys) (hB : B ≤ C) : OwnActs w B v ys := ⟨ownB h.row hB, fun y hy => ⟨ownB (h.keeps y hy).1 hB, (h.keeps y hy).2⟩⟩
theorem linesOf_app (xs ys : List AV) : linesOf (xs ++ ys) = linesOf xs ++ linesOf ys := by
  induction xs with
  | nil => rfl
  | cons x r ih => simp [linesOf, ih]
theorem badAt_none {s : Int} {ls : List (Int × Int)} {p : Int} : ∀ (xs : List AV) (k : Nat), (∀ x ∈ xs, actFault s ls p x = 0) → badAt s ls p k xs = none
  | [], _, _ => rfl
  | x :: r, k, h => by
    rw [badAt, if_pos (h x (by simp))]
    exact badAt_none r (k + 1) (fun y hy => h y (by simp [hy]))
theorem shAll_fine {s : Int} {ls : List (Int × Int)} {p : Int} {xs : List AV} (hc : cfgFault s ls p = 0) (hl : xs.length ≤ 3000) (h : ∀ x ∈ xs, actFault s ls p x = 0) : shAll s ls p xs = (linesOf xs, 0, 0) := by
  unfold shAll
  rw [if_neg (by simp [hc]), if_neg (by omega), badAt_none xs 0 h]
  rfl
theorem linesOf_bd {s : Int} {ls : List (Int × Int)} {p : Int} (hl : ls.length ≤ 6) (hs : s ≤ 4) : ∀ (xs : List AV), (∀ x ∈ xs, actFault s ls p x = 0 ∧ x.keep.length = x.kl) → (linesOf xs).length ≤ 2075 * xs.length
  | [], _ => by simp [linesOf]
  | x :: r, h => by
    have h1 := h x (by simp)
    have h2 := actLine_bd (act_ok hl hs h1.2 h1.1)
    have h3 := linesOf_bd hl hs r (fun y hy => h y (by simp [hy]))
    simp only [linesOf, actLine, List.length_append, List.length_cons, List.length_nil]
    omega
theorem grownN8 {w w' : World} (h : w.grownBy w' none) : Below w.heap.size w w' := (Below.refl w.heap.size w).grown h (Nat.le_refl _) (fun k hk => by cases hk)
set_option maxRecDepth 100000 in
set_option maxHeartbeats 8000000 in
theorem linesJoin_walk (aa : Option Addr) (alen acap : Nat) (rs : List RV) (ba : Option Addr) (blen bcap : Nat) (rt : List RV) (w : World) (hr : IsRaws w aa alen acap rs) (hr2 : IsRaws w ba blen bcap rt) (hT : ∀ U, Below w.heap.size w U → LnT U) :
    Calls Tryd.prog 8 #[.slice aa alen acap, .slice ba blen bcap] w fun e w' => e = .returned (.bool true) ∧ Below w.heap.size w w' := by
  obtain ⟨iA, EA⟩ := avElem
  have hTwo := fun u => two_any 2 u (by decide)
  rw [three_two] at hTwo
  have hcf : cfgFault 3 LS2 3 = 0 := cfg_two (by decide) (by decide) (by decide) (by decide)
  have HCF : Hid (cfgFault 3 LS2 3 = 0) := hcf
  clear hcf
  go_enter Tryd.func8, Tryd.ntmps8
  go_upto_region 2 with (go_at_call 17; refine (hTwo _).mono ?_; rintro e w1 ⟨g, rfl, hLb, hg, hb1⟩)
  obtain ⟨X, hX⟩ : ∃ X : World, X = w1.alloc (.cells #[.int .i64 3, .slice (some ⟨g, 0, none⟩) 2 2, .int .i64 3] 24) := ⟨_, rfl⟩
  have bX : Below w1.heap.size w1 X := by rw [hX]; exact (Below.refl _ _).alloc (Nat.le_refl _) _
  have bx0 : BoxN X w1.heap.size 3 [.int .i64 3, .slice (some ⟨g, 0, none⟩) 2 2, .int .i64 3] := by rw [hX]; exact boxn_new w1 #[.int .i64 3, .slice (some ⟨g, 0, none⟩) 2 2, .int .i64 3] 24 3 rfl
  rw [← hX]
  clear hX hTwo
  obtain ⟨m0, em0⟩ : ∃ m, m = w1.heap.size := ⟨_, rfl⟩
  rw [← em0] at bx0 ⊢
  have bwX : Below w.heap.size w X := hb1.trans (bX.mono hb1.size)
  have KV : Hid (∀ U, Below X.heap.size X U → (U.cell? ⟨m0, 0, none⟩ = some (.int .i64 3) ∧ U.cell? ⟨m0, 1, none⟩ = some (.slice (some ⟨g, 0, none⟩) 2 2) ∧ U.cell? ⟨m0, 2, none⟩ = some (.int .i64 3) ∧ m0 < U.heap.size) ∧ IsLabs U (some ⟨g, 0, none⟩) 2 2 LS2 ∧ IsRaws U ba blen bcap rt ∧ Below w.heap.size w U ∧ LnT U) := fun U hU => by
    have h1 := bx0.below hU bx0.lt
    have h9 := bwX.trans (hU.mono bwX.size)
    exact ⟨⟨(h1.c 0 (by decide)).1, (h1.c 1 (by decide)).1, (h1.c 2 (by decide)).1, h1.lt⟩, (hLb.below bX).below hU, hr2.below h9, h9, hT U h9⟩
  have HSh : Hid (∀ (U : World) (xa : Option Addr) (n xc : Nat) (xs : List AV), Below X.heap.size X U → IsActs U xa n xc xs → n ≤ 3000 → (∀ x ∈ xs, actFault 3 LS2 3 x = 0) → Calls Tryd.prog 9 #[.agg #[.int .i64 3, .slice (some ⟨g, 0, none⟩) 2 2, .int .i64 3], .slice xa n xc] U fun e w' => e = .returned (.tuple #[.string ⟨(linesOf xs).toArray⟩, .int .i64 0, .int .i64 0]) ∧ Below U.heap.size U w') := fun U xa n xc xs hU hx hn hf => by
    obtain ⟨-, h2, -, h4, -⟩ := KV.out U hU
    have h := show_any 3 3 (some ⟨g, 0, none⟩) 2 2 LS2 xa n xc xs U h2 hx (fun Z hZ => hT Z (h4.trans (hZ.mono h4.size)))
    rw [shAll_fine HCF.out (by rw [hx.1]; exact hn) hf] at h
    exact h
  obtain ⟨⟨c0, c1, c2, zc⟩, -, -, -, -⟩ := KV.out X (Below.refl _ _)
  have hAc := acts_most 3 3 (some ⟨g, 0, none⟩) 2 2 aa alen acap rs X (by decide) (by decide) (hr.below bwX) 12 (by decide)
  have HFn : Hid (∀ y, Fine 3 2 y → actFault 3 LS2 3 y = 0) := fun y hy => hy.fault HCF.out rfl
  clear hr hr2 hT hLb hb1 bX bx0 em0 hg
  go_upto_region 3 with (go_at_call 15; refine hAc.mono ?_; rintro e u1 ⟨a1, k1, y1, rfl, ⟨B1, hB1, hO1⟩, hF1, hl1, bu1⟩)
  clear c0 c1 c2 zc hAc
  obtain ⟨⟨c0, c1, c2, zc⟩, -, hra, -, -⟩ := KV.out u1 bu1
  have hAc := acts_most 3 3 (some ⟨g, 0, none⟩) 2 2 ba blen bcap rt u1 (by decide) (by decide) hra 12 (by decide)
  clear hra
  have HO1 : Hid (∀ U, Below u1.heap.size u1 U → OwnActs U B1 (.slice a1 y1.length k1) y1) := fun U hU => hO1.below hU
  have HD : Hid (∀ (u2 : World) (a2 : Option Addr) (k2 : Nat) (y2 : List AV) (w5 : World) (a5 : Option Addr) (c5 : Nat), Below u1.heap.size u1 u2 → OwnActs u2 u1.heap.size (.slice a2 y2.length k2) y2 → w5.ownsRow u1.heap.size 41 12 (.slice a5 (y2.length + 1) c5) (y2.length + 1) (flat AV.cells (y2 ++ [tickA])) → (u2.alloc (.cells #[.int .i64 5, .int .i64 0, .int .i64 0, .int .i64 0, .int .i64 0, .slice none 0 0, .int .i64 0, .int .i64 0, .int .i64 0, .int .i64 0, .int .i64 0, .string .empty] 41)).grownBy w5 (Value.slice a2 y2.length k2).ownBlock → OwnActs w5 u1.heap.size (.slice a5 (y2.length + 1) c5) (y2 ++ [tickA]) ∧ Below u1.heap.size u1 w5) := fun u2 a2 k2 y2 w5 a5 c5 b2 hO2 own5 gr5 => by
    have hbA : Below u2.heap.size u2 (u2.alloc (.cells #[.int .i64 5, .int .i64 0, .int .i64 0, .int .i64 0, .int .i64 0, .slice none 0 0, .int .i64 0, .int .i64 0, .int .i64 0, .int .i64 0, .int .i64 0, .string .empty] 41)) := (Below.refl _ _).alloc (Nat.le_refl _) _
    refine ⟨hO2.push hbA (World.ownsRow_nil _ _ _ _) (fun i => by simp [tickA]) (by
      have e : flatActs y2 ++ tickA.cells = flat AV.cells (y2 ++ [tickA]) := by rw [← flatActs_append]; rfl
      rw [e]
      exact own5) gr5, ?_⟩
    have h8 : Below u1.heap.size u1 (u2.alloc (.cells #[.int .i64 5, .int .i64 0, .int .i64 0, .int .i64 0, .int .i64 0, .slice none 0 0, .int .i64 0, .int .i64 0, .int .i64 0, .int .i64 0, .int .i64 0, .string .empty] 41)) := b2.trans (hbA.mono b2.size)
    exact h8.grown gr5 h8.size (fun q hq => (hO2.row.lt q hq).1)
  clear hO1
  go_upto_region 4 with (first | (go_at_call 15; refine hAc.mono ?_; rintro e u2 ⟨a2, k2, y2, rfl, ⟨B2, hB2, hO2'⟩, hF2, hl2, bu2⟩; have hO2 := lowerA hO2' hB2; have hu12 := bu2.size) | (at_builtin; go_loud (refine St.wpList_append_row EA (by rfl) _ _ (by rfl) u1.heap.size (.slice a2 y2.length k2) y2.length y2 (by rfl) (own_below hO2.row ((Below.refl _ _).alloc (Nat.le_refl _) _)) _ 1 1 [tickA] (by rfl) (tick_row u2 _ rfl) (by unfold maxLen; omega) (by omega) (by simp; omega) ?_; intro a5 c5 w5 own5 gr5 at5; have hD5 := HD.out u2 a2 k2 y2 w5 a5 c5 bu2 hO2 own5 gr5)))
  obtain ⟨hO5, b5⟩ := hD5
  clear c0 c1 c2 zc hAc HD hO2 hO2' bu2 hB2
  obtain ⟨YB, eYB⟩ : ∃ x, x = y2 ++ [tickA] := ⟨_, rfl⟩
  have hYl : y2.length + 1 = YB.length := by rw [eYB]; simp
  have HYB : Hid (∀ x ∈ YB, actFault 3 LS2 3 x = 0) := fun x hx => by
    rw [eYB] at hx
    rcases List.mem_append.1 hx with hx | hx
    · exact HFn.out x (hF2 x hx)
    · simp only [List.mem_singleton] at hx; subst hx; exact tick_fine
  have HYA : Hid (∀ x ∈ y1, actFault 3 LS2 3 x = 0) := fun x hx => HFn.out x (hF1 x hx)
  have HLT : Hid (∃ c r, linesOf YB = c :: r) := by
    show ∃ c r, _ = _
    rw [eYB, linesOf_app]
    cases h : linesOf y2 with
    | nil => exact ⟨_, _, rfl⟩
    | cons c r => exact ⟨c, _, rfl⟩
  rw [← eYB, hYl] at hO5
  rw [hYl]
  obtain ⟨nB, enB⟩ : ∃ x, x = YB.length := ⟨_, rfl⟩
  obtain ⟨nA, enA⟩ : ∃ x, x = y1.length := ⟨_, rfl⟩
  have hnB : nB ≤ 15 := by omega
  have hnA : nA ≤ 14 := by omega
  rw [← enB] at hO5 ⊢
  rw [← enA] at HO1 ⊢
  have HE : Hid (nB = YB.length ∧ nA = y1.length) := ⟨enB, enA⟩
  clear hYl hF1 hF2 hl1 hl2 HFn enB enA eYB
  have hbX5 : Below X.heap.size X w5 := bu1.trans (b5.mono bu1.size)
  have HO5 : Hid (∀ U, Below w5.heap.size w5 U → OwnActs U u1.heap.size (.slice a5 nB c5) YB) := fun U hU => hO5.below hU
  have HA : Hid (∀ U, Below w5.heap.size w5 U → OwnActs U B1 (.slice a1 nA k1) y1) := fun U hU => HO1.out U (b5.trans (hU.mono b5.size))
  have K5 : Hid (∀ U, Below w5.heap.size w5 U → Below X.heap.size X U) := fun U hU => hbX5.trans (hU.mono hbX5.size)
  clear HO1 hO5 b5 bu1 hbX5
  obtain ⟨⟨c0, c1, c2, zc⟩, -, -, -, -⟩ := KV.out w5 (K5.out w5 (Below.refl _ _))
  have hS1 := HSh.out w5 a1 nA k1 y1 (K5.out w5 (Below.refl _ _)) (by have h := (HA.out w5 (Below.refl _ _)).isActs; exact h.2) (by omega) HYA.out
  go_upto_region 5 with (go_at_call 9; refine hS1.mono ?_; rintro e u6 ⟨rfl, b6⟩)
  clear c0 c1 c2 zc hS1
  obtain ⟨⟨c0, c1, c2, zc⟩, -, -, -, -⟩ := KV.out u6 (K5.out u6 b6)
  have hS2 := HSh.out u6 a5 nB c5 YB (K5.out u6 b6) ((HO5.out u6 b6).isActs.2) (by omega) HYB.out
  go_upto_region 6 with (go_at_call 9; refine hS2.mono ?_; rintro e u7 ⟨rfl, b7⟩)
  clear c0 c1 c2 zc hS2
  have b57 := b6.trans (b7.mono b6.size)
  have hA7 := HA.out u7 b57
  have hB7 := HO5.out u7 b57
  have KC : Hid (∀ U, Below u7.heap.size u7 U → (U.cell? ⟨m0, 0, none⟩ = some (.int .i64 3) ∧ U.cell? ⟨m0, 1, none⟩ = some (.slice (some ⟨g, 0, none⟩) 2 2) ∧ U.cell? ⟨m0, 2, none⟩ = some (.int .i64 3) ∧ m0 < U.heap.size) ∧ Below X.heap.size X U ∧ Below w.heap.size w U) := fun U hU => by
    have h1 := K5.out U (b57.trans (hU.mono b57.size))
    have h2 := KV.out U h1
    exact ⟨h2.1, h1, h2.2.2.2.1⟩
  have KA : Hid (∀ U, Below u7.heap.size u7 U → IsRow 12 AV.cells U a1 nA k1 y1) := fun U hU => (own_isRow av_len (own_below (HE.out.2 ▸ hA7.row : u7.ownsRow B1 41 12 (.slice a1 nA k1) nA (flat AV.cells y1)) hU) HE.out.2.symm).1
  have KB : Hid (∀ U, Below u7.heap.size u7 U → IsRow 12 AV.cells U a5 nB c5 YB) := fun U hU => (own_isRow av_len (own_below (HE.out.1 ▸ hB7.row : u7.ownsRow u1.heap.size 41 12 (.slice a5 nB c5) nB (flat AV.cells YB)) hU) HE.out.1.symm).1
  have KK : Hid (∀ U, Below u7.heap.size u7 U → ∀ y ∈ y1 ++ YB, IsInts U y.ka y.kl y.kc y.keep) := fun U hU y hy => by
    rcases List.mem_append.1 hy with hy | hy
    · exact (ints_of_own (hA7.keeps y hy).1 (hA7.keeps y hy).2).below hU
    · exact (ints_of_own (hB7.keeps y hy).1 (hB7.keeps y hy).2).below hU
  have HF : Hid (∀ x ∈ y1 ++ YB, actFault 3 LS2 3 x = 0) := fun x hx => by
    rcases List.mem_append.1 hx with hx | hx
    · exact HYA.out x hx
    · exact HYB.out x hx
  have HSz : Hid ((linesOf y1).length ≤ 40000 ∧ (linesOf YB).length ≤ 40000) := by
    have h1 := linesOf_bd (s := 3) (ls := LS2) (p := 3) (by decide) (by decide) y1 (fun x hx => ⟨HYA.out x hx, (KK.out u7 (Below.refl _ _) x (by simp [hx])).1⟩)
    have h2 := linesOf_bd (s := 3) (ls := LS2) (p := 3) (by decide) (by decide) YB (fun x hx => ⟨HYB.out x hx, (KK.out u7 (Below.refl _ _) x (by simp [hx])).1⟩)
    have := HE.out
    exact ⟨by omega, by omega⟩
  have HL3 : Hid ((⟨(linesOf (y1 ++ YB)).toArray⟩ : ByteArray) = (⟨(linesOf y1).toArray⟩ : ByteArray) ++ (⟨(linesOf YB).toArray⟩ : ByteArray)) := by
    show _ = _
    rw [linesOf_app]
    apply ByteArray.ext
    simp
  have Hl3 : Hid ((y1 ++ YB).length = nA + nB) := by show _ = _; rw [List.length_append, HE.out.1, HE.out.2]
  have HS3 : Hid (∀ (U : World) (a7 : Option Addr) (c7 : Nat), Below u7.heap.size u7 U → IsRow 12 AV.cells U a7 (nA + nB) c7 (y1 ++ YB) → Calls Tryd.prog 9 #[.agg #[.int .i64 3, .slice (some ⟨g, 0, none⟩) 2 2, .int .i64 3], .slice a7 (nA + nB) c7] U fun e w' => e = .returned (.tuple #[.string ⟨(linesOf (y1 ++ YB)).toArray⟩, .int .i64 0, .int .i64 0]) ∧ Below U.heap.size U w') := fun U a7 c7 hU hr => HSh.out U a7 (nA + nB) c7 (y1 ++ YB) (KC.out U hU).2.1 (acts_row hr (KK.out U hU)) (by omega) HF.out
  obtain ⟨SA, eSA⟩ : ∃ x : ByteArray, x = ⟨(linesOf y1).toArray⟩ := ⟨_, rfl⟩
  obtain ⟨SB, eSB⟩ : ∃ x : ByteArray, x = ⟨(linesOf YB).toArray⟩ := ⟨_, rfl⟩
  obtain ⟨SC, eSC⟩ : ∃ x : ByteArray, x = ⟨(linesOf (y1 ++ YB)).toArray⟩ := ⟨_, rfl⟩
  have hSz : SA.size ≤ 40000 ∧ SB.size ≤ 40000 := by rw [eSA, eSB]; exact HSz.out
  have hSp : (0 : Int) < (SB.size : Int) := by
    obtain ⟨c, r, h⟩ := HLT.out
    have : SB.size = (linesOf YB).length := by rw [eSB]; rfl
    rw [this, h]
    simp
  rw [← eSA, ← eSB, ← eSC] at HL3
  rw [← eSC] at HS3
  rw [← eSA, ← eSB]
  have hz : ¬ (9223372036854775807 < SA.size + SB.size) := by omega
  have HAp : Hid (∀ U, Below u7.heap.size u7 U → IsRow 12 AV.cells U a1 nA k1 y1) := KA.out
  clear eSA eSB eSC HSz HLT HSh KV HO5 HA K5 hA7 hB7 HYA HYB KK HF b6 b7 b57 HE KA HCF bwX
  refine wp_region_inv (by kernel_rfl) [42, 43, 44, 45, 46, 47, 41, 48, 49, 50, 14, 15, 16] (fun L T u => ∃ (a6 : Option Addr) (c6 : Nat) (a7 : Option Addr) (c7 : Nat), Below u7.heap.size u7 u ∧ (L 0 = true → T 42 = .agg #[.int .i64 3, .slice (some ⟨g, 0, none⟩) 2 2, .int .i64 3]) ∧ (L 1 = true → T 43 = .slice a1 nA k1) ∧ (L 2 = true → T 44 = .slice a6 nA c6) ∧ (L 3 = true → T 45 = .slice a5 nB c5) ∧ (L 4 = true → T 46 = .slice a7 (nA + nB) c7) ∧ (L 5 = true → T 47 = .tuple #[.string SC, .int .i64 0, .int .i64 0]) ∧ (L 6 = true → T 41 = .tuple #[.string SC, .int .i64 0, .int .i64 0]) ∧ (L 7 = true → T 48 = .string SC) ∧ (L 8 = true → T 49 = .int .i64 0) ∧ (L 9 = true → T 50 = .int .i64 0) ∧ (L 10 = true → T 14 = .string SC) ∧ (L 11 = true → T 15 = .int .i64 0) ∧ (L 12 = true → T 16 = .int .i64 0) ∧ (L 2 = true → L 4 = false → u.ownsRow u7.heap.size 41 12 (.slice a6 nA c6) nA (flat AV.cells y1)) ∧ (L 4 = true → L 5 = false → IsRow 12 AV.cells u a7 (nA + nB) c7 (y1 ++ YB))) (by decide) (by kernel_rfl) (by kernel_rfl) ?_ ?_ ?_
  · exact ⟨none, 0, none, 0, (Below.refl _ _).drew, nofun, nofun, nofun, nofun, nofun, nofun, nofun, nofun, nofun, nofun, nofun, nofun, nofun, nofun, nofun⟩
  · refine ⟨?_, ?_, ?_, ?_, ?_, ?_, ?_, ?_, ?_, ?_, ?_, ?_, ?_, trivial⟩
    · rintro L T u hd hk hcl ⟨a6, c6, a7, c7, hb, f0, f1, f2, f3, f4, f5, f6, f7, f8, f9, f10, f11, f12, r2, r4⟩ K hK
      simp only [fr, Act.put, List.setIfInBounds_toArray, List.set_cons_zero, List.set_cons_succ, updO] at hK ⊢
      simp [Region.binds] at hd
      obtain ⟨⟨c0, c1, c2, zc⟩, -, -⟩ := KC.out u hb
      rw [if_pos (by rfl)]
      simp only [Oper.wpv]
      go_simp
      exact hK _ _ ⟨a6, c6, a7, c7, hb, fun _ => rfl, f1, f2, f3, f4, f5, f6, f7, f8, f9, f10, f11, f12, r2, r4⟩
    · rintro L T u hd hk hcl ⟨a6, c6, a7, c7, hb, f0, f1, f2, f3, f4, f5, f6, f7, f8, f9, f10, f11, f12, r2, r4⟩ K hK
      simp only [fr, Act.put, List.setIfInBounds_toArray, List.set_cons_zero, List.set_cons_succ, updO] at hK ⊢
      simp [Region.binds] at hd
      rw [if_pos (by rfl)]
      simp only [Oper.wpv]
      go_simp
      exact hK _ _ ⟨a6, c6, a7, c7, hb, f0, fun _ => rfl, f2, f3, f4, f5, f6, f7, f8, f9, f10, f11, f12, r2, r4⟩
    · rintro L T u hd hk hcl ⟨a6, c6, a7, c7, hb, f0, f1, f2, f3, f4, f5, f6, f7, f8, f9, f10, f11, f12, r2, r4⟩ K hK
      simp only [fr, Act.put, List.setIfInBounds_toArray, List.set_cons_zero, List.set_cons_succ, updO] at hK ⊢
      simp [Region.binds] at hd
      have g1 := f1 (by simp [hd])
      have k4 := hcl 4 _ rfl
      simp [Region.binds] at k4
      have k5 := hcl 5 _ rfl
      simp [Region.binds] at k5
      rw [if_pos (by rfl)]
      simp only [Oper.wpv]
      refine St.wpv_append_row EA (.const (.slice none 0 0)) (.tmp 43) (by rfl) u7.heap.size (.slice none 0 0) 0 [] (by rfl) (World.ownsRow_nil _ _ _ _) a1 nA k1 y1 g1 (HAp.out _ hb) (by unfold maxLen; omega) (by omega) hb.size ?_
      intro b6 d6 u9 own1 gr1 at1
      have hg := grownN8 gr1
      simp only [Nat.zero_add, List.nil_append] at own1 ⊢
      exact hK _ _ ⟨b6, d6, a7, c7, (sT hb hg), f0, f1, fun _ => rfl, f3, f4, f5, f6, f7, f8, f9, f10, f11, f12, fun _ _ => own1, fun h0 h1 => St.IsRow.below (r4 h0 h1) hg⟩
    · rintro L T u hd hk hcl ⟨a6, c6, a7, c7, hb, f0, f1, f2, f3, f4, f5, f6, f7, f8, f9, f10, f11, f12, r2, r4⟩ K hK
      simp only [fr, Act.put, List.setIfInBounds_toArray, List.set_cons_zero, List.set_cons_succ, updO] at hK ⊢
      simp [Region.binds] at hd
      rw [if_pos (by rfl)]
      simp only [Oper.wpv]
      go_simp
      exact hK _ _ ⟨a6, c6, a7, c7, hb, f0, f1, f2, fun _ => rfl, f4, f5, f6, f7, f8, f9, f10, f11, f12, r2, r4⟩
    · rintro L T u hd hk hcl ⟨a6, c6, a7, c7, hb, f0, f1, f2, f3, f4, f5, f6, f7, f8, f9, f10, f11, f12, r2, r4⟩ K hK
      simp only [fr, Act.put, List.setIfInBounds_toArray, List.set_cons_zero, List.set_cons_succ, updO] at hK ⊢
      simp [Region.binds] at hd
      have g2 := f2 (by simp [hd])
      have g3 := f3 (by simp [hd])
      have q2 := r2 (by simp [hd]) hk
      have k5 := hcl 5 _ rfl
      simp [Region.binds] at k5
      rw [if_pos (by rfl)]
      simp only [Oper.wpv]
      refine St.wpv_append_row EA (.tmp 44) (.tmp 45) (by rfl) u7.heap.size (.slice a6 nA c6) nA y1 g2 q2 a5 nB c5 YB g3 (KB.out _ hb) (by unfold maxLen; omega) (by omega) hb.size ?_
      intro b6 d6 u9 own1 gr1 at1
      have hb9 : Below u7.heap.size u7 u9 := hb.grown gr1 hb.size (fun z hz => (q2.lt z hz).1)
      have hR1 := (own_isRow av_len own1 Hl3.out).1
      exact hK _ _ ⟨a6, c6, b6, d6, hb9, f0, f1, f2, f3, fun _ => rfl, f5, f6, f7, f8, f9, f10, f11, f12, fun _ h => Bool.noConfusion (show true = false from h), fun _ _ => hR1⟩
    · rintro L T u hd hk hcl ⟨a6, c6, a7, c7, hb, f0, f1, f2, f3, f4, f5, f6, f7, f8, f9, f10, f11, f12, r2, r4⟩ K hK
      simp only [fr, Act.put, List.setIfInBounds_toArray, List.set_cons_zero, List.set_cons_succ, updO] at hK ⊢
      simp [Region.binds] at hd
      have g0 := f0 (by simp [hd])
      have g4 := f4 (by simp [hd])
      have q4 := r4 (by simp [hd]) hk
      rw [if_pos (by rfl)]
      simp only [Oper.wpv]
      go_simp
      refine (HS3.out u a7 c7 hb q4).mono ?_
      rintro e u3 ⟨rfl, hg⟩
      exact hK _ _ ⟨a6, c6, a7, c7, (sT hb hg), f0, f1, f2, f3, f4, fun _ => rfl, f6, f7, f8, f9, f10, f11, f12, fun h0 h1 => own_below (r2 h0 h1) hg, fun _ h => Bool.noConfusion (show true = false from h)⟩
    · rintro L T u hd hk hcl ⟨a6, c6, a7, c7, hb, f0, f1, f2, f3, f4, f5, f6, f7, f8, f9, f10, f11, f12, r2, r4⟩ K hK
      simp only [fr, Act.put, List.setIfInBounds_toArray, List.set_cons_zero, List.set_cons_succ, updO] at hK ⊢
      simp [Region.binds] at hd
      have g5 := f5 (by simp [hd])
      rw [if_pos (by rfl)]
      simp only [Oper.wpv]
      go_simp
      exact hK _ _ ⟨a6, c6, a7, c7, hb, f0, f1, f2, f3, f4, f5, fun _ => rfl, f7, f8, f9, f10, f11, f12, r2, r4⟩
    · rintro L T u hd hk hcl ⟨a6, c6, a7, c7, hb, f0, f1, f2, f3, f4, f5, f6, f7, f8, f9, f10, f11, f12, r2, r4⟩ K hK
      simp only [fr, Act.put, List.setIfInBounds_toArray, List.set_cons_zero, List.set_cons_succ, updO] at hK ⊢
      simp [Region.binds] at hd
      have g6 := f6 (by simp [hd])
      rw [if_pos (by rfl)]
      simp only [Oper.wpv]
      go_simp
      exact hK _ _ ⟨a6, c6, a7, c7, hb, f0, f1, f2, f3, f4, f5, f6, fun _ => rfl, f8, f9, f10, f11, f12, r2, r4⟩
    · rintro L T u hd hk hcl ⟨a6, c6, a7, c7, hb, f0, f1, f2, f3, f4, f5, f6, f7, f8, f9, f10, f11, f12, r2, r4⟩ K hK
      simp only [fr, Act.put, List.setIfInBounds_toArray, List.set_cons_zero, List.set_cons_succ, updO] at hK ⊢
      simp [Region.binds] at hd
      have g6 := f6 (by simp [hd])
      rw [if_pos (by rfl)]
      simp only [Oper.wpv]
      go_simp
      exact hK _ _ ⟨a6, c6, a7, c7, hb, f0, f1, f2, f3, f4, f5, f6, f7, fun _ => rfl, f9, f10, f11, f12, r2, r4⟩
    · rintro L T u hd hk hcl ⟨a6, c6, a7, c7, hb, f0, f1, f2, f3, f4, f5, f6, f7, f8, f9, f10, f11, f12, r2, r4⟩ K hK
      simp only [fr, Act.put, List.setIfInBounds_toArray, List.set_cons_zero, List.set_cons_succ, updO] at hK ⊢
      simp [Region.binds] at hd
      have g6 := f6 (by simp [hd])
      rw [if_pos (by rfl)]
      simp only [Oper.wpv]
      go_simp
      exact hK _ _ ⟨a6, c6, a7, c7, hb, f0, f1, f2, f3, f4, f5, f6, f7, f8, fun _ => rfl, f10, f11, f12, r2, r4⟩
    · rintro L T u hd hk hcl ⟨a6, c6, a7, c7, hb, f0, f1, f2, f3, f4, f5, f6, f7, f8, f9, f10, f11, f12, r2, r4⟩ K hK
      simp only [fr, Act.put, List.setIfInBounds_toArray, List.set_cons_zero, List.set_cons_succ, updO] at hK ⊢
      simp [Region.binds] at hd
      have g7 := f7 (by simp [hd])
      rw [if_pos (by rfl)]
      simp only [Oper.wpv]
      go_simp
      exact hK _ _ ⟨a6, c6, a7, c7, hb, f0, f1, f2, f3, f4, f5, f6, f7, f8, f9, fun _ => rfl, f11, f12, r2, r4⟩
    · rintro L T u hd hk hcl ⟨a6, c6, a7, c7, hb, f0, f1, f2, f3, f4, f5, f6, f7, f8, f9, f10, f11, f12, r2, r4⟩ K hK
      simp only [fr, Act.put, List.setIfInBounds_toArray, List.set_cons_zero, List.set_cons_succ, updO] at hK ⊢
      simp [Region.binds] at hd
      have g8 := f8 (by simp [hd])
      rw [if_pos (by rfl)]
      simp only [Oper.wpv]
      go_simp
      exact hK _ _ ⟨a6, c6, a7, c7, hb, f0, f1, f2, f3, f4, f5, f6, f7, f8, f9, f10, fun _ => rfl, f12, r2, r4⟩
    · rintro L T u hd hk hcl ⟨a6, c6, a7, c7, hb, f0, f1, f2, f3, f4, f5, f6, f7, f8, f9, f10, f11, f12, r2, r4⟩ K hK
      simp only [fr, Act.put, List.setIfInBounds_toArray, List.set_cons_zero, List.set_cons_succ, updO] at hK ⊢
      simp [Region.binds] at hd
      have g9 := f9 (by simp [hd])
      rw [if_pos (by rfl)]
      simp only [Oper.wpv]
      go_simp
      exact hK _ _ ⟨a6, c6, a7, c7, hb, f0, f1, f2, f3, f4, f5, f6, f7, f8, f9, f10, f11, fun _ => rfl, r2, r4⟩
  · rintro L T u hl ⟨a6, c6, a7, c7, hb, f0, f1, f2, f3, f4, f5, f6, f7, f8, f9, f10, f11, f12, r2, r4⟩
    simp only [fr, Act.put, List.setIfInBounds_toArray, List.set_cons_zero, List.set_cons_succ]
    have h14 := f10 (hl 10 (by decide))
    have h15 := f11 (hl 11 (by decide))
    have h16 := f12 (hl 12 (by decide))
    clear f0 f1 f2 f3 f4 f5 f6 f7 f8 f9 f10 f11 f12 r2 r4 HS3 KB HAp Hl3
    rw [h14, h15, h16]
    have hbw := (KC.out u hb).2.2
    have hL := HL3.out
    clear h14 h15 h16 KC HL3
    subst hL
    go_wp2
    go_ret
    exact ⟨by simp; omega, hbw⟩
end Go.Proofs.YtlaagfnoepcnlaaDoor.Ln
