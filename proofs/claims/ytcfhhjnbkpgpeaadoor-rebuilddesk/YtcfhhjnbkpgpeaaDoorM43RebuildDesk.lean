/- Texts of this claim, one behind the other. -/
import Derived.Test.YtcfhhjnbkpgpeaaDoorM41RebuildDesk
import Derived.Test.YtcfhhjnbkpgpeaaDoorA42RebuildDesk
import Derived.LoopTactic
import Derived.Deep.RegionHeld3
import Derived.Deep.RegionLaw
import Derived.Deep.AppendLies
import Derived.Deep.DeepCutAuto
import Derived.Deep.CutBlock
import Derived.Test.YtcfhhjnbkpgpeaaDoorM29RebuildDesk
import Derived.Test.YtcfhhjnbkpgpeaaDoorM8RebuildDesk
/- Records in a slice: in one of the call's own, one more; and as they lie. -/
namespace Go.Proofs.YtcfhhjnbkpgpeaaDoor
open Go.ChangeShapes Go.WideShapes Go.ChangeAt Go.RowKit
set_option linter.unusedVariables false

instance : Inhabited RcV := ⟨⟨0, 0, 0, 0, 0, 0, false, none, 0, 0, []⟩⟩
def RcV.cells (r : RcV) : List Value := [.int .i64 r.kind, .int .i64 r.site, .int .i64 r.num, .int .i64 r.key, .int .i64 r.value, .int .i64 r.ask, .bool r.yes, .slice r.sa r.sl r.sc]
theorem RcV.cells_len (r : RcV) : r.cells.length = 8 := rfl
def flatRecs (xs : List RcV) : List Value := xs.flatMap RcV.cells
theorem flatRecs_append (xs : List RcV) (a : RcV) : flatRecs (xs ++ [a]) = flatRecs xs ++ a.cells := by simp [flatRecs]
theorem flatRecs_get (xs : List RcV) : ∀ i, i < xs.length → ∀ j, j < 8 → (flatRecs xs)[i * 8 + j]? = (xs.getD i default).cells[j]? := by
  induction xs with
  | nil => intro i hi; simp at hi
  | cons a l ih =>
    intro i hi j hj
    have e : flatRecs (a :: l) = a.cells ++ flatRecs l := by simp [flatRecs]
    cases i with
    | zero =>
      have : j < a.cells.length := by rw [RcV.cells_len]; exact hj
      rw [e, Nat.zero_mul, Nat.zero_add, List.getElem?_append_left this]
      simp
    | succ i =>
      rw [e, List.getElem?_append_right (by rw [RcV.cells_len]; omega), RcV.cells_len, show (i + 1) * 8 + j - 8 = i * 8 + j by omega, ih i (by simpa using hi) j hj]
      simp

structure OwnRecs (w : World) (B : Nat) (v : Value) (ys : List RcV) : Prop where
  row : w.ownsRow B 31 8 v ys.length (flatRecs ys)
  sites : ∀ y ∈ ys, IsInts w y.sa y.sl y.sc y.sites ∧ ∀ b off, y.sa = some ⟨b, off, none⟩ → some b ≠ v.ownBlock ∧ b < w.heap.size
theorem ownRecs_nil (w : World) (B : Nat) : OwnRecs w B (.slice none 0 0) [] := ⟨World.ownsRow_nil _ _ _ _, by simp⟩
theorem OwnRecs.below {w w' : World} {B : Nat} {v : Value} {ys : List RcV} (h : OwnRecs w B v ys) (hb : Below w.heap.size w w') : OwnRecs w' B v ys :=
  ⟨own_below' h.row hb, fun y hy => ⟨(h.sites y hy).1.below hb, fun b off e => ⟨((h.sites y hy).2 b off e).1, Nat.lt_of_lt_of_le ((h.sites y hy).2 b off e).2 hb.size⟩⟩⟩
theorem OwnRecs.push {w w1 w2 : World} {B g cp' : Nat} {v : Value} {ys : List RcV} {y : RcV} (h : OwnRecs w B v ys) (hb : Below w.heap.size w w1)
    (hy : IsInts w1 y.sa y.sl y.sc y.sites) (hn : ∀ b off, y.sa = some ⟨b, off, none⟩ → w.heap.size ≤ b ∧ b < w1.heap.size)
    (hown : w2.ownsRow B 31 8 (.slice (some ⟨g, 0, none⟩) (ys.length + 1) cp') (ys.length + 1) (flatRecs ys ++ y.cells)) (hg : w1.grownBy w2 v.ownBlock) (hat : v.ownBlock = some g ∨ g = w1.heap.size) :
    OwnRecs w2 B (.slice (some ⟨g, 0, none⟩) (ys.length + 1) cp') (ys ++ [y]) := by
  have h1 := h.below hb
  have hvl : ∀ m, v.ownBlock = some m → m < w.heap.size := fun m hm => (h.row.lt m hm).2
  refine ⟨?_, fun z hz => ?_⟩
  · rw [flatRecs_append]
    simpa using hown
  · have key : IsInts w1 z.sa z.sl z.sc z.sites ∧ ∀ b off, z.sa = some ⟨b, off, none⟩ → some b ≠ v.ownBlock ∧ b < w1.heap.size := by
      rcases List.mem_append.1 hz with hz | hz
      · exact h1.sites z hz
      · simp at hz
        subst hz
        exact ⟨hy, fun b off e => ⟨fun e' => by have := hvl b e'.symm; have := (hn b off e).1; omega, (hn b off e).2⟩⟩
    refine ⟨isI_grown key.1 hg (fun b off e => (key.2 b off e).1), fun b off e => ⟨?_, Nat.lt_of_lt_of_le (key.2 b off e).2 hg.size⟩⟩
    obtain ⟨k1, k2⟩ := key.2 b off e
    intro e'
    simp [Value.ownBlock] at e'
    subst e'
    rcases hat with hat | hat
    · exact k1 hat.symm
    · omega

/-- Records that lie in memory one behind the other, their Sites wherever they are. -/
def IsRecs (w : World) (a : Option Addr) (len cap : Nat) (ys : List RcV) : Prop :=
  ys.length = len ∧ len ≤ cap ∧ cap ≤ maxLen ∧ (∀ y ∈ ys, IsInts w y.sa y.sl y.sc y.sites) ∧
    (0 < len → ∃ b off, a = some ⟨b, off, none⟩ ∧ b < w.heap.size ∧ ∀ i, i < len → ∀ j, j < 8 → w.cell? ⟨b, off + i * 8 + j, none⟩ = (ys.getD i default).cells[j]?)
theorem IsRecs.below {w w' : World} {a : Option Addr} {len cap : Nat} {ys : List RcV} (h : IsRecs w a len cap ys) (hb : Below w.heap.size w w') : IsRecs w' a len cap ys := by
  obtain ⟨h1, h2, h3, h4, h5⟩ := h
  refine ⟨h1, h2, h3, fun y hy => (h4 y hy).below hb, fun hp => ?_⟩
  obtain ⟨b, off, e, hl, hc⟩ := h5 hp
  refine ⟨b, off, e, Nat.lt_of_lt_of_le hl hb.size, fun i hi j hj => ?_⟩
  rw [hb.cell (p := ⟨b, off + i * 8 + j, none⟩) hl]
  exact hc i hi j hj
theorem OwnRecs.isRecs {w : World} {B : Nat} {ao : Option Addr} {n cp : Nat} {ys : List RcV} (h : OwnRecs w B (.slice ao n cp) ys) : n = ys.length ∧ IsRecs w ao n cp ys := by
  have hr := h.row
  obtain ⟨ao', cp', e, h1, h2⟩ := own_form hr
  simp at e
  obtain ⟨rfl, rfl, rfl⟩ := e
  refine ⟨rfl, rfl, h1, h2, fun y hy => (h.sites y hy).1, fun hp => ?_⟩
  rcases hr.2 with ⟨_, hn⟩ | ⟨g, cap, cur, hv, hb, hg, _⟩
  · omega
  · simp at hv
    obtain ⟨rfl, rfl⟩ := hv
    refine ⟨g, 0, rfl, (hr.lt g rfl).2, fun i hi j hj => ?_⟩
    have hf := flatRecs_get ys i hi j hj
    have hc : j < (ys.getD i default).cells.length := by rw [RcV.cells_len]; exact hj
    rw [List.getElem?_eq_getElem hc] at hf
    have := hr.cells (g := g) rfl _ _ hf
    have e : ∀ m, (⟨g, 0, none⟩ : Addr).add m = ⟨g, 0 + m, none⟩ := by
      intro m
      unfold Addr.add
      by_cases hm : m = 0 <;> simp [hm]
    rw [e, ← Nat.add_assoc] at this
    rw [this, List.getElem?_eq_getElem hc]
end Go.Proofs.YtcfhhjnbkpgpeaaDoor
/- The contract of reredoskeep.records: records that may be, at most so many, in memory of their own. -/
namespace Go.Proofs.YtcfhhjnbkpgpeaaDoor
open Go.ChangeShapes Go.WideShapes Go.ChangeAt Go.RowKit
set_option linter.unusedVariables false

theorem recInfo : (Tryd.prog.info? 31).map (fun i => (i.zero, i.size, i.bytes)) = some (some (.agg #[.int .i64 0, .int .i64 0, .int .i64 0, .int .i64 0, .int .i64 0, .int .i64 0, .bool false, .slice none 0 0]), 8, 80) := by kernel_rfl
theorem news_rec {W : World} {n : Nat} (cs : Array Value) (t : TypeId) (h : W.heap.size = n) : ∀ j u, cs.toList[j]? = some u → (W.alloc (.cells cs t)).cell? ((⟨n, 0, none⟩ : Addr).add j) = some u := by
  subst h
  exact World.news_of_block (heap_alloc_new W _)
theorem rcells_one (y : RcV) : ∀ u ∈ y.cells, u.oneCell' = true := by
  intro u hu
  simp [RcV.cells] at hu
  rcases hu with h | h | h | h | h | h | h | h <;> subst h <;> rfl

set_option maxHeartbeats 4000000 in
set_option maxRecDepth 100000 in
theorem records_upto (S P : Int) (ad : Option Addr) (n cp0 : Nat) (L : List (Int × Int)) (aa : Option Addr) (alen acap : Nat) (rs : List RV) (M : Int) (w : World) (hok : cfgFault S L P = 0) (s1 : 1 ≤ S) (s3 : S ≤ 3) (hx : IsRaws w aa alen acap rs) (hM : 0 ≤ M ∧ M ≤ 100) :
    Calls Tryd.prog 16 #[.agg #[.int .i64 S, .slice ad n cp0, .int .i64 P], .slice aa alen acap, .int .i64 M] w fun e w' => ∃ (ao : Option Addr) (cp : Nat) (ys : List RcV),
      e = .returned (.slice ao ys.length cp) ∧ IsRecs w' ao ys.length cp ys ∧ (∀ y ∈ ys, recFault S L P y = 0) ∧ (ys.length : Int) ≤ M ∧ (ao = none → cp = 0) ∧ Hid (∀ y ∈ ys, ∀ b off, y.sa = some ⟨b, off, none⟩ → w.heap.size ≤ b) ∧ Below w.heap.size w w' := by
  obtain ⟨i0, hi, li0, li1, li2⟩ := info_parts recInfo
  obtain ⟨M0, M25⟩ := hM
  have hmx : alen ≤ maxLen := Nat.le_trans hx.2.1 hx.2.2.1
  unfold maxLen at hmx
  obtain ⟨W, hW⟩ : ∃ W : World, W = w.alloc (.cells #[.int .i64 S, .slice ad n cp0, .int .i64 P] 24) := ⟨_, rfl⟩
  have hA : Below w.heap.size w W := by rw [hW]; exact (Below.refl _ _).alloc (Nat.le_refl _) _
  have zW : w.heap.size < W.heap.size := by rw [hW]; simp
  have d0 : W.cell? ⟨w.heap.size, 0, none⟩ = some (.int .i64 S) := by rw [hW]; go_simp
  have d1 : W.cell? ⟨w.heap.size, 1, none⟩ = some (.slice ad n cp0) := by rw [hW]; go_simp
  have d2 : W.cell? ⟨w.heap.size, 2, none⟩ = some (.int .i64 P) := by rw [hW]; go_simp
  have hxW := hx.below hA
  go_enter Tryd.func16, Tryd.ntmps16
  go_wp2
  rw [← hW]
  clear hW
  go_loopw [7, 8] (fun v i wr => ∃ (ao : Option Addr) (cp : Nat) (ys : List RcV), v = .slice ao ys.length cp ∧ i = .int .i64 (ys.length : Int) ∧ ys.length ≤ alen ∧ (ys.length : Int) ≤ M ∧ OwnRecs wr W.heap.size (.slice ao ys.length cp) ys ∧ (∀ y ∈ ys, recFault S L P y = 0) ∧ Hid (∀ y ∈ ys, ∀ b off, y.sa = some ⟨b, off, none⟩ → w.heap.size ≤ b) ∧ Below W.heap.size W wr) (fun _ i _ => alen - (intOf i).toNat)
  case atStart => exact ⟨none, 0, [], rfl, rfl, Nat.zero_le _, M0, ownRecs_nil _ _, by simp, (fun y hy => by cases hy), Below.refl _ _⟩
  case round =>
    obtain ⟨ao, cp, ys, rfl, rfl, hk, hkM, hO, hgood, hHi, hb⟩ := hrel
    have x0 := (hb.cell (p := ⟨w.heap.size, 0, none⟩) zW).trans d0
    have x1 := (hb.cell (p := ⟨w.heap.size, 1, none⟩) zW).trans d1
    have x2 := (hb.cell (p := ⟨w.heap.size, 2, none⟩) zW).trans d2
    have zr : w.heap.size < wr.heap.size := Nat.lt_of_lt_of_le zW hb.size
    by_cases hlt : ys.length < alen ∧ (ys.length : Int) < M
    · obtain ⟨hlt, hltM⟩ := hlt
      have hlt' : (ys.length : Int) < (alen : Int) := by omega
      obtain ⟨b, off, rfl, hAt⟩ := (hxW.below hb).2.2.2.2 (by omega)
      have hcells := hAt.2 ys.length (by have := hxW.1; omega)
      have hrok := hxW.2.2.2.1 ys.length
      obtain ⟨r, er⟩ : ∃ r, r = rs.getD ys.length default := ⟨_, rfl⟩
      rw [← er] at hcells hrok
      clear er
      obtain ⟨kd, ra, rb, rc, rd, re⟩ := r
      obtain ⟨hkd, hra, hrb, hrc, hrd, hre⟩ := hrok
      have a0 := hcells 0 (by decide)
      have a1 := hcells 1 (by decide)
      have a2 := hcells 2 (by decide)
      have a3 := hcells 3 (by decide)
      have a4 := hcells 4 (by decide)
      have a5 := hcells 5 (by decide)
      simp [RV.cells] at a0 a1 a2 a3 a4 a5
      have zb : b < wr.heap.size := hAt.1
      clear hcells hAt
      have KA : Hid (∀ U : World, Below wr.heap.size wr U → (U.cell? ⟨w.heap.size, 0, none⟩ = some (.int .i64 S) ∧ U.cell? ⟨w.heap.size, 1, none⟩ = some (.slice ad n cp0) ∧ U.cell? ⟨w.heap.size, 2, none⟩ = some (.int .i64 P)) ∧ U.cell? ⟨b, off + ys.length * 6, none⟩ = some (.int .i64 kd) ∧ U.cell? ⟨b, off + ys.length * 6 + 1, none⟩ = some (.int .i64 ra) ∧ U.cell? ⟨b, off + ys.length * 6 + 2, none⟩ = some (.int .i64 rb) ∧ U.cell? ⟨b, off + ys.length * 6 + 3, none⟩ = some (.int .i64 rc) ∧ U.cell? ⟨b, off + ys.length * 6 + 4, none⟩ = some (.int .i64 rd) ∧ U.cell? ⟨b, off + ys.length * 6 + 5, none⟩ = some (.int .i64 re)) := fun U hU =>
        ⟨⟨(hU.cell (p := ⟨w.heap.size, 0, none⟩) zr).trans x0, (hU.cell (p := ⟨w.heap.size, 1, none⟩) zr).trans x1, (hU.cell (p := ⟨w.heap.size, 2, none⟩) zr).trans x2⟩, (hU.cell (p := ⟨b, _, none⟩) zb).trans a0, (hU.cell (p := ⟨b, _, none⟩) zb).trans a1, (hU.cell (p := ⟨b, _, none⟩) zb).trans a2, (hU.cell (p := ⟨b, _, none⟩) zb).trans a3, (hU.cell (p := ⟨b, _, none⟩) zb).trans a4, (hU.cell (p := ⟨b, _, none⟩) zb).trans a5⟩
      have hD : Below wr.heap.size wr wr.drew := (Below.refl _ _).drew
      have hRec := fun w' => rec_good S P ad n cp0 L kd ra rb rc rd re w' hok s1 s3 hkd hra hrb hrc hrd hre
      go_upto_region 5 with (fail)
      go_cut [9] (fun s9 wc => ∃ (q : Nat) (r : RcV), s9 = .pointer (some ⟨q, 0, none⟩) ∧ BoxN wc q 8 r.cells ∧ IsInts wc r.sa r.sl r.sc r.sites ∧ recFault S L P r = 0 ∧ (∀ b off, r.sa = some ⟨b, off, none⟩ → wr.heap.size ≤ b ∧ b < wc.heap.size) ∧ Below wr.heap.size wr wc)
      case first =>
        go_region_held3 (fun U => (U.cell? ⟨w.heap.size, 0, none⟩ = some (.int .i64 S) ∧ U.cell? ⟨w.heap.size, 1, none⟩ = some (.slice ad n cp0) ∧ U.cell? ⟨w.heap.size, 2, none⟩ = some (.int .i64 P)) ∧ U.cell? ⟨b, off + ys.length * 6, none⟩ = some (.int .i64 kd) ∧ U.cell? ⟨b, off + ys.length * 6 + 1, none⟩ = some (.int .i64 ra) ∧ U.cell? ⟨b, off + ys.length * 6 + 2, none⟩ = some (.int .i64 rb) ∧ U.cell? ⟨b, off + ys.length * 6 + 3, none⟩ = some (.int .i64 rc) ∧ U.cell? ⟨b, off + ys.length * 6 + 4, none⟩ = some (.int .i64 rd) ∧ U.cell? ⟨b, off + ys.length * 6 + 5, none⟩ = some (.int .i64 re))
          (exact KA.out _ (by (with_reducible repeat (first | exact hu3 | exact hD | exact Below.refl _ _ | refine bD ?_ | refine bA ?_ _ | refine bS ?_ (by omega) _)); done))
          ((go_at_call 13; refine (hRec _).mono ?_; rintro e u3 ⟨⟨kind, site, num, key, value, ask, yes, sa, sl, sc, sites⟩, rfl, hG, hb3'⟩; simp only [RcV.val]; have hu3 : Below wr.heap.size wr u3 := bT (by (with_reducible repeat (first | exact hD | exact Below.refl _ _ | refine bD ?_ | refine bA ?_ _ | refine bS ?_ (by omega) _)); done) hb3'; have z3 : wr.heap.size ≤ u3.heap.size := hu3.size; (first | (have bx3 : BoxN u3 wr.heap.size 8 [.int .i64 0, .int .i64 0, .int .i64 0, .int .i64 0, .int .i64 0, .int .i64 0, .bool false, .slice none 0 0] := (boxn_new wr.drew #[.int .i64 0, .int .i64 0, .int .i64 0, .int .i64 0, .int .i64 0, .int .i64 0, .bool false, .slice none 0 0] 31 8 rfl).below hb3' (by simp); have hne3 : ∀ b off, sa = some ⟨b, off, none⟩ → wr.heap.size ≠ b := fun b off e => Nat.ne_of_lt (Nat.lt_of_lt_of_le (by simp) (hG.new b off e).1); have s0 : _ = some (Value.int .i64 0) := (bx3.c 0 (by omega)).1; have g0 := (bx3.c 0 (by omega)).2; have s1 : _ = some (Value.int .i64 0) := (bx3.c 1 (by omega)).1; have g1 := (bx3.c 1 (by omega)).2; have s2 : _ = some (Value.int .i64 0) := (bx3.c 2 (by omega)).1; have g2 := (bx3.c 2 (by omega)).2; have s3 : _ = some (Value.int .i64 0) := (bx3.c 3 (by omega)).1; have g3 := (bx3.c 3 (by omega)).2; have s4 : _ = some (Value.int .i64 0) := (bx3.c 4 (by omega)).1; have g4 := (bx3.c 4 (by omega)).2; have s5 : _ = some (Value.int .i64 0) := (bx3.c 5 (by omega)).1; have g5 := (bx3.c 5 (by omega)).2; have s6 : _ = some (Value.bool false) := (bx3.c 6 (by omega)).1; have g6 := (bx3.c 6 (by omega)).2; have s7 : _ = some (Value.slice none 0 0) := (bx3.c 7 (by omega)).1; have g7 := (bx3.c 7 (by omega)).2) | (have bx3 : BoxN u3 wr.heap.size 8 [.int .i64 0, .int .i64 0, .int .i64 0, .int .i64 0, .int .i64 0, .int .i64 0, .bool false, .slice none 0 0] := (boxn_new wr #[.int .i64 0, .int .i64 0, .int .i64 0, .int .i64 0, .int .i64 0, .int .i64 0, .bool false, .slice none 0 0] 31 8 rfl).below hb3' (by simp); have hne3 : ∀ b off, sa = some ⟨b, off, none⟩ → wr.heap.size ≠ b := fun b off e => Nat.ne_of_lt (Nat.lt_of_lt_of_le (by simp) (hG.new b off e).1); have s0 : _ = some (Value.int .i64 0) := (bx3.c 0 (by omega)).1; have g0 := (bx3.c 0 (by omega)).2; have s1 : _ = some (Value.int .i64 0) := (bx3.c 1 (by omega)).1; have g1 := (bx3.c 1 (by omega)).2; have s2 : _ = some (Value.int .i64 0) := (bx3.c 2 (by omega)).1; have g2 := (bx3.c 2 (by omega)).2; have s3 : _ = some (Value.int .i64 0) := (bx3.c 3 (by omega)).1; have g3 := (bx3.c 3 (by omega)).2; have s4 : _ = some (Value.int .i64 0) := (bx3.c 4 (by omega)).1; have g4 := (bx3.c 4 (by omega)).2; have s5 : _ = some (Value.int .i64 0) := (bx3.c 5 (by omega)).1; have g5 := (bx3.c 5 (by omega)).2; have s6 : _ = some (Value.bool false) := (bx3.c 6 (by omega)).1; have g6 := (bx3.c 6 (by omega)).2; have s7 : _ = some (Value.slice none 0 0) := (bx3.c 7 (by omega)).1; have g7 := (bx3.c 7 (by omega)).2) | skip)))
        all_goals
          have hG1 : IsInts u3 sa sl sc sites := hG.ints
          have hG2 : Hid (recFault S L P ⟨kind, site, num, key, value, ask, yes, sa, sl, sc, sites⟩ = 0) := hG.ok
          have hG3 : ∀ b off, sa = some ⟨b, off, none⟩ → wr.heap.size ≤ b ∧ b < u3.heap.size := fun b off e => ⟨Nat.le_trans (by first | exact Nat.le_refl _ | (simp; done) | (simp; omega)) (hG.new b off e).1, (hG.new b off e).2⟩
          clear hG
          first
            | (have bxF := ((((((((bx3.set 0 (by omega) (.int .i64 kind)).set 1 (by omega) (.int .i64 site)).set 2 (by omega) (.int .i64 num)).set 3 (by omega) (.int .i64 key)).set 4 (by omega) (.int .i64 value)).set 5 (by omega) (.int .i64 ask)).set 6 (by omega) (.bool yes)).set 7 (by omega) (.slice sa sl sc)))
            | (have bxF : BoxN _ u3.heap.size 8 [.int .i64 kind, .int .i64 site, .int .i64 num, .int .i64 key, .int .i64 value, .int .i64 ask, .bool yes, .slice sa sl sc] := boxn_new u3 #[.int .i64 kind, .int .i64 site, .int .i64 num, .int .i64 key, .int .i64 value, .int .i64 ask, .bool yes, .slice sa sl sc] 31 8 rfl)
          go_wp2_with fail
          go_meet
          case rel => exact ⟨_, ⟨kind, site, num, key, value, ask, yes, sa, sl, sc, sites⟩, rfl, bxF, (by (with_reducible repeat (first | exact hG1 | exact hne3 | refine isI_far ?_ ?_ | refine isI_alloc ?_ _)); done), hG2.out, (fun b off e => ⟨(hG3 b off e).1, Nat.lt_of_lt_of_le (hG3 b off e).2 (by simp)⟩), (by (with_reducible repeat (first | exact hu3 | exact hD | exact Below.refl _ _ | refine bD ?_ | refine bA ?_ _ | refine bS ?_ (by omega) _)); done)⟩
      case rest =>
        obtain ⟨q, ⟨kind, site, num, key, value, ask, yes, sa, sl, sc, sites⟩, rfl, bxF, hIs, hf0, hnew, bF⟩ := hcut
        have HF : Hid (recFault S L P ⟨kind, site, num, key, value, ask, yes, sa, sl, sc, sites⟩ = 0) := hf0
        clear hf0
        obtain ⟨X, eX⟩ : ∃ X, X = wc := ⟨_, rfl⟩
        rw [← eX] at bxF hIs hnew bF ⊢
        clear eX
        have qlt := bxF.lt
        have m0 : X.cell? ⟨q, 0, none⟩ = some (.int .i64 kind) := (bxF.c 0 (by omega)).1
        have m1 : X.cell? ⟨q, 1, none⟩ = some (.int .i64 site) := (bxF.c 1 (by omega)).1
        have m2 : X.cell? ⟨q, 2, none⟩ = some (.int .i64 num) := (bxF.c 2 (by omega)).1
        have m3 : X.cell? ⟨q, 3, none⟩ = some (.int .i64 key) := (bxF.c 3 (by omega)).1
        have m4 : X.cell? ⟨q, 4, none⟩ = some (.int .i64 value) := (bxF.c 4 (by omega)).1
        have m5 : X.cell? ⟨q, 5, none⟩ = some (.int .i64 ask) := (bxF.c 5 (by omega)).1
        have m6 : X.cell? ⟨q, 6, none⟩ = some (.bool yes) := (bxF.c 6 (by omega)).1
        have m7 : X.cell? ⟨q, 7, none⟩ = some (.slice sa sl sc) := (bxF.c 7 (by omega)).1
        have hOx := hO.below bF
        have hne : ∀ m, (Value.slice ao ys.length cp).ownBlock = some m → W.heap.size ≤ m ∧ m < wr.heap.size := fun m hm => hO.row.lt m hm
        have zX : W.heap.size ≤ X.heap.size := Nat.le_trans hb.size bF.size
        go_upto_region 4 with (at_builtin; refine wpList_append_lies _ (by rfl) (.tmp 27) (.tmp 29) 32 (by rfl) W.heap.size 31 i0 (.agg #[.int .i64 0, .int .i64 0, .int .i64 0, .int .i64 0, .int .i64 0, .int .i64 0, .bool false, .slice none 0 0]) 8 80 Tryd.underlying32 hi li0 li1 li2 rfl (by decide) (.slice ao ys.length cp) ys.length (flatRecs ys) (by rfl) (hOx.row.alloc _) ⟨X.heap.size, 0, none⟩ 1 1 (RcV.cells ⟨kind, site, num, key, value, ask, yes, sa, sl, sc, sites⟩) (by rfl) rfl (news_rec #[.int .i64 kind, .int .i64 site, .int .i64 num, .int .i64 key, .int .i64 value, .int .i64 ask, .bool yes, .slice sa sl sc] _ rfl) (rcells_one _) (by omega) (by unfold maxLen; omega) (by omega) (by simp; omega) _ rfl ?_; intro g5 c5 w5 own5 gr5 at5 lt5)
        have hOp := hO.push (y := ⟨kind, site, num, key, value, ask, yes, sa, sl, sc, sites⟩) (w1 := X.alloc (.cells #[.int .i64 kind, .int .i64 site, .int .i64 num, .int .i64 key, .int .i64 value, .int .i64 ask, .bool yes, .slice sa sl sc] 31)) (bA bF _) (isI_alloc hIs _) (fun b off e => ⟨(hnew b off e).1, Nat.lt_of_lt_of_le (hnew b off e).2 (by simp)⟩) own5 gr5 at5
        have hb5 : Below W.heap.size W w5 := bG (bA (bT hb bF) _) gr5 (fun k hk => (hne k hk).1)
        have hg5 : ∀ y ∈ ys ++ [(⟨kind, site, num, key, value, ask, yes, sa, sl, sc, sites⟩ : RcV)], recFault S L P y = 0 := fun y hy => by
          rcases List.mem_append.1 hy with hy | hy
          · exact hgood y hy
          · simp at hy; subst hy; exact HF.out
        have hHi5 : Hid (∀ y ∈ ys ++ [(⟨kind, site, num, key, value, ask, yes, sa, sl, sc, sites⟩ : RcV)], ∀ b off, y.sa = some ⟨b, off, none⟩ → w.heap.size ≤ b) := fun y hy b off e => by
          rcases List.mem_append.1 hy with hy | hy
          · exact hHi.out y hy b off e
          · simp at hy; subst hy; exact Nat.le_trans (Nat.le_of_lt zr) (hnew b off e).1
        obtain ⟨zs, ezs⟩ : ∃ zs, zs = ys ++ [(⟨kind, site, num, key, value, ask, yes, sa, sl, sc, sites⟩ : RcV)] := ⟨_, rfl⟩
        have elz : Hid (zs.length = ys.length + 1) := by rw [ezs]; show _ = _; simp
        rw [← ezs] at hOp hg5 hHi5
        clear ezs
        go_wp2
        go_roundw
        case rel =>
          refine ⟨some ⟨g5, 0, none⟩, c5, zs, ?_, ?_, ?_, ?_, ?_, hg5, hHi5, hb5⟩
          · rw [elz.out]
          · rw [elz.out]; go_num
          · rw [elz.out]; omega
          · rw [elz.out]; omega
          · rw [elz.out]; exact hOp
        case measure => simp [intOf]; omega
    · have hfin : IsRecs wr ao ys.length cp ys := hO.isRecs.2
      have hl25 : (ys.length : Int) ≤ M ∧ (ao = none → cp = 0) := ⟨hkM, fun e => by
        rcases hO.row.2 with ⟨hv, hn⟩ | ⟨g, cap, cur, hv, _⟩
        · simp at hv; exact hv.2.2
        · simp [e] at hv⟩
      by_cases h1 : ys.length < alen
      · have h1' : (ys.length : Int) < (alen : Int) := by omega
        have h2 : ¬ (ys.length : Int) < M := fun hh => hlt ⟨h1, hh⟩
        go_wp2
        go_ret
        exact ⟨ao, cp, ys, rfl, hfin, hgood, hl25.1, hl25.2, hHi, hA.trans (hb.mono hA.size)⟩
      · have h1' : ¬ (ys.length : Int) < (alen : Int) := by omega
        go_wp2
        go_ret
        exact ⟨ao, cp, ys, rfl, hfin, hgood, hl25.1, hl25.2, hHi, hA.trans (hb.mono hA.size)⟩
theorem records_any (S P : Int) (ad : Option Addr) (n cp0 : Nat) (L : List (Int × Int)) (aa : Option Addr) (alen acap : Nat) (rs : List RV) (M : Int) (w : World) (hok : cfgFault S L P = 0) (s1 : 1 ≤ S) (s3 : S ≤ 3) (hx : IsRaws w aa alen acap rs) (hM : 0 ≤ M ∧ M ≤ 25) :
    Calls Tryd.prog 16 #[.agg #[.int .i64 S, .slice ad n cp0, .int .i64 P], .slice aa alen acap, .int .i64 M] w fun e w' => ∃ (ao : Option Addr) (cp : Nat) (ys : List RcV),
      e = .returned (.slice ao ys.length cp) ∧ IsRecs w' ao ys.length cp ys ∧ (∀ y ∈ ys, recFault S L P y = 0) ∧ ys.length ≤ 25 ∧ Below w.heap.size w w' := by
  refine (records_upto S P ad n cp0 L aa alen acap rs M w hok s1 s3 hx ⟨hM.1, by omega⟩).mono ?_
  rintro e w' ⟨ao, cp, ys, h1, h2, h3, h4, h6, -, h5⟩
  exact ⟨ao, cp, ys, h1, h2, h3, by omega, h5⟩
end Go.Proofs.YtcfhhjnbkpgpeaaDoor
/- The config of two labels, the second one above the first one. -/
namespace Go.Proofs.YtcfhhjnbkpgpeaaDoor.Pt
open Go.ChangeShapes Go.WideShapes Go.ChangeAt Go.RowKit
set_option linter.unusedVariables false

def LS2 : List (Int × Int) := [(0, 0), (1, 0)]
theorem cfg_two {s p : Int} (h1 : 1 ≤ s) (h2 : s ≤ 4) (h3 : 1 ≤ p) (h4 : p ≤ 1048576) : cfgFault s LS2 p = 0 := by
  unfold cfgFault
  rw [if_neg (by omega), if_neg (by decide), if_neg (by decide), if_neg (by omega)]
set_option maxRecDepth 100000 in
theorem two_any (s : Int) (w : World) (hs : -9223372036854775808 ≤ s ∧ s ≤ 9223372036854775807) :
    Calls Tryd.prog 7 #[.int .i64 s] w fun e w' => ∃ g, e = .returned (.agg #[.int .i64 (1 + pk s 3), .slice (some ⟨g, 0, none⟩) 2 2, .int .i64 3]) ∧ IsLabs w' (some ⟨g, 0, none⟩) 2 2 LS2 ∧ w.heap.size ≤ g ∧ Below w.heap.size w w' := by
  have hp := pk_bd s 3 (by omega)
  have hwr : IntKind.i64.wrap (1 + pk s 3) = 1 + pk s 3 := by simp [IntKind.wrap, IntKind.bits, IntKind.signed]; omega
  have hP := fun u => picked_any s 3 u hs (by omega) (by omega)
  obtain ⟨K, eK⟩ : ∃ K, K = pk s 3 := ⟨_, rfl⟩
  rw [← eK] at hP hwr ⊢
  clear eK hp
  go_enter Tryd.func7, Tryd.ntmps7
  go_wp2_with (go_at_call 8; refine (hP _).mono ?_; rintro e u ⟨rfl, hu⟩; rw [hu]; clear hu)
  obtain ⟨X, eX⟩ : ∃ X : World, X = (w.alloc (.cells #[.int .i64 (1 + K), .slice (some ⟨w.heap.size + 1, 0, none⟩) 2 2, .int .i64 3] 24)).alloc (.cells #[.int .i64 0, .int .i64 0, .int .i64 1, .int .i64 0] 54) := ⟨_, rfl⟩
  have hb : Below w.heap.size w X := by rw [eX]; exact ((Below.refl _ _).alloc (Nat.le_refl _) _).alloc (by simp) _
  have c0 : X.cell? ⟨w.heap.size + 1, 0, none⟩ = some (.int .i64 0) := by rw [eX]; go_simp
  have c1 : X.cell? ⟨w.heap.size + 1, 1, none⟩ = some (.int .i64 0) := by rw [eX]; go_simp
  have c2 : X.cell? ⟨w.heap.size + 1, 2, none⟩ = some (.int .i64 1) := by rw [eX]; go_simp
  have c3 : X.cell? ⟨w.heap.size + 1, 3, none⟩ = some (.int .i64 0) := by rw [eX]; go_simp
  have q0 : X.cell? ⟨w.heap.size, 0, none⟩ = some (.int .i64 (1 + K)) := by rw [eX]; go_simp
  have q1 : X.cell? ⟨w.heap.size, 1, none⟩ = some (.slice (some ⟨w.heap.size + 1, 0, none⟩) 2 2) := by rw [eX]; go_simp
  have q2 : X.cell? ⟨w.heap.size, 2, none⟩ = some (.int .i64 3) := by rw [eX]; go_simp
  have zX : w.heap.size + 1 < X.heap.size := by rw [eX]; simp
  rw [← eX]
  clear eX
  refine bodyPost_ret (v := .agg #[.int .i64 (1 + K), .slice (some ⟨w.heap.size + 1, 0, none⟩) 2 2, .int .i64 3]) (by simp [results, Tryd.results7, go_sem, q0, q1, q2]) rfl ⟨w.heap.size + 1, rfl, ?_, by omega, ?_⟩
  · refine ⟨rfl, Nat.le_refl _, by unfold maxLen; omega, fun _ => ⟨w.heap.size + 1, 0, rfl, zX, fun i hi => ?_⟩⟩
    have hi2 : i = 0 ∨ i = 1 := by simp [LS2] at hi; omega
    rcases hi2 with rfl | rfl
    · exact ⟨c0, c1⟩
    · exact ⟨c2, c3⟩
  · exact hb
end Go.Proofs.YtcfhhjnbkpgpeaaDoor.Pt
