/- The contract of Message of raw numbers: a message that may be. -/
import Derived.Test.YtdjnaahkcnklhabDoorM4CommitAsks
import Derived.Test.YtdjnaahkcnklhabDoorM24CommitAsks
import Derived.Test.YtdjnaahkcnklhabDoorM34CommitAsks
import Derived.Test.YtdjnaahkcnklhabDoorA36CommitAsks
import Derived.Test.YtdjnaahkcnklhabDoorA40CommitAsks
import Derived.Deep.DeepCutAuto
import Derived.Deep.CutBlock
namespace Go.Proofs.YtdjnaahkcnklhabDoor
open Go.ChangeShapes Go.WideShapes Go.ChangeAt Go.RowKit
set_option linter.unusedVariables false

def MV.cells (m : MV) : List Value := [.int .i64 m.kind, .int .i64 m.frm, .int .i64 m.dst, .int .i64 m.site, .int .i64 m.num, .int .i64 m.label, .int .i64 m.key, .int .i64 m.value, .int .i64 m.version, .int .i64 m.ask, .bool m.yes, .int .i64 m.code]
/-- A message of the call's own, in a block that may be written. -/
def MBox (w : World) (b : Nat) (m : MV) : Prop := ∀ j, j < 12 → w.cell? ⟨b, j, none⟩ = m.cells[j]? ∧ w.frozen? ⟨b, j, none⟩ = false

theorem mbox_new (u : World) (kind frm dst site num label key value version ask code : Int) (yes : Bool) : MBox (u.alloc (.cells #[.int .i64 kind, .int .i64 frm, .int .i64 dst, .int .i64 site, .int .i64 num, .int .i64 label, .int .i64 key, .int .i64 value, .int .i64 version, .int .i64 ask, .bool yes, .int .i64 code] 46)) u.heap.size ⟨kind, frm, dst, site, num, label, key, value, version, ask, yes, code⟩ := by
  intro j hj
  rcases (by omega : j = 0 ∨ j = 1 ∨ j = 2 ∨ j = 3 ∨ j = 4 ∨ j = 5 ∨ j = 6 ∨ j = 7 ∨ j = 8 ∨ j = 9 ∨ j = 10 ∨ j = 11) with rfl | rfl | rfl | rfl | rfl | rfl | rfl | rfl | rfl | rfl | rfl | rfl <;> exact ⟨by go_simp; rfl, by go_simp⟩

theorem cell_set_ne {u : World} {b i j : Nat} {v : Value} (h : i ≠ j) : (u.setCell ⟨b, i, none⟩ v).cell? ⟨b, j, none⟩ = u.cell? ⟨b, j, none⟩ := by
  unfold World.setCell World.cell?
  simp only [Array.getElem?_modify]
  by_cases hb : b < u.heap.size
  · rw [Array.getElem?_eq_getElem hb]
    cases hc : u.heap[b] <;> simp [h]
  · rw [Array.getElem?_eq_none (by omega)]
    rfl
theorem frozen_set {u : World} {b i j : Nat} {v : Value} : (u.setCell ⟨b, i, none⟩ v).frozen? ⟨b, j, none⟩ = u.frozen? ⟨b, j, none⟩ := by
  unfold World.setCell World.frozen?
  simp only [Array.getElem?_modify]
  by_cases hb : b < u.heap.size
  · rw [Array.getElem?_eq_getElem hb]
    cases hc : u.heap[b] <;> simp
  · rw [Array.getElem?_eq_none (by omega)]
    rfl
theorem cell_set_eq {u : World} {b i : Nat} {v x : Value} (h : u.cell? ⟨b, i, none⟩ = some x) : (u.setCell ⟨b, i, none⟩ v).cell? ⟨b, i, none⟩ = some v := by
  exact World.cell?_setCell_same u ⟨b, i, none⟩ v h

theorem mbox_set (u : World) (b : Nat) (kind frm dst site num label key value version ask code : Int) (yes : Bool) (h : ∀ j, j < 12 → (∃ v, u.cell? ⟨b, j, none⟩ = some v) ∧ u.frozen? ⟨b, j, none⟩ = false) :
    MBox ((((((((((((u.setCell ⟨b, 0, none⟩ (.int .i64 kind)).setCell ⟨b, 1, none⟩ (.int .i64 frm)).setCell ⟨b, 2, none⟩ (.int .i64 dst)).setCell ⟨b, 3, none⟩ (.int .i64 site)).setCell ⟨b, 4, none⟩ (.int .i64 num)).setCell ⟨b, 5, none⟩ (.int .i64 label)).setCell ⟨b, 6, none⟩ (.int .i64 key)).setCell ⟨b, 7, none⟩ (.int .i64 value)).setCell ⟨b, 8, none⟩ (.int .i64 version)).setCell ⟨b, 9, none⟩ (.int .i64 ask)).setCell ⟨b, 10, none⟩ (.bool yes)).setCell ⟨b, 11, none⟩ (.int .i64 code)) b ⟨kind, frm, dst, site, num, label, key, value, version, ask, yes, code⟩ := by
  intro j hj
  obtain ⟨⟨x, hx⟩, hf⟩ := h j hj
  refine ⟨?_, by simp only [frozen_set]; exact hf⟩
  rcases (by omega : j = 0 ∨ j = 1 ∨ j = 2 ∨ j = 3 ∨ j = 4 ∨ j = 5 ∨ j = 6 ∨ j = 7 ∨ j = 8 ∨ j = 9 ∨ j = 10 ∨ j = 11) with rfl | rfl | rfl | rfl | rfl | rfl | rfl | rfl | rfl | rfl | rfl | rfl
  · rw [cell_set_ne (by decide), cell_set_ne (by decide), cell_set_ne (by decide), cell_set_ne (by decide), cell_set_ne (by decide), cell_set_ne (by decide), cell_set_ne (by decide), cell_set_ne (by decide), cell_set_ne (by decide), cell_set_ne (by decide), cell_set_ne (by decide)]
    refine cell_set_eq (x := x) ?_
    exact hx
  · rw [cell_set_ne (by decide), cell_set_ne (by decide), cell_set_ne (by decide), cell_set_ne (by decide), cell_set_ne (by decide), cell_set_ne (by decide), cell_set_ne (by decide), cell_set_ne (by decide), cell_set_ne (by decide), cell_set_ne (by decide)]
    refine cell_set_eq (x := x) ?_
    rw [cell_set_ne (by decide)]
    exact hx
  · rw [cell_set_ne (by decide), cell_set_ne (by decide), cell_set_ne (by decide), cell_set_ne (by decide), cell_set_ne (by decide), cell_set_ne (by decide), cell_set_ne (by decide), cell_set_ne (by decide), cell_set_ne (by decide)]
    refine cell_set_eq (x := x) ?_
    rw [cell_set_ne (by decide), cell_set_ne (by decide)]
    exact hx
  · rw [cell_set_ne (by decide), cell_set_ne (by decide), cell_set_ne (by decide), cell_set_ne (by decide), cell_set_ne (by decide), cell_set_ne (by decide), cell_set_ne (by decide), cell_set_ne (by decide)]
    refine cell_set_eq (x := x) ?_
    rw [cell_set_ne (by decide), cell_set_ne (by decide), cell_set_ne (by decide)]
    exact hx
  · rw [cell_set_ne (by decide), cell_set_ne (by decide), cell_set_ne (by decide), cell_set_ne (by decide), cell_set_ne (by decide), cell_set_ne (by decide), cell_set_ne (by decide)]
    refine cell_set_eq (x := x) ?_
    rw [cell_set_ne (by decide), cell_set_ne (by decide), cell_set_ne (by decide), cell_set_ne (by decide)]
    exact hx
  · rw [cell_set_ne (by decide), cell_set_ne (by decide), cell_set_ne (by decide), cell_set_ne (by decide), cell_set_ne (by decide), cell_set_ne (by decide)]
    refine cell_set_eq (x := x) ?_
    rw [cell_set_ne (by decide), cell_set_ne (by decide), cell_set_ne (by decide), cell_set_ne (by decide), cell_set_ne (by decide)]
    exact hx
  · rw [cell_set_ne (by decide), cell_set_ne (by decide), cell_set_ne (by decide), cell_set_ne (by decide), cell_set_ne (by decide)]
    refine cell_set_eq (x := x) ?_
    rw [cell_set_ne (by decide), cell_set_ne (by decide), cell_set_ne (by decide), cell_set_ne (by decide), cell_set_ne (by decide), cell_set_ne (by decide)]
    exact hx
  · rw [cell_set_ne (by decide), cell_set_ne (by decide), cell_set_ne (by decide), cell_set_ne (by decide)]
    refine cell_set_eq (x := x) ?_
    rw [cell_set_ne (by decide), cell_set_ne (by decide), cell_set_ne (by decide), cell_set_ne (by decide), cell_set_ne (by decide), cell_set_ne (by decide), cell_set_ne (by decide)]
    exact hx
  · rw [cell_set_ne (by decide), cell_set_ne (by decide), cell_set_ne (by decide)]
    refine cell_set_eq (x := x) ?_
    rw [cell_set_ne (by decide), cell_set_ne (by decide), cell_set_ne (by decide), cell_set_ne (by decide), cell_set_ne (by decide), cell_set_ne (by decide), cell_set_ne (by decide), cell_set_ne (by decide)]
    exact hx
  · rw [cell_set_ne (by decide), cell_set_ne (by decide)]
    refine cell_set_eq (x := x) ?_
    rw [cell_set_ne (by decide), cell_set_ne (by decide), cell_set_ne (by decide), cell_set_ne (by decide), cell_set_ne (by decide), cell_set_ne (by decide), cell_set_ne (by decide), cell_set_ne (by decide), cell_set_ne (by decide)]
    exact hx
  · rw [cell_set_ne (by decide)]
    refine cell_set_eq (x := x) ?_
    rw [cell_set_ne (by decide), cell_set_ne (by decide), cell_set_ne (by decide), cell_set_ne (by decide), cell_set_ne (by decide), cell_set_ne (by decide), cell_set_ne (by decide), cell_set_ne (by decide), cell_set_ne (by decide), cell_set_ne (by decide)]
    exact hx
  · skip
    refine cell_set_eq (x := x) ?_
    rw [cell_set_ne (by decide), cell_set_ne (by decide), cell_set_ne (by decide), cell_set_ne (by decide), cell_set_ne (by decide), cell_set_ne (by decide), cell_set_ne (by decide), cell_set_ne (by decide), cell_set_ne (by decide), cell_set_ne (by decide), cell_set_ne (by decide)]
    exact hx
theorem below_set12 {B : Nat} {a u : World} {b : Nat} (h : Below B a u) (hb : B ≤ b) (v0 v1 v2 v3 v4 v5 v6 v7 v8 v9 v10 v11 : Value) : Below B a ((((((((((((u.setCell ⟨b, 0, none⟩ v0).setCell ⟨b, 1, none⟩ v1).setCell ⟨b, 2, none⟩ v2).setCell ⟨b, 3, none⟩ v3).setCell ⟨b, 4, none⟩ v4).setCell ⟨b, 5, none⟩ v5).setCell ⟨b, 6, none⟩ v6).setCell ⟨b, 7, none⟩ v7).setCell ⟨b, 8, none⟩ v8).setCell ⟨b, 9, none⟩ v9).setCell ⟨b, 10, none⟩ v10).setCell ⟨b, 11, none⟩ v11) :=
  ((((((((((((h.setCell (p := ⟨b, 0, none⟩) hb v0).setCell (p := ⟨b, 1, none⟩) hb v1).setCell (p := ⟨b, 2, none⟩) hb v2).setCell (p := ⟨b, 3, none⟩) hb v3).setCell (p := ⟨b, 4, none⟩) hb v4).setCell (p := ⟨b, 5, none⟩) hb v5).setCell (p := ⟨b, 6, none⟩) hb v6).setCell (p := ⟨b, 7, none⟩) hb v7).setCell (p := ⟨b, 8, none⟩) hb v8).setCell (p := ⟨b, 9, none⟩) hb v9).setCell (p := ⟨b, 10, none⟩) hb v10).setCell (p := ⟨b, 11, none⟩) hb v11)

/-- It may be. -/
def MayM (s : Int) (n : Nat) (m : MV) : Prop := inR m.kind 1 9 = true ∧ msgRange s n m = true ∧ msgForm m = true

theorem may_of {S : Int} {n : Nat} {kind frm dst site num label key value version ask code : Int} {yes : Bool} (hn : n ≤ 6) (h1 : 1 ≤ kind ∧ kind ≤ 9) (h2 : 0 ≤ frm ∧ frm < S) (h3 : 0 ≤ dst ∧ dst < S) (h4 : 0 ≤ site ∧ site < S) (h5 : 1 ≤ num ∧ num ≤ 1048576) (h6 : 0 ≤ label ∧ label < (n : Int)) (h7 : 0 ≤ key ∧ key ≤ 7) (h8 : 0 ≤ value ∧ value ≤ 1073741824) (h9 : 0 ≤ version ∧ version ≤ 1048576) (h10 : 0 ≤ ask ∧ ask ≤ 1048576) (h11 : code = 0 ∨ code = 11 ∨ code = 8)
    (hf : msgForm ⟨kind, frm, dst, site, num, label, key, value, version, ask, yes, code⟩ = true) : MayM S n ⟨kind, frm, dst, site, num, label, key, value, version, ask, yes, code⟩ := by
  refine ⟨inR_true h1.1 h1.2, ?_, hf⟩
  rcases rangeB_of S n kind frm dst site num label key value version ask code yes with e | e
  · rw [e]
    have e1 : inR frm 0 (S - 1) = true := inR_true (by omega) (by omega)
    have e2 : inR dst 0 (S - 1) = true := inR_true (by omega) (by omega)
    have e3 : txnOK S site num = true := by unfold txnOK; rw [inR_true (n := site) (lo := 0) (hi := S - 1) (by omega) (by omega), inR_true (n := num) (lo := 1) (hi := 1048576) (by omega) (by omega)]; rfl
    have e4 : plc label n = true := by simp [plc]; omega
    have e5 : inR key 0 7 = true := inR_true (by omega) (by omega)
    have e6 : inR value 0 1073741824 = true := inR_true (by omega) (by omega)
    have e7 : inR version 0 1048576 = true := inR_true (by omega) (by omega)
    have e8 : inR ask 0 1048576 = true := inR_true (by omega) (by omega)
    have e9 : isCd code = true := by unfold isCd; simp; omega
    rw [e1, e2, e3, e4, e5, e6, e7, e8, e9]
    rfl
  · omega

set_option maxRecDepth 100000 in
set_option maxHeartbeats 8000000 in
theorem message_any (S P : Int) (ad : Option Addr) (n cp : Nat) (kd ra rb rc rd re : Int) (w : World) (hS : 1 ≤ S ∧ S ≤ 4) (hn : 1 ≤ n ∧ n ≤ 6)
    (hkd : -9223372036854775808 ≤ kd ∧ kd ≤ 9223372036854775807) (hra : -9223372036854775808 ≤ ra ∧ ra ≤ 9223372036854775807) (hrb : -9223372036854775808 ≤ rb ∧ rb ≤ 9223372036854775807) (hrc : -9223372036854775808 ≤ rc ∧ rc ≤ 9223372036854775807) (hrd : -9223372036854775808 ≤ rd ∧ rd ≤ 9223372036854775807) (hre : -9223372036854775808 ≤ re ∧ re ≤ 9223372036854775807) :
    Calls Tryd.prog 34 #[.agg #[.int .i64 S, .slice ad n cp, .int .i64 P], .agg #[.int .i64 kd, .int .i64 ra, .int .i64 rb, .int .i64 rc, .int .i64 rd, .int .i64 re]] w fun e w' => ∃ m : MV, e = .returned m.val ∧ MayM S n m ∧ Below w.heap.size w w' := by
  have hra7 := tdiv_bd hra (m := 7) (by decide)
  have hrd5 := tdiv_bd hrd (m := 5) (by decide)
  have hre3 := tdiv_bd hre (m := 3) (by decide)
  have hre4 := tdiv_bd hre (m := 4) (by decide)
  obtain ⟨s1, s4⟩ := hS
  obtain ⟨n1, n6⟩ := hn
  have n1' : (1 : Int) ≤ (n : Int) := by omega
  have n6' : (n : Int) ≤ 6 := by omega
  have zK := pk_bd kd 9 (by decide)
  have zF := pk_bd ra S (by omega)
  have zT := pk_bd (ra.tdiv 7) S (by omega)
  have zX := pk_bd rb S (by omega)
  have zY := pk_bd rc 6 (by decide)
  have zq := pk_bd re 4 (by decide)
  have zl := pk_bd rd n (by omega)
  have zk := pk_bd (rd.tdiv 5) 8 (by decide)
  have cK := fun w' => picked_any kd 9 w' hkd (by decide) (by decide)
  have cF := fun w' => picked_any ra S w' hra (by omega) (by omega)
  have cT := fun w' => picked_any (ra.tdiv 7) S w' hra7 (by omega) (by omega)
  have cX := fun w' => txnR_any S P ad n cp rb rc w' ⟨s1, s4⟩ hrb hrc
  have cq := fun w' => picked_any re 4 w' hre (by decide) (by decide)
  have cl := fun w' => picked_any rd n w' hrd (by omega) (by omega)
  have ck := fun w' => picked_any (rd.tdiv 5) 8 w' hrd5 (by decide) (by decide)
  obtain ⟨K, eK⟩ : ∃ x, x = pk kd 9 := ⟨_, rfl⟩
  obtain ⟨F, eF⟩ : ∃ x, x = pk ra S := ⟨_, rfl⟩
  obtain ⟨T, eT⟩ : ∃ x, x = pk (ra.tdiv 7) S := ⟨_, rfl⟩
  obtain ⟨X, eX⟩ : ∃ x, x = pk rb S := ⟨_, rfl⟩
  obtain ⟨Y, eY⟩ : ∃ x, x = pk rc 6 := ⟨_, rfl⟩
  obtain ⟨lb, el⟩ : ∃ x, x = pk rd n := ⟨_, rfl⟩
  obtain ⟨ky, ek⟩ : ∃ x, x = pk (rd.tdiv 5) 8 := ⟨_, rfl⟩
  obtain ⟨q, eq⟩ : ∃ q : Nat, (q : Int) = pk re 4 := ⟨(pk re 4).toNat, by omega⟩
  rw [← eK] at cK zK
  rw [← eF] at cF zF
  rw [← eT] at cT zT
  rw [← eX] at cX zX
  rw [← eY] at cX zY
  rw [← el] at cl zl
  rw [← ek] at ck zk
  rw [← eq] at cq zq
  clear eK eF eT eX eY el ek
  have EQ : Hid ((q : Int) = pk re 4) := eq
  clear eq
  have q4 : q < 4 := by omega
  have q4' : (q : Int) < 4 := by omega
  have hq : ∃ code : Int, (code = 0 ∨ code = 11 ∨ code = 8) ∧ ∀ u : World, (u.alloc (.cells #[.int .i64 0, .int .i64 0, .int .i64 11, .int .i64 8] 35)).cell? ⟨u.heap.size, q, none⟩ = some (.int .i64 code) := by
    rcases (by omega : q = 0 ∨ q = 1 ∨ q = 2 ∨ q = 3) with rfl | rfl | rfl | rfl
    · exact ⟨0, by omega, fun u => by go_simp⟩
    · exact ⟨0, by omega, fun u => by go_simp⟩
    · exact ⟨11, by omega, fun u => by go_simp⟩
    · exact ⟨8, by omega, fun u => by go_simp⟩
  obtain ⟨code, hcode, hq⟩ := hq
  obtain ⟨W, hW⟩ : ∃ W : World, W = ((w.alloc (.cells #[.int .i64 S, .slice ad n cp, .int .i64 P] 25)).alloc (.cells #[.int .i64 kd, .int .i64 ra, .int .i64 rb, .int .i64 rc, .int .i64 rd, .int .i64 re] 48)).alloc (.cells #[.int .i64 0, .int .i64 0, .int .i64 0, .int .i64 0, .int .i64 0, .int .i64 0, .int .i64 0, .int .i64 0, .int .i64 0, .int .i64 0, .bool false, .int .i64 0] 46) := ⟨_, rfl⟩
  have hB : Below w.heap.size w W := by rw [hW]; exact (((Below.refl _ _).alloc (Nat.le_refl _) _).alloc (by simp) _).alloc (by simp; omega) _
  have zW : W.heap.size = w.heap.size + 3 := by rw [hW]; simp
  have c0 : W.cell? ⟨w.heap.size, 0, none⟩ = some (.int .i64 S) := by rw [hW]; go_simp
  have c1 : W.cell? ⟨w.heap.size, 1, none⟩ = some (.slice ad n cp) := by rw [hW]; go_simp
  have c2 : W.cell? ⟨w.heap.size, 2, none⟩ = some (.int .i64 P) := by rw [hW]; go_simp
  have d0 : W.cell? ⟨w.heap.size + 1, 0, none⟩ = some (.int .i64 kd) := by rw [hW]; go_simp
  have d1 : W.cell? ⟨w.heap.size + 1, 1, none⟩ = some (.int .i64 ra) := by rw [hW]; go_simp
  have d2 : W.cell? ⟨w.heap.size + 1, 2, none⟩ = some (.int .i64 rb) := by rw [hW]; go_simp
  have d3 : W.cell? ⟨w.heap.size + 1, 3, none⟩ = some (.int .i64 rc) := by rw [hW]; go_simp
  have d4 : W.cell? ⟨w.heap.size + 1, 4, none⟩ = some (.int .i64 rd) := by rw [hW]; go_simp
  have d5 : W.cell? ⟨w.heap.size + 1, 5, none⟩ = some (.int .i64 re) := by rw [hW]; go_simp
  have KA : Hid (∀ (U : World), Below W.heap.size W U → U.cell? ⟨w.heap.size, 0, none⟩ = some (.int .i64 S) ∧ U.cell? ⟨w.heap.size, 1, none⟩ = some (.slice ad n cp) ∧ U.cell? ⟨w.heap.size, 2, none⟩ = some (.int .i64 P) ∧ U.cell? ⟨w.heap.size + 1, 0, none⟩ = some (.int .i64 kd) ∧ U.cell? ⟨w.heap.size + 1, 1, none⟩ = some (.int .i64 ra) ∧ U.cell? ⟨w.heap.size + 1, 2, none⟩ = some (.int .i64 rb) ∧ U.cell? ⟨w.heap.size + 1, 3, none⟩ = some (.int .i64 rc) ∧ U.cell? ⟨w.heap.size + 1, 4, none⟩ = some (.int .i64 rd) ∧ U.cell? ⟨w.heap.size + 1, 5, none⟩ = some (.int .i64 re)) := by
    intro V hV
    have e0 : ∀ o, V.cell? ⟨w.heap.size, o, none⟩ = W.cell? ⟨w.heap.size, o, none⟩ := fun o => hV.cell (p := ⟨w.heap.size, o, none⟩) (by show w.heap.size < _; omega)
    have e1 : ∀ o, V.cell? ⟨w.heap.size + 1, o, none⟩ = W.cell? ⟨w.heap.size + 1, o, none⟩ := fun o => hV.cell (p := ⟨w.heap.size + 1, o, none⟩) (by show w.heap.size + 1 < _; omega)
    simp only [e0, e1]
    exact ⟨c0, c1, c2, d0, d1, d2, d3, d4, d5⟩
  have RB : Hid (∀ (U : World), Below W.heap.size W U → MBox U (w.heap.size + 1 + 1) ⟨0, 0, 0, 0, 0, 0, 0, 0, 0, 0, false, 0⟩) := by
    have h0 : MBox W (w.heap.size + 1 + 1) ⟨0, 0, 0, 0, 0, 0, 0, 0, 0, 0, false, 0⟩ := by
      rw [hW]
      have := mbox_new ((w.alloc (.cells #[.int .i64 S, .slice ad n cp, .int .i64 P] 25)).alloc (.cells #[.int .i64 kd, .int .i64 ra, .int .i64 rb, .int .i64 rc, .int .i64 rd, .int .i64 re] 48)) 0 0 0 0 0 0 0 0 0 0 0 false
      simpa using this
    intro U hU j hj
    obtain ⟨h1, h2⟩ := h0 j hj
    exact ⟨(hU.cell (p := ⟨w.heap.size + 1 + 1, j, none⟩) (by show w.heap.size + 1 + 1 < _; omega)).trans h1, (hU.frozen (p := ⟨w.heap.size + 1 + 1, j, none⟩) (by show w.heap.size + 1 + 1 < _; omega)).trans h2⟩
  go_enter Tryd.func34, Tryd.ntmps34
  go_upto_region 1 with (fail)
  rw [← hW]
  clear hW
  have wr7 : IntKind.i64.wrap (ra.tdiv 7) = ra.tdiv 7 := wrap_i64 hra7.1 hra7.2
  have wrK : IntKind.i64.wrap (1 + K) = 1 + K := wrap_i64 (by omega) (by omega)
  go_cut [5] (fun s5 wc => ∃ b : Nat, s5 = .pointer (some ⟨b, 0, none⟩) ∧ W.heap.size ≤ b ∧ b < wc.heap.size ∧ MBox wc b ⟨1 + K, F, T, X, 1 + Y, 0, 0, 0, 0, 0, false, 0⟩ ∧ Below W.heap.size W wc)
  case first =>
    go_region_held3 (fun U => U.cell? ⟨w.heap.size, 0, none⟩ = some (.int .i64 S) ∧ U.cell? ⟨w.heap.size, 1, none⟩ = some (.slice ad n cp) ∧ U.cell? ⟨w.heap.size, 2, none⟩ = some (.int .i64 P) ∧ U.cell? ⟨w.heap.size + 1, 0, none⟩ = some (.int .i64 kd) ∧ U.cell? ⟨w.heap.size + 1, 1, none⟩ = some (.int .i64 ra) ∧ U.cell? ⟨w.heap.size + 1, 2, none⟩ = some (.int .i64 rb) ∧ U.cell? ⟨w.heap.size + 1, 3, none⟩ = some (.int .i64 rc) ∧ U.cell? ⟨w.heap.size + 1, 4, none⟩ = some (.int .i64 rd) ∧ U.cell? ⟨w.heap.size + 1, 5, none⟩ = some (.int .i64 re))
      (first | (go_keep; done) | exact KA.out _ hbt | exact KA.out _ (hbt.alloc hbt.size _) | exact KA.out _ (hbt.drew) | exact KA.out _ (hbt.setCell (by simp) _))
      (first
        | ((go_at_call 64; refine (cX _).mono ?_; rintro e w2 ⟨rfl, hb2⟩; have hbt : Below W.heap.size W w2 := Below.trans (by repeat (first | exact Below.refl _ _ | apply Below.drew | refine Below.alloc ?_ (by simp) _)) (hb2.mono (by simp)); obtain ⟨hc2, hf2⟩ := bcell hb2))
        | ((go_at_call_of 9 (Value.int .i64 kd); refine (cK _).mono ?_; rintro e u1 ⟨rfl, rfl⟩))
        | ((go_at_call_of 9 (Value.int .i64 ra); refine (cF _).mono ?_; rintro e u1 ⟨rfl, rfl⟩))
        | ((go_at_call 9; refine (cT _).mono ?_; rintro e u1 ⟨rfl, rfl⟩)))
    all_goals
      go_wp2_with fail
      go_meet
      case rel =>
        have zt := hbt.size
        have z2 := hb2.size
        clear cK cF cT cX cq cl ck hq KA d0 d1 d2 d3 d4 d5 c0 c1 c2 hcode
        refine ⟨_, rfl, by omega, by first | (simp; done) | (simp at z2 ⊢; omega), ?_, ?_⟩
        · first
          | with_reducible exact mbox_new _ _ _ _ _ _ _ _ _ _ _ _ _
          | (with_reducible refine mbox_set _ _ _ _ _ _ _ _ _ _ _ _ _ _ ?_
             intro j hj
             have hz' : MBox (W.alloc (.cells #[.int .i64 0, .int .i64 0, .int .i64 0, .int .i64 0, .int .i64 0, .int .i64 0, .int .i64 0, .int .i64 0, .int .i64 0, .int .i64 0, .bool false, .int .i64 0] 46)) (w.heap.size + 3) ⟨0, 0, 0, 0, 0, 0, 0, 0, 0, 0, false, 0⟩ := by
               rw [← zW]
               exact mbox_new W 0 0 0 0 0 0 0 0 0 0 0 false
             obtain ⟨x, hx⟩ : ∃ x, (MV.mk 0 0 0 0 0 0 0 0 0 0 false 0).cells[j]? = some x := ⟨(MV.mk 0 0 0 0 0 0 0 0 0 0 false 0).cells[j]'hj, List.getElem?_eq_getElem _⟩
             have hlt : w.heap.size + 3 < W.heap.size + 1 := by omega
             exact ⟨⟨x, (hb2.cell (p := ⟨w.heap.size + 3, j, none⟩) (by simpa using hlt)).trans ((hz' j hj).1.trans hx)⟩, (hb2.frozen (p := ⟨w.heap.size + 3, j, none⟩) (by simpa using hlt)).trans (hz' j hj).2⟩)
        · have zb : W.heap.size ≤ w.heap.size + 3 := by omega
          first
          | with_reducible exact hbt.alloc hbt.size _
          | with_reducible exact (hbt.alloc hbt.size _).drew
          | with_reducible exact below_set12 hbt zb _ _ _ _ _ _ _ _ _ _ _ _
  case rest =>
    obtain ⟨b, rfl, hbW, hbl, hBox, hbv⟩ := hcut
    clear c0 c1 c2 d0 d1 d2 d3 d4 d5
    obtain ⟨c0, c1, c2, d0, d1, d2, d3, d4, d5⟩ := KA.out _ hbv
    obtain ⟨m0, f0⟩ := hBox 0 (by decide)
    obtain ⟨m1, f1⟩ := hBox 1 (by decide)
    obtain ⟨m2, f2⟩ := hBox 2 (by decide)
    obtain ⟨m3, f3⟩ := hBox 3 (by decide)
    obtain ⟨m4, f4⟩ := hBox 4 (by decide)
    obtain ⟨m5, f5⟩ := hBox 5 (by decide)
    obtain ⟨m6, f6⟩ := hBox 6 (by decide)
    obtain ⟨m7, f7⟩ := hBox 7 (by decide)
    obtain ⟨m8, f8⟩ := hBox 8 (by decide)
    obtain ⟨m9, f9⟩ := hBox 9 (by decide)
    obtain ⟨m10, f10⟩ := hBox 10 (by decide)
    obtain ⟨m11, f11⟩ := hBox 11 (by decide)
    simp only [MV.cells, List.getElem?_cons_zero, List.getElem?_cons_succ] at m0 m1 m2 m3 m4 m5 m6 m7 m8 m9 m10 m11
    have hRB := RB.out _ hbv
    obtain ⟨r0, g0⟩ := hRB 0 (by decide)
    obtain ⟨r1, g1⟩ := hRB 1 (by decide)
    obtain ⟨r2, g2⟩ := hRB 2 (by decide)
    obtain ⟨r3, g3⟩ := hRB 3 (by decide)
    obtain ⟨r4, g4⟩ := hRB 4 (by decide)
    obtain ⟨r5, g5⟩ := hRB 5 (by decide)
    obtain ⟨r6, g6⟩ := hRB 6 (by decide)
    obtain ⟨r7, g7⟩ := hRB 7 (by decide)
    obtain ⟨r8, g8⟩ := hRB 8 (by decide)
    obtain ⟨r9, g9⟩ := hRB 9 (by decide)
    obtain ⟨r10, g10⟩ := hRB 10 (by decide)
    obtain ⟨r11, g11⟩ := hRB 11 (by decide)
    simp only [MV.cells, List.getElem?_cons_zero, List.getElem?_cons_succ] at r0 r1 r2 r3 r4 r5 r6 r7 r8 r9 r10 r11
    have b5 : b ≠ w.heap.size + 1 + 1 := by omega
    have n3'' : w.heap.size + 1 + 1 < wc.heap.size := by omega
    clear hRB
    have hqc := hq wc
    have hBwc : Below w.heap.size w wc := hB.trans (hbv.mono hB.size)
    have zc := hbv.size
    have n0 : w.heap.size < wc.heap.size := by omega
    have n1'' : w.heap.size + 1 < wc.heap.size := by omega
    have n2'' : w.heap.size + 2 < wc.heap.size := by omega
    have b1 : b ≠ w.heap.size := by omega
    have b2 : b ≠ w.heap.size + 1 := by omega
    have b3 : b ≠ w.heap.size + 2 := by omega
    have b4 : b ≠ wc.heap.size := by omega
    have bl1 : ¬ b < w.heap.size := by omega
    clear cK cF cT cX KA hBox hq RB
    have z9 := pk_bd re 9 (by decide)
    have zV := pk_bd re 1073741824 (by decide)
    have z39 := pk_bd (re.tdiv 3) 9 (by decide)
    have z49 := pk_bd (re.tdiv 4) 9 (by decide)
    have z99 := pk_bd re 99 (by decide)
    have z5 := pk_bd re 5 (by decide)
    rcases (by omega : K = 0 ∨ K = 1 ∨ K = 2 ∨ K = 3 ∨ K = 4 ∨ K = 5 ∨ K = 6 ∨ K = 7 ∨ K = 8) with rfl | rfl | rfl | rfl | rfl | rfl | rfl | rfl | rfl
    · go_wp2_with (first
              | (go_at_call_of 9 (Value.int .i64 4); refine (cq _).mono ?_; rintro e v ⟨rfl, hv⟩; rw [hv]; clear hv v)
              | (go_at_call_of 9 (Value.int .i64 (n : Int)); refine (cl _).mono ?_; rintro e v ⟨rfl, hv⟩; rw [hv]; clear hv v)
              | (go_at_call_of 9 (Value.int .i64 8); refine (ck _).mono ?_; rintro e v ⟨rfl, hv⟩; rw [hv]; clear hv v)
              | (go_at_call 9; refine (picked_any _ _ _ (by assumption) (by omega) (by omega)).mono ?_; rintro e v ⟨rfl, hv⟩; rw [hv]; clear hv v))
      refine bodyPost_ret (v := MV.val ⟨1, F, T, X, 1 + Y, lb, ky, 0, 0, pk re 9, false, 0⟩) (by simp [results, Tryd.results34, go_sem, MV.val, *]) rfl ⟨_, rfl, may_of n6 (by omega) zF zT zX (by omega) (by omega) (by omega) (by omega) (by omega) (by omega) (by omega) (by rw [formB_1]; simp), ?_⟩
      repeat (first | with_reducible exact hBwc | with_reducible refine below_set _ _ _ ?_ (by omega) | with_reducible refine Below.alloc ?_ (by first | omega | (simp; omega)) _)
    · go_wp2_with (first
              | (go_at_call_of 9 (Value.int .i64 4); refine (cq _).mono ?_; rintro e v ⟨rfl, hv⟩; rw [hv]; clear hv v)
              | (go_at_call_of 9 (Value.int .i64 (n : Int)); refine (cl _).mono ?_; rintro e v ⟨rfl, hv⟩; rw [hv]; clear hv v)
              | (go_at_call_of 9 (Value.int .i64 8); refine (ck _).mono ?_; rintro e v ⟨rfl, hv⟩; rw [hv]; clear hv v)
              | (go_at_call 9; refine (picked_any _ _ _ (by assumption) (by omega) (by omega)).mono ?_; rintro e v ⟨rfl, hv⟩; rw [hv]; clear hv v))
      refine bodyPost_ret (v := MV.val ⟨2, F, T, X, 1 + Y, 0, ky, pk re 1073741824, 0, pk (re.tdiv 3) 9, false, 0⟩) (by simp [results, Tryd.results34, go_sem, MV.val, *]) rfl ⟨_, rfl, may_of n6 (by omega) zF zT zX (by omega) (by omega) (by omega) (by omega) (by omega) (by omega) (by omega) (by rw [formB_2]; simp), ?_⟩
      repeat (first | with_reducible exact hBwc | with_reducible refine below_set _ _ _ ?_ (by omega) | with_reducible refine Below.alloc ?_ (by first | omega | (simp; omega)) _)
    · go_wp2_with (first
              | (go_at_call_of 9 (Value.int .i64 4); refine (cq _).mono ?_; rintro e v ⟨rfl, hv⟩; rw [hv]; clear hv v)
              | (go_at_call_of 9 (Value.int .i64 (n : Int)); refine (cl _).mono ?_; rintro e v ⟨rfl, hv⟩; rw [hv]; clear hv v)
              | (go_at_call_of 9 (Value.int .i64 8); refine (ck _).mono ?_; rintro e v ⟨rfl, hv⟩; rw [hv]; clear hv v)
              | (go_at_call 9; refine (picked_any _ _ _ (by assumption) (by omega) (by omega)).mono ?_; rintro e v ⟨rfl, hv⟩; rw [hv]; clear hv v))
      refine bodyPost_ret (v := MV.val ⟨3, F, T, X, 1 + Y, lb, ky, 0, (q : Int), 0, false, 0⟩) (by simp [results, Tryd.results34, go_sem, MV.val, *]) rfl ⟨_, rfl, may_of n6 (by omega) zF zT zX (by omega) (by omega) (by omega) (by omega) (by omega) (by omega) (by omega) (by rw [formB_3]; simp), ?_⟩
      repeat (first | with_reducible exact hBwc | with_reducible refine below_set _ _ _ ?_ (by omega) | with_reducible refine Below.alloc ?_ (by first | omega | (simp; omega)) _)
    · by_cases e : pk re 2 = 1
      · go_wp2_with (first
                | (go_at_call_of 9 (Value.int .i64 4); refine (cq _).mono ?_; rintro e v ⟨rfl, hv⟩; rw [hv]; clear hv v)
                | (go_at_call_of 9 (Value.int .i64 (n : Int)); refine (cl _).mono ?_; rintro e v ⟨rfl, hv⟩; rw [hv]; clear hv v)
                | (go_at_call_of 9 (Value.int .i64 8); refine (ck _).mono ?_; rintro e v ⟨rfl, hv⟩; rw [hv]; clear hv v)
                | (go_at_call 9; refine (picked_any _ _ _ (by assumption) (by omega) (by omega)).mono ?_; rintro e v ⟨rfl, hv⟩; rw [hv]; clear hv v))
        refine bodyPost_ret (v := MV.val ⟨4, F, T, X, 1 + Y, 0, 0, 0, 0, 0, true, 0⟩) (by simp [results, Tryd.results34, go_sem, MV.val, *]) rfl ⟨_, rfl, may_of n6 (by omega) zF zT zX (by omega) (by omega) (by omega) (by omega) (by omega) (by omega) (by omega) (by rw [formB_4]; simp), ?_⟩
        repeat (first | with_reducible exact hBwc | with_reducible refine below_set _ _ _ ?_ (by omega) | with_reducible refine Below.alloc ?_ (by first | omega | (simp; omega)) _)
      · have e2 : (pk re 2 == 1) = false := by simpa using e
        go_wp2_with (first
                | (go_at_call_of 9 (Value.int .i64 4); refine (cq _).mono ?_; rintro e v ⟨rfl, hv⟩; rw [hv]; clear hv v)
                | (go_at_call_of 9 (Value.int .i64 (n : Int)); refine (cl _).mono ?_; rintro e v ⟨rfl, hv⟩; rw [hv]; clear hv v)
                | (go_at_call_of 9 (Value.int .i64 8); refine (ck _).mono ?_; rintro e v ⟨rfl, hv⟩; rw [hv]; clear hv v)
                | (go_at_call 9; refine (picked_any _ _ _ (by assumption) (by omega) (by omega)).mono ?_; rintro e v ⟨rfl, hv⟩; rw [hv]; clear hv v))
        refine bodyPost_ret (v := MV.val ⟨4, F, T, X, 1 + Y, 0, 0, 0, 0, 0, false, 0⟩) (by simp [results, Tryd.results34, go_sem, MV.val, *]) rfl ⟨_, rfl, may_of n6 (by omega) zF zT zX (by omega) (by omega) (by omega) (by omega) (by omega) (by omega) (by omega) (by rw [formB_4]; simp), ?_⟩
        repeat (first | with_reducible exact hBwc | with_reducible refine below_set _ _ _ ?_ (by omega) | with_reducible refine Below.alloc ?_ (by first | omega | (simp; omega)) _)
    · rcases hcode with rfl | rfl | rfl
      · go_wp2_with (first
                | (go_at_call_of 9 (Value.int .i64 4); refine (cq _).mono ?_; rintro e v ⟨rfl, hv⟩; rw [hv]; clear hv v)
                | (go_at_call_of 9 (Value.int .i64 (n : Int)); refine (cl _).mono ?_; rintro e v ⟨rfl, hv⟩; rw [hv]; clear hv v)
                | (go_at_call_of 9 (Value.int .i64 8); refine (ck _).mono ?_; rintro e v ⟨rfl, hv⟩; rw [hv]; clear hv v)
                | (go_at_call 9; refine (picked_any _ _ _ (by assumption) (by omega) (by omega)).mono ?_; rintro e v ⟨rfl, hv⟩; rw [hv]; clear hv v))
        refine bodyPost_ret (v := MV.val ⟨5, F, T, X, 1 + Y, lb, ky, pk re 99, pk re 5, pk (re.tdiv 4) 9, false, 0⟩) (by simp [results, Tryd.results34, go_sem, MV.val, *]) rfl ⟨_, rfl, may_of n6 (by omega) zF zT zX (by omega) (by omega) (by omega) (by omega) (by omega) (by omega) (by omega) (by rw [formB_5]; simp), ?_⟩
        repeat (first | with_reducible exact hBwc | with_reducible refine below_set _ _ _ ?_ (by omega) | with_reducible refine Below.alloc ?_ (by first | omega | (simp; omega)) _)
      · go_wp2_with (first
                | (go_at_call_of 9 (Value.int .i64 4); refine (cq _).mono ?_; rintro e v ⟨rfl, hv⟩; rw [hv]; clear hv v)
                | (go_at_call_of 9 (Value.int .i64 (n : Int)); refine (cl _).mono ?_; rintro e v ⟨rfl, hv⟩; rw [hv]; clear hv v)
                | (go_at_call_of 9 (Value.int .i64 8); refine (ck _).mono ?_; rintro e v ⟨rfl, hv⟩; rw [hv]; clear hv v)
                | (go_at_call 9; refine (picked_any _ _ _ (by assumption) (by omega) (by omega)).mono ?_; rintro e v ⟨rfl, hv⟩; rw [hv]; clear hv v))
        refine bodyPost_ret (v := MV.val ⟨5, F, T, X, 1 + Y, lb, ky, 0, 0, pk (re.tdiv 4) 9, false, 11⟩) (by simp [results, Tryd.results34, go_sem, MV.val, *]) rfl ⟨_, rfl, may_of n6 (by omega) zF zT zX (by omega) (by omega) (by omega) (by omega) (by omega) (by omega) (by omega) (by rw [formB_5]; simp), ?_⟩
        repeat (first | with_reducible exact hBwc | with_reducible refine below_set _ _ _ ?_ (by omega) | with_reducible refine Below.alloc ?_ (by first | omega | (simp; omega)) _)
      · go_wp2_with (first
                | (go_at_call_of 9 (Value.int .i64 4); refine (cq _).mono ?_; rintro e v ⟨rfl, hv⟩; rw [hv]; clear hv v)
                | (go_at_call_of 9 (Value.int .i64 (n : Int)); refine (cl _).mono ?_; rintro e v ⟨rfl, hv⟩; rw [hv]; clear hv v)
                | (go_at_call_of 9 (Value.int .i64 8); refine (ck _).mono ?_; rintro e v ⟨rfl, hv⟩; rw [hv]; clear hv v)
                | (go_at_call 9; refine (picked_any _ _ _ (by assumption) (by omega) (by omega)).mono ?_; rintro e v ⟨rfl, hv⟩; rw [hv]; clear hv v))
        refine bodyPost_ret (v := MV.val ⟨5, F, T, X, 1 + Y, lb, ky, 0, 0, pk (re.tdiv 4) 9, false, 8⟩) (by simp [results, Tryd.results34, go_sem, MV.val, *]) rfl ⟨_, rfl, may_of n6 (by omega) zF zT zX (by omega) (by omega) (by omega) (by omega) (by omega) (by omega) (by omega) (by rw [formB_5]; simp), ?_⟩
        repeat (first | with_reducible exact hBwc | with_reducible refine below_set _ _ _ ?_ (by omega) | with_reducible refine Below.alloc ?_ (by first | omega | (simp; omega)) _)
    · go_wp2_with (first
              | (go_at_call_of 9 (Value.int .i64 4); refine (cq _).mono ?_; rintro e v ⟨rfl, hv⟩; rw [hv]; clear hv v)
              | (go_at_call_of 9 (Value.int .i64 (n : Int)); refine (cl _).mono ?_; rintro e v ⟨rfl, hv⟩; rw [hv]; clear hv v)
              | (go_at_call_of 9 (Value.int .i64 8); refine (ck _).mono ?_; rintro e v ⟨rfl, hv⟩; rw [hv]; clear hv v)
              | (go_at_call 9; refine (picked_any _ _ _ (by assumption) (by omega) (by omega)).mono ?_; rintro e v ⟨rfl, hv⟩; rw [hv]; clear hv v))
      refine bodyPost_ret (v := MV.val ⟨6, F, T, X, 1 + Y, 0, ky, 0, 0, pk (re.tdiv 4) 9, false, code⟩) (by simp [results, Tryd.results34, go_sem, MV.val, *]) rfl ⟨_, rfl, may_of n6 (by omega) zF zT zX (by omega) (by omega) (by omega) (by omega) (by omega) (by omega) (by omega) (by rw [formB_6]; simp), ?_⟩
      repeat (first | with_reducible exact hBwc | with_reducible refine below_set _ _ _ ?_ (by omega) | with_reducible refine Below.alloc ?_ (by first | omega | (simp; omega)) _)
    · by_cases e : pk re 2 = 1
      · go_wp2_with (first
                | (go_at_call_of 9 (Value.int .i64 4); refine (cq _).mono ?_; rintro e v ⟨rfl, hv⟩; rw [hv]; clear hv v)
                | (go_at_call_of 9 (Value.int .i64 (n : Int)); refine (cl _).mono ?_; rintro e v ⟨rfl, hv⟩; rw [hv]; clear hv v)
                | (go_at_call_of 9 (Value.int .i64 8); refine (ck _).mono ?_; rintro e v ⟨rfl, hv⟩; rw [hv]; clear hv v)
                | (go_at_call 9; refine (picked_any _ _ _ (by assumption) (by omega) (by omega)).mono ?_; rintro e v ⟨rfl, hv⟩; rw [hv]; clear hv v))
        refine bodyPost_ret (v := MV.val ⟨7, F, T, X, 1 + Y, lb, ky, 0, (q : Int), 0, true, 0⟩) (by simp [results, Tryd.results34, go_sem, MV.val, *]) rfl ⟨_, rfl, may_of n6 (by omega) zF zT zX (by omega) (by omega) (by omega) (by omega) (by omega) (by omega) (by omega) (by rw [formB_7]; simp), ?_⟩
        repeat (first | with_reducible exact hBwc | with_reducible refine below_set _ _ _ ?_ (by omega) | with_reducible refine Below.alloc ?_ (by first | omega | (simp; omega)) _)
      · have e2 : (pk re 2 == 1) = false := by simpa using e
        go_wp2_with (first
                | (go_at_call_of 9 (Value.int .i64 4); refine (cq _).mono ?_; rintro e v ⟨rfl, hv⟩; rw [hv]; clear hv v)
                | (go_at_call_of 9 (Value.int .i64 (n : Int)); refine (cl _).mono ?_; rintro e v ⟨rfl, hv⟩; rw [hv]; clear hv v)
                | (go_at_call_of 9 (Value.int .i64 8); refine (ck _).mono ?_; rintro e v ⟨rfl, hv⟩; rw [hv]; clear hv v)
                | (go_at_call 9; refine (picked_any _ _ _ (by assumption) (by omega) (by omega)).mono ?_; rintro e v ⟨rfl, hv⟩; rw [hv]; clear hv v))
        refine bodyPost_ret (v := MV.val ⟨7, F, T, X, 1 + Y, lb, ky, 0, (q : Int), 0, false, 0⟩) (by simp [results, Tryd.results34, go_sem, MV.val, *]) rfl ⟨_, rfl, may_of n6 (by omega) zF zT zX (by omega) (by omega) (by omega) (by omega) (by omega) (by omega) (by omega) (by rw [formB_7]; simp), ?_⟩
        repeat (first | with_reducible exact hBwc | with_reducible refine below_set _ _ _ ?_ (by omega) | with_reducible refine Below.alloc ?_ (by first | omega | (simp; omega)) _)
    · go_wp2_with (first
              | (go_at_call_of 9 (Value.int .i64 4); refine (cq _).mono ?_; rintro e v ⟨rfl, hv⟩; rw [hv]; clear hv v)
              | (go_at_call_of 9 (Value.int .i64 (n : Int)); refine (cl _).mono ?_; rintro e v ⟨rfl, hv⟩; rw [hv]; clear hv v)
              | (go_at_call_of 9 (Value.int .i64 8); refine (ck _).mono ?_; rintro e v ⟨rfl, hv⟩; rw [hv]; clear hv v)
              | (go_at_call 9; refine (picked_any _ _ _ (by assumption) (by omega) (by omega)).mono ?_; rintro e v ⟨rfl, hv⟩; rw [hv]; clear hv v))
      refine bodyPost_ret (v := MV.val ⟨8, F, T, X, 1 + Y, 0, 0, 0, 0, 0, false, 0⟩) (by simp [results, Tryd.results34, go_sem, MV.val, *]) rfl ⟨_, rfl, may_of n6 (by omega) zF zT zX (by omega) (by omega) (by omega) (by omega) (by omega) (by omega) (by omega) (by rw [formB_8]; simp), ?_⟩
      repeat (first | with_reducible exact hBwc | with_reducible refine below_set _ _ _ ?_ (by omega) | with_reducible refine Below.alloc ?_ (by first | omega | (simp; omega)) _)
    · go_wp2_with (first
              | (go_at_call_of 9 (Value.int .i64 4); refine (cq _).mono ?_; rintro e v ⟨rfl, hv⟩; rw [hv]; clear hv v)
              | (go_at_call_of 9 (Value.int .i64 (n : Int)); refine (cl _).mono ?_; rintro e v ⟨rfl, hv⟩; rw [hv]; clear hv v)
              | (go_at_call_of 9 (Value.int .i64 8); refine (ck _).mono ?_; rintro e v ⟨rfl, hv⟩; rw [hv]; clear hv v)
              | (go_at_call 9; refine (picked_any _ _ _ (by assumption) (by omega) (by omega)).mono ?_; rintro e v ⟨rfl, hv⟩; rw [hv]; clear hv v))
      refine bodyPost_ret (v := MV.val ⟨9, F, T, X, 1 + Y, 0, 0, 0, 0, 0, false, 0⟩) (by simp [results, Tryd.results34, go_sem, MV.val, *]) rfl ⟨_, rfl, may_of n6 (by omega) zF zT zX (by omega) (by omega) (by omega) (by omega) (by omega) (by omega) (by omega) (by rw [formB_9]; simp), ?_⟩
      repeat (first | with_reducible exact hBwc | with_reducible refine below_set _ _ _ ?_ (by omega) | with_reducible refine Below.alloc ?_ (by first | omega | (simp; omega)) _)
end Go.Proofs.YtdjnaahkcnklhabDoor
