/- How a config comes in as an argument: two numbers, and labels that lie in memory one behind the other. -/
import Derived.Test.YtekglahigjblkaaGreatDoorProg
import Derived.WalkKit
import Derived.ProofKit
import Derived.OpenShut
import Derived.Below
import Derived.Lib.SmallJoins
import Derived.Deep.Slices
import Derived.Test.YtekglahigjblkaaGreatDoorA0RecoverRebuilds
import Derived.Test.YtekglahigjblkaaGreatDoorA1RecoverRebuilds
import Derived.Test.YtekglahigjblkaaGreatDoorM2RecoverRebuilds
set_option maxRecDepth 10000
namespace Go.Proofs.YtekglahigjblkaaGreatDoor
open Go.ChangeShapes Go.WideShapes Go.ChangeAt Go.RowKit Go.Joins Go.Deep

variable {H : Type} {enc : TypeId × Value → H} {W : World} {base : Nat}

theorem cells3 : Tryz.prog.cellsOf 3 = 1 := by kernel_rfl

theorem addr_add (b off i : Nat) : (⟨b, off, none⟩ : Addr).add i = ⟨b, off + i, none⟩ := by
  unfold Addr.add
  by_cases h : i = 0 <;> simp [h]

theorem two_of {α : Type} {l : List α} (h : l.length = 2) : ∃ a b, l = [a, b] := by
  match l, h with
  | [a, b], _ => exact ⟨a, b, rfl⟩

theorem trod_label {n : Nat} {cs : List Value} {x : DataW H × List MemPlace} (h : DataW.trod enc Tryz.prog W 0 (fun _ => true) true n 87 cs = some x) :
    ∃ p : Int × Int, cs = [.int .i64 p.1, .int .i64 p.2] ∧ (Lit.int .i64 p.1).wf = true ∧ (Lit.int .i64 p.2).wf = true := by
  obtain ⟨y0, y1, m, _, hlen, h0, h1⟩ := trod_struct2 Tryz.underlying87 h
  rw [cells87] at hlen
  obtain ⟨v0, v1, rfl⟩ := two_of hlen
  rw [cells3] at h0 h1
  obtain ⟨a, e0, _, wa⟩ := DataW.trod_int Tryz.underlying3 h0
  obtain ⟨b, e1, _, wb⟩ := DataW.trod_int Tryz.underlying3 h1
  simp at e0 e1
  subst e0 e1
  exact ⟨(a, b), rfl, wa, wb⟩

theorem trod_labels {n : Nat} {cs : List Value} {x : DataW H × List MemPlace} (h : DataW.trod enc Tryz.prog W 0 (fun _ => true) true n 22 cs = some x) :
    ∃ (a : Option Addr) (len cap : Nat) (ls : List (Int × Int)), cs = [.slice a len cap] ∧ IsLabs W a len cap ls := by
  rcases open_slice Tryz.underlying22 h with ⟨rfl, _⟩ | ⟨a, len, cap, m, n, D, Pl, rfl, _, hl, hm, hmm, _, hx⟩
  · exact ⟨none, 0, 0, [], rfl, rfl, Nat.le_refl _, Nat.zero_le _, fun h => absurd h (by omega)⟩
  · have hmc : m = cap := by simpa using hmm
    subst hmc
    rw [cells87] at hx
    have hy : ∀ i, i < m → ∃ p : Int × Int, W.cell? (a.add (i * 2)) = some (.int .i64 p.1) ∧ W.cell? (a.add (i * 2 + 1)) = some (.int .i64 p.2) := by
      intro i hi
      obtain ⟨cs', h1, h2⟩ := hx i hi
      obtain ⟨p, rfl, _, _⟩ := trod_label h2
      have hc := (World.cells?_some h1).2.2
      refine ⟨p, ?_, ?_⟩
      · have := hc 0 (by omega)
        rw [add_add] at this
        simpa using this
      · have := hc 1 (by omega)
        rw [add_add] at this
        simpa using this
    obtain ⟨f, hf⟩ := choose_lt hy
    refine ⟨some a, len, m, (List.range len).map f, rfl, by simp, hl, hm, fun hp => ?_⟩
    obtain ⟨b, off, spot⟩ := a
    have h0 := (hf 0 (by omega)).1
    have hspot : spot = none := by simpa [Addr.add] using World.cell?_spot h0
    subst hspot
    have hb : b < W.heap.size := World.block_lt_of_cell? W _ (by simpa [addr_add] using h0)
    refine ⟨b, off, rfl, hb, fun i hi => ?_⟩
    have hi' : i < len := by simpa using hi
    have := hf i (by omega)
    simpa [addr_add, List.getD, hi', Nat.add_assoc] using this

theorem op_config {v : Value} {d : DataW H} {p : List MemPlace} (hv : Value.okWide Tryz.prog W .any base 24 v) (h : DataW.Trod enc Tryz.prog W 0 (fun _ => true) true 24 v d p) :
    ∃ (s : Int) (a : Option Addr) (len cap : Nat) (p : Int) (ls : List (Int × Int)), v = .agg #[.int .i64 s, .slice a len cap, .int .i64 p] ∧ (Lit.int .i64 s).wf = true ∧ IsLabs W a len cap ls ∧ (Lit.int .i64 p).wf = true := by
  obtain ⟨c0, c1, c2, y0, y1, y2, m, rfl, rfl, rfl, hy0, hy1, hy2⟩ := open_agg3 Tryz.underlying24 (by kernel_rfl) (by kernel_rfl) hv h
  obtain ⟨a, e0, rfl, wa⟩ := DataW.trod_int Tryz.underlying3 hy0
  obtain ⟨b, e2, rfl, wb⟩ := DataW.trod_int Tryz.underlying3 hy2
  obtain ⟨a1, len, cap, ls, e1, hl⟩ := trod_labels hy1
  simp at e0 e1 e2
  subst e0 e1 e2
  exact ⟨a, a1, len, cap, b, ls, rfl, wa, hl, wb⟩
end Go.Proofs.YtekglahigjblkaaGreatDoor
