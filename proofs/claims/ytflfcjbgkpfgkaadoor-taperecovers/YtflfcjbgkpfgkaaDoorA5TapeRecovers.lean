/- How bytes and tapes come in as arguments. -/
import Derived.Test.YtflfcjbgkpfgkaaDoorM4TapeRecovers
import Derived.SizedLaws
import Derived.Lib.SmallJoins
import Derived.Deep.Slices
import Derived.Below
set_option maxRecDepth 10000
namespace Go.Proofs.YtflfcjbgkpfgkaaDoor
open Go.ChangeShapes Go.WideShapes Go.ChangeAt Go.RowKit Go.Joins Go.Deep

variable {H : Type} {enc : TypeId × Value → H} {W : World} {base : Nat}

theorem cellsByte : Tryd.prog.cellsOf 5 = 1 := by kernel_rfl
theorem cellsBytes : Tryd.prog.cellsOf 25 = 1 := by kernel_rfl
theorem bytesByte : Tryd.prog.bytesOf 5 = 1 := by kernel_rfl

/-- All weights of a datum are within the reach. -/
def LightB (t : TypeId) (d : DataW H) : Prop := ∀ n ∈ d.weights Tryd.prog t, n ≤ reachBytes

theorem trod_bytes {n : Nat} {cs : List Value} {x : DataW H × List MemPlace} (h : DataW.trod enc Tryd.prog W 0 (fun _ => true) true n 25 cs = some x) :
    ∃ (a : Option Addr) (len cap : Nat) (bs : List Int), cs = [.slice a len cap] ∧ IsB W a len cap bs ∧ (LightB 25 x.1 → len ≤ 140737488351232) := by
  rcases open_ints Tryd.underlying25 Tryd.underlying5 cellsByte h with ⟨hcs, _⟩ | ⟨x, len, cap, zs, hcs, _, hl, hm, hz, hx, hcell, hwz⟩
  · subst hcs
    exact ⟨none, 0, 0, [], rfl, isB_nil W, fun _ => by omega⟩
  · subst hcs
    have hz' : zs.length = cap := by simpa using hz
    refine ⟨some x, len, cap, zs.take len, rfl, ⟨by simp; omega, hl, hm, fun z hz => ?_, fun e => by simp at e, fun hp => ?_⟩, fun hL => ?_⟩
    · have := bounds_u8 (hwz z (List.mem_of_mem_take hz))
      omega
    · obtain ⟨b, off, spot⟩ := x
      have h0 := hcell 0 (by omega)
      have hspot : spot = none := by simpa [Addr.add] using World.cell?_spot h0
      subst hspot
      rw [adr_add] at h0
      refine ⟨b, off, rfl, World.block_lt_of_cell? W _ h0, fun i hi => ?_⟩
      have := hcell i (by omega)
      rw [adr_add] at this
      rw [this]
      simp [List.getD, hi]
    · rw [hx] at hL
      have := hL _ (by simp only [DataW.weights, Tryd.underlying25]; exact List.mem_cons_self ..)
      rw [bytesByte] at this
      simp only [lits, List.length_map, List.length_take, List.length_drop, reachBytes] at this
      omega

theorem op_bytes {v : Value} {d : DataW H} {p : List MemPlace} (hv : Value.okWide Tryd.prog W .any base 25 v) (h : DataW.Trod enc Tryd.prog W 0 (fun _ => true) true 25 v d p) :
    ∃ (a : Option Addr) (len cap : Nat) (bs : List Int), v = .slice a len cap ∧ IsB W a len cap bs ∧ (LightB 25 d → len ≤ 140737488351232) := by
  obtain ⟨a, len, cap, rfl⟩ := okWide_slice Tryd.underlying25 hv
  obtain ⟨fuel, hf⟩ := h
  obtain ⟨a', len', cap', bs, e, h1, h2⟩ := trod_bytes hf
  simp [Value.cells] at e
  obtain ⟨rfl, rfl, rfl⟩ := e
  exact ⟨a, len, cap, bs, rfl, h1, h2⟩

theorem op_byte {v : Value} {d : DataW H} {p : List MemPlace} (hv : Value.okWide Tryd.prog W .any base 5 v) (h : DataW.Trod enc Tryd.prog W 0 (fun _ => true) true 5 v d p) :
    ∃ n : Int, v = .int .u8 n ∧ 0 ≤ n ∧ n < 256 := by
  obtain ⟨a, h1, h2, h3, wa⟩ := open_int Tryd.underlying5 hv h
  have := bounds_u8 wa
  exact ⟨a, h1, by omega, by omega⟩
end Go.Proofs.YtflfcjbgkpfgkaaDoor
