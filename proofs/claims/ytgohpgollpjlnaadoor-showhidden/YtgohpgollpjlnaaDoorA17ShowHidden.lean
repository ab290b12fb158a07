/- How rows of raw numbers, and one of them, come in as arguments, beside a store. -/
import Derived.Test.YtgohpgollpjlnaaDoorA16ShowHidden
set_option maxRecDepth 10000
namespace Go.Proofs.YtgohpgollpjlnaaDoor.St
open Go.ChangeShapes Go.WideShapes Go.ChangeAt Go.RowKit Go.Joins Go.Deep
set_option linter.unusedVariables false

structure RV where
  kd : Int
  ra : Int
  rb : Int
  rc : Int
  rd : Int
  re : Int
instance : Inhabited RV := ⟨⟨0, 0, 0, 0, 0, 0⟩⟩
def Bd (n : Int) : Prop := -9223372036854775808 ≤ n ∧ n ≤ 9223372036854775807
def RV.ok (r : RV) : Prop := Bd r.kd ∧ Bd r.ra ∧ Bd r.rb ∧ Bd r.rc ∧ Bd r.rd ∧ Bd r.re
def RV.val (r : RV) : Value := .agg #[.int .i64 r.kd, .int .i64 r.ra, .int .i64 r.rb, .int .i64 r.rc, .int .i64 r.rd, .int .i64 r.re]
def RV.cells (r : RV) : List Value := [.int .i64 r.kd, .int .i64 r.ra, .int .i64 r.rb, .int .i64 r.rc, .int .i64 r.rd, .int .i64 r.re]
structure IsRaws (w : World) (a : Option Addr) (len cap : Nat) (rs : List RV) : Prop where
  row : IsRow 6 RV.cells w a len cap rs
  ok : ∀ r ∈ rs, r.ok
theorem IsRaws.below {w w' : World} {a : Option Addr} {len cap : Nat} {rs : List RV} (h : IsRaws w a len cap rs) (hb : Below w.heap.size w w') : IsRaws w' a len cap rs := ⟨h.row.below hb, h.ok⟩
theorem bd_of {n : Int} (h : (Lit.int .i64 n).wf = true) : Bd n := by
  have := bounds_i64 h
  unfold Bd
  omega

variable {H : Type} {enc : TypeId × Value → H} {W : World} {base : Nat}
theorem cRw : Tryd.prog.cellsOf 83 = 6 := by kernel_rfl
theorem trod_raw {n : Nat} {cs : List Value} {x : DataW H × List MemPlace} (h : DataW.trod enc Tryd.prog W 0 (fun _ => true) true n 83 cs = some x) : ∃ r : RV, cs = r.cells ∧ r.ok := by
  obtain ⟨ys, m, _, _, hlen, hyl, hf⟩ := DataW.trod_struct Tryd.underlying83 h
  rw [cRw] at hlen
  obtain ⟨v0, v1, v2, v3, v4, v5, rfl⟩ := l6 hlen
  obtain ⟨y0, y1, y2, y3, y4, y5, rfl⟩ := l6 (l := ys) (by simpa using hyl)
  have e0 := hf 0 _ rfl
  have e1 := hf 1 _ rfl
  have e2 := hf 2 _ rfl
  have e3 := hf 3 _ rfl
  have e4 := hf 4 _ rfl
  have e5 := hf 5 _ rfl
  simp [cI] at e0 e1 e2 e3 e4 e5
  obtain ⟨a0, r0, _, b0⟩ := DataW.trod_int Tryd.underlying3 e0
  obtain ⟨a1, r1, _, b1⟩ := DataW.trod_int Tryd.underlying3 e1
  obtain ⟨a2, r2, _, b2⟩ := DataW.trod_int Tryd.underlying3 e2
  obtain ⟨a3, r3, _, b3⟩ := DataW.trod_int Tryd.underlying3 e3
  obtain ⟨a4, r4, _, b4⟩ := DataW.trod_int Tryd.underlying3 e4
  obtain ⟨a5, r5, _, b5⟩ := DataW.trod_int Tryd.underlying3 e5
  simp at r0 r1 r2 r3 r4 r5
  exact ⟨⟨a0, a1, a2, a3, a4, a5⟩, by rw [r0, r1, r2, r3, r4, r5]; rfl, bd_of b0, bd_of b1, bd_of b2, bd_of b3, bd_of b4, bd_of b5⟩
theorem op_raws {v : Value} {d : DataW H} {p : List MemPlace} (hv : Value.okWide Tryd.prog W .any base 44 v) (h : DataW.Trod enc Tryd.prog W 0 (fun _ => true) true 44 v d p) :
    ∃ (a : Option Addr) (len cap : Nat) (rs : List RV), v = .slice a len cap ∧ IsRaws W a len cap rs := by
  obtain ⟨a, len, cap, rfl⟩ := okWide_slice Tryd.underlying44 hv
  obtain ⟨fuel, hf⟩ := h
  obtain ⟨a', len', cap', rs, e, hr, hok⟩ := row_of (cells := RV.cells) RV.ok Tryd.underlying44 cRw (by omega) (fun _ => rfl) (fun y => ⟨_, _, rfl⟩) trod_raw hf
  simp [Value.cells] at e
  obtain ⟨rfl, rfl, rfl⟩ := e
  exact ⟨_, _, _, rs, rfl, hr, hok⟩
theorem op_raw {v : Value} {d : DataW H} {p : List MemPlace} (hv : Value.okWide Tryd.prog W .any base 83 v) (h : DataW.Trod enc Tryd.prog W 0 (fun _ => true) true 83 v d p) :
    ∃ r : RV, v = r.val ∧ r.ok := by
  obtain ⟨cs, rfl, hsz⟩ := okWide_struct Tryd.underlying83 hv
  obtain ⟨fuel, hf⟩ := h
  obtain ⟨r, e, hok⟩ := trod_raw hf
  refine ⟨r, ?_, hok⟩
  have : cs.toList = r.cells := by simpa [Value.cells] using e
  obtain ⟨l⟩ := cs
  simp at this
  rw [this]
  rfl
theorem op_bool {v : Value} {d : DataW H} {p : List MemPlace} (hv : Value.okWide Tryd.prog W .any base 4 v) (h : DataW.Trod enc Tryd.prog W 0 (fun _ => true) true 4 v d p) : ∃ b : Bool, v = .bool b := by
  obtain ⟨b, h1, _⟩ := open_bool Tryd.underlying4 hv h
  exact ⟨b, h1⟩
end Go.Proofs.YtgohpgollpjlnaaDoor.St
