/- Texts of this claim, one behind the other. -/
import Derived.Test.YtcfhhjnbkpgpeaaDoorProg
import Derived.Test.YtcfhhjnbkpgpeaaDoorM9RebuildDesk
import Derived.OwnWalk
import Derived.Deep.AppendLies
import Derived.Laws.AppendOwnNone
import Derived.Laws.IdiomStrings
import Derived.WalkKit
import Derived.ProofKit
import Derived.OpenShut
import Derived.Deep.QuietTactic
import Derived.BigQuiet
import Derived.BigRegion
import Derived.LoopTactic
import Derived.RegionTactic
import Derived.Deep.RegionWith
import Derived.Deep.RegionHeld3
import Derived.WalkSmall
import Derived.Deep.Cut
import Derived.Lib.QuietBelow
import Derived.Below
import Derived.Test.YtcfhhjnbkpgpeaaDoorA35RebuildDesk
/- Bytes in memory: a slice of bytes as it comes in, or as the call made it; an append of one to a row of the call's own; the string of one. -/
namespace Go.Proofs.YtcfhhjnbkpgpeaaDoor
open Go.ChangeShapes Go.WideShapes Go.ChangeAt Go.RowKit
set_option linter.unusedVariables false

theorem byteInfo : (Tryd.prog.info? 5).map (fun i => (i.zero, i.size, i.bytes)) = some (some (.int .u8 0), 1, 1) := by kernel_rfl

def bytesV (bs : List Int) : List Value := bs.map (Value.int .u8)

/-- Bytes that a slice holds. -/
def IsB (w : World) (a : Option Addr) (len cap : Nat) (bs : List Int) : Prop :=
  bs.length = len ∧ len ≤ cap ∧ cap ≤ maxLen ∧ Byt bs ∧ (a = none → cap = 0) ∧
    (0 < len → ∃ b off, a = some ⟨b, off, none⟩ ∧ b < w.heap.size ∧ ∀ i, i < len → w.cell? ⟨b, off + i, none⟩ = some (.int .u8 (bs.getD i 0)))

theorem adr_add (b off i : Nat) : (⟨b, off, none⟩ : Addr).add i = ⟨b, off + i, none⟩ := by
  unfold Addr.add
  by_cases h : i = 0 <;> simp [h]

theorem IsB.below {w w' : World} {a : Option Addr} {len cap : Nat} {bs : List Int} (h : IsB w a len cap bs) (hb : Below w.heap.size w w') : IsB w' a len cap bs := by
  obtain ⟨h1, h2, h3, hbd, hn, h4⟩ := h
  refine ⟨h1, h2, h3, hbd, hn, fun hp => ?_⟩
  obtain ⟨b, off, e, hlt, hl⟩ := h4 hp
  refine ⟨b, off, e, Nat.lt_of_lt_of_le hlt hb.size, fun i hi => ?_⟩
  rw [hb.cell (p := ⟨b, off + i, none⟩) hlt]
  exact hl i hi

theorem IsB.grown {w w' : World} {a : Option Addr} {len cap : Nat} {bs : List Int} {row : Option Nat} (h : IsB w a len cap bs) (hg : w.grownBy w' row) (hne : ∀ b off, a = some ⟨b, off, none⟩ → some b ≠ row) : IsB w' a len cap bs := by
  obtain ⟨h1, h2, h3, hbd, hn, h4⟩ := h
  refine ⟨h1, h2, h3, hbd, hn, fun hp => ?_⟩
  obtain ⟨b, off, e, hlt, hl⟩ := h4 hp
  refine ⟨b, off, e, Nat.lt_of_lt_of_le hlt hg.size, fun i hi => ?_⟩
  rw [World.cell?_of_block (a := ⟨b, off + i, none⟩) (hg.block b hlt (hne b off e))]
  exact hl i hi

theorem IsB.set {w : World} {a : Option Addr} {len cap : Nat} {bs : List Int} (h : IsB w a len cap bs) (p : Addr) (v : Value) (hne : ∀ b off, a = some ⟨b, off, none⟩ → b ≠ p.block) : IsB (w.setCell p v) a len cap bs := by
  obtain ⟨h1, h2, h3, hbd, hn, h4⟩ := h
  refine ⟨h1, h2, h3, hbd, hn, fun hp => ?_⟩
  obtain ⟨b, off, e, hlt, hl⟩ := h4 hp
  refine ⟨b, off, e, by simpa using hlt, fun i hi => ?_⟩
  rw [World.cell?_of_block (a := ⟨b, off + i, none⟩) (Below.heap_setCell w p v b (hne b off e))]
  exact hl i hi

theorem isB_nil (w : World) : IsB w none 0 0 [] := ⟨rfl, Nat.le_refl _, Nat.zero_le _, fun b hb => by simp at hb, fun _ => rfl, fun h => absurd h (by omega)⟩

theorem isB_own {w : World} {B : Nat} {v : Value} {n : Nat} {bs : List Int} (h : w.ownsRow B 5 1 v n (bytesV bs)) (hb : Byt bs) :
    ∃ a cap, v = .slice a n cap ∧ IsB w a n cap bs ∧ (∀ b off, a = some ⟨b, off, none⟩ → B ≤ b) ∧ (∀ b, a = some b → v.ownBlock = some b.block) := by
  have hlen : bs.length = n := by have := h.1; simpa [bytesV] using this
  rcases h.2 with ⟨rfl, rfl⟩ | ⟨g, cap, cur, rfl, hg, hcur, h1, h2, h3, h4⟩
  · refine ⟨none, 0, rfl, ?_, fun b off e => by simp at e, fun b e => by simp at e⟩
    obtain rfl : bs = [] := List.length_eq_zero_iff.1 hlen
    exact isB_nil w
  · refine ⟨some ⟨g, 0, none⟩, cap, rfl, ⟨hlen, h1, h2, hb, fun e => by simp at e, fun hp => ⟨g, 0, rfl, (h.lt g rfl).2, fun i hi => ?_⟩⟩, fun b off e => by simp at e; omega, fun b e => by simp at e; subst e; rfl⟩
    have hx := h.cells (g := g) rfl i (.int .u8 (bs.getD i 0)) (by simp [bytesV, List.getD, show i < bs.length by omega])
    rwa [adr_add] at hx

theorem Byt.take {bs : List Int} (h : Byt bs) (n : Nat) : Byt (bs.take n) := fun b hb => h b (List.mem_of_mem_take hb)
theorem Byt.drop {bs : List Int} (h : Byt bs) (n : Nat) : Byt (bs.drop n) := fun b hb => h b (List.mem_of_mem_drop hb)
theorem Byt.app {a b : List Int} (h : Byt a) (k : Byt b) : Byt (a ++ b) := fun x hx => by rcases List.mem_append.1 hx with hx | hx; exact h x hx; exact k x hx

theorem IsB.take {w : World} {a : Option Addr} {len cap : Nat} {bs : List Int} (h : IsB w a len cap bs) (k c : Nat) (hk : k ≤ len) (hkc : k ≤ c) (hc : c ≤ cap) : IsB w a k c (bs.take k) := by
  obtain ⟨h1, h2, h3, hbd, hn, h4⟩ := h
  refine ⟨by simp; omega, hkc, by omega, hbd.take k, fun e => by have := hn e; omega, fun hp => ?_⟩
  obtain ⟨b, off, e, hlt, hl⟩ := h4 (by omega)
  refine ⟨b, off, e, hlt, fun i hi => ?_⟩
  rw [hl i (by omega)]
  simp [List.getD, hi]

theorem isB_one (w : World) (x : Int) (h0 : 0 ≤ x) (h1 : x < 256) : IsB (w.alloc (.cells #[.int .u8 x] 5)) (some ⟨w.heap.size, 0, none⟩) 1 1 [x] := by
  refine ⟨rfl, Nat.le_refl _, by unfold maxLen; omega, fun b hb => by simp at hb; omega, fun e => by simp at e, fun _ => ⟨w.heap.size, 0, rfl, by simp, fun i hi => ?_⟩⟩
  obtain rfl : i = 0 := by omega
  go_simp

theorem own_slice {w : World} {B : Nat} {e : TypeId} {size : Nat} {v : Value} {n : Nat} {xs : List Value} (h : w.ownsRow B e size v n xs) : ∃ a cap, v = .slice a n cap := by
  rcases h.2 with ⟨rfl, rfl⟩ | ⟨g, cap, cur, rfl, _⟩
  · exact ⟨none, 0, rfl⟩
  · exact ⟨_, cap, rfl⟩

theorem isB_slice {w : World} {B : Nat} {a : Option Addr} {n cap : Nat} {bs : List Int} (h : w.ownsRow B 5 1 (.slice a n cap) n (bytesV bs)) (hb : Byt bs) : IsB w a n cap bs ∧ (∀ b off, a = some ⟨b, off, none⟩ → B ≤ b) := by
  obtain ⟨a', cap', e, h1, h2, _⟩ := isB_own h hb
  simp only [Value.slice.injEq, true_and] at e
  obtain ⟨rfl, rfl⟩ := e
  exact ⟨h1, h2⟩

theorem own_bel {w w' : World} {base : Nat} {e : TypeId} {size : Nat} {v : Value} {n : Nat} {xs : List Value} (h : w.ownsRow base e size v n xs) (hb : Below w.heap.size w w') : w'.ownsRow base e size v n xs :=
  h.kept (row := none) ⟨hb.os, hb.tape, hb.output, hb.size, fun k hk _ => hb.block k hk⟩ (by cases hv : v.ownBlock <;> simp)

/-- The string of bytes. -/
def strOf (bs : List Int) : ByteArray := ⟨(bs.map fun n => UInt8.ofNat n.toNat).toArray⟩

theorem strOf_inj {a b : List Int} (ha : Byt a) (hb : Byt b) (h : strOf a = strOf b) : a = b := by
  have h' : (a.map fun n => UInt8.ofNat n.toNat) = (b.map fun n => UInt8.ofNat n.toNat) := by
    have := congrArg (fun x : ByteArray => x.data.toList) h
    simpa [strOf] using this
  clear h
  induction a generalizing b with
  | nil => cases b with
    | nil => rfl
    | cons y b => simp at h'
  | cons x a ih =>
    cases b with
    | nil => simp at h'
    | cons y b =>
      simp only [List.map_cons, List.cons.injEq] at h'
      have hx := ha x (by simp)
      have hy := hb y (by simp)
      have e : x.toNat = y.toNat := by
        have := congrArg UInt8.toNat h'.1
        simp only [UInt8.toNat_ofNat'] at this
        omega
      rw [show x = y by omega, ih (fun z hz => ha z (by simp [hz])) (fun z hz => hb z (by simp [hz])) h'.2]

end Go.Proofs.YtcfhhjnbkpgpeaaDoor
/- A config made of raw numbers, beside bytes: what the laws of the keeping kind begin with. -/
namespace Go.Proofs.YtcfhhjnbkpgpeaaDoor
open Go.ChangeShapes Go.WideShapes Go.ChangeAt Go.RowKit
set_option linter.unusedVariables false

theorem isB_cell {U : World} {q : Nat} {x : Int} (h0 : 0 ≤ x) (h1 : x < 256) (hc : U.cell? ⟨q, 0, none⟩ = some (.int .u8 x)) : IsB U (some ⟨q, 0, none⟩) 1 1 [x] := by
  refine ⟨rfl, Nat.le_refl _, by unfold maxLen; omega, fun b hb => by simp at hb; omega, fun e => by simp at e, fun _ => ⟨q, 0, rfl, World.block_lt_of_cell? U _ hc, fun i hi => ?_⟩⟩
  obtain rfl : i = 0 := by omega
  exact hc

end Go.Proofs.YtcfhhjnbkpgpeaaDoor
