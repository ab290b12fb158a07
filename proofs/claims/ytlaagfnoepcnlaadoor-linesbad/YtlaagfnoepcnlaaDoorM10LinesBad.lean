/- Texts of this claim, one behind the other. -/
import Derived.Test.YtlaagfnoepcnlaaDoorM9LinesBad
import Derived.LoopTactic
import Derived.WalkSmall
import Derived.Deep.AppendLies
import Derived.Test.YtlaagfnoepcnlaaDoorM2LinesBad
import Derived.Laws.IdiomStrings
import Derived.Laws.Concat
import Derived.Deep.QuietTactic
import Derived.BigQuiet
import Derived.Lib.QuietBelow
/- The contract of label.purgeKeep: a copy of an act's Keep, in a crash with 0 at the places of labels that are not seen; in memory of its own. -/
namespace Go.Proofs.YtlaagfnoepcnlaaDoor
open Go.ChangeShapes Go.WideShapes Go.ChangeAt Go.RowKit
set_option linter.unusedVariables false

theorem intInfo : (Tryd.prog.info? 3).map (fun i => (i.zero, i.size, i.bytes)) = some (some (.int .i64 0), 1, 8) := by kernel_rfl

def AV.val (a : AV) : Value := .agg #[.int .i64 a.kind, .int .i64 a.site, .int .i64 a.to, .int .i64 a.label, .int .i64 a.pick, .slice a.ka a.kl a.kc, .int .i64 a.c0, .int .i64 a.c1, .int .i64 a.c2, .int .i64 a.c3, .int .i64 a.c4, .string a.line]

/-- The Keep behind k rounds. -/
def keepAt (ls : List (Int × Int)) (l : Int) (keep : List Int) (k : Nat) : List Int := keep.zipIdx.map fun p => if p.2 < k ∧ hid ls l (p.2 : Int) = true then 0 else p.1
theorem keepAt_len (ls : List (Int × Int)) (l : Int) (keep : List Int) (k : Nat) : (keepAt ls l keep k).length = keep.length := by simp [keepAt]
theorem keepAt_zero (ls : List (Int × Int)) (l : Int) (keep : List Int) : keepAt ls l keep 0 = keep := by
  unfold keepAt
  apply List.ext_getElem (by simp)
  intro i h1 h2
  simp
theorem keepAt_end (ls : List (Int × Int)) (l : Int) (keep : List Int) : keepAt ls l keep keep.length = keepOf ls l 6 keep := by
  unfold keepAt keepOf
  rw [if_pos rfl]
  apply List.ext_getElem (by simp)
  intro i h1 h2
  have hi : i < keep.length := by simpa using h1
  simp [hi]
theorem keepAt_hid (ls : List (Int × Int)) (l : Int) (keep : List Int) (k : Nat) (hk : k < keep.length) (h : hid ls l (k : Int) = true) : keepAt ls l keep (k + 1) = (keepAt ls l keep k).set k 0 := by
  unfold keepAt
  apply List.ext_getElem (by simp)
  intro i h1 h2
  simp only [List.getElem_map, List.getElem_zipIdx, List.getElem_set, Nat.zero_add]
  by_cases e : k = i
  · subst e
    simp [h]
  · have : i < k + 1 ↔ i < k := by omega
    simp [e, this]
theorem keepAt_not (ls : List (Int × Int)) (l : Int) (keep : List Int) (k : Nat) (h : hid ls l (k : Int) = false) : keepAt ls l keep (k + 1) = keepAt ls l keep k := by
  unfold keepAt
  apply List.ext_getElem (by simp)
  intro i h1 h2
  simp only [List.getElem_map, List.getElem_zipIdx, Nat.zero_add]
  by_cases e : k = i
  · subst e
    simp [h]
  · have : i < k + 1 ↔ i < k := by omega
    simp [this]

theorem news_ints {w : World} {b off : Nat} {zs : List Int} (h : ∀ i, i < zs.length → w.cell? ⟨b, off + i, none⟩ = some (.int .i64 (zs.getD i 0))) : ∀ j u, (zs.map (Value.int .i64))[j]? = some u → w.cell? ((⟨b, off, none⟩ : Addr).add j) = some u := by
  intro j u hu
  have e : (⟨b, off, none⟩ : Addr).add j = ⟨b, off + j, none⟩ := by
    unfold Addr.add
    by_cases hj : j = 0 <;> simp [hj]
  have hj : j < zs.length := by
    have := (List.getElem?_eq_some_iff.1 hu).1
    simpa using this
  rw [e, h j hj, ← hu]
  simp [List.getD, hj]
theorem ints_one (zs : List Int) : ∀ u ∈ zs.map (Value.int .i64), u.oneCell' = true := by
  intro u hu
  simp at hu
  obtain ⟨_, _, rfl⟩ := hu
  rfl

end Go.Proofs.YtlaagfnoepcnlaaDoor
/- Acts in a slice of the call's own, each with a Keep of the call's own: one more act; and that they lie as acts that came in do. -/
namespace Go.Proofs.YtlaagfnoepcnlaaDoor
open Go.ChangeShapes Go.WideShapes Go.ChangeAt Go.RowKit

def Num (n : Int) : Prop := -9223372036854775808 ≤ n ∧ n ≤ 9223372036854775807
def Nums (zs : List Int) : Prop := ∀ i, -9223372036854775808 ≤ zs.getD i 0 ∧ zs.getD i 0 ≤ 9223372036854775807

structure OwnActs (w : World) (B : Nat) (v : Value) (ys : List AV) : Prop where
  row : w.ownsRow B 41 12 v ys.length (flatActs ys)
  keeps : ∀ y ∈ ys, w.ownsRow B 3 1 (.slice y.ka y.kl y.kc) y.kl (y.keep.map (Value.int .i64)) ∧ Nums y.keep

theorem ownActs_nil (w : World) (B : Nat) : OwnActs w B (.slice none 0 0) [] := ⟨World.ownsRow_nil _ _ _ _, by simp⟩

theorem OwnActs.below {w w' : World} {B : Nat} {v : Value} {ys : List AV} (h : OwnActs w B v ys) (hb : Below w.heap.size w w') : OwnActs w' B v ys :=
  ⟨own_below' h.row hb, fun y hy => ⟨own_below' (h.keeps y hy).1 hb, (h.keeps y hy).2⟩⟩

theorem OwnActs.setBelow {w : World} {B : Nat} {v : Value} {ys : List AV} (h : OwnActs w B v ys) {a : Addr} (ha : v.ownBlock ≠ some a.block) (hk : ∀ y ∈ ys, (Value.slice y.ka y.kl y.kc).ownBlock ≠ some a.block) (u : Value) : OwnActs (w.setCell a u) B v ys :=
  ⟨ownsRow_setCell_other h.row ha u, fun y hy => ⟨ownsRow_setCell_other (h.keeps y hy).1 (hk y hy) u, (h.keeps y hy).2⟩⟩

/-- A new block's cell is none of theirs. -/
theorem OwnActs.setNew {w w' : World} {B : Nat} {v : Value} {ys : List AV} (h : OwnActs w B v ys) (hb : Below w.heap.size w w') {a : Addr} (ha : w.heap.size ≤ a.block) (u : Value) : OwnActs (w'.setCell a u) B v ys := by
  refine (h.below hb).setBelow (fun e => ?_) (fun y hy e => ?_) u
  · have := (h.row.lt _ e).2
    omega
  · have := ((h.keeps y hy).1.lt _ e).2
    omega

theorem OwnActs.push {w w1 w2 : World} {B : Nat} {v v' : Value} {ys : List AV} {y : AV} (h : OwnActs w B v ys) (hb : Below w.heap.size w w1)
    (hk : w1.ownsRow B 3 1 (.slice y.ka y.kl y.kc) y.kl (y.keep.map (Value.int .i64))) (hn : Nums y.keep)
    (hown : w2.ownsRow B 41 12 v' (ys.length + 1) (flatActs ys ++ y.cells)) (hg : w1.grownBy w2 v.ownBlock) : OwnActs w2 B v' (ys ++ [y]) := by
  have h1 := h.below hb
  refine ⟨?_, fun z hz => ?_⟩
  · rw [flatActs_append]
    simpa using hown
  · rcases List.mem_append.1 hz with hz | hz
    · exact ⟨(h1.keeps z hz).1.kept hg (own_apart (h1.keeps z hz).1 h1.row (by decide)), (h1.keeps z hz).2⟩
    · simp at hz
      subst hz
      exact ⟨hk.kept hg (own_apart hk h1.row (by decide)), hn⟩

theorem OwnActs.isActs {w : World} {B : Nat} {ao : Option Addr} {n cp : Nat} {ys : List AV} (h : OwnActs w B (.slice ao n cp) ys) : n = ys.length ∧ IsActs w ao n cp ys := by
  have hr := h.row
  obtain ⟨ao', cp', e, h1, h2⟩ := own_form hr
  simp at e
  obtain ⟨rfl, rfl, rfl⟩ := e
  refine ⟨rfl, rfl, h1, h2, fun hp => ?_⟩
  rcases hr.2 with ⟨_, hn⟩ | ⟨g, cap, cur, hv, hb, hg, _⟩
  · omega
  · simp at hv
    obtain ⟨rfl, rfl⟩ := hv
    refine ⟨g, 0, rfl, (hr.lt g rfl).2, fun i hi => ⟨fun j hj => ?_, ?_⟩⟩
    · have hf := flatActs_get ys i hi j hj
      have hc : j < (ys.getD i default).cells.length := by rw [AV.cells_len]; exact hj
      rw [List.getElem?_eq_getElem hc] at hf
      have := hr.cells (g := g) rfl _ _ hf
      have e : ∀ m, (⟨g, 0, none⟩ : Addr).add m = ⟨g, 0 + m, none⟩ := by
        intro m
        unfold Addr.add
        by_cases hm : m = 0 <;> simp [hm]
      rw [e, ← Nat.add_assoc] at this
      rw [this, List.getElem?_eq_getElem hc]
    · have hm : ys.getD i default ∈ ys := by simp [List.getD, hi]
      exact ints_of_own (h.keeps _ hm).1 (h.keeps _ hm).2
end Go.Proofs.YtlaagfnoepcnlaaDoor
/- Contracts of picked (once more), dec at a digit, ask and typed: some numbers, some text; what was in memory stays. -/
namespace Go.Proofs.YtlaagfnoepcnlaaDoor
open Go.ChangeShapes Go.WideShapes Go.ChangeAt Go.RowKit
set_option linter.unusedVariables false

def decB (n : Int) : ByteArray := ⟨#[UInt8.ofNat (48 + n).toNat]⟩
theorem decB_size (n : Int) : (decB n).size = 1 := rfl

theorem dec_any (n : Int) (w : World) (h0 : 0 ≤ n) (h9 : n ≤ 9) :
    Calls Tryd.prog 62 #[.int .i64 n] w fun e w' => e = .returned (.string (decB n)) ∧ Below w.heap.size w w' := by
  have hlt : n < 10 := by omega
  have hu : (UInt8.ofNat (48 + n).toNat).toNat = (48 + n).toNat := by
    rw [UInt8.toNat_ofNat']
    omega
  have hcv : (convert 52 9 (.slice (some ⟨w.heap.size, 0, none⟩) 1 1)).run Tryd.prog (w.alloc (.cells #[.int .u8 (48 + n)] 5)) = .ok (.string (decB n)) (w.alloc (.cells #[.int .u8 (48 + n)] 5)) :=
    run_convert_bytes_back (P := Tryd.prog) _ 52 9 5 ⟨w.heap.size, 0, none⟩ 1 [UInt8.ofNat (48 + n).toNat] Tryd.underlying52 Tryd.underlying5 Tryd.underlying9 (fun j hj => by
      obtain rfl : j = 0 := by simp at hj; omega
      have e : ((⟨w.heap.size, 0, none⟩ : Addr).add 0) = ⟨w.heap.size, 0, none⟩ := rfl
      rw [e]
      simp only [List.getElem_cons_zero, hu]
      have e2 : (((48 + n).toNat : Nat) : Int) = 48 + n := by omega
      rw [e2]
      go_simp)
  go_enter Tryd.func62, Tryd.ntmps62
  go_wp2
  go_ret
  exact ⟨rfl, (Below.refl _ _).alloc (Nat.le_refl _) _⟩

theorem picked_below (n m : Int) (w : World) (hn : -9223372036854775808 ≤ n ∧ n ≤ 9223372036854775807) (hm : 0 < m) (hm2 : m ≤ 9223372036854775807) :
    Calls Tryd.prog 18 #[.int .i64 n, .int .i64 m] w fun e w' => e = .returned (.int .i64 (pk n m)) ∧ Below w.heap.size w w' :=
  (picked_any n m w hn hm hm2).mono fun _ _ ⟨he, hw⟩ => ⟨he, hw ▸ Below.refl _ _⟩
end Go.Proofs.YtlaagfnoepcnlaaDoor
