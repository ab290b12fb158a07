/- Texts of this claim, one behind the other. -/
import Derived.Test.YtgohpgollpjlnaaDoorM20ShowList
import Derived.Test.YtgohpgollpjlnaaDoorM4ShowList
import Derived.Test.YtgohpgollpjlnaaDoorM8ShowList
import Derived.Test.YtgohpgollpjlnaaDoorM9ShowList
import Derived.Deep.Cut
import Derived.Test.YtgohpgollpjlnaaDoorA0ShowList
import Derived.Laws.BitsLemmas
/- What part asks of a config and of stores: contracts of bounds.Site, bounds.Label and labelMay, of part.refuse and of the document's siteFault. -/
namespace Go.Proofs.YtgohpgollpjlnaaDoor.Pt
open Go.ChangeShapes Go.WideShapes Go.ChangeAt Go.RowKit
open Go.Proofs.YtgohpgollpjlnaaDoor.St (SV IsStore IsRow storeOK TxWf)
set_option linter.unusedVariables false

def plc (l : Int) (n : Nat) : Bool := decide (0 ≤ l ∧ l < (n : Int))
theorem plc_true {l : Int} {n : Nat} (h : plc l n = true) : 0 ≤ l ∧ l < (n : Int) := by simpa [plc] using h
theorem plc_in (l : Int) (len : Nat) : plc l len = inR l 0 ((len : Int) - 1) := by unfold plc inR; rw [Bool.eq_iff_iff]; simp; omega
theorem place_any (s p : Int) (a : Option Addr) (len cap : Nat) (l : Int) (w : World) (hl : len ≤ 6) :
    Calls Tryd.prog 43 #[.agg #[.int .i64 s, .slice a len cap, .int .i64 p], .int .i64 l] w fun e w' => e = .returned (.bool (plc l len)) ∧ Below w.heap.size w w' := by
  have hA : Below w.heap.size w (w.alloc (.cells #[.int .i64 s, .slice a len cap, .int .i64 p] 32)) := (Below.refl _ _).alloc (Nat.le_refl _) _
  have h2 : (len : Int) ≤ 6 := by omega
  rw [plc_in]
  go_enter Tryd.func43, Tryd.ntmps43
  go_wp2_with (go_at_call 78; refine (within_any _ _ _ _).mono ?_; rintro e w1 ⟨rfl, hu1⟩; rw [hu1]; clear hu1)
  go_ret
  exact ⟨rfl, hA⟩
theorem labelMay_any (s p : Int) (a : Option Addr) (len cap : Nat) (l : Int) (w : World) (hl : len ≤ 6) :
    Calls Tryd.prog 28 #[.agg #[.int .i64 s, .slice a len cap, .int .i64 p], .int .i64 l] w fun e w' => e = .returned (.bool (plc l len)) ∧ Below w.heap.size w w' := by
  have hA : Below w.heap.size w (w.alloc (.cells #[.int .i64 s, .slice a len cap, .int .i64 p] 32)) := (Below.refl _ _).alloc (Nat.le_refl _) _
  have h2 : (len : Int) ≤ 6 := by omega
  rw [plc_in]
  go_enter Tryd.func28, Tryd.ntmps28
  go_wp2_with (go_at_call 53; refine (in_any _ _ _ _).mono ?_; rintro e w1 ⟨rfl, hu1⟩; rw [hu1]; clear hu1)
  go_ret
  exact ⟨rfl, hA⟩

instance : Inhabited SV := ⟨SV.nil⟩
/-- Stores, one behind the other, each four slices. -/
structure IsStores (w : World) (a : Option Addr) (n cap : Nat) (ss : List SV) : Prop where
  row : IsRow 4 SV.box w a n cap ss
  each : ∀ i, i < n → IsStore w (ss.getD i default) ∧ ∀ t ∈ (ss.getD i default).over, TxWf t
theorem IsStores.below {w w' : World} {a : Option Addr} {n cap : Nat} {ss : List SV} (h : IsStores w a n cap ss) (hb : Below w.heap.size w w') : IsStores w' a n cap ss :=
  ⟨h.row.below hb, fun i hi => ⟨(h.each i hi).1.below hb, (h.each i hi).2⟩⟩
theorem IsStores.at {w : World} {a : Option Addr} {n cap : Nat} {ss : List SV} (h : IsStores w a n cap ss) {k : Nat} (hk : k < n) : ∃ b off, a = some ⟨b, off, none⟩ ∧ b < w.heap.size ∧ w.cell? ⟨b, off + k * 4, none⟩ = some (.slice (ss.getD k default).ia (ss.getD k default).il (ss.getD k default).ic) ∧ w.cell? ⟨b, off + k * 4 + 1, none⟩ = some (.slice (ss.getD k default).la (ss.getD k default).ll (ss.getD k default).lc) ∧ w.cell? ⟨b, off + k * 4 + 2, none⟩ = some (.slice (ss.getD k default).da (ss.getD k default).dl (ss.getD k default).dc) ∧ w.cell? ⟨b, off + k * 4 + 3, none⟩ = some (.slice (ss.getD k default).oa (ss.getD k default).ol (ss.getD k default).oc) := by
  obtain ⟨b, off, e, hl, hc⟩ := h.row.2.2.2.2 (by omega)
  exact ⟨b, off, e, hl, hc k hk 0 (by decide), hc k hk 1 (by decide), hc k hk 2 (by decide), hc k hk 3 (by decide)⟩

def siteErr (s : Int) (ls : List (Int × Int)) (p l me : Int) (n : Nat) (ss : List SV) : Int :=
  if cfgFault s ls p = 0 then (if plc l ls.length then (if inR me 0 (s - 1) then (if n = ls.length then (if ss.all storeOK then 0 else 9) else 9) else 2) else 6) else cfgFault s ls p
theorem all_at {ss : List SV} {k : Nat} (hk : k < ss.length) : (ss.take (k + 1)).all storeOK = ((ss.take k).all storeOK && storeOK (ss.getD k default)) := by
  rw [St.take_at hk, List.all_append]
  simp
theorem all_not {ss : List SV} {k : Nat} (hk : k < ss.length) (h : storeOK (ss.getD k default) = false) : ss.all storeOK = false := by
  rw [List.all_eq_false]
  exact ⟨ss.getD k default, by simp [List.getD, hk], fun e => by rw [h] at e; cases e⟩

end Go.Proofs.YtgohpgollpjlnaaDoor.Pt
/- Contracts of sameTxns and sameStore: at the same data they return true, and leave what was in memory. -/
namespace Go.Proofs.YtgohpgollpjlnaaDoor.St
open Go.ChangeShapes Go.WideShapes Go.ChangeAt Go.RowKit
set_option linter.unusedVariables false

end Go.Proofs.YtgohpgollpjlnaaDoor.St
/- Numbers as bytes, the highest first, and back; bytes read off a front, one number behind the other: plain data, nothing of the program. -/
namespace Go.Proofs.YtgohpgollpjlnaaDoor
open Go.ChangeShapes Go.WideShapes Go.ChangeAt Go.RowKit

def be (n : Int) : Nat → List Int
  | 0 => []
  | k + 1 => n / 256 ^ k % 256 :: be n k
def bval (bs : List Int) : Int := bs.foldl (fun a b => a * 256 + b) 0
def Byt (bs : List Int) : Prop := ∀ b ∈ bs, 0 ≤ b ∧ b < 256

theorem be_len (n : Int) (k : Nat) : (be n k).length = k := by
  induction k with
  | zero => rfl
  | succ k ih => simp [be, ih]
theorem be_byt (n : Int) (k : Nat) : Byt (be n k) := by
  induction k with
  | zero => intro b hb; simp [be] at hb
  | succ k ih =>
    intro b hb
    rcases List.mem_cons.1 hb with rfl | hb
    · exact ⟨Int.emod_nonneg _ (by decide), Int.emod_lt_of_pos _ (by decide)⟩
    · exact ih b hb
theorem be_snoc (n : Int) (k : Nat) : be n (k + 1) = be (n / 256) k ++ [n % 256] := by
  induction k with
  | zero => simp [be]
  | succ k ih =>
    rw [be, ih]
    conv => rhs; rw [be]
    rw [Int.ediv_ediv_of_nonneg (by decide), List.cons_append, Int.pow_succ, Int.mul_comm]
theorem bval_nil : bval [] = 0 := rfl
theorem bval_snoc (bs : List Int) (b : Int) : bval (bs ++ [b]) = bval bs * 256 + b := by simp [bval]
theorem bval_be : ∀ (k : Nat) (n : Int), 0 ≤ n → n < 256 ^ k → bval (be n k) = n := by
  intro k
  induction k with
  | zero => intro n h0 h1; simp at h1; simp [be, bval]; omega
  | succ k ih =>
    intro n h0 h1
    rw [be_snoc, bval_snoc, ih (n / 256) (by omega) (by rw [Int.pow_succ] at h1; omega)]
    omega
theorem bval_bd : ∀ (k : Nat) (bs : List Int), bs.length = k → Byt bs → 0 ≤ bval bs ∧ bval bs < 256 ^ k := by
  intro k
  induction k with
  | zero => intro bs h _; obtain rfl := List.length_eq_zero_iff.1 h; simp [bval]
  | succ k ih =>
    intro bs h hb
    have hne : bs ≠ [] := by intro e; rw [e] at h; simp at h
    obtain ⟨l, b, rfl⟩ : ∃ l b, bs = l ++ [b] := ⟨bs.dropLast, bs.getLast hne, (List.dropLast_concat_getLast hne).symm⟩
    have h1 := ih l (by simpa using h) (fun x hx => hb x (by simp [hx]))
    have h2 := hb b (by simp)
    rw [bval_snoc, Int.pow_succ]
    omega
theorem be_bval : ∀ (k : Nat) (bs : List Int), bs.length = k → Byt bs → be (bval bs) k = bs := by
  intro k
  induction k with
  | zero => intro bs h _; obtain rfl := List.length_eq_zero_iff.1 h; rfl
  | succ k ih =>
    intro bs h hb
    have hne : bs ≠ [] := by intro e; rw [e] at h; simp at h
    obtain ⟨l, b, rfl⟩ : ∃ l b, bs = l ++ [b] := ⟨bs.dropLast, bs.getLast hne, (List.dropLast_concat_getLast hne).symm⟩
    have h1 := ih l (by simpa using h) (fun x hx => hb x (by simp [hx]))
    have h2 := hb b (by simp)
    rw [bval_snoc, be_snoc, show (bval l * 256 + b) / 256 = bval l by omega, show (bval l * 256 + b) % 256 = b by omega, h1]
theorem bval_one (b : Int) : bval [b] = b := by simp [bval]
theorem be_one {n : Int} (h0 : 0 ≤ n) (h1 : n < 256) : be n 1 = [n] := by simp [be]; omega

theorem or_join {x y : Int} (hx0 : 0 ≤ x) (hx1 : x < 4294967296) (hy0 : 0 ≤ y) (hy1 : y < 256) : bits .or .i64 (x * 256) y = x * 256 + y :=
  bits_join .i64 63 (by decide) (fun n h0 h1 => by simp [IntKind.wrap, IntKind.bits, IntKind.signed]; omega) 8 (x * 256) y (by omega) (by omega) (by omega) hy0 (by omega) (by omega)

/-! ### Off a front -/
structure RS where
  rest : List Int
  wrong : Int

def RS.refuse (r : RS) (e : Int) : RS := if r.wrong = 0 then ⟨r.rest, e⟩ else r
def RS.short (r : RS) (k : Nat) : RS := if r.rest.length < k then r.refuse 5 else r
def RS.num (r : RS) (k : Nat) : Int × RS := if (r.short k).wrong = 0 then (bval (r.rest.take k), ⟨r.rest.drop k, 0⟩) else (0, r.short k)

theorem num_ok {r : RS} {k : Nat} (h : r.wrong = 0) (hk : k ≤ r.rest.length) : r.num k = (bval (r.rest.take k), ⟨r.rest.drop k, 0⟩) := by
  have : ¬ r.rest.length < k := by omega
  simp [RS.num, RS.short, this, h]
theorem num_short {r : RS} {k : Nat} (h : r.wrong = 0) (hk : r.rest.length < k) : r.num k = (0, ⟨r.rest, 5⟩) := by
  simp [RS.num, RS.short, RS.refuse, hk, h]
theorem num_wrong {r : RS} {k : Nat} (h : r.wrong ≠ 0) : r.num k = (0, r) := by
  unfold RS.num RS.short RS.refuse
  by_cases hk : r.rest.length < k <;> simp [hk, h]
theorem num_app {n : Int} {k : Nat} {t : List Int} (h0 : 0 ≤ n) (h1 : n < 256 ^ k) : (RS.mk (be n k ++ t) 0).num k = (n, ⟨t, 0⟩) := by
  rw [num_ok rfl (by simp [be_len])]
  simp [be_len, bval_be k n h0 h1]
end Go.Proofs.YtgohpgollpjlnaaDoor
