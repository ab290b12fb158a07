/- Texts of this claim, one behind the other. -/
import Derived.Test.YtgohpgollpjlnaaDoorM2ConsoleBad
import Derived.Test.YtgohpgollpjlnaaDoorA0ConsoleBad
import Derived.Laws.BitsLemmas
import Derived.Test.YtgohpgollpjlnaaDoorProg
import Derived.OwnWalk
import Derived.Deep.AppendLies
import Derived.Laws.AppendOwnNone
import Derived.Laws.IdiomStrings
import Derived.WalkKit
import Derived.ProofKit
import Derived.OpenShut
import Derived.Deep.QuietTactic
import Derived.BigQuiet
import Derived.BigRegion
import Derived.LoopTactic
import Derived.RegionTactic
import Derived.Deep.RegionWith
import Derived.Deep.RegionHeld3
import Derived.WalkSmall
import Derived.Deep.Cut
import Derived.Lib.QuietBelow
import Derived.Below
/- Lines that are no commands, on plain data. -/
namespace Go.Proofs.YtgohpgollpjlnaaDoor.Cn
open Go
set_option linter.unusedVariables false

theorem bad_of {l : List UInt8} (h : wordsOf (spl l) = none) (h60 : l.length ≤ 60) : lineErr l = 4 ∧ lineCmd l = Cmd.nil := by
  have h0 : ¬ 60 < l.length := by omega
  refine ⟨?_, ?_⟩
  · unfold lineErr
    rw [if_neg h0, h]
    rfl
  · unfold lineCmd
    rw [if_neg h0, h]
    rfl
theorem num_out {l : List UInt8} {v most : Int} (h : Lib.atoiAll l = .ok v) (hv : ¬ (0 ≤ v ∧ v ≤ most)) : numOf l most = none := by
  unfold numOf
  rw [h]
  simp only
  rw [if_neg (fun e => hv e.2)]
theorem about_a {k : Int} {y : Bool} {a b c : List UInt8} (h : numOf a 5 = none) : aboutOf k y [a, b, c] = none := by
  simp only [aboutOf, h]
theorem about_b {k : Int} {y : Bool} {a b c : List UInt8} (h : numOf b 3 = none) : aboutOf k y [a, b, c] = none := by
  simp only [aboutOf, h]
  cases numOf a 5 <;> rfl
theorem about_c {k : Int} {y : Bool} {a b c : List UInt8} (h : numOf c 1048576 = none) : aboutOf k y [a, b, c] = none := by
  simp only [aboutOf, h]
  cases numOf a 5 <;> cases numOf b 3 <;> rfl
def odd : List (List UInt8) := [[], [76, 105, 115, 116], [108, 105, 115, 116, 32, 49], [115, 116, 97, 116, 117, 115], [115, 116, 97, 116, 117, 115, 32, 48, 32, 48], [115, 116, 97, 116, 117, 115, 32, 48, 32, 48, 32, 45, 49], [115, 116, 97, 116, 117, 115, 32, 48, 32, 48, 32, 48, 49], [115, 116, 97, 116, 117, 115, 32, 54, 32, 48, 32, 49], [115, 116, 97, 116, 117, 115, 32, 48, 32, 52, 32, 49], [115, 116, 97, 116, 117, 115, 32, 48, 32, 48, 32, 49, 48, 52, 56, 53, 55, 55], [102, 111, 114, 99, 101, 32, 48, 32, 48, 32, 49], [102, 111, 114, 99, 101, 32, 48, 32, 48, 32, 49, 32, 109, 97, 121, 98, 101], [102, 111, 114, 99, 101, 32, 48, 32, 48, 32, 49, 32, 32, 99, 111, 109, 109, 105, 116], [97, 117, 100, 105, 116, 10]]
theorem stat_of {l : List UInt8} {a b c : List UInt8} (h : spl l = [wStatus, a, b, c]) : wordsOf (spl l) = aboutOf 2 false [a, b, c] := by
  rw [h]
  rfl
theorem odd_bad (i : Nat) (hi : i < 14) : lineErr (odd.getD i []) = 4 ∧ lineCmd (odd.getD i []) = Cmd.nil := by
  rcases (by omega : i = 0 ∨ i = 1 ∨ i = 2 ∨ i = 3 ∨ i = 4 ∨ i = 5 ∨ i = 6 ∨ i = 7 ∨ i = 8 ∨ i = 9 ∨ i = 10 ∨ i = 11 ∨ i = 12 ∨ i = 13) with rfl | rfl | rfl | rfl | rfl | rfl | rfl | rfl | rfl | rfl | rfl | rfl | rfl | rfl
  · exact bad_of (by rfl) (by decide)
  · exact bad_of (by rfl) (by decide)
  · exact bad_of (by rfl) (by decide)
  · exact bad_of (by rfl) (by decide)
  · exact bad_of (by rfl) (by decide)
  · exact bad_of ((stat_of (a := [48]) (b := [48]) (c := [45, 49]) (by rfl)).trans (about_c (num_out (v := -1) (by decide) (by omega)))) (by decide)
  · refine bad_of ((stat_of (a := [48]) (b := [48]) (c := [48, 49]) (by rfl)).trans (about_c ?_)) (by decide)
    have h1 : Lib.atoiAll [48, 49] = .ok 1 := by decide
    have h2 : Lib.itoa 1 = [49] := by
      have := Lib.itoa_nonneg 1
      rw [Lib.decDigits_one (by omega)] at this
      exact this
    unfold numOf
    rw [h1]
    simp only
    rw [if_neg]
    rw [h2]
    intro h
    exact absurd h.1 (by decide)
  · exact bad_of ((stat_of (a := [54]) (b := [48]) (c := [49]) (by rfl)).trans (about_a (num_out (v := 6) (by decide) (by omega)))) (by decide)
  · exact bad_of ((stat_of (a := [48]) (b := [52]) (c := [49]) (by rfl)).trans (about_b (num_out (v := 4) (by decide) (by omega)))) (by decide)
  · exact bad_of ((stat_of (a := [48]) (b := [48]) (c := [49, 48, 52, 56, 53, 55, 55]) (by rfl)).trans (about_c (num_out (v := 1048577) (by decide) (by omega)))) (by decide)
  · exact bad_of (by rfl) (by decide)
  · exact bad_of (by rfl) (by decide)
  · exact bad_of (by rfl) (by decide)
  · exact bad_of (by rfl) (by decide)
end Go.Proofs.YtgohpgollpjlnaaDoor.Cn
/- Numbers as bytes, the highest first, and back; bytes read off a front, one number behind the other: plain data, nothing of the program. -/
namespace Go.Proofs.YtgohpgollpjlnaaDoor
open Go.ChangeShapes Go.WideShapes Go.ChangeAt Go.RowKit

def be (n : Int) : Nat → List Int
  | 0 => []
  | k + 1 => n / 256 ^ k % 256 :: be n k
def bval (bs : List Int) : Int := bs.foldl (fun a b => a * 256 + b) 0
def Byt (bs : List Int) : Prop := ∀ b ∈ bs, 0 ≤ b ∧ b < 256

theorem be_len (n : Int) (k : Nat) : (be n k).length = k := by
  induction k with
  | zero => rfl
  | succ k ih => simp [be, ih]
theorem be_byt (n : Int) (k : Nat) : Byt (be n k) := by
  induction k with
  | zero => intro b hb; simp [be] at hb
  | succ k ih =>
    intro b hb
    rcases List.mem_cons.1 hb with rfl | hb
    · exact ⟨Int.emod_nonneg _ (by decide), Int.emod_lt_of_pos _ (by decide)⟩
    · exact ih b hb
theorem be_snoc (n : Int) (k : Nat) : be n (k + 1) = be (n / 256) k ++ [n % 256] := by
  induction k with
  | zero => simp [be]
  | succ k ih =>
    rw [be, ih]
    conv => rhs; rw [be]
    rw [Int.ediv_ediv_of_nonneg (by decide), List.cons_append, Int.pow_succ, Int.mul_comm]
theorem bval_nil : bval [] = 0 := rfl
theorem bval_snoc (bs : List Int) (b : Int) : bval (bs ++ [b]) = bval bs * 256 + b := by simp [bval]
theorem bval_be : ∀ (k : Nat) (n : Int), 0 ≤ n → n < 256 ^ k → bval (be n k) = n := by
  intro k
  induction k with
  | zero => intro n h0 h1; simp at h1; simp [be, bval]; omega
  | succ k ih =>
    intro n h0 h1
    rw [be_snoc, bval_snoc, ih (n / 256) (by omega) (by rw [Int.pow_succ] at h1; omega)]
    omega
theorem bval_bd : ∀ (k : Nat) (bs : List Int), bs.length = k → Byt bs → 0 ≤ bval bs ∧ bval bs < 256 ^ k := by
  intro k
  induction k with
  | zero => intro bs h _; obtain rfl := List.length_eq_zero_iff.1 h; simp [bval]
  | succ k ih =>
    intro bs h hb
    have hne : bs ≠ [] := by intro e; rw [e] at h; simp at h
    obtain ⟨l, b, rfl⟩ : ∃ l b, bs = l ++ [b] := ⟨bs.dropLast, bs.getLast hne, (List.dropLast_concat_getLast hne).symm⟩
    have h1 := ih l (by simpa using h) (fun x hx => hb x (by simp [hx]))
    have h2 := hb b (by simp)
    rw [bval_snoc, Int.pow_succ]
    omega
theorem be_bval : ∀ (k : Nat) (bs : List Int), bs.length = k → Byt bs → be (bval bs) k = bs := by
  intro k
  induction k with
  | zero => intro bs h _; obtain rfl := List.length_eq_zero_iff.1 h; rfl
  | succ k ih =>
    intro bs h hb
    have hne : bs ≠ [] := by intro e; rw [e] at h; simp at h
    obtain ⟨l, b, rfl⟩ : ∃ l b, bs = l ++ [b] := ⟨bs.dropLast, bs.getLast hne, (List.dropLast_concat_getLast hne).symm⟩
    have h1 := ih l (by simpa using h) (fun x hx => hb x (by simp [hx]))
    have h2 := hb b (by simp)
    rw [bval_snoc, be_snoc, show (bval l * 256 + b) / 256 = bval l by omega, show (bval l * 256 + b) % 256 = b by omega, h1]
theorem bval_one (b : Int) : bval [b] = b := by simp [bval]
theorem be_one {n : Int} (h0 : 0 ≤ n) (h1 : n < 256) : be n 1 = [n] := by simp [be]; omega

theorem or_join {x y : Int} (hx0 : 0 ≤ x) (hx1 : x < 4294967296) (hy0 : 0 ≤ y) (hy1 : y < 256) : bits .or .i64 (x * 256) y = x * 256 + y :=
  bits_join .i64 63 (by decide) (fun n h0 h1 => by simp [IntKind.wrap, IntKind.bits, IntKind.signed]; omega) 8 (x * 256) y (by omega) (by omega) (by omega) hy0 (by omega) (by omega)

/-! ### Off a front -/
structure RS where
  rest : List Int
  wrong : Int

def RS.refuse (r : RS) (e : Int) : RS := if r.wrong = 0 then ⟨r.rest, e⟩ else r
def RS.short (r : RS) (k : Nat) : RS := if r.rest.length < k then r.refuse 5 else r
def RS.num (r : RS) (k : Nat) : Int × RS := if (r.short k).wrong = 0 then (bval (r.rest.take k), ⟨r.rest.drop k, 0⟩) else (0, r.short k)

theorem num_ok {r : RS} {k : Nat} (h : r.wrong = 0) (hk : k ≤ r.rest.length) : r.num k = (bval (r.rest.take k), ⟨r.rest.drop k, 0⟩) := by
  have : ¬ r.rest.length < k := by omega
  simp [RS.num, RS.short, this, h]
theorem num_short {r : RS} {k : Nat} (h : r.wrong = 0) (hk : r.rest.length < k) : r.num k = (0, ⟨r.rest, 5⟩) := by
  simp [RS.num, RS.short, RS.refuse, hk, h]
theorem num_wrong {r : RS} {k : Nat} (h : r.wrong ≠ 0) : r.num k = (0, r) := by
  unfold RS.num RS.short RS.refuse
  by_cases hk : r.rest.length < k <;> simp [hk, h]
theorem num_app {n : Int} {k : Nat} {t : List Int} (h0 : 0 ≤ n) (h1 : n < 256 ^ k) : (RS.mk (be n k ++ t) 0).num k = (n, ⟨t, 0⟩) := by
  rw [num_ok rfl (by simp [be_len])]
  simp [be_len, bval_be k n h0 h1]
end Go.Proofs.YtgohpgollpjlnaaDoor
/- Bytes in memory: a slice of bytes as it comes in, or as the call made it; an append of one to a row of the call's own; the string of one. -/
namespace Go.Proofs.YtgohpgollpjlnaaDoor
open Go.ChangeShapes Go.WideShapes Go.ChangeAt Go.RowKit
set_option linter.unusedVariables false

theorem byteInfo : (Tryd.prog.info? 5).map (fun i => (i.zero, i.size, i.bytes)) = some (some (.int .u8 0), 1, 1) := by kernel_rfl

def bytesV (bs : List Int) : List Value := bs.map (Value.int .u8)

/-- Bytes that a slice holds. -/
def IsB (w : World) (a : Option Addr) (len cap : Nat) (bs : List Int) : Prop :=
  bs.length = len ∧ len ≤ cap ∧ cap ≤ maxLen ∧ Byt bs ∧ (a = none → cap = 0) ∧
    (0 < len → ∃ b off, a = some ⟨b, off, none⟩ ∧ b < w.heap.size ∧ ∀ i, i < len → w.cell? ⟨b, off + i, none⟩ = some (.int .u8 (bs.getD i 0)))

theorem adr_add (b off i : Nat) : (⟨b, off, none⟩ : Addr).add i = ⟨b, off + i, none⟩ := by
  unfold Addr.add
  by_cases h : i = 0 <;> simp [h]

theorem IsB.below {w w' : World} {a : Option Addr} {len cap : Nat} {bs : List Int} (h : IsB w a len cap bs) (hb : Below w.heap.size w w') : IsB w' a len cap bs := by
  obtain ⟨h1, h2, h3, hbd, hn, h4⟩ := h
  refine ⟨h1, h2, h3, hbd, hn, fun hp => ?_⟩
  obtain ⟨b, off, e, hlt, hl⟩ := h4 hp
  refine ⟨b, off, e, Nat.lt_of_lt_of_le hlt hb.size, fun i hi => ?_⟩
  rw [hb.cell (p := ⟨b, off + i, none⟩) hlt]
  exact hl i hi

theorem IsB.grown {w w' : World} {a : Option Addr} {len cap : Nat} {bs : List Int} {row : Option Nat} (h : IsB w a len cap bs) (hg : w.grownBy w' row) (hne : ∀ b off, a = some ⟨b, off, none⟩ → some b ≠ row) : IsB w' a len cap bs := by
  obtain ⟨h1, h2, h3, hbd, hn, h4⟩ := h
  refine ⟨h1, h2, h3, hbd, hn, fun hp => ?_⟩
  obtain ⟨b, off, e, hlt, hl⟩ := h4 hp
  refine ⟨b, off, e, Nat.lt_of_lt_of_le hlt hg.size, fun i hi => ?_⟩
  rw [World.cell?_of_block (a := ⟨b, off + i, none⟩) (hg.block b hlt (hne b off e))]
  exact hl i hi

theorem IsB.set {w : World} {a : Option Addr} {len cap : Nat} {bs : List Int} (h : IsB w a len cap bs) (p : Addr) (v : Value) (hne : ∀ b off, a = some ⟨b, off, none⟩ → b ≠ p.block) : IsB (w.setCell p v) a len cap bs := by
  obtain ⟨h1, h2, h3, hbd, hn, h4⟩ := h
  refine ⟨h1, h2, h3, hbd, hn, fun hp => ?_⟩
  obtain ⟨b, off, e, hlt, hl⟩ := h4 hp
  refine ⟨b, off, e, by simpa using hlt, fun i hi => ?_⟩
  rw [World.cell?_of_block (a := ⟨b, off + i, none⟩) (Below.heap_setCell w p v b (hne b off e))]
  exact hl i hi

theorem isB_nil (w : World) : IsB w none 0 0 [] := ⟨rfl, Nat.le_refl _, Nat.zero_le _, fun b hb => by simp at hb, fun _ => rfl, fun h => absurd h (by omega)⟩

theorem isB_own {w : World} {B : Nat} {v : Value} {n : Nat} {bs : List Int} (h : w.ownsRow B 5 1 v n (bytesV bs)) (hb : Byt bs) :
    ∃ a cap, v = .slice a n cap ∧ IsB w a n cap bs ∧ (∀ b off, a = some ⟨b, off, none⟩ → B ≤ b) ∧ (∀ b, a = some b → v.ownBlock = some b.block) := by
  have hlen : bs.length = n := by have := h.1; simpa [bytesV] using this
  rcases h.2 with ⟨rfl, rfl⟩ | ⟨g, cap, cur, rfl, hg, hcur, h1, h2, h3, h4⟩
  · refine ⟨none, 0, rfl, ?_, fun b off e => by simp at e, fun b e => by simp at e⟩
    obtain rfl : bs = [] := List.length_eq_zero_iff.1 hlen
    exact isB_nil w
  · refine ⟨some ⟨g, 0, none⟩, cap, rfl, ⟨hlen, h1, h2, hb, fun e => by simp at e, fun hp => ⟨g, 0, rfl, (h.lt g rfl).2, fun i hi => ?_⟩⟩, fun b off e => by simp at e; omega, fun b e => by simp at e; subst e; rfl⟩
    have hx := h.cells (g := g) rfl i (.int .u8 (bs.getD i 0)) (by simp [bytesV, List.getD, show i < bs.length by omega])
    rwa [adr_add] at hx

theorem Byt.take {bs : List Int} (h : Byt bs) (n : Nat) : Byt (bs.take n) := fun b hb => h b (List.mem_of_mem_take hb)
theorem Byt.drop {bs : List Int} (h : Byt bs) (n : Nat) : Byt (bs.drop n) := fun b hb => h b (List.mem_of_mem_drop hb)
theorem Byt.app {a b : List Int} (h : Byt a) (k : Byt b) : Byt (a ++ b) := fun x hx => by rcases List.mem_append.1 hx with hx | hx; exact h x hx; exact k x hx

theorem IsB.take {w : World} {a : Option Addr} {len cap : Nat} {bs : List Int} (h : IsB w a len cap bs) (k c : Nat) (hk : k ≤ len) (hkc : k ≤ c) (hc : c ≤ cap) : IsB w a k c (bs.take k) := by
  obtain ⟨h1, h2, h3, hbd, hn, h4⟩ := h
  refine ⟨by simp; omega, hkc, by omega, hbd.take k, fun e => by have := hn e; omega, fun hp => ?_⟩
  obtain ⟨b, off, e, hlt, hl⟩ := h4 (by omega)
  refine ⟨b, off, e, hlt, fun i hi => ?_⟩
  rw [hl i (by omega)]
  simp [List.getD, hi]

theorem isB_one (w : World) (x : Int) (h0 : 0 ≤ x) (h1 : x < 256) : IsB (w.alloc (.cells #[.int .u8 x] 5)) (some ⟨w.heap.size, 0, none⟩) 1 1 [x] := by
  refine ⟨rfl, Nat.le_refl _, by unfold maxLen; omega, fun b hb => by simp at hb; omega, fun e => by simp at e, fun _ => ⟨w.heap.size, 0, rfl, by simp, fun i hi => ?_⟩⟩
  obtain rfl : i = 0 := by omega
  go_simp

/-- A row more: what one appends the bytes of a slice to. -/
theorem run_append_bytes {w : World} (ty : TypeId) (B : Nat) (v : Value) (n : Nat) (xs : List Int) (hown : w.ownsRow B 5 1 v n (bytesV xs))
    (a : Option Addr) (len cap : Nat) (bs : List Int) (hs : IsB w a len cap bs) (h63 : n + len ≤ 140737488355328) (hbase : B ≤ w.heap.size) :
    ∃ v' w', (Builtin.append_ #[42, 42] ty #[v, .slice a len cap]).run Tryd.prog w = .ok v' w' ∧ w'.ownsRow B 5 1 v' (n + len) (bytesV (xs ++ bs)) ∧ w.grownBy w' v.ownBlock ∧
      (v'.ownBlock = v.ownBlock ∨ v'.ownBlock = some w.heap.size) := by
  obtain ⟨i0, hi, li0, li1, li2⟩ := info_parts byteInfo
  obtain ⟨h1, h2, h3, hbd, hn, h4⟩ := hs
  cases a with
  | none =>
    have := hn rfl
    subst this
    obtain rfl : len = 0 := by omega
    obtain rfl : bs = [] := List.length_eq_zero_iff.1 h1
    have hrun := run_append_owned_none (P := Tryd.prog) (w := w) B 42 ty 5 i0 1 Tryd.underlying42 hi v n (bytesV xs) hown
    exact ⟨v, w, hrun, by simpa using hown, World.grownBy.refl _ _, .inl rfl⟩
  | some ad =>
    have hc : ∀ j u, (bytesV bs)[j]? = some u → w.cell? (ad.add j) = some u := by
      intro j u hu
      have hj : j < bs.length := by
        have := (List.getElem?_eq_some_iff.1 hu).1
        simpa [bytesV] using this
      obtain ⟨b, off, e, hlt, hl⟩ := h4 (by omega)
      cases e
      rw [adr_add, hl j (by omega), ← hu]
      simp [bytesV, List.getD, hj]
    obtain ⟨v', w', hr, k2, k3, _, k5⟩ := run_append_own_at (P := Tryd.prog) w B 42 ty 5 i0 (.int .u8 0) 1 1 Tryd.underlying42 hi li0 li1 li2 rfl (by decide) v n (bytesV xs) hown ad len cap (bytesV bs)
      (by simp [bytesV, h1]) hc (ints_oneCell .u8 bs) (by unfold maxLen; omega) (by omega) hbase
    exact ⟨v', w', hr, by simpa [bytesV] using k2, k3, k5⟩

theorem wpList_append_bytes {w : World} {ops : Array Oper} {rest : List Oper} {o : Oper} {A : Act} {Q : Exit → Act → World → Prop} (hgd : o.guard = none) (s x : Operand)
    (ho : o.op = .call { callee := .builtin .append, args := #[s, x], argTypes := #[42, 42] })
    (B : Nat) (v : Value) (n : Nat) (xs : List Int) (hs : A.eval s = v) (hown : w.ownsRow B 5 1 v n (bytesV xs))
    (a : Option Addr) (len cap : Nat) (bs : List Int) (hx : A.eval x = .slice a len cap) (hb : IsB w a len cap bs) (h63 : n + len ≤ 140737488355328) (hbase : B ≤ w.heap.size)
    (h : ∀ v' w', w'.ownsRow B 5 1 v' (n + len) (bytesV (xs ++ bs)) → w.grownBy w' v.ownBlock → (v'.ownBlock = v.ownBlock ∨ v'.ownBlock = some w.heap.size) → wpList Tryd.prog ops Q rest (A.put o.dst v') w') :
    wpList Tryd.prog ops Q (o :: rest) A w := by
  refine wpList_plain hgd fun K hK => ?_
  obtain ⟨v', w', hr, h2, h3, h4⟩ := run_append_bytes (w := w) o.type B v n xs hown a len cap bs hb h63 hbase
  unfold Oper.wp execOp
  simp only [ho, resolve, invoke, builtin, Sem.run_bind, Sem.run_pure, Result.andThen_ok, List.map_toArray, List.map_cons, List.map_nil, hs, hx, hr]
  exact hK _ _ (h v' w' h2 h3 h4)

theorem own_slice {w : World} {B : Nat} {e : TypeId} {size : Nat} {v : Value} {n : Nat} {xs : List Value} (h : w.ownsRow B e size v n xs) : ∃ a cap, v = .slice a n cap := by
  rcases h.2 with ⟨rfl, rfl⟩ | ⟨g, cap, cur, rfl, _⟩
  · exact ⟨none, 0, rfl⟩
  · exact ⟨_, cap, rfl⟩

/-- The same at a step of a region that draws its order; the new value written out. -/
theorem step_append_bytes {w : World} {ops : Array Oper} {o : Oper} {A : Act} {K : Act → World → Prop} {Q : Exit → Act → World → Prop} {E : Prop} (hgd : o.guard = none) (s x : Operand)
    (ho : o.op = .call { callee := .builtin .append, args := #[s, x], argTypes := #[42, 42] })
    (B : Nat) (v : Value) (n : Nat) (xs : List Int) (hs : A.eval s = v) (hown : w.ownsRow B 5 1 v n (bytesV xs))
    (a : Option Addr) (len cap : Nat) (bs : List Int) (hx : A.eval x = .slice a len cap) (hb : IsB w a len cap bs) (h63 : n + len ≤ 140737488355328) (hbase : B ≤ w.heap.size)
    (h : ∀ a' cap' w', w'.ownsRow B 5 1 (.slice a' (n + len) cap') (n + len) (bytesV (xs ++ bs)) → w.grownBy w' v.ownBlock → ((Value.slice a' (n + len) cap').ownBlock = v.ownBlock ∨ (Value.slice a' (n + len) cap').ownBlock = some w.heap.size) → K (A.put o.dst (.slice a' (n + len) cap')) w') :
    if Region.wanted o (yielded ops A.tmps) = true then Oper.wp Tryd.prog o A w K Q else E := by
  have hw : Region.wanted o (yielded ops A.tmps) = true := by simp [Region.wanted, hgd]
  rw [if_pos hw]
  obtain ⟨v', w', hr, h2, h3, h4⟩ := run_append_bytes (w := w) o.type B v n xs hown a len cap bs hb h63 hbase
  obtain ⟨a', cap', rfl⟩ := own_slice h2
  unfold Oper.wp execOp
  simp only [ho, resolve, invoke, builtin, Sem.run_bind, Sem.run_pure, Result.andThen_ok, List.map_toArray, List.map_cons, List.map_nil, hs, hx, hr]
  exact h a' cap' w' h2 h3 h4

theorem isB_slice {w : World} {B : Nat} {a : Option Addr} {n cap : Nat} {bs : List Int} (h : w.ownsRow B 5 1 (.slice a n cap) n (bytesV bs)) (hb : Byt bs) : IsB w a n cap bs ∧ (∀ b off, a = some ⟨b, off, none⟩ → B ≤ b) := by
  obtain ⟨a', cap', e, h1, h2, _⟩ := isB_own h hb
  simp only [Value.slice.injEq, true_and] at e
  obtain ⟨rfl, rfl⟩ := e
  exact ⟨h1, h2⟩

theorem own_bel {w w' : World} {base : Nat} {e : TypeId} {size : Nat} {v : Value} {n : Nat} {xs : List Value} (h : w.ownsRow base e size v n xs) (hb : Below w.heap.size w w') : w'.ownsRow base e size v n xs :=
  h.kept (row := none) ⟨hb.os, hb.tape, hb.output, hb.size, fun k hk _ => hb.block k hk⟩ (by cases hv : v.ownBlock <;> simp)

/-- The string of bytes. -/
def strOf (bs : List Int) : ByteArray := ⟨(bs.map fun n => UInt8.ofNat n.toNat).toArray⟩

theorem strOf_inj {a b : List Int} (ha : Byt a) (hb : Byt b) (h : strOf a = strOf b) : a = b := by
  have h' : (a.map fun n => UInt8.ofNat n.toNat) = (b.map fun n => UInt8.ofNat n.toNat) := by
    have := congrArg (fun x : ByteArray => x.data.toList) h
    simpa [strOf] using this
  clear h
  induction a generalizing b with
  | nil => cases b with
    | nil => rfl
    | cons y b => simp at h'
  | cons x a ih =>
    cases b with
    | nil => simp at h'
    | cons y b =>
      simp only [List.map_cons, List.cons.injEq] at h'
      have hx := ha x (by simp)
      have hy := hb y (by simp)
      have e : x.toNat = y.toNat := by
        have := congrArg UInt8.toNat h'.1
        simp only [UInt8.toNat_ofNat'] at this
        omega
      rw [show x = y by omega, ih (fun z hz => ha z (by simp [hz])) (fun z hz => hb z (by simp [hz])) h'.2]

theorem run_string {w : World} {a : Option Addr} {len cap : Nat} {bs : List Int} (h : IsB w a len cap bs) :
    (convert 42 9 (.slice a len cap)).run Tryd.prog w = .ok (.string (strOf bs)) w := by
  obtain ⟨h1, h2, h3, hbd, hn, h4⟩ := h
  cases a with
  | none =>
    have := hn rfl
    subst this
    obtain rfl : len = 0 := by omega
    obtain rfl : bs = [] := List.length_eq_zero_iff.1 h1
    rw [run_convert_bytes_string w 42 9 5 none 0 0 Tryd.underlying42 Tryd.underlying5 Tryd.underlying9]
    rfl
  | some ad =>
    have hl : (bs.map fun n => UInt8.ofNat n.toNat).length = len := by simp [h1]
    have k := run_convert_bytes_back (P := Tryd.prog) w 42 9 5 ad cap (bs.map fun n => UInt8.ofNat n.toNat) Tryd.underlying42 Tryd.underlying5 Tryd.underlying9 (fun j hj => by
      rw [hl] at hj
      obtain ⟨b, off, e, hlt, hc⟩ := h4 (by omega)
      cases e
      rw [adr_add, hc j hj]
      have hj' : j < bs.length := by omega
      have hb := hbd bs[j] (List.getElem_mem hj')
      simp only [List.getElem_map, List.getD, List.getElem?_eq_getElem hj', Option.getD_some]
      congr 2
      simp only [UInt8.toNat_ofNat']
      omega)
    rw [hl] at k
    exact k

end Go.Proofs.YtgohpgollpjlnaaDoor
