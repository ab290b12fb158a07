/- Texts of this claim, one behind the other. -/
import Derived.Test.YtgohpgollpjlnaaDoorM11ConsoleShows
import Derived.Test.YtgohpgollpjlnaaDoorM8ConsoleShows
import Derived.Test.YtgohpgollpjlnaaDoorA0ConsoleShows
import Derived.Laws.BitsLemmas
import Derived.Test.YtgohpgollpjlnaaDoorM2ConsoleShows
/- What a tick makes of doubts, on plain data. -/
namespace Go.Proofs.YtgohpgollpjlnaaDoor.St
open Go.ChangeShapes Go.WideShapes Go.ChangeAt Go.RowKit
set_option linter.unusedVariables false

def agedD (p : Int) (d : DbV) : DbV := if p ≤ d.age + 1 then ⟨d.t, 0⟩ else ⟨d.t, d.age + 1⟩
def toldT (p : Int) (ds : List DbV) : List (Int × Int) := (ds.filter (fun d => decide (p ≤ d.age + 1))).map (fun d => d.t)
def ageErr (s : SV) (p : Int) : Int := if storeOK s then (if inR p 1 1048576 then 0 else 2) else 9
def PS.nil : PS := ⟨[], [], [], []⟩
def ageData (s : SV) (p : Int) : PS := if ageErr s p = 0 then ⟨s.items, s.locks, s.doubts.map (agedD p), s.over⟩ else PS.nil
def ageTold (s : SV) (p : Int) : List (Int × Int) := if ageErr s p = 0 then toldT p s.doubts else []
theorem mid_get {α : Type} [Inhabited α] (f : α → α) (ds : List α) {k : Nat} (hk : k < ds.length) : ((ds.take k).map f ++ ds.drop k).getD k default = ds.getD k default := by
  have h1 : ((ds.take k).map f).length = k := by simp; omega
  simp only [List.getD]
  rw [List.getElem?_append_right (by omega), h1, Nat.sub_self, List.getElem?_drop, Nat.add_zero]
theorem mid_set {α : Type} [Inhabited α] (f : α → α) (ds : List α) {k : Nat} (hk : k < ds.length) : ((ds.take k).map f ++ ds.drop k).set k (f (ds.getD k default)) = (ds.take (k + 1)).map f ++ ds.drop (k + 1) := by
  have h1 : ((ds.take k).map f).length = k := by simp; omega
  rw [List.set_append_right _ _ (by omega), h1, Nat.sub_self, drop_at hk, List.set_cons_zero, take_at hk]
  simp
theorem told_at (p : Int) (ds : List DbV) {k : Nat} (hk : k < ds.length) : toldT p (ds.take (k + 1)) = toldT p (ds.take k) ++ (if p ≤ (ds.getD k default).age + 1 then [(ds.getD k default).t] else []) := by
  unfold toldT
  rw [take_at hk, List.filter_append, List.map_append]
  congr 1
  generalize ds.getD k default = d
  by_cases h : p ≤ d.age + 1 <;> simp [h]
theorem told_len (p : Int) (ds : List DbV) : (toldT p ds).length ≤ ds.length := by
  unfold toldT
  rw [List.length_map]
  exact List.length_filter_le ..
theorem onceD_len (ls : List LkV) (ov : List (Int × Int)) : ∀ (r seen : List DbV), doubtsGo ls ov seen r = true → ∀ d ∈ r, inR d.age 0 1048576 = true ∧ ls.any (ofT d.t) = true
  | [], seen, _, d, hd => by simp at hd
  | x :: r, seen, h, d, hd => by
    simp only [doubtsGo, Bool.and_eq_true] at h
    rcases List.mem_cons.1 hd with rfl | hd
    · exact ⟨h.1.1.1.1, h.1.1.1.2⟩
    · exact onceD_len ls ov r _ h.2 d hd
/-- Doubts that may be: each once, each with a lock. -/
theorem doubts_nodup (ls : List LkV) (ov : List (Int × Int)) : ∀ (r seen : List DbV), doubtsGo ls ov seen r = true → (r.map (fun d => d.t)).Nodup ∧ (∀ d ∈ r, ∀ e ∈ seen, e.t ≠ d.t)
  | [], seen, _ => by simp
  | x :: r, seen, h => by
    simp only [doubtsGo, Bool.and_eq_true] at h
    obtain ⟨h1, h2⟩ := doubts_nodup ls ov r _ h.2
    have hx : ∀ e ∈ seen, e.t ≠ x.t := fun e he hh => by
      have h3 := h.1.1.2
      have : seen.any (dbT x.t) = true := List.any_eq_true.2 ⟨e, he, by simp [dbT, hh]⟩
      rw [this] at h3
      simp at h3
    refine ⟨?_, fun d hd e he => ?_⟩
    · simp only [List.map_cons, List.nodup_cons]
      refine ⟨fun hm => ?_, h1⟩
      obtain ⟨d, hd, he⟩ := List.mem_map.1 hm
      exact h2 d hd x (by simp) he.symm
    · rcases List.mem_cons.1 hd with rfl | hd
      · exact hx e he
      · exact h2 d hd e (by simp [he])
theorem items_len : ∀ (l : List ItV) (lo : Int), itemsOK lo l = true → l = [] ∨ lo + (l.length : Int) ≤ 8
  | [], lo, _ => .inl rfl
  | x :: r, lo, h => by
    simp only [itemsOK, Bool.and_eq_true] at h
    have hk := inR_of h.1.1.1
    right
    rcases items_len r _ h.2 with rfl | h2
    · simp; omega
    · simp only [List.length_cons]; omega
theorem nodup_sub {α : Type} [DecidableEq α] : ∀ (a b : List α), a.Nodup → (∀ x ∈ a, x ∈ b) → a.length ≤ b.length
  | [], b, _, _ => by simp
  | x :: r, b, hn, hs => by
    simp only [List.nodup_cons] at hn
    have hx := hs x (by simp)
    have h1 := nodup_sub r (b.erase x) hn.2 (fun y hy => (List.mem_erase_of_ne (fun (e : y = x) => hn.1 (by rw [← e]; exact hy))).2 (hs y (by simp [hy])))
    rw [List.length_erase_of_mem hx] at h1
    have : 0 < b.length := List.length_pos_of_mem hx
    simp only [List.length_cons]
    omega
theorem ok_parts {s : SV} (h : storeOK s = true) : itemsOK 0 s.items = true ∧ locksOK s.locks = true ∧ overGo [] s.over = true ∧ doubtsOK s.doubts s.locks s.over = true := by
  unfold storeOK at h
  simp only [Bool.and_eq_true] at h
  exact ⟨h.1.1.1, h.1.1.2, h.1.2, h.2⟩
theorem ok_sizes {w : World} {s : SV} (h : storeOK s = true) (hw : IsStore w s) : s.il ≤ 8 ∧ s.ll ≤ 24 ∧ s.dl ≤ 24 := by
  obtain ⟨h1, h2, h3, h4⟩ := ok_parts h
  have l24 : s.locks.length ≤ 24 := by
    unfold locksOK at h2
    simp only [Bool.and_eq_true, decide_eq_true_eq] at h2
    exact h2.1
  rw [← hw.items.1, ← hw.locks.1, ← hw.doubts.1]
  refine ⟨?_, l24, ?_⟩
  · rcases items_len _ _ h1 with e | e
    · rw [e]; simp
    · omega
  · unfold doubtsOK at h4
    simp only [Bool.and_eq_true] at h4
    obtain ⟨n1, _⟩ := doubts_nodup _ _ _ _ h4.1
    have := nodup_sub _ (s.locks.map (fun k => k.t)) n1 (fun t ht => by
      obtain ⟨d, hd, rfl⟩ := List.mem_map.1 ht
      obtain ⟨k, hk, e⟩ := List.any_eq_true.1 (onceD_len _ _ _ _ h4.1 d hd).2
      simp [ofT] at e
      exact List.mem_map.2 ⟨k, hk, e⟩)
    simp only [List.length_map] at this
    omega
theorem ok_ages {s : SV} (h : storeOK s = true) : ∀ d ∈ s.doubts, 0 ≤ d.age ∧ d.age ≤ 1048576 := by
  obtain ⟨h1, h2, h3, h4⟩ := ok_parts h
  unfold doubtsOK at h4
  simp only [Bool.and_eq_true] at h4
  exact fun d hd => inR_of (onceD_len _ _ _ _ h4.1 d hd).1
theorem getD_mem {α : Type} [Inhabited α] {l : List α} {i : Nat} (h : i < l.length) : l.getD i default ∈ l := by
  simp [List.getD, h]
theorem wrap_in' {n : Int} (h : -9223372036854775808 ≤ n ∧ n ≤ 9223372036854775807) : IntKind.i64.wrap n = n := by
  rw [IntKind.wrap_i64]
  omega

theorem wrap_in {n : Int} (h1 : -9223372036854775808 ≤ n) (h2 : n ≤ 9223372036854775807) : IntKind.i64.wrap n = n := wrap_in' ⟨h1, h2⟩
theorem set_getD {α : Type} [Inhabited α] (xs : List α) (k : Nat) (y : α) (hk : k < xs.length) : (xs.set k y).getD k default = y := by
  simp [List.getD, hk]
theorem ne_own {v : Value} {g B : Nat} (h : ∀ q, v.ownBlock = some q → B ≤ q) (hg : g < B) : v.ownBlock = none ∨ v.ownBlock ≠ some g := by
  cases e : v.ownBlock with
  | none => exact .inl rfl
  | some q => exact .inr fun e2 => by simp at e2; have := h q e; omega
end Go.Proofs.YtgohpgollpjlnaaDoor.St
/- Numbers as bytes, the highest first, and back; bytes read off a front, one number behind the other: plain data, nothing of the program. -/
namespace Go.Proofs.YtgohpgollpjlnaaDoor
open Go.ChangeShapes Go.WideShapes Go.ChangeAt Go.RowKit

def be (n : Int) : Nat → List Int
  | 0 => []
  | k + 1 => n / 256 ^ k % 256 :: be n k
def bval (bs : List Int) : Int := bs.foldl (fun a b => a * 256 + b) 0
def Byt (bs : List Int) : Prop := ∀ b ∈ bs, 0 ≤ b ∧ b < 256

theorem be_len (n : Int) (k : Nat) : (be n k).length = k := by
  induction k with
  | zero => rfl
  | succ k ih => simp [be, ih]
theorem be_byt (n : Int) (k : Nat) : Byt (be n k) := by
  induction k with
  | zero => intro b hb; simp [be] at hb
  | succ k ih =>
    intro b hb
    rcases List.mem_cons.1 hb with rfl | hb
    · exact ⟨Int.emod_nonneg _ (by decide), Int.emod_lt_of_pos _ (by decide)⟩
    · exact ih b hb
theorem be_snoc (n : Int) (k : Nat) : be n (k + 1) = be (n / 256) k ++ [n % 256] := by
  induction k with
  | zero => simp [be]
  | succ k ih =>
    rw [be, ih]
    conv => rhs; rw [be]
    rw [Int.ediv_ediv_of_nonneg (by decide), List.cons_append, Int.pow_succ, Int.mul_comm]
theorem bval_nil : bval [] = 0 := rfl
theorem bval_snoc (bs : List Int) (b : Int) : bval (bs ++ [b]) = bval bs * 256 + b := by simp [bval]
theorem bval_be : ∀ (k : Nat) (n : Int), 0 ≤ n → n < 256 ^ k → bval (be n k) = n := by
  intro k
  induction k with
  | zero => intro n h0 h1; simp at h1; simp [be, bval]; omega
  | succ k ih =>
    intro n h0 h1
    rw [be_snoc, bval_snoc, ih (n / 256) (by omega) (by rw [Int.pow_succ] at h1; omega)]
    omega
theorem bval_bd : ∀ (k : Nat) (bs : List Int), bs.length = k → Byt bs → 0 ≤ bval bs ∧ bval bs < 256 ^ k := by
  intro k
  induction k with
  | zero => intro bs h _; obtain rfl := List.length_eq_zero_iff.1 h; simp [bval]
  | succ k ih =>
    intro bs h hb
    have hne : bs ≠ [] := by intro e; rw [e] at h; simp at h
    obtain ⟨l, b, rfl⟩ : ∃ l b, bs = l ++ [b] := ⟨bs.dropLast, bs.getLast hne, (List.dropLast_concat_getLast hne).symm⟩
    have h1 := ih l (by simpa using h) (fun x hx => hb x (by simp [hx]))
    have h2 := hb b (by simp)
    rw [bval_snoc, Int.pow_succ]
    omega
theorem be_bval : ∀ (k : Nat) (bs : List Int), bs.length = k → Byt bs → be (bval bs) k = bs := by
  intro k
  induction k with
  | zero => intro bs h _; obtain rfl := List.length_eq_zero_iff.1 h; rfl
  | succ k ih =>
    intro bs h hb
    have hne : bs ≠ [] := by intro e; rw [e] at h; simp at h
    obtain ⟨l, b, rfl⟩ : ∃ l b, bs = l ++ [b] := ⟨bs.dropLast, bs.getLast hne, (List.dropLast_concat_getLast hne).symm⟩
    have h1 := ih l (by simpa using h) (fun x hx => hb x (by simp [hx]))
    have h2 := hb b (by simp)
    rw [bval_snoc, be_snoc, show (bval l * 256 + b) / 256 = bval l by omega, show (bval l * 256 + b) % 256 = b by omega, h1]
theorem bval_one (b : Int) : bval [b] = b := by simp [bval]
theorem be_one {n : Int} (h0 : 0 ≤ n) (h1 : n < 256) : be n 1 = [n] := by simp [be]; omega

theorem or_join {x y : Int} (hx0 : 0 ≤ x) (hx1 : x < 4294967296) (hy0 : 0 ≤ y) (hy1 : y < 256) : bits .or .i64 (x * 256) y = x * 256 + y :=
  bits_join .i64 63 (by decide) (fun n h0 h1 => by simp [IntKind.wrap, IntKind.bits, IntKind.signed]; omega) 8 (x * 256) y (by omega) (by omega) (by omega) hy0 (by omega) (by omega)

/-! ### Off a front -/
structure RS where
  rest : List Int
  wrong : Int

def RS.refuse (r : RS) (e : Int) : RS := if r.wrong = 0 then ⟨r.rest, e⟩ else r
def RS.short (r : RS) (k : Nat) : RS := if r.rest.length < k then r.refuse 5 else r
def RS.num (r : RS) (k : Nat) : Int × RS := if (r.short k).wrong = 0 then (bval (r.rest.take k), ⟨r.rest.drop k, 0⟩) else (0, r.short k)

theorem num_ok {r : RS} {k : Nat} (h : r.wrong = 0) (hk : k ≤ r.rest.length) : r.num k = (bval (r.rest.take k), ⟨r.rest.drop k, 0⟩) := by
  have : ¬ r.rest.length < k := by omega
  simp [RS.num, RS.short, this, h]
theorem num_short {r : RS} {k : Nat} (h : r.wrong = 0) (hk : r.rest.length < k) : r.num k = (0, ⟨r.rest, 5⟩) := by
  simp [RS.num, RS.short, RS.refuse, hk, h]
theorem num_wrong {r : RS} {k : Nat} (h : r.wrong ≠ 0) : r.num k = (0, r) := by
  unfold RS.num RS.short RS.refuse
  by_cases hk : r.rest.length < k <;> simp [hk, h]
theorem num_app {n : Int} {k : Nat} {t : List Int} (h0 : 0 ≤ n) (h1 : n < 256 ^ k) : (RS.mk (be n k ++ t) 0).num k = (n, ⟨t, 0⟩) := by
  rw [num_ok rfl (by simp [be_len])]
  simp [be_len, bval_be k n h0 h1]
end Go.Proofs.YtgohpgollpjlnaaDoor
/- Messages on plain data: their parts, which kind has which, whether one may be, and its bytes. -/
namespace Go.Proofs.YtgohpgollpjlnaaDoor
open Go.ChangeShapes Go.WideShapes Go.ChangeAt Go.RowKit

def plc (l : Int) (n : Nat) : Bool := decide (0 ≤ l ∧ l < (n : Int))
theorem plc_true {l : Int} {n : Nat} (h : plc l n = true) : 0 ≤ l ∧ l < (n : Int) := by simpa [plc] using h
theorem plc_false {l : Int} {n : Nat} (h : plc l n = false) : l < 0 ∨ (n : Int) ≤ l := by simp [plc] at h; omega

def bit (b : Bool) : Int := if b then 1 else 0

structure MV where
  kind : Int
  frm : Int
  dst : Int
  site : Int
  num : Int
  label : Int
  key : Int
  value : Int
  version : Int
  ask : Int
  yes : Bool
  code : Int

def MV.val (m : MV) : Value := .agg #[.int .i64 m.kind, .int .i64 m.frm, .int .i64 m.dst, .int .i64 m.site, .int .i64 m.num, .int .i64 m.label, .int .i64 m.key, .int .i64 m.value, .int .i64 m.version, .int .i64 m.ask, .bool m.yes, .int .i64 m.code]

def MV.parts (m : MV) : List Int := [m.label, m.key, m.value, m.version, m.ask, bit m.yes, m.code, 0]

def mHas : List (List Bool) :=
  [[false, false, false, false, false, false, false, false],
   [true, true, false, false, true, false, false, false],
   [false, true, true, false, true, false, false, false],
   [true, true, false, true, false, false, false, false],
   [false, false, false, false, false, true, false, false],
   [true, true, true, true, true, false, true, false],
   [false, true, false, false, true, false, true, false],
   [true, true, false, true, false, true, false, false],
   [false, false, false, false, false, false, false, false],
   [false, false, false, false, false, false, false, false]]
def rHas : List (List Bool) :=
  [[false, false, false, false, false, false, false, false],
   [false, true, true, false, true, false, false, false],
   [false, false, false, false, false, true, false, false],
   [false, false, false, false, false, false, false, true],
   [false, false, false, false, false, false, false, false],
   [false, false, false, false, false, false, false, false],
   [false, false, false, false, false, true, false, false]]
def topL : List Int := [5, 7, 1073741824, 1048576, 1048576, 1, 11, 4]
def widL : List Nat := [1, 1, 4, 3, 3, 1, 1, 1]

def mHasOf (k : Int) : List Bool := mHas.getD k.toNat []
def rHasOf (k : Int) : List Bool := rHas.getD k.toNat []

/-- All that is not 0 is among what there is. -/
def hasAll : List Bool → List Int → Bool
  | h :: hs, p :: ps => (p == 0 || h) && hasAll hs ps
  | _, _ => true
/-- Each part is from 0 to its top. -/
def inTops : List Int → List Int → Bool
  | t :: ts, p :: ps => inR p 0 t && inTops ts ps
  | _, _ => true
def isCd (n : Int) : Bool := n == 0 || n == 11 || n == 8
def partsOK (n : Nat) (p : List Int) : Bool := inTops topL p && plc (p.getD 0 0) n && isCd (p.getD 6 0)
def txnOK (s site num : Int) : Bool := inR site 0 (s - 1) && inR num 1 1048576

def msgRange (s : Int) (n : Nat) (m : MV) : Bool := inR m.frm 0 (s - 1) && inR m.dst 0 (s - 1) && txnOK s m.site m.num && partsOK n m.parts
def msgForm (m : MV) : Bool := hasAll (mHasOf m.kind) m.parts && (m.code == 0 || (m.value == 0 && m.version == 0))
def msgFault (s : Int) (ls : List (Int × Int)) (p : Int) (m : MV) : Int :=
  if cfgFault s ls p ≠ 0 then cfgFault s ls p else if inR m.kind 1 9 = false then 3 else if msgRange s ls.length m = false then 2 else if msgForm m = false then 4 else 0

theorem mf_cfg {s : Int} {ls : List (Int × Int)} {p : Int} {m : MV} (h : cfgFault s ls p ≠ 0) : msgFault s ls p m = cfgFault s ls p := by simp [msgFault, h]
theorem mf_kind {s : Int} {ls : List (Int × Int)} {p : Int} {m : MV} (h : cfgFault s ls p = 0) (hk : inR m.kind 1 9 = false) : msgFault s ls p m = 3 := by simp [msgFault, h, hk]
theorem mf_range {s : Int} {ls : List (Int × Int)} {p : Int} {m : MV} (h : cfgFault s ls p = 0) (hk : inR m.kind 1 9 = true) (hr : msgRange s ls.length m = false) : msgFault s ls p m = 2 := by simp [msgFault, h, hk, hr]
theorem mf_form {s : Int} {ls : List (Int × Int)} {p : Int} {m : MV} (h : cfgFault s ls p = 0) (hk : inR m.kind 1 9 = true) (hr : msgRange s ls.length m = true) (hf : msgForm m = false) : msgFault s ls p m = 4 := by simp [msgFault, h, hk, hr, hf]
theorem mf_ok {s : Int} {ls : List (Int × Int)} {p : Int} {m : MV} (h : cfgFault s ls p = 0) (hk : inR m.kind 1 9 = true) (hr : msgRange s ls.length m = true) (hf : msgForm m = true) : msgFault s ls p m = 0 := by simp [msgFault, h, hk, hr, hf]

/-- The parts that there are, as bytes. -/
def encParts : List Bool → List Nat → List Int → List Int
  | h :: hs, w :: ws, p :: ps => (if h then be p w else []) ++ encParts hs ws ps
  | _, _, _ => []
def msgBytes (m : MV) : List Int := [m.kind, m.frm, m.dst, m.site] ++ be m.num 3 ++ encParts (mHasOf m.kind) widL m.parts

theorem kind_cases {k : Int} (h : inR k 1 9 = true) : k = 1 ∨ k = 2 ∨ k = 3 ∨ k = 4 ∨ k = 5 ∨ k = 6 ∨ k = 7 ∨ k = 8 ∨ k = 9 := by
  have := inR_of h
  omega
end Go.Proofs.YtgohpgollpjlnaaDoor
