/- Texts of this claim, one behind the other. -/
import Derived.Test.YtgohpgollpjlnaaDoorM2ConsoleReads
import Derived.Laws.OwnMore
import Derived.Laws.AppendOwn
import Derived.Deep.AppendLies
import Derived.Test.YtgohpgollpjlnaaDoorRows
import Derived.HandedShaped
import Derived.Handed
import Derived.Lib.SplitLaws
import Derived.Lib.AtoiAll
import Derived.Lib.ItoaMem
/- append of all elements of a slice to a row of the call's own: elements of several cells. -/
namespace Go.Proofs.YtgohpgollpjlnaaDoor.St
open Go.ChangeShapes Go.WideShapes Go.ChangeAt Go.RowKit
set_option linter.unusedVariables false

/-- What is known of an element's type. -/
structure Elem {α : Type} (k : Nat) (cells : α → List Value) (te tsl : TypeId) (i : TypeInfo) (z : Value) (bytes : Nat) : Prop where
  len : ∀ x, (cells x).length = k
  pos : 0 < k
  one : ∀ x, ∀ u ∈ cells x, u.oneCell' = true
  sl : Tryd.prog.underlying tsl = some (.slice te)
  info : Tryd.prog.info? te = some i
  zero : i.zero = some z
  size : i.size = k
  byts : i.bytes = bytes
  zs : z.cells.size = k

theorem flat_one' {α : Type} {k : Nat} {cells : α → List Value} (hone : ∀ x, ∀ u ∈ cells x, u.oneCell' = true) (xs : List α) : ∀ u ∈ flat cells xs, u.oneCell' = true := by
  intro u hu
  simp only [flat, List.mem_flatMap] at hu
  obtain ⟨x, _, h⟩ := hu
  exact hone x u h
theorem row_lies {α : Type} [Inhabited α] {k : Nat} {cells : α → List Value} (hk : ∀ x, (cells x).length = k) (hp : 0 < k) {w : World} {ad : Addr} {len cap : Nat} {xs : List α} (h : IsRow k cells w (some ad) len cap xs) : ∀ j u, (flat cells xs)[j]? = some u → w.cell? (ad.add j) = some u := by
  intro j u hu
  have hj : j < (flat cells xs).length := (List.getElem?_eq_some_iff.1 hu).1
  rw [flat_len hk, h.1] at hj
  have hl : 0 < len := by
    rcases Nat.eq_zero_or_pos len with h0 | h0
    · subst h0; simp at hj
    · exact h0
  obtain ⟨b', off', e, _, hc⟩ := h.2.2.2.2 hl
  cases e
  have h1 : j / k < len := (Nat.div_lt_iff_lt_mul hp).2 hj
  have hm : j % k < k := Nat.mod_lt _ hp
  have h2 := hc (j / k) h1 (j % k) hm
  have h3 := flat_get hk xs (j / k) (by rw [h.1]; exact h1) (j % k) hm
  have e : j / k * k + j % k = j := by rw [Nat.mul_comm]; exact Nat.div_add_mod j k
  rw [e] at h3
  have e2 : off' + j = off' + j / k * k + j % k := by rw [Nat.add_assoc, e]
  rw [adr_add, e2, h2, ← h3, hu]

theorem run_append_row {α : Type} [Inhabited α] {k : Nat} {cells : α → List Value} {te tsl : TypeId} {i : TypeInfo} {z : Value} {bytes : Nat} (E : Elem k cells te tsl i z bytes) {w : World} (ty : TypeId) (B : Nat) (v : Value) (n : Nat) (xs : List α) (hown : w.ownsRow B te k v n (flat cells xs))
    (a : Option Addr) (len cap : Nat) (bs : List α) (hs : IsRow k cells w a len cap bs) (h63 : n + len ≤ maxLen) (hby : (n + len) * bytes ≤ 140737488355328) (hbase : B ≤ w.heap.size) :
    ∃ a' cap' w', (Builtin.append_ #[tsl, tsl] ty #[v, .slice a len cap]).run Tryd.prog w = .ok (.slice a' (n + len) cap') w' ∧ w'.ownsRow B te k (.slice a' (n + len) cap') (n + len) (flat cells (xs ++ bs)) ∧ w.grownBy w' v.ownBlock ∧
      ((Value.slice a' (n + len) cap').ownBlock = v.ownBlock ∨ (Value.slice a' (n + len) cap').ownBlock = some w.heap.size) := by
  have hs' := hs
  obtain ⟨h1, h2, h3, hn, h4⟩ := hs
  cases a with
  | none =>
    have := hn rfl
    subst this
    obtain rfl : len = 0 := by omega
    obtain rfl : bs = [] := List.length_eq_zero_iff.1 h1
    have hrun := run_append_owned_none (P := Tryd.prog) (w := w) B tsl ty te i k E.sl E.info v n (flat cells xs) hown
    obtain ⟨a', cap', rfl, _⟩ := own_form hown
    exact ⟨a', cap', w, hrun, by simpa using hown, World.grownBy.refl _ _, .inl rfl⟩
  | some ad =>
    obtain ⟨v', w', hr, k2, k3, _, k5⟩ := run_append_own_at (P := Tryd.prog) w B tsl ty te i z k bytes E.sl E.info E.zero E.size E.byts E.zs E.pos v n (flat cells xs) hown ad len cap (flat cells bs)
      (by rw [flat_len E.len, h1]) (row_lies E.len E.pos hs') (flat_one' (k := k) E.one bs) h63 hby hbase
    obtain ⟨a', cap', rfl, _⟩ := own_form k2
    exact ⟨a', cap', w', hr, by rw [flat_append]; exact k2, k3, k5⟩

theorem wpList_append_row {α : Type} [Inhabited α] {k : Nat} {cells : α → List Value} {te tsl : TypeId} {i : TypeInfo} {z : Value} {bytes : Nat} (E : Elem k cells te tsl i z bytes) {w : World} {ops : Array Oper} {rest : List Oper} {o : Oper} {A : Act} {Q : Exit → Act → World → Prop} (hgd : o.guard = none) (s x : Operand)
    (ho : o.op = .call { callee := .builtin .append, args := #[s, x], argTypes := #[tsl, tsl] })
    (B : Nat) (v : Value) (n : Nat) (xs : List α) (hs : A.eval s = v) (hown : w.ownsRow B te k v n (flat cells xs))
    (a : Option Addr) (len cap : Nat) (bs : List α) (hx : A.eval x = .slice a len cap) (hb : IsRow k cells w a len cap bs) (h63 : n + len ≤ maxLen) (hby : (n + len) * bytes ≤ 140737488355328) (hbase : B ≤ w.heap.size)
    (h : ∀ a' cap' w', w'.ownsRow B te k (.slice a' (n + len) cap') (n + len) (flat cells (xs ++ bs)) → w.grownBy w' v.ownBlock → ((Value.slice a' (n + len) cap').ownBlock = v.ownBlock ∨ (Value.slice a' (n + len) cap').ownBlock = some w.heap.size) → wpList Tryd.prog ops Q rest (A.put o.dst (.slice a' (n + len) cap')) w') :
    wpList Tryd.prog ops Q (o :: rest) A w := by
  refine wpList_plain hgd fun K hK => ?_
  obtain ⟨a', cap', w', hr, h2, h3, h4⟩ := run_append_row E (w := w) o.type B v n xs hown a len cap bs hb h63 hby hbase
  unfold Oper.wp execOp
  simp only [ho, resolve, invoke, builtin, Sem.run_bind, Sem.run_pure, Result.andThen_ok, List.map_toArray, List.map_cons, List.map_nil, hs, hx, hr]
  exact hK _ _ (h a' cap' w' h2 h3 h4)

/-- The same at a step of a region that draws its order. -/
theorem step_append_row {α : Type} [Inhabited α] {k : Nat} {cells : α → List Value} {te tsl : TypeId} {i : TypeInfo} {z : Value} {bytes : Nat} (E : Elem k cells te tsl i z bytes) {w : World} {ops : Array Oper} {o : Oper} {A : Act} {K : Act → World → Prop} {Q : Exit → Act → World → Prop} {F : Prop} (hgd : o.guard = none) (s x : Operand)
    (ho : o.op = .call { callee := .builtin .append, args := #[s, x], argTypes := #[tsl, tsl] })
    (B : Nat) (v : Value) (n : Nat) (xs : List α) (hs : A.eval s = v) (hown : w.ownsRow B te k v n (flat cells xs))
    (a : Option Addr) (len cap : Nat) (bs : List α) (hx : A.eval x = .slice a len cap) (hb : IsRow k cells w a len cap bs) (h63 : n + len ≤ maxLen) (hby : (n + len) * bytes ≤ 140737488355328) (hbase : B ≤ w.heap.size)
    (h : ∀ a' cap' w', w'.ownsRow B te k (.slice a' (n + len) cap') (n + len) (flat cells (xs ++ bs)) → w.grownBy w' v.ownBlock → ((Value.slice a' (n + len) cap').ownBlock = v.ownBlock ∨ (Value.slice a' (n + len) cap').ownBlock = some w.heap.size) → K (A.put o.dst (.slice a' (n + len) cap')) w') :
    if Region.wanted o (yielded ops A.tmps) = true then Oper.wp Tryd.prog o A w K Q else F := by
  have hw : Region.wanted o (yielded ops A.tmps) = true := by simp [Region.wanted, hgd]
  rw [if_pos hw]
  obtain ⟨a', cap', w', hr, h2, h3, h4⟩ := run_append_row E (w := w) o.type B v n xs hown a len cap bs hb h63 hby hbase
  unfold Oper.wp execOp
  simp only [ho, resolve, invoke, builtin, Sem.run_bind, Sem.run_pure, Result.andThen_ok, List.map_toArray, List.map_cons, List.map_nil, hs, hx, hr]
  exact h a' cap' w' h2 h3 h4
end Go.Proofs.YtgohpgollpjlnaaDoor.St
/- The wrap of a law's claim that keeps both the listed tables' condition and the world's shape. -/
namespace Go.Proofs.YtgohpgollpjlnaaDoor
open Go
variable {H : Type} {enc : TypeId × Value → H}

theorem returnsBoth {a : Assume} {C : Checked} {os : Os} {f : FuncId} {fn : Func} {s : ChangeSpec} {conds : List PathCond} {apart fresh handsOn again : Bool} {X : World → Array Value → Prop}
    (hX : ∀ (w w' : World) (args : Array Value), w.heap = w'.heap → X w args → X w' args)
    (own : ownKnob C.prog.godebug = none) (started : os.Started) (noInit : C.prog.inits.idxOf? f = none) (hfn : C.prog.funcs[f]? = some fn)
    (witness : ∃ (w : World) (tape : Tape) (i : Input), w.os = os ∧ (w.forCall tape i).Shaped C.prog ∧ i.vars = [] ∧ Input.okWide C.prog (w.forCall tape i) .any w.heap.size f i ∧
      ((s.pre enc C.prog fn conds apart (w.forCall tape i).memory i.args ∧ X (w.forCall tape i).memory i.args) ∧ sizedMet enc C.prog fn (OpenSpec.ofChange s) apart (w.forCall tape i).memory i.args) ∧ a.holds C.prog (lone (Frame.enter C.prog f i.args .normal) [] (w.forCall tape i)))
    (contract : ∀ (W : World) (base : Nat) (args : Array Value) (ds gs : List (DataW H)) (before : List MemPlace),
      (∀ (j : Nat) t v, fn.params[j]? = some t → args[j]? = some v → Value.okWide C.prog W .any base t v) →
      DataW.Whole enc C.prog fn.params.toList s.vars apart W args.toList ds gs before →
      conds.all (PathCond.test C.prog ⟨fn.params.toList, ds, s.plain.varTypes C.prog, gs⟩) = true →
      (DataW.weightsEach C.prog (fn.params.toList ++ s.plain.varTypes C.prog) (ds ++ gs)).all (· ≤ reachBytes) = true → X W args →
      W.ShapedOpen C.prog →
      a.holds C.prog (lone (Frame.enter C.prog f args .normal) [] W) →
      Calls C.prog f args W fun e W' => ∃ v, e = .returned v ∧ s.post enc C.prog fn apart fresh handsOn again W args v W') :
    ReturnsInHanded a C os f .any (fun w args => (s.pre enc C.prog fn conds apart w args ∧ X w args) ∧ sizedMet enc C.prog fn (OpenSpec.ofChange s) apart w args) (s.post enc C.prog fn apart fresh handsOn again) := by
  refine returnsInHanded_of_calls own started noInit witness ?_
  intro w tape i _ hsh _ hok hpre hholds
  obtain ⟨_, _, _, fn', hfn', _, _, _, _, hval⟩ := hok
  have e : fn' = fn := Option.some.inj (hfn'.symm.trans hfn)
  subst e
  obtain ⟨⟨⟨ds, gs, before, hw, hc⟩, hx⟩, hz⟩ := hpre
  have hw' := DataW.Whole.of_heap (w' := w.forCall tape i) (by rfl) hw
  refine (contract (w.forCall tape i) w.heap.size i.args ds gs before hval hw' hc (hz.weights hw) (hX _ _ _ (by rfl) hx) hsh hholds).mono fun e W' ⟨v, he, hp⟩ => ?_
  subst he
  exact ChangeSpec.post_blind hp
end Go.Proofs.YtgohpgollpjlnaaDoor
/- What an operator types, on plain data: words parted by blanks, numbers as they are written. -/
namespace Go.Proofs.YtgohpgollpjlnaaDoor.Cn
open Go
set_option linter.unusedVariables false

/-- Words, parted by single blanks. -/
def spl : List UInt8 → List (List UInt8)
  | [] => [[]]
  | c :: r => if c = 32 then [] :: spl r else match spl r with
    | [] => [[c]]
    | x :: xs => (c :: x) :: xs
theorem spl_ne (l : List UInt8) : spl l ≠ [] := by
  cases l with
  | nil => simp [spl]
  | cons c r =>
    rw [spl]
    split
    · simp
    · split <;> simp
theorem spl_none {l : List UInt8} (h : ∀ c ∈ l, c ≠ 32) : spl l = [l] := by
  induction l with
  | nil => rfl
  | cons c r ih =>
    rw [spl, if_neg (h c (by simp)), ih (fun x hx => h x (by simp [hx]))]
theorem spl_blank (a r : List UInt8) (h : ∀ c ∈ a, c ≠ 32) : spl (a ++ 32 :: r) = a :: spl r := by
  induction a with
  | nil => simp [spl]
  | cons c t ih =>
    rw [List.cons_append, spl, if_neg (h c (by simp)), ih (fun x hx => h x (by simp [hx]))]
theorem index_none {l : List UInt8} (h : ∀ c ∈ l, c ≠ 32) : Lib.index l [32] = -1 := by
  induction l with
  | nil => rfl
  | cons c r ih =>
    have hp : ([32] : List UInt8).isPrefixOf (c :: r) = false := by simp [List.isPrefixOf, Ne.symm (h c (by simp))]
    rw [Lib.index, hp, ih (fun x hx => h x (by simp [hx]))]
    rfl
theorem index_blank (a r : List UInt8) (h : ∀ c ∈ a, c ≠ 32) : Lib.index (a ++ 32 :: r) [32] = (a.length : Int) := by
  induction a with
  | nil =>
    rw [List.nil_append, Lib.index]
    simp [List.isPrefixOf]
  | cons c t ih =>
    have hp : ([32] : List UInt8).isPrefixOf (c :: (t ++ 32 :: r)) = false := by simp [List.isPrefixOf, Ne.symm (h c (by simp))]
    rw [List.cons_append, Lib.index, hp, ih (fun x hx => h x (by simp [hx]))]
    have : ¬ ((t.length : Int) == -1) = true := fun e => by have := beq_iff_eq.1 e; omega
    simp only [Bool.false_eq_true, if_false, if_neg this, List.length_cons]
    omega
theorem first_blank (l : List UInt8) : (∀ c ∈ l, c ≠ 32) ∨ ∃ a r, l = a ++ 32 :: r ∧ ∀ c ∈ a, c ≠ 32 := by
  induction l with
  | nil => exact Or.inl (by simp)
  | cons c t ih =>
    by_cases hc : c = 32
    · exact Or.inr ⟨[], t, by simp [hc], by simp⟩
    · rcases ih with h | ⟨a, r, rfl, h⟩
      · exact Or.inl fun x hx => by rcases List.mem_cons.1 hx with rfl | hx; exact hc; exact h x hx
      · exact Or.inr ⟨c :: a, r, by simp, fun x hx => by rcases List.mem_cons.1 hx with rfl | hx; exact hc; exact h x hx⟩
theorem split_spl : ∀ (n : Nat) (l : List UInt8), l.length ≤ n → Lib.splitK [32] 0 (Lib.count l [32]) l = spl l := by
  intro n
  induction n with
  | zero =>
    intro l hl
    cases l with
    | nil => rfl
    | cons c r => simp at hl
  | succ n ih =>
    intro l hl
    rcases first_blank l with h | ⟨a, r, rfl, h⟩
    · rw [Lib.count_miss (index_none h), spl_none h]
      rfl
    · have hi := index_blank a r h
      have hd : (a ++ 32 :: r).drop (a.length + ([32] : List UInt8).length) = r := by simp
      rw [Lib.count_hit (by simp) hi, hd, Nat.add_comm, Lib.splitK, hi]
      have hm : ¬ ((a.length : Int) == -1) = true := fun e => by have := beq_iff_eq.1 e; omega
      rw [if_neg hm, spl_blank a r h]
      simp only [Int.toNat_natCast, Nat.add_zero]
      rw [hd, ih r (by simp at hl; omega)]
      simp
/-- A number, as it is written, from 0 to most. -/
def numOf (l : List UInt8) (most : Int) : Option Int := match Lib.atoiAll l with
  | .ok v => if Lib.itoa v = l ∧ 0 ≤ v ∧ v ≤ most then some v else none
  | _ => none
structure Cmd where
  kind : Int
  label : Int
  site : Int
  num : Int
  yes : Bool
  deriving DecidableEq
def Cmd.nil : Cmd := ⟨0, 0, 0, 0, false⟩
def Cmd.val (c : Cmd) : Value := .agg #[.int .i64 c.kind, .int .i64 c.label, .int .i64 c.site, .int .i64 c.num, .bool c.yes]
def aboutOf (kind : Int) (yes : Bool) : List (List UInt8) → Option Cmd
  | [a, b, c] => match numOf a 5, numOf b 3, numOf c 1048576 with
    | some x, some y, some z => some ⟨kind, x, y, z, yes⟩
    | _, _, _ => none
  | _ => none
def wList : List UInt8 := [108, 105, 115, 116]
def wAudit : List UInt8 := [97, 117, 100, 105, 116]
def wStatus : List UInt8 := [115, 116, 97, 116, 117, 115]
def wForce : List UInt8 := [102, 111, 114, 99, 101]
def wCommit : List UInt8 := [99, 111, 109, 109, 105, 116]
def wAbort : List UInt8 := [97, 98, 111, 114, 116]
def forceOf : List (List UInt8) → Option Cmd
  | [a, b, c, d] => if d = wCommit then aboutOf 3 true [a, b, c] else if d = wAbort then aboutOf 3 false [a, b, c] else none
  | _ => none
def wordsOf : List (List UInt8) → Option Cmd
  | [] => none
  | name :: ws => if name = wList then (if ws = [] then some ⟨1, 0, 0, 0, false⟩ else none)
    else if name = wAudit then (if ws = [] then some ⟨4, 0, 0, 0, false⟩ else none)
    else if name = wStatus then aboutOf 2 false ws
    else if name = wForce then forceOf ws
    else none
/-- What a line means, and why it is refused. -/
def lineErr (l : List UInt8) : Int := if 60 < l.length then 1 else if (wordsOf (spl l)).isSome then 0 else 4
def lineCmd (l : List UInt8) : Cmd := if 60 < l.length then Cmd.nil else (wordsOf (spl l)).getD Cmd.nil
/-- A number's digits are read as that number. -/
theorem digit_ok (d : Nat) (h : d < 10) : 48 ≤ (UInt8.ofNat (48 + d)).toNat ∧ (UInt8.ofNat (48 + d)).toNat ≤ 57 ∧ (UInt8.ofNat (48 + d)).toNat - 48 = d := by
  have : (UInt8.ofNat (48 + d)).toNat = 48 + d := by simp; omega
  rw [this]
  omega
theorem parse_snoc (l : List UInt8) (c : UInt8) : ∀ (acc u : Nat), Lib.parseUint10 acc l = .ok u → Lib.parseUint10 acc (l ++ [c]) = Lib.parseUint10 u [c] := by
  induction l with
  | nil => intro acc u h; simp only [Lib.parseUint10] at h; injection h with h; subst h; rfl
  | cons x r ih =>
    intro acc u h
    rw [List.cons_append]
    simp only [Lib.parseUint10] at h ⊢
    split at h
    · split at h
      · cases h
      · split at h
        · cases h
        · rename_i h1 h2 h3
          rw [if_pos h1, if_neg h2, if_neg h3]
          have := ih _ _ h
          rw [this]
          simp only [Lib.parseUint10]
    · cases h
theorem parse_dec : ∀ (n u : Nat), u ≤ n → u < 18446744073709551616 → Lib.parseUint10 0 (Lib.decDigits u) = .ok u := by
  intro n
  induction n with
  | zero =>
    intro u hu _
    obtain rfl : u = 0 := by omega
    rw [Lib.decDigits, dif_pos (by omega)]
    rfl
  | succ n ih =>
    intro u hu h64
    by_cases h : u < 10
    · obtain ⟨a1, a2, a3⟩ := digit_ok u h
      rw [Lib.decDigits, dif_pos h]
      simp only [Lib.parseUint10]
      rw [if_pos ⟨a1, a2⟩, if_neg (by omega), if_neg (by omega)]
      simp only [a3]
      congr 1
      omega
    · obtain ⟨a1, a2, a3⟩ := digit_ok (u % 10) (by omega)
      rw [Lib.decDigits, dif_neg h, parse_snoc _ _ 0 (u / 10) (ih (u / 10) (by omega) (by omega))]
      simp only [Lib.parseUint10]
      rw [if_pos ⟨a1, a2⟩, if_neg (by omega), if_neg (by omega)]
      simp only [a3]
      congr 1
      omega
theorem dec_digit : ∀ (n u : Nat), u ≤ n → ∀ c ∈ Lib.decDigits u, 48 ≤ c.toNat ∧ c.toNat ≤ 57 := by
  intro n
  induction n with
  | zero =>
    intro u hu c hc
    obtain rfl : u = 0 := by omega
    rw [Lib.decDigits, dif_pos (by omega)] at hc
    simp at hc
    subst hc
    decide
  | succ n ih =>
    intro u hu c hc
    by_cases h : u < 10
    · rw [Lib.decDigits, dif_pos h] at hc
      simp only [List.mem_cons, List.not_mem_nil, or_false] at hc
      subst hc
      exact ⟨(digit_ok u h).1, (digit_ok u h).2.1⟩
    · rw [Lib.decDigits, dif_neg h] at hc
      rcases List.mem_append.1 hc with hc | hc
      · exact ih (u / 10) (by omega) c hc
      · simp only [List.mem_cons, List.not_mem_nil, or_false] at hc
        subst hc
        exact ⟨(digit_ok (u % 10) (by omega)).1, (digit_ok (u % 10) (by omega)).2.1⟩
theorem dec_ne (u : Nat) : Lib.decDigits u ≠ [] := fun h => by
  have := Lib.decDigits_length u
  rw [h] at this
  have := Lib.nDigits_pos u
  simp at *
  omega
theorem atoi_dec {u : Nat} (h : u < 9223372036854775808) : Lib.atoiAll (Lib.decDigits u) = .ok (u : Int) := by
  have hd := dec_digit u u (Nat.le_refl _)
  have hp := parse_dec u u (Nat.le_refl _) (by omega)
  have hne := dec_ne u
  revert hd hp hne
  generalize Lib.decDigits u = l
  intro hd hp hne
  cases l with
  | nil => exact absurd rfl hne
  | cons c r =>
    have hc := hd c (by simp)
    unfold Lib.atoiAll
    simp only
    rw [if_neg (by omega)]
    unfold Lib.parseMag
    rw [if_neg (by simp), hp]
    simp only
    rw [if_neg (by omega), if_neg (by omega), if_neg (by omega)]
theorem num_itoa {v most : Int} (h0 : 0 ≤ v) (h1 : v ≤ most) (h2 : most ≤ 9223372036854775807) : numOf (Lib.itoa v) most = some v := by
  obtain ⟨u, rfl⟩ : ∃ u : Nat, v = (u : Int) := ⟨v.toNat, by omega⟩
  have e : Lib.itoa (u : Int) = Lib.decDigits u := Lib.itoa_nonneg u
  unfold numOf
  rw [e, atoi_dec (by omega)]
  simp only
  rw [if_pos ⟨e, by omega, h1⟩]
theorem itoa_noblank {v : Int} (h0 : 0 ≤ v) : ∀ c ∈ Lib.itoa v, c ≠ 32 := by
  obtain ⟨u, rfl⟩ : ∃ u : Nat, v = (u : Int) := ⟨v.toNat, by omega⟩
  rw [Lib.itoa_nonneg u]
  intro c hc e
  have := dec_digit u u (Nat.le_refl _) c hc
  subst e
  simp at this
end Go.Proofs.YtgohpgollpjlnaaDoor.Cn
