/- Texts of this claim, one behind the other. -/
import Derived.Test.YtekglahigjblkaaGreatDoorM4RecoverRebuilds
import Derived.Deep.AppendLies
import Derived.Laws.AppendOwnNone
import Derived.Laws.OwnMore
import Derived.Laws.AppendOwn
/- Rows that a call makes of its own: elements of several cells, one behind the other; append of one, and of all of a slice. -/
namespace Go.Proofs.YtekglahigjblkaaGreatDoor.St
open Go.ChangeShapes Go.WideShapes Go.ChangeAt Go.RowKit
set_option linter.unusedVariables false

theorem adr_add (b off i : Nat) : (⟨b, off, none⟩ : Addr).add i = ⟨b, off + i, none⟩ := by
  unfold Addr.add
  by_cases h : i = 0 <;> simp [h]
def flat {α : Type} (cells : α → List Value) (xs : List α) : List Value := xs.flatMap cells
theorem flat_append {α : Type} (cells : α → List Value) (xs ys : List α) : flat cells (xs ++ ys) = flat cells xs ++ flat cells ys := by simp [flat]
theorem flat_len {α : Type} {cells : α → List Value} {k : Nat} (hk : ∀ x, (cells x).length = k) (xs : List α) : (flat cells xs).length = xs.length * k := by
  induction xs with
  | nil => simp [flat]
  | cons x r ih =>
    simp only [flat, List.flatMap_cons, List.length_append, List.length_cons] at *
    rw [ih, hk]
    rw [Nat.add_mul]
    omega
theorem flat_get {α : Type} [Inhabited α] {cells : α → List Value} {k : Nat} (hk : ∀ x, (cells x).length = k) : ∀ (xs : List α) (i : Nat), i < xs.length → ∀ j, j < k → (flat cells xs)[i * k + j]? = (cells (xs.getD i default))[j]? := by
  intro xs
  induction xs with
  | nil => intro i hi; simp at hi
  | cons x r ih =>
    intro i hi j hj
    have e : flat cells (x :: r) = cells x ++ flat cells r := by simp [flat]
    rw [e]
    cases i with
    | zero =>
      rw [List.getElem?_append_left (by rw [hk]; omega)]
      simp
    | succ i =>
      rw [List.getElem?_append_right (by rw [hk, Nat.add_mul]; omega), hk]
      have : (i + 1) * k + j - k = i * k + j := by rw [Nat.add_mul]; omega
      rw [this, ih i (by simpa using hi) j hj]
      simp
theorem own_form {w : World} {B : Nat} {e : TypeId} {size : Nat} {v : Value} {n : Nat} {xs : List Value} (h : w.ownsRow B e size v n xs) : ∃ a cap, v = .slice a n cap ∧ n ≤ cap ∧ cap ≤ maxLen ∧ (a = none → cap = 0) := by
  rcases h.2 with ⟨rfl, rfl⟩ | ⟨g, cap, cur, rfl, _, _, h1, h2, _⟩
  · exact ⟨none, 0, rfl, Nat.le_refl _, Nat.zero_le _, fun _ => rfl⟩
  · exact ⟨_, cap, rfl, h1, h2, fun e => by simp at e⟩
theorem own_below {w w' : World} {base : Nat} {e : TypeId} {size : Nat} {v : Value} {n : Nat} {xs : List Value} (h : w.ownsRow base e size v n xs) (hb : Below w.heap.size w w') : w'.ownsRow base e size v n xs :=
  h.kept (row := none) ⟨hb.os, hb.tape, hb.output, hb.size, fun k hk _ => hb.block k hk⟩ (by cases hv : v.ownBlock <;> simp)
/-- What a call owns is there to be read. -/
theorem own_isRow {α : Type} [Inhabited α] {k : Nat} {cells : α → List Value} (hk : ∀ x, (cells x).length = k) {w : World} {B : Nat} {te : TypeId} {a : Option Addr} {n cap : Nat} {xs : List α} (h : w.ownsRow B te k (.slice a n cap) n (flat cells xs)) (hn : xs.length = n) :
    IsRow k cells w a n cap xs ∧ ∀ b off, a = some ⟨b, off, none⟩ → B ≤ b ∧ b < w.heap.size := by
  obtain ⟨a', cap', e, h1, h2, h3⟩ := own_form h
  simp at e
  obtain ⟨rfl, rfl⟩ := e
  refine ⟨⟨hn, h1, h2, h3, fun hp => ?_⟩, fun b off e => ?_⟩
  · rcases h.2 with ⟨_, h0⟩ | ⟨g, cap2, cur, hv, hb, hg, _⟩
    · omega
    · simp at hv
      obtain ⟨rfl, rfl⟩ := hv
      refine ⟨g, 0, rfl, (h.lt g rfl).2, fun i hi j hj => ?_⟩
      have hf := flat_get hk xs i (by omega) j hj
      have hc : j < (cells (xs.getD i default)).length := by rw [hk]; exact hj
      rw [List.getElem?_eq_getElem hc] at hf
      have := h.cells (g := g) rfl _ _ hf
      rw [adr_add, ← Nat.add_assoc] at this
      rw [this, List.getElem?_eq_getElem hc]
  · subst e
    rcases h.2 with ⟨hv, h0⟩ | ⟨g, cap2, cur, hv, hb, hg, _⟩
    · simp at hv
    · simp at hv
      obtain ⟨⟨rfl, rfl⟩, rfl⟩ := hv
      exact h.lt _ rfl
theorem news_at {W : World} {n : Nat} (cs : Array Value) (t : TypeId) (h : W.heap.size = n) : ∀ j u, cs.toList[j]? = some u → (W.alloc (.cells cs t)).cell? ((⟨n, 0, none⟩ : Addr).add j) = some u := by
  subst h
  exact World.news_of_block (heap_alloc_new W _)
theorem lk_len (x : LkV) : x.cells.length = 6 := rfl
theorem lk_one (y : LkV) : ∀ u ∈ y.cells, u.oneCell' = true := by
  intro u hu
  simp [LkV.cells] at hu
  rcases hu with h | h | h | h | h | h <;> subst h <;> rfl
theorem lkInfo : (Tryz.prog.info? 70).map (fun i => (i.zero, i.size, i.bytes)) = some (some (.agg #[.int .i64 0, .int .i64 0, .int .i64 0, .bool false, .int .i64 0, .int .i64 0]), 6, 48) := by kernel_rfl
end Go.Proofs.YtekglahigjblkaaGreatDoor.St
/- append of all elements of a slice to a row of the call's own: elements of several cells. -/
namespace Go.Proofs.YtekglahigjblkaaGreatDoor.St
open Go.ChangeShapes Go.WideShapes Go.ChangeAt Go.RowKit
set_option linter.unusedVariables false

/-- What is known of an element's type. -/
structure Elem {α : Type} (k : Nat) (cells : α → List Value) (te tsl : TypeId) (i : TypeInfo) (z : Value) (bytes : Nat) : Prop where
  len : ∀ x, (cells x).length = k
  pos : 0 < k
  one : ∀ x, ∀ u ∈ cells x, u.oneCell' = true
  sl : Tryz.prog.underlying tsl = some (.slice te)
  info : Tryz.prog.info? te = some i
  zero : i.zero = some z
  size : i.size = k
  byts : i.bytes = bytes
  zs : z.cells.size = k

theorem flat_one' {α : Type} {k : Nat} {cells : α → List Value} (hone : ∀ x, ∀ u ∈ cells x, u.oneCell' = true) (xs : List α) : ∀ u ∈ flat cells xs, u.oneCell' = true := by
  intro u hu
  simp only [flat, List.mem_flatMap] at hu
  obtain ⟨x, _, h⟩ := hu
  exact hone x u h
theorem row_lies {α : Type} [Inhabited α] {k : Nat} {cells : α → List Value} (hk : ∀ x, (cells x).length = k) (hp : 0 < k) {w : World} {ad : Addr} {len cap : Nat} {xs : List α} (h : IsRow k cells w (some ad) len cap xs) : ∀ j u, (flat cells xs)[j]? = some u → w.cell? (ad.add j) = some u := by
  intro j u hu
  have hj : j < (flat cells xs).length := (List.getElem?_eq_some_iff.1 hu).1
  rw [flat_len hk, h.1] at hj
  have hl : 0 < len := by
    rcases Nat.eq_zero_or_pos len with h0 | h0
    · subst h0; simp at hj
    · exact h0
  obtain ⟨b', off', e, _, hc⟩ := h.2.2.2.2 hl
  cases e
  have h1 : j / k < len := (Nat.div_lt_iff_lt_mul hp).2 hj
  have hm : j % k < k := Nat.mod_lt _ hp
  have h2 := hc (j / k) h1 (j % k) hm
  have h3 := flat_get hk xs (j / k) (by rw [h.1]; exact h1) (j % k) hm
  have e : j / k * k + j % k = j := by rw [Nat.mul_comm]; exact Nat.div_add_mod j k
  rw [e] at h3
  have e2 : off' + j = off' + j / k * k + j % k := by rw [Nat.add_assoc, e]
  rw [adr_add, e2, h2, ← h3, hu]

theorem run_append_row {α : Type} [Inhabited α] {k : Nat} {cells : α → List Value} {te tsl : TypeId} {i : TypeInfo} {z : Value} {bytes : Nat} (E : Elem k cells te tsl i z bytes) {w : World} (ty : TypeId) (B : Nat) (v : Value) (n : Nat) (xs : List α) (hown : w.ownsRow B te k v n (flat cells xs))
    (a : Option Addr) (len cap : Nat) (bs : List α) (hs : IsRow k cells w a len cap bs) (h63 : n + len ≤ maxLen) (hby : (n + len) * bytes ≤ 140737488355328) (hbase : B ≤ w.heap.size) :
    ∃ a' cap' w', (Builtin.append_ #[tsl, tsl] ty #[v, .slice a len cap]).run Tryz.prog w = .ok (.slice a' (n + len) cap') w' ∧ w'.ownsRow B te k (.slice a' (n + len) cap') (n + len) (flat cells (xs ++ bs)) ∧ w.grownBy w' v.ownBlock ∧
      ((Value.slice a' (n + len) cap').ownBlock = v.ownBlock ∨ (Value.slice a' (n + len) cap').ownBlock = some w.heap.size) := by
  have hs' := hs
  obtain ⟨h1, h2, h3, hn, h4⟩ := hs
  cases a with
  | none =>
    have := hn rfl
    subst this
    obtain rfl : len = 0 := by omega
    obtain rfl : bs = [] := List.length_eq_zero_iff.1 h1
    have hrun := run_append_owned_none (P := Tryz.prog) (w := w) B tsl ty te i k E.sl E.info v n (flat cells xs) hown
    obtain ⟨a', cap', rfl, _⟩ := own_form hown
    exact ⟨a', cap', w, hrun, by simpa using hown, World.grownBy.refl _ _, .inl rfl⟩
  | some ad =>
    obtain ⟨v', w', hr, k2, k3, _, k5⟩ := run_append_own_at (P := Tryz.prog) w B tsl ty te i z k bytes E.sl E.info E.zero E.size E.byts E.zs E.pos v n (flat cells xs) hown ad len cap (flat cells bs)
      (by rw [flat_len E.len, h1]) (row_lies E.len E.pos hs') (flat_one' (k := k) E.one bs) h63 hby hbase
    obtain ⟨a', cap', rfl, _⟩ := own_form k2
    exact ⟨a', cap', w', hr, by rw [flat_append]; exact k2, k3, k5⟩

theorem wpList_append_row {α : Type} [Inhabited α] {k : Nat} {cells : α → List Value} {te tsl : TypeId} {i : TypeInfo} {z : Value} {bytes : Nat} (E : Elem k cells te tsl i z bytes) {w : World} {ops : Array Oper} {rest : List Oper} {o : Oper} {A : Act} {Q : Exit → Act → World → Prop} (hgd : o.guard = none) (s x : Operand)
    (ho : o.op = .call { callee := .builtin .append, args := #[s, x], argTypes := #[tsl, tsl] })
    (B : Nat) (v : Value) (n : Nat) (xs : List α) (hs : A.eval s = v) (hown : w.ownsRow B te k v n (flat cells xs))
    (a : Option Addr) (len cap : Nat) (bs : List α) (hx : A.eval x = .slice a len cap) (hb : IsRow k cells w a len cap bs) (h63 : n + len ≤ maxLen) (hby : (n + len) * bytes ≤ 140737488355328) (hbase : B ≤ w.heap.size)
    (h : ∀ a' cap' w', w'.ownsRow B te k (.slice a' (n + len) cap') (n + len) (flat cells (xs ++ bs)) → w.grownBy w' v.ownBlock → ((Value.slice a' (n + len) cap').ownBlock = v.ownBlock ∨ (Value.slice a' (n + len) cap').ownBlock = some w.heap.size) → wpList Tryz.prog ops Q rest (A.put o.dst (.slice a' (n + len) cap')) w') :
    wpList Tryz.prog ops Q (o :: rest) A w := by
  refine wpList_plain hgd fun K hK => ?_
  obtain ⟨a', cap', w', hr, h2, h3, h4⟩ := run_append_row E (w := w) o.type B v n xs hown a len cap bs hb h63 hby hbase
  unfold Oper.wp execOp
  simp only [ho, resolve, invoke, builtin, Sem.run_bind, Sem.run_pure, Result.andThen_ok, List.map_toArray, List.map_cons, List.map_nil, hs, hx, hr]
  exact hK _ _ (h a' cap' w' h2 h3 h4)

/-- The same at a step of a region that draws its order. -/
theorem step_append_row {α : Type} [Inhabited α] {k : Nat} {cells : α → List Value} {te tsl : TypeId} {i : TypeInfo} {z : Value} {bytes : Nat} (E : Elem k cells te tsl i z bytes) {w : World} {ops : Array Oper} {o : Oper} {A : Act} {K : Act → World → Prop} {Q : Exit → Act → World → Prop} {F : Prop} (hgd : o.guard = none) (s x : Operand)
    (ho : o.op = .call { callee := .builtin .append, args := #[s, x], argTypes := #[tsl, tsl] })
    (B : Nat) (v : Value) (n : Nat) (xs : List α) (hs : A.eval s = v) (hown : w.ownsRow B te k v n (flat cells xs))
    (a : Option Addr) (len cap : Nat) (bs : List α) (hx : A.eval x = .slice a len cap) (hb : IsRow k cells w a len cap bs) (h63 : n + len ≤ maxLen) (hby : (n + len) * bytes ≤ 140737488355328) (hbase : B ≤ w.heap.size)
    (h : ∀ a' cap' w', w'.ownsRow B te k (.slice a' (n + len) cap') (n + len) (flat cells (xs ++ bs)) → w.grownBy w' v.ownBlock → ((Value.slice a' (n + len) cap').ownBlock = v.ownBlock ∨ (Value.slice a' (n + len) cap').ownBlock = some w.heap.size) → K (A.put o.dst (.slice a' (n + len) cap')) w') :
    if Region.wanted o (yielded ops A.tmps) = true then Oper.wp Tryz.prog o A w K Q else F := by
  have hw : Region.wanted o (yielded ops A.tmps) = true := by simp [Region.wanted, hgd]
  rw [if_pos hw]
  obtain ⟨a', cap', w', hr, h2, h3, h4⟩ := run_append_row E (w := w) o.type B v n xs hown a len cap bs hb h63 hby hbase
  unfold Oper.wp execOp
  simp only [ho, resolve, invoke, builtin, Sem.run_bind, Sem.run_pure, Result.andThen_ok, List.map_toArray, List.map_cons, List.map_nil, hs, hx, hr]
  exact h a' cap' w' h2 h3 h4
end Go.Proofs.YtekglahigjblkaaGreatDoor.St
/- Rows of the call's own: cells stored into them, a beginning of them, elements of several cells. -/
namespace Go.Proofs.YtekglahigjblkaaGreatDoor.St
open Go.ChangeShapes Go.WideShapes Go.ChangeAt Go.RowKit
set_option linter.unusedVariables false

theorem grown_setCell (w : World) (a : Addr) (u : Value) : w.grownBy (w.setCell a u) (some a.block) :=
  ⟨rfl, rfl, rfl, by simp, fun k _ hk => Below.heap_setCell w a u k (fun e => hk (by rw [e]))⟩
theorem own_setk {w : World} {base : Nat} {e : TypeId} {g n cap size : Nat} {xs : List Value} (h : w.ownsRow base e size (.slice (some ⟨g, 0, none⟩) n cap) n xs) {k : Nat} (hk : k < n * size) (u : Value) :
    (w.setCell ⟨g, k, none⟩ u).ownsRow base e size (.slice (some ⟨g, 0, none⟩) n cap) n (xs.set k u) := by
  obtain ⟨hl, h2⟩ := h
  rcases h2 with ⟨hv, hn⟩ | ⟨g', cap', cur, hv, hb, hg, h1, h3, hs, ht⟩
  · subst hn; simp at hk
  · simp at hv
    obtain ⟨rfl, rfl⟩ := hv
    refine ⟨by simpa using hl, .inr ⟨g, cap, cur.setIfInBounds k u, rfl, hb, heap_setCell_same w g k cur e u hg, h1, h3, by simpa using hs, ?_⟩⟩
    rw [← ht, Array.toList_setIfInBounds, List.take_set]
theorem own_there {w : World} {base : Nat} {e : TypeId} {g n cap size : Nat} {xs : List Value} (h : w.ownsRow base e size (.slice (some ⟨g, 0, none⟩) n cap) n xs) {k : Nat} (hk : k < n * size) : (w.cell? ⟨g, k, none⟩).isSome = true ∧ w.frozen? ⟨g, k, none⟩ = false := by
  obtain ⟨hl, h2⟩ := h
  rcases h2 with ⟨hv, hn⟩ | ⟨g', cap', cur, hv, hb, hg, h1, h3, hs, ht⟩
  · subst hn; simp at hk
  · simp at hv
    obtain ⟨rfl, rfl⟩ := hv
    have hk2 : n * size ≤ cap * size := Nat.mul_le_mul_right _ h1
    have hkc : k < cur.size := by omega
    exact ⟨by simp [World.cell?, hg, hkc], by simp [World.frozen?, hg]⟩
def setL : List Value → Nat → List Value → List Value
  | xs, _, [] => xs
  | xs, o, v :: r => setL (xs.set o v) (o + 1) r
theorem setL_len : ∀ (vs : List Value) (xs : List Value) (o : Nat), (setL xs o vs).length = xs.length
  | [], xs, o => rfl
  | v :: r, xs, o => by rw [setL, setL_len]; simp
theorem setL_eq : ∀ (vs : List Value) (xs : List Value) (o : Nat), o + vs.length ≤ xs.length → setL xs o vs = xs.take o ++ vs ++ xs.drop (o + vs.length)
  | [], xs, o, h => by simp [setL]
  | v :: r, xs, o, h => by
    simp only [List.length_cons] at h
    rw [setL, setL_eq r (xs.set o v) (o + 1) (by simp; omega)]
    have h1 : (xs.set o v).take (o + 1) = xs.take o ++ [v] := by
      rw [List.take_succ_eq_append_getElem (by simp; omega), List.take_set, List.set_eq_of_length_le (by simp; omega)]
      simp
    have h2 : (xs.set o v).drop (o + 1 + r.length) = xs.drop (o + 1 + r.length) := by
      rw [List.drop_set]
      rw [if_pos (by omega)]
    rw [h1, h2, List.length_cons, show o + (r.length + 1) = o + 1 + r.length by omega]
    simp
theorem own_setCells {base : Nat} {e : TypeId} {g n cap size : Nat} : ∀ (vs : List Value) (o : Nat) (w : World) (xs : List Value), w.ownsRow base e size (.slice (some ⟨g, 0, none⟩) n cap) n xs → o + vs.length ≤ n * size → (w.setCells g o vs).ownsRow base e size (.slice (some ⟨g, 0, none⟩) n cap) n (setL xs o vs)
  | [], o, w, xs, h, _ => h
  | v :: r, o, w, xs, h, hl => by
    simp only [List.length_cons] at hl
    exact own_setCells r (o + 1) _ _ (own_setk h (by omega) v) (by omega)
theorem own_prefix {w : World} {base : Nat} {e : TypeId} {g n cap size : Nat} {xs : List Value} (h : w.ownsRow base e size (.slice (some ⟨g, 0, none⟩) n cap) n xs) {k : Nat} (hk : k ≤ n) (h0 : 0 < n) : w.ownsRow base e size (.slice (some ⟨g, 0, none⟩) k cap) k (xs.take (k * size)) := by
  obtain ⟨hl, h2⟩ := h
  rcases h2 with ⟨hv, hn⟩ | ⟨g', cap', cur, hv, hb, hg, h1, h3, hs, ht⟩
  · omega
  · simp at hv
    obtain ⟨rfl, rfl⟩ := hv
    have hk2 : k * size ≤ n * size := Nat.mul_le_mul_right _ hk
    refine ⟨by rw [List.length_take, hl]; omega, .inr ⟨g, cap, cur, rfl, hb, hg, by omega, h3, hs, ?_⟩⟩
    rw [← ht, List.take_take]
    congr 1
    omega
theorem grown_setCells (b : Nat) : ∀ (vs : List Value) (o : Nat) (w : World), w.grownBy (w.setCells b o vs) (some b)
  | [], o, w => World.grownBy.refl _ _
  | v :: r, o, w => by
    have h1 := grown_setCell w ⟨b, o, none⟩ v
    have h2 := grown_setCells b r (o + 1) (w.setCell ⟨b, o, none⟩ v)
    exact ⟨h2.os.trans h1.os, h2.tape.trans h1.tape, h2.output.trans h1.output, Nat.le_trans h1.size h2.size, fun k hk hne => (h2.block k (Nat.lt_of_lt_of_le hk h1.size) hne).trans (h1.block k hk hne)⟩
theorem flat_take {α : Type} {cells : α → List Value} {k : Nat} (hk : ∀ x, (cells x).length = k) : ∀ (xs : List α) (i : Nat), (flat cells xs).take (i * k) = flat cells (xs.take i)
  | [], i => by simp [flat]
  | x :: r, 0 => by simp [flat]
  | x :: r, i + 1 => by
    have e : flat cells (x :: r) = cells x ++ flat cells r := by simp [flat]
    have e2 : flat cells ((x :: r).take (i + 1)) = cells x ++ flat cells (r.take i) := by simp [flat]
    rw [e, e2, List.take_append, hk, List.take_of_length_le (by rw [hk, Nat.add_mul]; omega), show (i + 1) * k - k = i * k by rw [Nat.add_mul]; omega, flat_take hk r i]
theorem flat_drop {α : Type} {cells : α → List Value} {k : Nat} (hk : ∀ x, (cells x).length = k) : ∀ (xs : List α) (i : Nat), (flat cells xs).drop (i * k) = flat cells (xs.drop i)
  | [], i => by simp [flat]
  | x :: r, 0 => by simp [flat]
  | x :: r, i + 1 => by
    have e : flat cells (x :: r) = cells x ++ flat cells r := by simp [flat]
    rw [e, List.drop_append, hk, List.drop_eq_nil_of_le (by rw [hk, Nat.add_mul]; omega), show (i + 1) * k - k = i * k by rw [Nat.add_mul]; omega, flat_drop hk r i]
    simp
theorem flat_setL {α : Type} {cells : α → List Value} {k : Nat} (hk : ∀ x, (cells x).length = k) (xs : List α) (i : Nat) (hi : i < xs.length) (y : α) : setL (flat cells xs) (i * k) (cells y) = flat cells (xs.set i y) := by
  have hX := flat_len hk xs
  have h1 : (i + 1) * k ≤ xs.length * k := Nat.mul_le_mul_right _ hi
  rw [Nat.add_mul, Nat.one_mul] at h1
  rw [setL_eq _ _ _ (by rw [hX, hk]; exact h1), hk, flat_take hk, show i * k + k = (i + 1) * k by rw [Nat.add_mul, Nat.one_mul], flat_drop hk, List.set_eq_take_append_cons_drop, if_pos hi]
  simp [flat]
theorem flat_set {α : Type} [Inhabited α] {cells : α → List Value} {k : Nat} (hk : ∀ x, (cells x).length = k) : ∀ (xs : List α) (i j : Nat) (u : Value) (y : α), i < xs.length → j < k → cells y = (cells (xs.getD i default)).set j u → (flat cells xs).set (i * k + j) u = flat cells (xs.set i y)
  | [], i, j, u, y, hi, _, _ => by simp at hi
  | x :: r, 0, j, u, y, _, hj, hy => by
    have e : flat cells (x :: r) = cells x ++ flat cells r := by simp [flat]
    have e2 : flat cells (y :: r) = cells y ++ flat cells r := by simp [flat]
    simp only [List.getD_cons_zero] at hy
    rw [e, List.set_cons_zero, e2, hy, Nat.zero_mul, Nat.zero_add, List.set_append_left _ _ (by rw [hk]; exact hj)]
  | x :: r, i + 1, j, u, y, hi, hj, hy => by
    have e : flat cells (x :: r) = cells x ++ flat cells r := by simp [flat]
    have e2 : flat cells (x :: r.set i y) = cells x ++ flat cells (r.set i y) := by simp [flat]
    simp only [List.getD_cons_succ] at hy
    have h1 : (i + 1) * k + j = k + (i * k + j) := by rw [Nat.add_mul, Nat.one_mul]; omega
    rw [e, List.set_cons_succ, e2, h1, List.set_append_right _ _ (by rw [hk]; omega), hk, Nat.add_sub_cancel_left, flat_set hk r i j u y (by simpa using hi) hj hy]
theorem grown_trans {u v w : World} {r : Option Nat} (h1 : u.grownBy v r) (h2 : v.grownBy w r) : u.grownBy w r :=
  ⟨h2.os.trans h1.os, h2.tape.trans h1.tape, h2.output.trans h1.output, Nat.le_trans h1.size h2.size, fun k hk hne => (h2.block k (Nat.lt_of_lt_of_le hk h1.size) hne).trans (h1.block k hk hne)⟩
theorem grown_below {w w' : World} (h : Below w.heap.size w w') (r : Option Nat) : w.grownBy w' r := ⟨h.os, h.tape, h.output, h.size, fun k hk _ => h.block k hk⟩
end Go.Proofs.YtekglahigjblkaaGreatDoor.St
