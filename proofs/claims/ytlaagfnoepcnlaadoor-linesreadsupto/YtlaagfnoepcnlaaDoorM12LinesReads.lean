/- Texts of this claim, one behind the other. -/
import Derived.Test.YtlaagfnoepcnlaaDoorM11LinesReads
import Derived.Laws.OwnMore
import Derived.Laws.AppendOwn
import Derived.Deep.AppendLies
import Derived.Test.YtlaagfnoepcnlaaDoorM8LinesReads
import Derived.Test.YtlaagfnoepcnlaaDoorM7LinesReads
import Derived.Laws.IdiomStrings
import Derived.Laws.BitsAllLaws
import Derived.Deep.Cut
import Derived.Deep.DeepCutAuto
import Derived.LoopTactic
import Derived.OwnWalk
/- append of all elements of a slice to a row of the call's own: elements of several cells. -/
namespace Go.Proofs.YtlaagfnoepcnlaaDoor.St
open Go.ChangeShapes Go.WideShapes Go.ChangeAt Go.RowKit
set_option linter.unusedVariables false

/-- What is known of an element's type. -/
structure Elem {α : Type} (k : Nat) (cells : α → List Value) (te tsl : TypeId) (i : TypeInfo) (z : Value) (bytes : Nat) : Prop where
  len : ∀ x, (cells x).length = k
  pos : 0 < k
  one : ∀ x, ∀ u ∈ cells x, u.oneCell' = true
  sl : Tryd.prog.underlying tsl = some (.slice te)
  info : Tryd.prog.info? te = some i
  zero : i.zero = some z
  size : i.size = k
  byts : i.bytes = bytes
  zs : z.cells.size = k

theorem flat_one' {α : Type} {k : Nat} {cells : α → List Value} (hone : ∀ x, ∀ u ∈ cells x, u.oneCell' = true) (xs : List α) : ∀ u ∈ flat cells xs, u.oneCell' = true := by
  intro u hu
  simp only [flat, List.mem_flatMap] at hu
  obtain ⟨x, _, h⟩ := hu
  exact hone x u h
theorem row_lies {α : Type} [Inhabited α] {k : Nat} {cells : α → List Value} (hk : ∀ x, (cells x).length = k) (hp : 0 < k) {w : World} {ad : Addr} {len cap : Nat} {xs : List α} (h : IsRow k cells w (some ad) len cap xs) : ∀ j u, (flat cells xs)[j]? = some u → w.cell? (ad.add j) = some u := by
  intro j u hu
  have hj : j < (flat cells xs).length := (List.getElem?_eq_some_iff.1 hu).1
  rw [flat_len hk, h.1] at hj
  have hl : 0 < len := by
    rcases Nat.eq_zero_or_pos len with h0 | h0
    · subst h0; simp at hj
    · exact h0
  obtain ⟨b', off', e, _, hc⟩ := h.2.2.2.2 hl
  cases e
  have h1 : j / k < len := (Nat.div_lt_iff_lt_mul hp).2 hj
  have hm : j % k < k := Nat.mod_lt _ hp
  have h2 := hc (j / k) h1 (j % k) hm
  have h3 := flat_get hk xs (j / k) (by rw [h.1]; exact h1) (j % k) hm
  have e : j / k * k + j % k = j := by rw [Nat.mul_comm]; exact Nat.div_add_mod j k
  rw [e] at h3
  have e2 : off' + j = off' + j / k * k + j % k := by rw [Nat.add_assoc, e]
  rw [adr_add, e2, h2, ← h3, hu]

theorem run_append_row {α : Type} [Inhabited α] {k : Nat} {cells : α → List Value} {te tsl : TypeId} {i : TypeInfo} {z : Value} {bytes : Nat} (E : Elem k cells te tsl i z bytes) {w : World} (ty : TypeId) (B : Nat) (v : Value) (n : Nat) (xs : List α) (hown : w.ownsRow B te k v n (flat cells xs))
    (a : Option Addr) (len cap : Nat) (bs : List α) (hs : IsRow k cells w a len cap bs) (h63 : n + len ≤ maxLen) (hby : (n + len) * bytes ≤ 140737488355328) (hbase : B ≤ w.heap.size) :
    ∃ a' cap' w', (Builtin.append_ #[tsl, tsl] ty #[v, .slice a len cap]).run Tryd.prog w = .ok (.slice a' (n + len) cap') w' ∧ w'.ownsRow B te k (.slice a' (n + len) cap') (n + len) (flat cells (xs ++ bs)) ∧ w.grownBy w' v.ownBlock ∧
      ((Value.slice a' (n + len) cap').ownBlock = v.ownBlock ∨ (Value.slice a' (n + len) cap').ownBlock = some w.heap.size) := by
  have hs' := hs
  obtain ⟨h1, h2, h3, hn, h4⟩ := hs
  cases a with
  | none =>
    have := hn rfl
    subst this
    obtain rfl : len = 0 := by omega
    obtain rfl : bs = [] := List.length_eq_zero_iff.1 h1
    have hrun := run_append_owned_none (P := Tryd.prog) (w := w) B tsl ty te i k E.sl E.info v n (flat cells xs) hown
    obtain ⟨a', cap', rfl, _⟩ := own_form hown
    exact ⟨a', cap', w, hrun, by simpa using hown, World.grownBy.refl _ _, .inl rfl⟩
  | some ad =>
    obtain ⟨v', w', hr, k2, k3, _, k5⟩ := run_append_own_at (P := Tryd.prog) w B tsl ty te i z k bytes E.sl E.info E.zero E.size E.byts E.zs E.pos v n (flat cells xs) hown ad len cap (flat cells bs)
      (by rw [flat_len E.len, h1]) (row_lies E.len E.pos hs') (flat_one' (k := k) E.one bs) h63 hby hbase
    obtain ⟨a', cap', rfl, _⟩ := own_form k2
    exact ⟨a', cap', w', hr, by rw [flat_append]; exact k2, k3, k5⟩

theorem wpList_append_row {α : Type} [Inhabited α] {k : Nat} {cells : α → List Value} {te tsl : TypeId} {i : TypeInfo} {z : Value} {bytes : Nat} (E : Elem k cells te tsl i z bytes) {w : World} {ops : Array Oper} {rest : List Oper} {o : Oper} {A : Act} {Q : Exit → Act → World → Prop} (hgd : o.guard = none) (s x : Operand)
    (ho : o.op = .call { callee := .builtin .append, args := #[s, x], argTypes := #[tsl, tsl] })
    (B : Nat) (v : Value) (n : Nat) (xs : List α) (hs : A.eval s = v) (hown : w.ownsRow B te k v n (flat cells xs))
    (a : Option Addr) (len cap : Nat) (bs : List α) (hx : A.eval x = .slice a len cap) (hb : IsRow k cells w a len cap bs) (h63 : n + len ≤ maxLen) (hby : (n + len) * bytes ≤ 140737488355328) (hbase : B ≤ w.heap.size)
    (h : ∀ a' cap' w', w'.ownsRow B te k (.slice a' (n + len) cap') (n + len) (flat cells (xs ++ bs)) → w.grownBy w' v.ownBlock → ((Value.slice a' (n + len) cap').ownBlock = v.ownBlock ∨ (Value.slice a' (n + len) cap').ownBlock = some w.heap.size) → wpList Tryd.prog ops Q rest (A.put o.dst (.slice a' (n + len) cap')) w') :
    wpList Tryd.prog ops Q (o :: rest) A w := by
  refine wpList_plain hgd fun K hK => ?_
  obtain ⟨a', cap', w', hr, h2, h3, h4⟩ := run_append_row E (w := w) o.type B v n xs hown a len cap bs hb h63 hby hbase
  unfold Oper.wp execOp
  simp only [ho, resolve, invoke, builtin, Sem.run_bind, Sem.run_pure, Result.andThen_ok, List.map_toArray, List.map_cons, List.map_nil, hs, hx, hr]
  exact hK _ _ (h a' cap' w' h2 h3 h4)

/-- The same at a step of a region that draws its order. -/
theorem step_append_row {α : Type} [Inhabited α] {k : Nat} {cells : α → List Value} {te tsl : TypeId} {i : TypeInfo} {z : Value} {bytes : Nat} (E : Elem k cells te tsl i z bytes) {w : World} {ops : Array Oper} {o : Oper} {A : Act} {K : Act → World → Prop} {Q : Exit → Act → World → Prop} {F : Prop} (hgd : o.guard = none) (s x : Operand)
    (ho : o.op = .call { callee := .builtin .append, args := #[s, x], argTypes := #[tsl, tsl] })
    (B : Nat) (v : Value) (n : Nat) (xs : List α) (hs : A.eval s = v) (hown : w.ownsRow B te k v n (flat cells xs))
    (a : Option Addr) (len cap : Nat) (bs : List α) (hx : A.eval x = .slice a len cap) (hb : IsRow k cells w a len cap bs) (h63 : n + len ≤ maxLen) (hby : (n + len) * bytes ≤ 140737488355328) (hbase : B ≤ w.heap.size)
    (h : ∀ a' cap' w', w'.ownsRow B te k (.slice a' (n + len) cap') (n + len) (flat cells (xs ++ bs)) → w.grownBy w' v.ownBlock → ((Value.slice a' (n + len) cap').ownBlock = v.ownBlock ∨ (Value.slice a' (n + len) cap').ownBlock = some w.heap.size) → K (A.put o.dst (.slice a' (n + len) cap')) w') :
    if Region.wanted o (yielded ops A.tmps) = true then Oper.wp Tryd.prog o A w K Q else F := by
  have hw : Region.wanted o (yielded ops A.tmps) = true := by simp [Region.wanted, hgd]
  rw [if_pos hw]
  obtain ⟨a', cap', w', hr, h2, h3, h4⟩ := run_append_row E (w := w) o.type B v n xs hown a len cap bs hb h63 hby hbase
  unfold Oper.wp execOp
  simp only [ho, resolve, invoke, builtin, Sem.run_bind, Sem.run_pure, Result.andThen_ok, List.map_toArray, List.map_cons, List.map_nil, hs, hx, hr]
  exact h a' cap' w' h2 h3 h4
end Go.Proofs.YtlaagfnoepcnlaaDoor.St
/- An append of a row as an operation of a drawn region that goes by an invariant. -/
namespace Go.Proofs.YtlaagfnoepcnlaaDoor.St
open Go.ChangeShapes Go.WideShapes Go.ChangeAt Go.RowKit
set_option linter.unusedVariables false

theorem wpv_append_row {α : Type} [Inhabited α] {k : Nat} {cells : α → List Value} {te tsl : TypeId} {i : TypeInfo} {z : Value} {bytes : Nat} (E : Elem k cells te tsl i z bytes) {w : World} {o : Oper} {A : Act} {K : Value → World → Prop} {Q : Exit → Act → World → Prop} (s x : Operand)
    (ho : o.op = .call { callee := .builtin .append, args := #[s, x], argTypes := #[tsl, tsl] })
    (B : Nat) (v : Value) (n : Nat) (xs : List α) (hs : A.eval s = v) (hown : w.ownsRow B te k v n (flat cells xs))
    (a : Option Addr) (len cap : Nat) (bs : List α) (hx : A.eval x = .slice a len cap) (hb : IsRow k cells w a len cap bs) (h63 : n + len ≤ maxLen) (hby : (n + len) * bytes ≤ 140737488355328) (hbase : B ≤ w.heap.size)
    (h : ∀ a' cap' w', w'.ownsRow B te k (.slice a' (n + len) cap') (n + len) (flat cells (xs ++ bs)) → w.grownBy w' v.ownBlock → ((Value.slice a' (n + len) cap').ownBlock = v.ownBlock ∨ (Value.slice a' (n + len) cap').ownBlock = some w.heap.size) → K (.slice a' (n + len) cap') w') :
    Oper.wpv Tryd.prog o A w K Q := by
  obtain ⟨a', cap', w', hr, h2, h3, h4⟩ := run_append_row E (w := w) o.type B v n xs hown a len cap bs hb h63 hby hbase
  unfold Oper.wpv execOp
  simp only [ho, resolve, invoke, builtin, Sem.run_bind, Sem.run_pure, Result.andThen_ok, List.map_toArray, List.map_cons, List.map_nil, hs, hx, hr]
  exact h a' cap' w' h2 h3 h4
end Go.Proofs.YtlaagfnoepcnlaaDoor.St
/- lines.textAsWord: a text as a word, by the digits of its bytes. -/
namespace Go.Proofs.YtlaagfnoepcnlaaDoor.Ln
open Go.ChangeShapes Go.WideShapes Go.ChangeAt Go.RowKit
open Go.Proofs.YtlaagfnoepcnlaaDoor.St (BoxN boxn_new own_below IsRow Elem flat flat_append own_isRow)
set_option linter.unusedVariables false

theorem sT {u v z : World} (h : Below u.heap.size u v) (k : Below v.heap.size v z) : Below u.heap.size u z := h.trans (k.mono h.size)
def u8C (c : UInt8) : List Value := [.int .u8 (c.toNat : Int)]
theorem u8_len (x : UInt8) : (u8C x).length = 1 := rfl
theorem u8_one (y : UInt8) : ∀ u ∈ u8C y, u.oneCell' = true := by
  intro u hu
  simp only [u8C, List.mem_cons, List.not_mem_nil, or_false] at hu
  rcases hu with rfl
  rfl
theorem u8Info : (Tryd.prog.info? 5).map (fun i => (i.zero, i.size, i.bytes)) = some (some (.int .u8 0), 1, 1) := by kernel_rfl
theorem u8Elem : ∃ i, Elem 1 u8C 5 52 i (.int .u8 0) 1 := by
  obtain ⟨j0, hj, lj0, lj1, lj2⟩ := info_parts u8Info
  exact ⟨j0, u8_len, by decide, u8_one, Tryd.underlying52, hj, lj0, lj1, lj2, rfl⟩
theorem flat_u8 : ∀ (vs : List UInt8), (flat u8C vs).length = vs.length
  | [] => rfl
  | x :: r => by
    have := flat_u8 r
    simp only [flat, List.flatMap_cons, List.length_append, List.length_cons] at *
    rw [this]
    simp [u8C, Nat.add_comm]
theorem u8_new (X : World) (vs : List UInt8) (cs : Array Value) (n : Nat) (hn : vs.length = n) (hc : cs.toList = flat u8C vs) (hm : n ≤ maxLen) (h0 : 0 < n) : (X.alloc (.cells cs 5)).ownsRow X.heap.size 5 1 (.slice (some ⟨X.heap.size, 0, none⟩) n n) n (flat u8C vs) := by
  have hl : (flat u8C vs).length = n := by rw [← hn]; exact flat_u8 vs
  have hs : cs.size = n := by rw [← Array.length_toList, hc, hl]
  refine ⟨by rw [hl]; omega, Or.inr ⟨X.heap.size, n, cs, rfl, Nat.le_refl _, heap_alloc_new X _, Nat.le_refl _, hm, by omega, ?_⟩⟩
  rw [Nat.mul_one, ← hc, List.take_of_length_le (by simp [hs])]
theorem ownB8 {w : World} {B C : Nat} {te : TypeId} {k : Nat} {v : Value} {n : Nat} {xs : List Value} (h : w.ownsRow C te k v n xs) (hB : B ≤ C) : w.ownsRow B te k v n xs := by
  obtain ⟨h1, h2⟩ := h
  refine ⟨h1, ?_⟩
  rcases h2 with h2 | ⟨g, cap, cur, e, hb, r⟩
  · exact .inl h2
  · exact .inr ⟨g, cap, cur, e, Nat.le_trans hB hb, r⟩
/-- The digit of a number below sixteen. -/
def hexD (n : Nat) : UInt8 := if n < 10 then UInt8.ofNat (48 + n) else UInt8.ofNat (87 + n)
def hexes : List UInt8 → List UInt8
  | [] => []
  | c :: r => hexD (c.toNat / 16) :: hexD (c.toNat % 16) :: hexes r
def txtL (l : List UInt8) : List UInt8 := 46 :: hexes l
def txtW (s : ByteArray) : ByteArray := ⟨(txtL s.data.toList).toArray⟩
theorem hexes_snoc (l : List UInt8) (c : UInt8) : hexes (l ++ [c]) = hexes l ++ [hexD (c.toNat / 16), hexD (c.toNat % 16)] := by
  induction l with
  | nil => rfl
  | cons x r ih => simp [hexes, ih]
theorem hexes_len (l : List UInt8) : (hexes l).length = 2 * l.length := by
  induction l with
  | nil => rfl
  | cons x r ih => simp [hexes, ih]; omega
theorem dig_at (q : Nat) (hq : q < 16) (U : World) : (Instr.index 9 (.string ⟨#[48, 49, 50, 51, 52, 53, 54, 55, 56, 57, 97, 98, 99, 100, 101, 102]⟩) (.int .u8 (q : Int))).run Tryd.prog U = .ok (.int .u8 ((hexD q).toNat : Int)) U := by
  rw [run_index_string (P := Tryd.prog) U 9 ⟨#[48, 49, 50, 51, 52, 53, 54, 55, 56, 57, 97, 98, 99, 100, 101, 102]⟩ .u8 (q : Int) (by kernel_rfl), dif_pos ⟨by omega, by show (q : Int) < 16; omega⟩]
  rcases (by omega : q = 0 ∨ q = 1 ∨ q = 2 ∨ q = 3 ∨ q = 4 ∨ q = 5 ∨ q = 6 ∨ q = 7 ∨ q = 8 ∨ q = 9 ∨ q = 10 ∨ q = 11 ∨ q = 12 ∨ q = 13 ∨ q = 14 ∨ q = 15) with rfl | rfl | rfl | rfl | rfl | rfl | rfl | rfl | rfl | rfl | rfl | rfl | rfl | rfl | rfl | rfl <;> rfl
theorem ch_at (s : ByteArray) (k : Nat) (hk : k < s.size) : ∃ c : UInt8, (∀ U : World, (Instr.index 9 (.string s) (.int .i64 (k : Int))).run Tryd.prog U = .ok (.int .u8 (c.toNat : Int)) U) ∧ s.data.toList.drop k = c :: s.data.toList.drop (k + 1) ∧ s.data.toList.take (k + 1) = s.data.toList.take k ++ [c] := by
  have hl : k < s.data.toList.length := hk
  refine ⟨s.data.toList[k], fun U => ?_, List.drop_eq_getElem_cons hl, List.take_succ_eq_append_getElem hl⟩
  rw [run_index_string (P := Tryd.prog) U 9 s .i64 (k : Int) (by kernel_rfl), dif_pos ⟨by omega, by omega⟩]
  rfl
set_option maxRecDepth 100000 in
set_option maxHeartbeats 4000000 in
theorem textAsWord_any (s : ByteArray) (w : World) (hs : s.size ≤ 1000000) :
    Calls Tryd.prog 48 #[.string s] w fun e w' => e = .returned (.string (txtW s)) ∧ Below w.heap.size w w' := by
  obtain ⟨iE, EU⟩ := u8Elem
  have HF : Hid (∀ (bs : List UInt8) (a : Option Addr) (n c : Nat) (U : World), bs = txtL s.data.toList → bs.length = n → 0 < n → IsRow 1 u8C U a n c bs → (convert 52 9 (.slice a n c)).run Tryd.prog U = .ok (.string (txtW s)) U) := fun bs a n c U hb hn h0 hr => by
    obtain ⟨_, _, _, _, h5⟩ := hr
    obtain ⟨b, off, rfl, _, hc⟩ := h5 h0
    subst hn
    have := run_convert_bytes_back (P := Tryd.prog) U 52 9 5 ⟨b, off, none⟩ c bs Tryd.underlying52 Tryd.underlying5 Tryd.underlying9 (fun j hj => by
      have h8 := hc j hj 0 (by decide)
      rw [Nat.mul_one, Nat.add_zero] at h8
      have e1 : ((⟨b, off, none⟩ : Addr).add j) = ⟨b, off + j, none⟩ := by unfold Addr.add; by_cases h : j = 0 <;> simp [h]
      rw [e1, h8]
      simp [u8C, List.getD, hj])
    rw [this, hb]
    rfl
  obtain ⟨V, eV⟩ : ∃ V : World, V = w.alloc (.cells #[.int .u8 46] 5) := ⟨_, rfl⟩
  have bV : Below w.heap.size w V := by rw [eV]; exact (Below.refl _ _).alloc (Nat.le_refl _) _
  have oV : V.ownsRow w.heap.size 5 1 (.slice (some ⟨w.heap.size, 0, none⟩) 1 1) 1 (flat u8C [46]) := by rw [eV]; exact u8_new w [46] #[.int .u8 46] 1 rfl rfl (by unfold maxLen; omega) (by decide)
  have HT0 : Hid ([46] = txtL (s.data.toList.take 0)) := by show _ = _; rfl
  go_enter Tryd.func48, Tryd.ntmps48
  go_upto_region 2 with (fail)
  rw [← eV]
  clear eV
  go_wp2
  go_loopw [3, 8] (fun s3 s8 wr => ∃ (k c : Nat) (a : Option Addr) (bs : List UInt8), s3 = .slice a (1 + 2 * k) c ∧ s8 = .int .i64 (k : Int) ∧ k ≤ s.size ∧ bs.length = 1 + 2 * k ∧ wr.ownsRow w.heap.size 5 1 (.slice a (1 + 2 * k) c) (1 + 2 * k) (flat u8C bs) ∧ Hid (bs = txtL (s.data.toList.take k)) ∧ Below w.heap.size w wr) (fun _ s8 _ => s.size - (intOf s8).toNat)
  case atStart => exact ⟨0, 1, some ⟨w.heap.size, 0, none⟩, [46], rfl, rfl, by omega, rfl, oV, HT0, bV⟩
  case round =>
    obtain ⟨k, c, a, bs, rfl, rfl, hk, hbl, hO, hT, hb0⟩ := hrel
    clear HT0 oV bV
    obtain ⟨wo, ewo⟩ : ∃ X : World, X = wr := ⟨_, rfl⟩
    subst ewo
    by_cases hlt : k < s.size
    · have hlt' : (k : Int) < (s.size : Int) := by omega
      have HJ : Hid (k + 1 ≤ s.size) := hlt
      obtain ⟨ch, hx, -, htk⟩ := ch_at s k hlt
      have hch : ch.toNat < 256 := ch.toNat_lt
      have HX : Hid (∀ U : World, (Instr.index 9 (.string s) (.int .i64 (k : Int))).run Tryd.prog U = .ok (.int .u8 (ch.toNat : Int)) U) := hx
      have HQ : Hid ((ch.toNat : Int) / 16 = ((ch.toNat / 16 : Nat) : Int)) := rfl
      have HR : Hid (bits .and .u8 (ch.toNat : Int) 15 = ((ch.toNat % 16 : Nat) : Int)) := by
        show _ = _
        have := u8_and_nat ch.toNat 15 (by omega) (by omega)
        rw [show ((15 : Nat) : Int) = 15 from rfl] at this
        rw [this, show (15 : Nat) = 2 ^ 4 - 1 from rfl, Nat.and_two_pow_sub_one_eq_mod]
      have HD1 : Hid (∀ U : World, (Instr.index 9 (.string ⟨#[48, 49, 50, 51, 52, 53, 54, 55, 56, 57, 97, 98, 99, 100, 101, 102]⟩) (.int .u8 ((ch.toNat / 16 : Nat) : Int))).run Tryd.prog U = .ok (.int .u8 ((hexD (ch.toNat / 16)).toNat : Int)) U) := fun U => dig_at _ (by omega) U
      have HD2 : Hid (∀ U : World, (Instr.index 9 (.string ⟨#[48, 49, 50, 51, 52, 53, 54, 55, 56, 57, 97, 98, 99, 100, 101, 102]⟩) (.int .u8 ((ch.toNat % 16 : Nat) : Int))).run Tryd.prog U = .ok (.int .u8 ((hexD (ch.toNat % 16)).toNat : Int)) U) := fun U => dig_at _ (by omega) U
      have HT2 : Hid (bs ++ [hexD (ch.toNat / 16), hexD (ch.toNat % 16)] = txtL (s.data.toList.take (k + 1))) := by show _ = _; rw [hT.out, htk, txtL, txtL, hexes_snoc]; rfl
      obtain ⟨A1, eA1⟩ : ∃ x : Nat, x = ch.toNat / 16 := ⟨_, rfl⟩
      obtain ⟨A2, eA2⟩ : ∃ x : Nat, x = ch.toNat % 16 := ⟨_, rfl⟩
      rw [← eA1] at HQ HD1 HT2
      rw [← eA2] at HR HD2 HT2
      obtain ⟨C, eC⟩ : ∃ x : Nat, x = ch.toNat := ⟨_, rfl⟩
      rw [← eC] at HX HQ HR
      obtain ⟨G1, eG1⟩ : ∃ x, x = hexD A1 := ⟨_, rfl⟩
      obtain ⟨G2, eG2⟩ : ∃ x, x = hexD A2 := ⟨_, rfl⟩
      rw [← eG1] at HD1 HT2
      rw [← eG2] at HD2 HT2
      have HOw : Hid (∀ U, Below wo.heap.size wo U → U.ownsRow w.heap.size 5 1 (.slice a (1 + 2 * k) c) (1 + 2 * k) (flat u8C bs)) := fun U hU => own_below hO hU
      have HBw : Hid (∀ U, Below wo.heap.size wo U → Below w.heap.size w U) := fun U hU => hb0.trans (hU.mono hb0.size)
      have HLt : Hid (∀ g, (Value.slice a (1 + 2 * k) c).ownBlock = some g → w.heap.size ≤ g) := fun g hg => (hO.lt g hg).1
      clear hx htk hch eA1 eA2 eC eG1 eG2 hT hO hb0
      go_upto_region 5 with (fail)
      refine wp_region_inv (by kernel_rfl) [11, 12, 13, 14, 15, 16, 17, 18, 19, 20, 21, 22, 23, 3] (fun L T u => ∃ (a6 : Option Addr) (c6 : Nat) (bA : Nat), True ∧ (L 0 = true → T 11 = .slice a (1 + 2 * k) c) ∧ (L 1 = true → T 12 = .string s) ∧ (L 2 = true → T 13 = .int .i64 (k : Int)) ∧ (L 3 = true → T 14 = .int .u8 (C : Int)) ∧ (L 4 = true → T 15 = .int .u8 (A1 : Int)) ∧ (L 5 = true → T 16 = .int .u8 (G1.toNat : Int)) ∧ (L 6 = true → T 17 = .string s) ∧ (L 7 = true → T 18 = .int .i64 (k : Int)) ∧ (L 8 = true → T 19 = .int .u8 (C : Int)) ∧ (L 9 = true → T 20 = .int .u8 (A2 : Int)) ∧ (L 10 = true → T 21 = .int .u8 (G2.toNat : Int)) ∧ (L 12 = true → T 23 = .slice a6 (1 + 2 * k + 2) c6) ∧ (L 13 = true → T 3 = .slice a6 (1 + 2 * k + 2) c6) ∧ (L 13 = false → T 3 = .slice a (1 + 2 * k) c) ∧ (L 12 = false → Below wo.heap.size wo u) ∧ (L 12 = true → (u.ownsRow w.heap.size 5 1 (.slice a6 (1 + 2 * k + 2) c6) (1 + 2 * k + 2) (flat u8C (bs ++ [G1, G2])) ∧ Below w.heap.size w u)) ∧ (L 11 = true → L 12 = false → (T 22 = .slice (some ⟨bA, 0, none⟩) 2 2 ∧ wo.heap.size ≤ bA ∧ bA < u.heap.size)) ∧ (L 11 = true → L 12 = false → IsRow 1 u8C u (some ⟨bA, 0, none⟩) 2 2 [G1, G2])) (by decide) (by kernel_rfl) (by kernel_rfl) ?_ ?_ ?_
      · exact ⟨none, 0, 0, trivial, nofun, nofun, nofun, nofun, nofun, nofun, nofun, nofun, nofun, nofun, nofun, nofun, nofun, fun _ => rfl, fun _ => (Below.refl _ _).drew, nofun, nofun, nofun⟩
      · refine ⟨?_, ?_, ?_, ?_, ?_, ?_, ?_, ?_, ?_, ?_, ?_, ?_, ?_, ?_, trivial⟩
        · rintro L T u hd hk hcl ⟨a6, c6, bA, hb, p0, p1, p2, p3, p4, p5, p6, p7, p8, p9, p10, p12, p13, q3, c1, c2, pa11, bv11⟩ K hK
          simp only [fr, Act.put, List.setIfInBounds_toArray, List.set_cons_zero, List.set_cons_succ, updO] at hK ⊢
          simp [Region.binds] at hd
          have k13 := hcl 13 _ rfl
          simp [Region.binds] at k13
          have k12 := hcl 12 _ rfl
          simp [Region.binds] at k12
          have hF13 : L 13 = false := by cases h : L 13 with | false => rfl | true => have a13 := k13 h; have a12 := k12 (by simp [a13]); simp [hk] at a12
          have gq3 := q3 hF13
          rw [if_pos (by rfl)]
          simp only [Oper.wpv]
          go_simp
          exact hK _ _ ⟨a6, c6, bA, hb, fun _ => rfl, p1, p2, p3, p4, p5, p6, p7, p8, p9, p10, p12, p13, q3, c1, c2, pa11, bv11⟩
        · rintro L T u hd hk hcl ⟨a6, c6, bA, hb, p0, p1, p2, p3, p4, p5, p6, p7, p8, p9, p10, p12, p13, q3, c1, c2, pa11, bv11⟩ K hK
          simp only [fr, Act.put, List.setIfInBounds_toArray, List.set_cons_zero, List.set_cons_succ, updO] at hK ⊢
          simp [Region.binds] at hd
          rw [if_pos (by rfl)]
          simp only [Oper.wpv]
          go_simp
          exact hK _ _ ⟨a6, c6, bA, hb, p0, fun _ => rfl, p2, p3, p4, p5, p6, p7, p8, p9, p10, p12, p13, q3, c1, c2, pa11, bv11⟩
        · rintro L T u hd hk hcl ⟨a6, c6, bA, hb, p0, p1, p2, p3, p4, p5, p6, p7, p8, p9, p10, p12, p13, q3, c1, c2, pa11, bv11⟩ K hK
          simp only [fr, Act.put, List.setIfInBounds_toArray, List.set_cons_zero, List.set_cons_succ, updO] at hK ⊢
          simp [Region.binds] at hd
          rw [if_pos (by rfl)]
          simp only [Oper.wpv]
          go_simp
          exact hK _ _ ⟨a6, c6, bA, hb, p0, p1, fun _ => rfl, p3, p4, p5, p6, p7, p8, p9, p10, p12, p13, q3, c1, c2, pa11, bv11⟩
        · rintro L T u hd hk hcl ⟨a6, c6, bA, hb, p0, p1, p2, p3, p4, p5, p6, p7, p8, p9, p10, p12, p13, q3, c1, c2, pa11, bv11⟩ K hK
          simp only [fr, Act.put, List.setIfInBounds_toArray, List.set_cons_zero, List.set_cons_succ, updO] at hK ⊢
          simp [Region.binds] at hd
          have g1 := p1 (by simp [hd])
          have g2 := p2 (by simp [hd])
          have hq := HX.out u
          rw [if_pos (by rfl)]
          simp only [Oper.wpv]
          go_simp
          exact hK _ _ ⟨a6, c6, bA, hb, p0, p1, p2, fun _ => rfl, p4, p5, p6, p7, p8, p9, p10, p12, p13, q3, c1, c2, pa11, bv11⟩
        · rintro L T u hd hk hcl ⟨a6, c6, bA, hb, p0, p1, p2, p3, p4, p5, p6, p7, p8, p9, p10, p12, p13, q3, c1, c2, pa11, bv11⟩ K hK
          simp only [fr, Act.put, List.setIfInBounds_toArray, List.set_cons_zero, List.set_cons_succ, updO] at hK ⊢
          simp [Region.binds] at hd
          have g3 := p3 (by simp [hd])
          have hq := HQ.out
          rw [if_pos (by rfl)]
          simp only [Oper.wpv]
          go_simp
          exact hK _ _ ⟨a6, c6, bA, hb, p0, p1, p2, p3, fun _ => rfl, p5, p6, p7, p8, p9, p10, p12, p13, q3, c1, c2, pa11, bv11⟩
        · rintro L T u hd hk hcl ⟨a6, c6, bA, hb, p0, p1, p2, p3, p4, p5, p6, p7, p8, p9, p10, p12, p13, q3, c1, c2, pa11, bv11⟩ K hK
          simp only [fr, Act.put, List.setIfInBounds_toArray, List.set_cons_zero, List.set_cons_succ, updO] at hK ⊢
          simp [Region.binds] at hd
          have g4 := p4 (by simp [hd])
          have hq := HD1.out u
          rw [if_pos (by rfl)]
          simp only [Oper.wpv]
          go_simp
          exact hK _ _ ⟨a6, c6, bA, hb, p0, p1, p2, p3, p4, fun _ => rfl, p6, p7, p8, p9, p10, p12, p13, q3, c1, c2, pa11, bv11⟩
        · rintro L T u hd hk hcl ⟨a6, c6, bA, hb, p0, p1, p2, p3, p4, p5, p6, p7, p8, p9, p10, p12, p13, q3, c1, c2, pa11, bv11⟩ K hK
          simp only [fr, Act.put, List.setIfInBounds_toArray, List.set_cons_zero, List.set_cons_succ, updO] at hK ⊢
          simp [Region.binds] at hd
          rw [if_pos (by rfl)]
          simp only [Oper.wpv]
          go_simp
          exact hK _ _ ⟨a6, c6, bA, hb, p0, p1, p2, p3, p4, p5, fun _ => rfl, p7, p8, p9, p10, p12, p13, q3, c1, c2, pa11, bv11⟩
        · rintro L T u hd hk hcl ⟨a6, c6, bA, hb, p0, p1, p2, p3, p4, p5, p6, p7, p8, p9, p10, p12, p13, q3, c1, c2, pa11, bv11⟩ K hK
          simp only [fr, Act.put, List.setIfInBounds_toArray, List.set_cons_zero, List.set_cons_succ, updO] at hK ⊢
          simp [Region.binds] at hd
          rw [if_pos (by rfl)]
          simp only [Oper.wpv]
          go_simp
          exact hK _ _ ⟨a6, c6, bA, hb, p0, p1, p2, p3, p4, p5, p6, fun _ => rfl, p8, p9, p10, p12, p13, q3, c1, c2, pa11, bv11⟩
        · rintro L T u hd hk hcl ⟨a6, c6, bA, hb, p0, p1, p2, p3, p4, p5, p6, p7, p8, p9, p10, p12, p13, q3, c1, c2, pa11, bv11⟩ K hK
          simp only [fr, Act.put, List.setIfInBounds_toArray, List.set_cons_zero, List.set_cons_succ, updO] at hK ⊢
          simp [Region.binds] at hd
          have g6 := p6 (by simp [hd])
          have g7 := p7 (by simp [hd])
          have hq := HX.out u
          rw [if_pos (by rfl)]
          simp only [Oper.wpv]
          go_simp
          exact hK _ _ ⟨a6, c6, bA, hb, p0, p1, p2, p3, p4, p5, p6, p7, fun _ => rfl, p9, p10, p12, p13, q3, c1, c2, pa11, bv11⟩
        · rintro L T u hd hk hcl ⟨a6, c6, bA, hb, p0, p1, p2, p3, p4, p5, p6, p7, p8, p9, p10, p12, p13, q3, c1, c2, pa11, bv11⟩ K hK
          simp only [fr, Act.put, List.setIfInBounds_toArray, List.set_cons_zero, List.set_cons_succ, updO] at hK ⊢
          simp [Region.binds] at hd
          have g8 := p8 (by simp [hd])
          have hq := HR.out
          rw [if_pos (by rfl)]
          simp only [Oper.wpv]
          go_simp
          exact hK _ _ ⟨a6, c6, bA, hb, p0, p1, p2, p3, p4, p5, p6, p7, p8, fun _ => rfl, p10, p12, p13, q3, c1, c2, pa11, bv11⟩
        · rintro L T u hd hk hcl ⟨a6, c6, bA, hb, p0, p1, p2, p3, p4, p5, p6, p7, p8, p9, p10, p12, p13, q3, c1, c2, pa11, bv11⟩ K hK
          simp only [fr, Act.put, List.setIfInBounds_toArray, List.set_cons_zero, List.set_cons_succ, updO] at hK ⊢
          simp [Region.binds] at hd
          have g9 := p9 (by simp [hd])
          have hq := HD2.out u
          rw [if_pos (by rfl)]
          simp only [Oper.wpv]
          go_simp
          exact hK _ _ ⟨a6, c6, bA, hb, p0, p1, p2, p3, p4, p5, p6, p7, p8, p9, fun _ => rfl, p12, p13, q3, c1, c2, pa11, bv11⟩
        · rintro L T u hd hk hcl ⟨a6, c6, bA, hb, p0, p1, p2, p3, p4, p5, p6, p7, p8, p9, p10, p12, p13, q3, c1, c2, pa11, bv11⟩ K hK
          simp only [fr, Act.put, List.setIfInBounds_toArray, List.set_cons_zero, List.set_cons_succ, updO] at hK ⊢
          simp [Region.binds] at hd
          have k12 := hcl 12 _ rfl
          simp [Region.binds] at k12
          have hE : L 12 = false := by cases h : L 12 with | false => rfl | true => have a12 := k12 h; simp [hk] at a12
          have g5 := p5 (by simp [hd])
          have g10 := p10 (by simp [hd])
          have k13 := hcl 13 _ rfl
          simp [Region.binds] at k13
          have hg : Below u.heap.size u (u.alloc (.cells #[.int .u8 (G1.toNat : Int), .int .u8 (G2.toNat : Int)] 5)) := (Below.refl _ _).alloc (Nat.le_refl _) _
          rw [if_pos (by rfl)]
          simp only [Oper.wpv]
          go_simp
          exact hK _ _ ⟨a6, c6, u.heap.size, hb, p0, p1, p2, p3, p4, p5, p6, p7, p8, p9, p10, p12, p13, q3, fun _ => sT (c1 hE) hg, fun h => absurd (show L 12 = true from h) (by simp [hE]), fun _ _ => ⟨rfl, (c1 hE).size, by simp⟩, fun _ _ => (own_isRow u8_len (u8_new u [G1, G2] #[.int .u8 (G1.toNat : Int), .int .u8 (G2.toNat : Int)] 2 rfl rfl (by unfold maxLen; omega) (by decide)) rfl).1⟩
        · rintro L T u hd hk hcl ⟨a6, c6, bA, hb, p0, p1, p2, p3, p4, p5, p6, p7, p8, p9, p10, p12, p13, q3, c1, c2, pa11, bv11⟩ K hK
          simp only [fr, Act.put, List.setIfInBounds_toArray, List.set_cons_zero, List.set_cons_succ, updO] at hK ⊢
          simp [Region.binds] at hd
          have hE : L 12 = false := hk
          have g0 := p0 (by simp [hd])
          have g11 := pa11 (by simp [hd]) hE
          have k13 := hcl 13 _ rfl
          simp [Region.binds] at k13
          have hrw := bv11 (by simp [hd]) hE
          rw [if_pos (by rfl)]
          simp only [Oper.wpv]
          refine St.wpv_append_row EU (.tmp 11) (.tmp 22) (by rfl) w.heap.size (.slice a (1 + 2 * k) c) (1 + 2 * k) bs g0 (HOw.out u (c1 hE)) (some ⟨bA, 0, none⟩) 2 2 [G1, G2] (g11.1) hrw (by unfold maxLen; omega) (by omega) (Nat.le_trans (HBw.out u (c1 hE)).size (Nat.le_refl _)) ?_
          intro a6 c6 u6 own6 gr6 at6
          have hu6 : Below w.heap.size w u6 := (HBw.out u (c1 hE)).grown gr6 (HBw.out u (c1 hE)).size (fun q hq => HLt.out q hq)
          exact hK _ _ ⟨a6, c6, bA, hb, p0, p1, p2, p3, p4, p5, p6, p7, p8, p9, p10, fun _ => rfl, fun h => absurd (show L 13 = true from h) (by intro hh; have a13 := k13 hh; simp [hk] at a13), q3, fun h0 => Bool.noConfusion (show true = false from h0), fun _ => ⟨own6, hu6⟩, fun h0 h1 => Bool.noConfusion (show true = false from h1), fun h0 h1 => Bool.noConfusion (show true = false from h1)⟩
        · rintro L T u hd hk hcl ⟨a6, c6, bA, hb, p0, p1, p2, p3, p4, p5, p6, p7, p8, p9, p10, p12, p13, q3, c1, c2, pa11, bv11⟩ K hK
          simp only [fr, Act.put, List.setIfInBounds_toArray, List.set_cons_zero, List.set_cons_succ, updO] at hK ⊢
          simp [Region.binds] at hd
          have g12 := p12 (by simp [hd])
          rw [if_pos (by rfl)]
          simp only [Oper.wpv]
          go_simp
          exact hK _ _ ⟨a6, c6, bA, hb, p0, p1, p2, p3, p4, p5, p6, p7, p8, p9, p10, p12, fun _ => rfl, fun h => Bool.noConfusion (show true = false from h), c1, c2, pa11, bv11⟩
      · rintro L T u hl ⟨a6, c6, bA, hb, p0, p1, p2, p3, p4, p5, p6, p7, p8, p9, p10, p12, p13, q3, c1, c2, pa11, bv11⟩
        simp only [fr, Act.put, List.setIfInBounds_toArray, List.set_cons_zero, List.set_cons_succ]
        have h3 := p13 (hl 13 (by decide))
        obtain ⟨hO2, hb2⟩ := c2 (hl 12 (by decide))
        clear p0 p1 p2 p3 p4 p5 p6 p7 p8 p9 p10 p12 p13 q3 c1 c2 pa11 bv11 HX HQ HR HD1 HD2 HOw HBw HLt
        rw [h3]
        clear h3
        go_wp2
        go_roundw
        case rel => exact ⟨k + 1, c6, a6, bs ++ [G1, G2], by rw [show 1 + 2 * (k + 1) = 1 + 2 * k + 2 by omega], by go_num, HJ.out, by simp; omega, by rw [show 1 + 2 * (k + 1) = 1 + 2 * k + 2 by omega]; exact hO2, HT2, hb2⟩
        case measure => have := HJ.out; simp [intOf]; omega
    · obtain rfl : k = s.size := by omega
      have hnl : ¬ ((s.size : Int) < (s.size : Int)) := by omega
      have hcv := HF.out bs a (1 + 2 * s.size) c wo (by rw [hT.out, List.take_of_length_le (show s.data.toList.length ≤ s.size from Nat.le_refl _)]) hbl (by omega) (own_isRow u8_len hO hbl).1
      clear hT HF
      go_wp2
      go_ret
      exact ⟨rfl, hb0⟩
end Go.Proofs.YtlaagfnoepcnlaaDoor.Ln
