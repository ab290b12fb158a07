/- Texts of this claim, one behind the other. -/
import Derived.Test.YtgohpgollpjlnaaDoorShelf
import Derived.Test.YtgohpgollpjlnaaDoorA1ConsoleReads
import Derived.Test.YtgohpgollpjlnaaDoorM2ConsoleReads
import Derived.Shelf.Strings.BuilderK
import Derived.Lib.BufferKept
import Derived.Test.YtgohpgollpjlnaaDoorM5ConsoleReads
import Derived.Test.YtgohpgollpjlnaaDoorM3ConsoleReads
import Derived.Lib.ItoaLen
import Derived.Lib.Join
import Derived.OwnWalk
import Derived.LoopTactic
import Derived.Deep.Cut
import Derived.Deep.DeepCutAuto
import Derived.Deep.RegionHeld3
/- strings.Builder: what is written goes in behind; what else is there stays. -/
namespace Go.Proofs.YtgohpgollpjlnaaDoor.Cn
open Go.ChangeShapes Go.WideShapes Go.ChangeAt Go.RowKit
open Go.Proofs.YtgohpgollpjlnaaDoor.St (BoxN boxn_new)
set_option linter.unusedVariables false

/-- A builder in block b that holds these bytes. -/
def Bld (B b : Nat) (l : List UInt8) (w : World) : Prop := Lib.IsBuilderF 98 5 B b (Lib.byteCells l) w
def Kept (b : Nat) (w w' : World) : Prop := Lib.OthersKept 5 (some b) w w'
theorem str_cells (s : ByteArray) : Lib.strCells s = Lib.byteCells s.data.toList := by
  unfold Lib.strCells Lib.byteCells
  simp
theorem cells_app (l m : List UInt8) : Lib.byteCells l ++ Lib.byteCells m = Lib.byteCells (l ++ m) := by
  unfold Lib.byteCells
  simp
theorem cells_len (l : List UInt8) : (Lib.byteCells l).length = l.length := by
  unfold Lib.byteCells
  simp
theorem write_any (B b : Nat) (l : List UInt8) (s : ByteArray) (w : World) (h : Bld B b l w) (hlen : l.length + s.size ≤ 140737488355328) (hBw : B ≤ w.heap.size) :
    Calls Tryd.prog 48 #[.pointer (some ⟨b, 0, none⟩), .string s] w fun e w' => e = .returned (.tuple #[.int .i64 s.size, .nilIface]) ∧ Bld B b (l ++ s.data.toList) w' ∧ Below B w w' ∧ Kept b w w' := by
  refine (Any.Builder_WriteString_k (ρ := Tryd.lays156_ren) { Tryd.lays156 with } Tryd.Builder_Extra_156 B b (Lib.byteCells l) s w h (by rw [cells_len]; exact hlen) hBw).mono ?_
  rintro e w' ⟨rfl, h1, h2, h3⟩
  refine ⟨rfl, Or.inr ?_, h2, h3⟩
  rw [str_cells, cells_app] at h1
  exact h1
theorem string_any (B b : Nat) (l : List UInt8) (w : World) (h : Bld B b l w) (hBw : B ≤ w.heap.size) :
    Calls Tryd.prog 51 #[.pointer (some ⟨b, 0, none⟩)] w fun e w' => e = .returned (.string ⟨l.toArray⟩) ∧ Bld B b l w' ∧ Below B w w' ∧ Kept b w w' :=
  Tryd.Builder_String_any_k B b l w h hBw
theorem Bld.new (w : World) (B : Nat) (hB : B ≤ w.heap.size) : Bld B w.heap.size [] (w.alloc (.cells #[.pointer none, .slice none 0 0] 98)) :=
  Or.inl ⟨hB, .slice none 0 0, heap_alloc_new w _, World.ownsRowF_nil _ _ _ _, by simp [Value.ownBlock]⟩
theorem Bld.below {B b : Nat} {l : List UInt8} {w w' : World} (h : Bld B b l w) (hb : Below w.heap.size w w') : Bld B b l w' := by
  have key : ∀ p, Lib.BuilderAtF 98 5 B b p (Lib.byteCells l) w → Lib.BuilderAtF 98 5 B b p (Lib.byteCells l) w' := fun p h => by
    obtain ⟨h1, v, h2, h3, h4⟩ := h
    have hl : b < w.heap.size := by
      by_cases hh : b < w.heap.size
      · exact hh
      · rw [Array.getElem?_eq_none (by omega)] at h2; cases h2
    refine ⟨h1, v, (hb.block b hl).trans h2, h3.kept (row := none) ⟨hb.os, hb.tape, hb.output, hb.size, fun j hj _ => hb.block j hj⟩ ?_, h4⟩
    cases hv : v.ownBlock with
    | none => exact Or.inl rfl
    | some g => exact Or.inr (by simp)
  exact h.elim (fun x => Or.inl (key _ x)) (fun x => Or.inr (key _ x))
theorem Bld.lt {B b : Nat} {l : List UInt8} {w : World} (h : Bld B b l w) : b < w.heap.size := by
  rcases h with h | h <;> exact h.lt
/-- A block as it lies. -/
def ObAt (w : World) (q : Nat) (cs : Array Value) (T : TypeId) : Prop := w.heap[q]? = some (.cells cs T (0, 0))
theorem ObAt.new (w : World) (cs : Array Value) (T : TypeId) : ObAt (w.alloc (.cells cs T)) w.heap.size cs T := heap_alloc_new w _
theorem ObAt.lt {w : World} {q : Nat} {cs : Array Value} {T : TypeId} (h : ObAt w q cs T) : q < w.heap.size := (Array.getElem?_eq_some_iff.1 h).1
theorem ObAt.below {w w' : World} {q : Nat} {cs : Array Value} {T : TypeId} (h : ObAt w q cs T) (hb : Below w.heap.size w w') : ObAt w' q cs T := (hb.block q h.lt).trans h
theorem ObAt.kept {w w' : World} {b q : Nat} {cs : Array Value} {T : TypeId} (h : ObAt w q cs T) (hk : Kept b w w') (hq : q ≠ b) (hT : T ≠ 5) : ObAt w' q cs T :=
  hk q _ h (fun e => hq (Option.some.inj e)) (fun c fz e => by cases e; exact hT rfl)
theorem ObAt.cell {w : World} {q : Nat} {cs : Array Value} {T : TypeId} (h : ObAt w q cs T) (i : Nat) : w.cell? ⟨q, i, none⟩ = cs[i]? := cell_of_row w q i cs T (0, 0) h
end Go.Proofs.YtgohpgollpjlnaaDoor.Cn
/- An append of a row as an operation of a drawn region that goes by an invariant. -/
namespace Go.Proofs.YtgohpgollpjlnaaDoor.St
open Go.ChangeShapes Go.WideShapes Go.ChangeAt Go.RowKit
set_option linter.unusedVariables false

theorem wpv_append_row {α : Type} [Inhabited α] {k : Nat} {cells : α → List Value} {te tsl : TypeId} {i : TypeInfo} {z : Value} {bytes : Nat} (E : Elem k cells te tsl i z bytes) {w : World} {o : Oper} {A : Act} {K : Value → World → Prop} {Q : Exit → Act → World → Prop} (s x : Operand)
    (ho : o.op = .call { callee := .builtin .append, args := #[s, x], argTypes := #[tsl, tsl] })
    (B : Nat) (v : Value) (n : Nat) (xs : List α) (hs : A.eval s = v) (hown : w.ownsRow B te k v n (flat cells xs))
    (a : Option Addr) (len cap : Nat) (bs : List α) (hx : A.eval x = .slice a len cap) (hb : IsRow k cells w a len cap bs) (h63 : n + len ≤ maxLen) (hby : (n + len) * bytes ≤ 140737488355328) (hbase : B ≤ w.heap.size)
    (h : ∀ a' cap' w', w'.ownsRow B te k (.slice a' (n + len) cap') (n + len) (flat cells (xs ++ bs)) → w.grownBy w' v.ownBlock → ((Value.slice a' (n + len) cap').ownBlock = v.ownBlock ∨ (Value.slice a' (n + len) cap').ownBlock = some w.heap.size) → K (.slice a' (n + len) cap') w') :
    Oper.wpv Tryd.prog o A w K Q := by
  obtain ⟨a', cap', w', hr, h2, h3, h4⟩ := run_append_row E (w := w) o.type B v n xs hown a len cap bs hb h63 hby hbase
  unfold Oper.wpv execOp
  simp only [ho, resolve, invoke, builtin, Sem.run_bind, Sem.run_pure, Result.andThen_ok, List.map_toArray, List.map_cons, List.map_nil, hs, hx, hr]
  exact h a' cap' w' h2 h3 h4
end Go.Proofs.YtgohpgollpjlnaaDoor.St
/- console's verdict and lineAbout: words, and a line. -/
namespace Go.Proofs.YtgohpgollpjlnaaDoor.Cn
open Go.ChangeShapes Go.WideShapes Go.ChangeAt Go.RowKit
open Go.Proofs.YtgohpgollpjlnaaDoor.St (BoxN boxn_new own_below IsRow Elem flat flat_append own_isRow)
set_option linter.unusedVariables false

theorem lT {u v z : World} (h : Below u.heap.size u v) (k : Below v.heap.size v z) : Below u.heap.size u z := h.trans (k.mono h.size)
def stC (s : ByteArray) : List Value := [.string s]
theorem st_len (x : ByteArray) : (stC x).length = 1 := rfl
theorem st_one (y : ByteArray) : ∀ u ∈ stC y, u.oneCell' = true := by
  intro u hu
  simp only [stC, List.mem_cons, List.not_mem_nil, or_false] at hu
  rcases hu with rfl
  rfl
theorem stInfo : (Tryd.prog.info? 9).map (fun i => (i.zero, i.size, i.bytes)) = some (some (.string ⟨#[]⟩), 1, 16) := by kernel_rfl
theorem stElem : ∃ i, Elem 1 stC 9 41 i (.string ⟨#[]⟩) 16 := by
  obtain ⟨j0, hj, lj0, lj1, lj2⟩ := info_parts stInfo
  exact ⟨j0, st_len, by decide, st_one, Tryd.underlying41, hj, lj0, lj1, lj2, rfl⟩
theorem flat_st : ∀ (vs : List ByteArray), (flat stC vs).length = vs.length
  | [] => rfl
  | x :: r => by
    have := flat_st r
    simp only [flat, List.flatMap_cons, List.length_append, List.length_cons] at *
    rw [this]
    simp [stC, Nat.add_comm]
theorem row_new (X : World) (t : TypeId) (vs : List ByteArray) (cs : Array Value) (n : Nat) (hn : vs.length = n) (hc : cs.toList = flat stC vs) (hm : n ≤ maxLen) (h0 : 0 < n) : (X.alloc (.cells cs t)).ownsRow X.heap.size t 1 (.slice (some ⟨X.heap.size, 0, none⟩) n n) n (flat stC vs) := by
  have hl : (flat stC vs).length = n := by rw [← hn]; exact flat_st vs
  have hs : cs.size = n := by rw [← Array.length_toList, hc, hl]
  refine ⟨by rw [hl]; omega, Or.inr ⟨X.heap.size, n, cs, rfl, Nat.le_refl _, heap_alloc_new X _, Nat.le_refl _, hm, by omega, ?_⟩⟩
  rw [Nat.mul_one, ← hc, List.take_of_length_le (by simp [hs])]
theorem ownB {w : World} {B C : Nat} {te : TypeId} {k : Nat} {v : Value} {n : Nat} {xs : List Value} (h : w.ownsRow C te k v n xs) (hB : B ≤ C) : w.ownsRow B te k v n xs := by
  obtain ⟨h1, h2⟩ := h
  refine ⟨h1, ?_⟩
  rcases h2 with h2 | ⟨g, cap, cur, e, hb, r⟩
  · exact .inl h2
  · exact .inr ⟨g, cap, cur, e, Nat.le_trans hB hb, r⟩
def wDamage : ByteArray := ⟨#[100, 97, 109, 97, 103, 101]⟩
def wVerd (yes : Bool) : ByteArray := if yes then ⟨#[99, 111, 109, 109, 105, 116]⟩ else ⟨#[97, 98, 111, 114, 116]⟩
def verdB (yes dmg : Bool) : List ByteArray := if dmg then [wVerd yes, wDamage] else [wVerd yes]
theorem words1 (X : World) (a : ByteArray) (q : Nat) (hq : q = X.heap.size) : IsRow 1 stC (X.alloc (.cells #[.string a] 9)) (some ⟨q, 0, none⟩) 1 1 [a] := hq ▸ (own_isRow st_len (row_new X 9 [a] #[.string a] 1 rfl rfl (by unfold maxLen; omega) (by decide)) rfl).1
theorem words2 (X : World) (a b : ByteArray) (q : Nat) (hq : q = X.heap.size) : IsRow 1 stC (X.alloc (.cells #[.string a, .string b] 9)) (some ⟨q, 0, none⟩) 2 2 [a, b] := hq ▸ (own_isRow st_len (row_new X 9 [a, b] #[.string a, .string b] 2 rfl rfl (by unfold maxLen; omega) (by decide)) rfl).1
/-- Words in memory that a call made. -/
def WordsIs (w w' : World) (e : Ending) (ws : List ByteArray) : Prop := ∃ a n, e = .returned (.slice a n n) ∧ IsRow 1 stC w' a n n ws ∧ Below w.heap.size w w'
set_option maxRecDepth 100000 in
set_option maxHeartbeats 2000000 in
theorem verdict_any (t1 t2 : Int) (yes dmg : Bool) (w : World) :
    Calls Tryd.prog 52 #[.agg #[.int .i64 t1, .int .i64 t2, .bool yes, .bool dmg]] w fun e w' => WordsIs w w' e (verdB yes dmg) := by
  have HB : Hid (∀ (x : Array Value) (y : TypeId), Below w.heap.size w ((w.alloc (.cells #[.int .i64 t1, .int .i64 t2, .bool yes, .bool dmg] 48)).alloc (.cells x y))) := fun x y => ((Below.refl _ _).alloc (Nat.le_refl _) _).alloc (by simp) _
  cases dmg
  · cases yes
    all_goals
      go_enter Tryd.func52, Tryd.ntmps52
      go_wp2
      refine bodyPost_ret (v := .slice (some ⟨w.heap.size + 1, 0, none⟩) 1 1) (by simp [results, Tryd.results52, go_sem]) rfl ?_
      refine ⟨_, 1, rfl, ?_, HB.out _ _⟩
      exact words1 (w.alloc (.cells #[.int .i64 t1, .int .i64 t2, .bool _, .bool false] 48)) _ _ (by simp)
  · cases yes
    all_goals
      go_enter Tryd.func52, Tryd.ntmps52
      go_wp2
      refine bodyPost_ret (v := .slice (some ⟨w.heap.size + 1, 0, none⟩) 2 2) (by simp [results, Tryd.results52, go_sem]) rfl ?_
      refine ⟨_, 2, rfl, ?_, HB.out _ _⟩
      exact words2 (w.alloc (.cells #[.int .i64 t1, .int .i64 t2, .bool _, .bool true] 48)) _ _ _ (by simp)
/-- A line. -/
def lineBy (p t1 t2 : Int) (rest : List ByteArray) : ByteArray := ⟨(Lib.join ([Lib.itoa p, Lib.itoa t1, Lib.itoa t2] ++ rest.map (·.data.toList)) [32]).toArray⟩ ++ ⟨#[10]⟩
def i64 (n : Int) : Prop := -9223372036854775808 ≤ n ∧ n ≤ 9223372036854775807
theorem lens_le (m : Nat) : ∀ (l : List (List UInt8)), (∀ x ∈ l, x.length ≤ m) → Lib.lens l ≤ m * l.length := by
  intro l
  induction l with
  | nil => intro _; simp [Lib.lens]
  | cons x r ih =>
    intro h
    have h1 := h x (by simp)
    have h2 := ih (fun y hy => h y (by simp [hy]))
    simp only [Lib.lens, List.map_cons, List.sum_cons, List.length_cons] at *
    rw [Nat.mul_add]
    omega
theorem line_len (p t1 t2 : Int) (rest : List ByteArray) (hp : i64 p) (h1 : i64 t1) (h2 : i64 t2) (hr : rest.length ≤ 4) (hz : ∀ x ∈ rest, x.size ≤ 30) :
    (Lib.join ([Lib.itoa p, Lib.itoa t1, Lib.itoa t2] ++ rest.map (·.data.toList)) [32]).length ≤ 217 := by
  rw [List.cons_append, Lib.join_length]
  have h8 := lens_le 30 (Lib.itoa p :: ([Lib.itoa t1, Lib.itoa t2] ++ rest.map (·.data.toList))) (fun x hx => by
    have e1 := Lib.itoa_length_le p hp.1 hp.2
    have e2 := Lib.itoa_length_le t1 h1.1 h1.2
    have e3 := Lib.itoa_length_le t2 h2.1 h2.2
    simp only [List.cons_append, List.nil_append, List.mem_cons, List.mem_map] at hx
    rcases hx with rfl | rfl | rfl | ⟨y, hy, rfl⟩
    · omega
    · omega
    · omega
    · exact hz y hy)
  simp only [List.length_cons, List.length_append, List.length_map, List.length_nil] at *
  omega
set_option maxRecDepth 100000 in
set_option maxHeartbeats 4000000 in
theorem line_any (p t1 t2 : Int) (ra : Option Addr) (rn rc : Nat) (rest : List ByteArray) (w : World) (hp : i64 p) (h1 : i64 t1) (h2 : i64 t2) (hR : IsRow 1 stC w ra rn rc rest) (hr : rn ≤ 4) (hz : ∀ x ∈ rest, x.size ≤ 30) (hT : ∀ U, Below w.heap.size w U → Lib.TabIs Tryd.prog U "internal/strconv.uint64pow10" .u64 Lib.pow10Tab) :
    Calls Tryd.prog 49 #[.int .i64 p, .agg #[.int .i64 t1, .int .i64 t2], .slice ra rn rc] w fun e w' => e = .returned (.string (lineBy p t1 t2 rest)) ∧ Below w.heap.size w w' := by
  obtain ⟨iE, ES⟩ := stElem
  have hrl := hR.1
  have hln := line_len p t1 t2 rest hp h1 h2 (by omega) hz
  obtain ⟨W, hW⟩ : ∃ W : World, W = w.alloc (.cells #[.int .i64 t1, .int .i64 t2] 23) := ⟨_, rfl⟩
  have oT : ObAt W w.heap.size #[.int .i64 t1, .int .i64 t2] 23 := by rw [hW]; exact ObAt.new w _ _
  have bW : Below w.heap.size w W := by rw [hW]; exact (Below.refl _ _).alloc (Nat.le_refl _) _
  have HI : Hid (∀ (n : Int) (U : World), i64 n → Below W.heap.size W U → Calls Tryd.prog 50 #[.int .i64 n] U fun e w' => e = .returned (.string ⟨(Lib.itoa n).toArray⟩) ∧ Below U.heap.size U w') := fun n U hn hU => by
    refine (Tryd.strconv_Itoa n hn.1 hn.2 U (hT U (bW.trans (hU.mono bW.size)))).mono ?_
    rintro e w' ⟨rfl, k, os, rfl⟩
    refine ⟨rfl, ⟨rfl, rfl, rfl, by simp [Go.Sort.grow, World.drewN], fun j hj => ?_⟩⟩
    simp only [Go.Sort.grow, World.drewN]
    rw [Array.getElem?_append_left hj]
  have HX : Hid (∀ U, Below W.heap.size W U → U.cell? ⟨w.heap.size, 0, none⟩ = some (.int .i64 t1) ∧ U.cell? ⟨w.heap.size, 1, none⟩ = some (.int .i64 t2)) := fun U hU => ⟨(oT.below hU).cell 0, (oT.below hU).cell 1⟩
  have HRw : Hid (∀ U, Below W.heap.size W U → IsRow 1 stC U ra rn rc rest) := fun U hU => (hR.below bW).below hU
  obtain ⟨sp, ep⟩ : ∃ s : ByteArray, s = ⟨(Lib.itoa p).toArray⟩ := ⟨_, rfl⟩
  obtain ⟨s1, e1⟩ : ∃ s : ByteArray, s = ⟨(Lib.itoa t1).toArray⟩ := ⟨_, rfl⟩
  obtain ⟨s2, e2⟩ : ∃ s : ByteArray, s = ⟨(Lib.itoa t2).toArray⟩ := ⟨_, rfl⟩
  have HC0 : Hid (∀ U, Below W.heap.size W U → Calls Tryd.prog 50 #[.int .i64 p] U fun e w' => e = .returned (.string sp) ∧ Below U.heap.size U w') := fun U hU => by rw [ep]; exact HI.out p U hp hU
  have HC1 : Hid (∀ U, Below W.heap.size W U → Calls Tryd.prog 50 #[.int .i64 t1] U fun e w' => e = .returned (.string s1) ∧ Below U.heap.size U w') := fun U hU => by rw [e1]; exact HI.out t1 U h1 hU
  have HC2 : Hid (∀ U, Below W.heap.size W U → Calls Tryd.prog 50 #[.int .i64 t2] U fun e w' => e = .returned (.string s2) ∧ Below U.heap.size U w') := fun U hU => by rw [e2]; exact HI.out t2 U h2 hU
  have HD : Hid (([sp, s1, s2] ++ rest).map (·.data.toList) = [Lib.itoa p, Lib.itoa t1, Lib.itoa t2] ++ rest.map (·.data.toList)) := by
    show _ = _
    rw [ep, e1, e2]
    simp
  have HL : Hid ((Lib.join ([Lib.itoa p, Lib.itoa t1, Lib.itoa t2] ++ rest.map (·.data.toList)) [32]).length ≤ 217) := hln
  obtain ⟨J, eJ⟩ : ∃ J, J = Lib.join ([Lib.itoa p, Lib.itoa t1, Lib.itoa t2] ++ rest.map (·.data.toList)) [32] := ⟨_, rfl⟩
  have HJ : Hid (lineBy p t1 t2 rest = ⟨J.toArray⟩ ++ ⟨#[10]⟩) := by show _ = _; rw [eJ]; rfl
  have HJ2 : Hid (Lib.join (([sp, s1, s2] ++ rest).map (·.data.toList)) [32] = J) := by show _ = _; rw [HD.out, eJ]
  have hJl : J.length ≤ 217 := by rw [eJ]; exact hln
  clear ep e1 e2 eJ HD HL HI hln oT hR hp h1 h2 hz hT
  go_enter Tryd.func49, Tryd.ntmps49
  go_upto_region 1 with (fail)
  rw [← hW]
  clear hW
  refine wp_region_inv (by kernel_rfl) [8, 9, 10, 11, 12, 13, 14, 15, 16, 17, 18, 7] (fun L T u => ∃ (a6 : Option Addr) (c6 : Nat) (bA : Nat), True ∧ (L 0 = true → T 8 = .int .i64 p) ∧ (L 1 = true → T 9 = .string sp) ∧ (L 2 = true → T 10 = .pointer (some ⟨w.heap.size, 0, none⟩)) ∧ (L 3 = true → T 11 = .int .i64 t1) ∧ (L 4 = true → T 12 = .string s1) ∧ (L 5 = true → T 13 = .pointer (some ⟨w.heap.size, 1, none⟩)) ∧ (L 6 = true → T 14 = .int .i64 t2) ∧ (L 7 = true → T 15 = .string s2) ∧ (L 9 = true → T 17 = .slice ra rn rc) ∧ (L 10 = true → T 18 = .slice a6 (3 + rn) c6) ∧ (L 11 = true → T 7 = .slice a6 (3 + rn) c6) ∧ (L 10 = false → Below W.heap.size W u) ∧ (L 10 = true → (IsRow 1 stC u a6 (3 + rn) c6 ([sp, s1, s2] ++ rest) ∧ Below W.heap.size W u)) ∧ (L 8 = true → L 10 = false → (T 16 = .slice (some ⟨bA, 0, none⟩) 3 3 ∧ W.heap.size ≤ bA ∧ bA < u.heap.size)) ∧ (L 8 = true → L 10 = false → u.ownsRow W.heap.size 9 1 (.slice (some ⟨bA, 0, none⟩) 3 3) 3 (flat stC [sp, s1, s2]))) (by decide) (by kernel_rfl) (by kernel_rfl) ?_ ?_ ?_
  · exact ⟨none, 0, 0, trivial, nofun, nofun, nofun, nofun, nofun, nofun, nofun, nofun, nofun, nofun, nofun, fun _ => (Below.refl _ _).drew, nofun, nofun, nofun⟩
  · refine ⟨?_, ?_, ?_, ?_, ?_, ?_, ?_, ?_, ?_, ?_, ?_, ?_, trivial⟩
    · rintro L T u hd hk hcl ⟨a6, c6, bA, hb, p0, p1, p2, p3, p4, p5, p6, p7, p9, p10, p11, c1, c2, pa8, bv8⟩ K hK
      simp only [fr, Act.put, List.setIfInBounds_toArray, List.set_cons_zero, List.set_cons_succ, updO] at hK ⊢
      simp [Region.binds] at hd
      rw [if_pos (by rfl)]
      simp only [Oper.wpv]
      go_simp
      exact hK _ _ ⟨a6, c6, bA, hb, fun _ => rfl, p1, p2, p3, p4, p5, p6, p7, p9, p10, p11, c1, c2, pa8, bv8⟩
    · rintro L T u hd hk hcl ⟨a6, c6, bA, hb, p0, p1, p2, p3, p4, p5, p6, p7, p9, p10, p11, c1, c2, pa8, bv8⟩ K hK
      simp only [fr, Act.put, List.setIfInBounds_toArray, List.set_cons_zero, List.set_cons_succ, updO] at hK ⊢
      simp [Region.binds] at hd
      have g0 := p0 (by simp [hd])
      have k10 := hcl 10 _ rfl
      simp [Region.binds] at k10
      have k8 := hcl 8 _ rfl
      simp [Region.binds] at k8
      have hE : L 10 = false := by cases h : L 10 with | false => rfl | true => have a10 := k10 h; have a8 := k8 (by simp [a10]); simp [hk] at a8
      rw [if_pos (by rfl)]
      simp only [Oper.wpv]
      go_simp
      refine (HC0.out u (c1 hE)).mono ?_
      rintro e u1 ⟨rfl, hg⟩
      exact hK _ _ ⟨a6, c6, bA, hb, p0, fun _ => rfl, p2, p3, p4, p5, p6, p7, p9, p10, p11, fun _ => lT (c1 hE) hg, fun h => absurd (show L 10 = true from h) (by simp [hE]), fun h0 h1 => ⟨(pa8 h0 h1).1, (pa8 h0 h1).2.1, Nat.lt_of_lt_of_le (pa8 h0 h1).2.2 hg.size⟩, fun h0 h1 => own_below (bv8 h0 h1) hg⟩
    · rintro L T u hd hk hcl ⟨a6, c6, bA, hb, p0, p1, p2, p3, p4, p5, p6, p7, p9, p10, p11, c1, c2, pa8, bv8⟩ K hK
      simp only [fr, Act.put, List.setIfInBounds_toArray, List.set_cons_zero, List.set_cons_succ, updO] at hK ⊢
      simp [Region.binds] at hd
      rw [if_pos (by rfl)]
      simp only [Oper.wpv]
      go_simp
      exact hK _ _ ⟨a6, c6, bA, hb, p0, p1, fun _ => rfl, p3, p4, p5, p6, p7, p9, p10, p11, c1, c2, pa8, bv8⟩
    · rintro L T u hd hk hcl ⟨a6, c6, bA, hb, p0, p1, p2, p3, p4, p5, p6, p7, p9, p10, p11, c1, c2, pa8, bv8⟩ K hK
      simp only [fr, Act.put, List.setIfInBounds_toArray, List.set_cons_zero, List.set_cons_succ, updO] at hK ⊢
      simp [Region.binds] at hd
      have g2 := p2 (by simp [hd])
      have k10 := hcl 10 _ rfl
      simp [Region.binds] at k10
      have k8 := hcl 8 _ rfl
      simp [Region.binds] at k8
      have k4 := hcl 4 _ rfl
      simp [Region.binds] at k4
      have hE : L 10 = false := by cases h : L 10 with | false => rfl | true => have a10 := k10 h; have a8 := k8 (by simp [a10]); have a4 := k4 (by simp [a8]); simp [hk] at a4
      obtain ⟨x0, x1⟩ := HX.out u (c1 hE)
      rw [if_pos (by rfl)]
      simp only [Oper.wpv]
      go_simp
      exact hK _ _ ⟨a6, c6, bA, hb, p0, p1, p2, fun _ => rfl, p4, p5, p6, p7, p9, p10, p11, c1, c2, pa8, bv8⟩
    · rintro L T u hd hk hcl ⟨a6, c6, bA, hb, p0, p1, p2, p3, p4, p5, p6, p7, p9, p10, p11, c1, c2, pa8, bv8⟩ K hK
      simp only [fr, Act.put, List.setIfInBounds_toArray, List.set_cons_zero, List.set_cons_succ, updO] at hK ⊢
      simp [Region.binds] at hd
      have g3 := p3 (by simp [hd])
      have k10 := hcl 10 _ rfl
      simp [Region.binds] at k10
      have k8 := hcl 8 _ rfl
      simp [Region.binds] at k8
      have hE : L 10 = false := by cases h : L 10 with | false => rfl | true => have a10 := k10 h; have a8 := k8 (by simp [a10]); simp [hk] at a8
      rw [if_pos (by rfl)]
      simp only [Oper.wpv]
      go_simp
      refine (HC1.out u (c1 hE)).mono ?_
      rintro e u1 ⟨rfl, hg⟩
      exact hK _ _ ⟨a6, c6, bA, hb, p0, p1, p2, p3, fun _ => rfl, p5, p6, p7, p9, p10, p11, fun _ => lT (c1 hE) hg, fun h => absurd (show L 10 = true from h) (by simp [hE]), fun h0 h1 => ⟨(pa8 h0 h1).1, (pa8 h0 h1).2.1, Nat.lt_of_lt_of_le (pa8 h0 h1).2.2 hg.size⟩, fun h0 h1 => own_below (bv8 h0 h1) hg⟩
    · rintro L T u hd hk hcl ⟨a6, c6, bA, hb, p0, p1, p2, p3, p4, p5, p6, p7, p9, p10, p11, c1, c2, pa8, bv8⟩ K hK
      simp only [fr, Act.put, List.setIfInBounds_toArray, List.set_cons_zero, List.set_cons_succ, updO] at hK ⊢
      simp [Region.binds] at hd
      rw [if_pos (by rfl)]
      simp only [Oper.wpv]
      go_simp
      exact hK _ _ ⟨a6, c6, bA, hb, p0, p1, p2, p3, p4, fun _ => rfl, p6, p7, p9, p10, p11, c1, c2, pa8, bv8⟩
    · rintro L T u hd hk hcl ⟨a6, c6, bA, hb, p0, p1, p2, p3, p4, p5, p6, p7, p9, p10, p11, c1, c2, pa8, bv8⟩ K hK
      simp only [fr, Act.put, List.setIfInBounds_toArray, List.set_cons_zero, List.set_cons_succ, updO] at hK ⊢
      simp [Region.binds] at hd
      have g5 := p5 (by simp [hd])
      have k10 := hcl 10 _ rfl
      simp [Region.binds] at k10
      have k8 := hcl 8 _ rfl
      simp [Region.binds] at k8
      have k7 := hcl 7 _ rfl
      simp [Region.binds] at k7
      have hE : L 10 = false := by cases h : L 10 with | false => rfl | true => have a10 := k10 h; have a8 := k8 (by simp [a10]); have a7 := k7 (by simp [a8]); simp [hk] at a7
      obtain ⟨x0, x1⟩ := HX.out u (c1 hE)
      rw [if_pos (by rfl)]
      simp only [Oper.wpv]
      go_simp
      exact hK _ _ ⟨a6, c6, bA, hb, p0, p1, p2, p3, p4, p5, fun _ => rfl, p7, p9, p10, p11, c1, c2, pa8, bv8⟩
    · rintro L T u hd hk hcl ⟨a6, c6, bA, hb, p0, p1, p2, p3, p4, p5, p6, p7, p9, p10, p11, c1, c2, pa8, bv8⟩ K hK
      simp only [fr, Act.put, List.setIfInBounds_toArray, List.set_cons_zero, List.set_cons_succ, updO] at hK ⊢
      simp [Region.binds] at hd
      have g6 := p6 (by simp [hd])
      have k10 := hcl 10 _ rfl
      simp [Region.binds] at k10
      have k8 := hcl 8 _ rfl
      simp [Region.binds] at k8
      have hE : L 10 = false := by cases h : L 10 with | false => rfl | true => have a10 := k10 h; have a8 := k8 (by simp [a10]); simp [hk] at a8
      rw [if_pos (by rfl)]
      simp only [Oper.wpv]
      go_simp
      refine (HC2.out u (c1 hE)).mono ?_
      rintro e u1 ⟨rfl, hg⟩
      exact hK _ _ ⟨a6, c6, bA, hb, p0, p1, p2, p3, p4, p5, p6, fun _ => rfl, p9, p10, p11, fun _ => lT (c1 hE) hg, fun h => absurd (show L 10 = true from h) (by simp [hE]), fun h0 h1 => ⟨(pa8 h0 h1).1, (pa8 h0 h1).2.1, Nat.lt_of_lt_of_le (pa8 h0 h1).2.2 hg.size⟩, fun h0 h1 => own_below (bv8 h0 h1) hg⟩
    · rintro L T u hd hk hcl ⟨a6, c6, bA, hb, p0, p1, p2, p3, p4, p5, p6, p7, p9, p10, p11, c1, c2, pa8, bv8⟩ K hK
      simp only [fr, Act.put, List.setIfInBounds_toArray, List.set_cons_zero, List.set_cons_succ, updO] at hK ⊢
      simp [Region.binds] at hd
      have k10 := hcl 10 _ rfl
      simp [Region.binds] at k10
      have hE : L 10 = false := by cases h : L 10 with | false => rfl | true => have a10 := k10 h; simp [hk] at a10
      have g1 := p1 (by simp [hd])
      have g4 := p4 (by simp [hd])
      have g7 := p7 (by simp [hd])
      have k11 := hcl 11 _ rfl
      simp [Region.binds] at k11
      have hg : Below u.heap.size u (u.alloc (.cells #[.string sp, .string s1, .string s2] 9)) := (Below.refl _ _).alloc (Nat.le_refl _) _
      rw [if_pos (by rfl)]
      simp only [Oper.wpv]
      go_simp
      exact hK _ _ ⟨a6, c6, u.heap.size, hb, p0, p1, p2, p3, p4, p5, p6, p7, p9, p10, p11, fun _ => lT (c1 hE) hg, fun h => absurd (show L 10 = true from h) (by simp [hE]), fun _ _ => ⟨rfl, (c1 hE).size, by simp⟩, fun _ _ => ownB (row_new u 9 [sp, s1, s2] #[.string sp, .string s1, .string s2] 3 rfl rfl (by unfold maxLen; omega) (by decide)) (c1 hE).size⟩
    · rintro L T u hd hk hcl ⟨a6, c6, bA, hb, p0, p1, p2, p3, p4, p5, p6, p7, p9, p10, p11, c1, c2, pa8, bv8⟩ K hK
      simp only [fr, Act.put, List.setIfInBounds_toArray, List.set_cons_zero, List.set_cons_succ, updO] at hK ⊢
      simp [Region.binds] at hd
      rw [if_pos (by rfl)]
      simp only [Oper.wpv]
      go_simp
      exact hK _ _ ⟨a6, c6, bA, hb, p0, p1, p2, p3, p4, p5, p6, p7, fun _ => rfl, p10, p11, c1, c2, pa8, bv8⟩
    · rintro L T u hd hk hcl ⟨a6, c6, bA, hb, p0, p1, p2, p3, p4, p5, p6, p7, p9, p10, p11, c1, c2, pa8, bv8⟩ K hK
      simp only [fr, Act.put, List.setIfInBounds_toArray, List.set_cons_zero, List.set_cons_succ, updO] at hK ⊢
      simp [Region.binds] at hd
      have hE : L 10 = false := hk
      have g8 := pa8 (by simp [hd]) hE
      have g9 := p9 (by simp [hd])
      have k11 := hcl 11 _ rfl
      simp [Region.binds] at k11
      have HOW := bv8 (by simp [hd]) hE
      obtain ⟨q1, q2, q3⟩ := g8
      rw [if_pos (by rfl)]
      simp only [Oper.wpv]
      refine St.wpv_append_row ES (.tmp 16) (.tmp 17) (by rfl) W.heap.size (.slice (some ⟨bA, 0, none⟩) 3 3) 3 [sp, s1, s2] q1 HOW ra rn rc rest g9 (HRw.out u (c1 hE)) (by unfold maxLen; omega) (by omega) (c1 hE).size ?_
      intro a6 c6 u6 own6 gr6 at6
      have hu6 : Below W.heap.size W u6 := (c1 hE).grown gr6 (c1 hE).size (fun q hq => by have := Option.some.inj (show some bA = some q from hq); omega)
      have hrow6 := (own_isRow st_len own6 (by simp; omega)).1
      exact hK _ _ ⟨a6, c6, bA, hb, p0, p1, p2, p3, p4, p5, p6, p7, p9, fun _ => rfl, fun h => absurd (show L 11 = true from h) (by intro hh; have a11 := k11 hh; simp [hk] at a11), fun h0 => Bool.noConfusion (show true = false from h0), fun _ => ⟨hrow6, hu6⟩, fun h0 h1 => Bool.noConfusion (show true = false from h1), fun h0 h1 => Bool.noConfusion (show true = false from h1)⟩
    · rintro L T u hd hk hcl ⟨a6, c6, bA, hb, p0, p1, p2, p3, p4, p5, p6, p7, p9, p10, p11, c1, c2, pa8, bv8⟩ K hK
      simp only [fr, Act.put, List.setIfInBounds_toArray, List.set_cons_zero, List.set_cons_succ, updO] at hK ⊢
      simp [Region.binds] at hd
      have g10 := p10 (by simp [hd])
      rw [if_pos (by rfl)]
      simp only [Oper.wpv]
      go_simp
      exact hK _ _ ⟨a6, c6, bA, hb, p0, p1, p2, p3, p4, p5, p6, p7, p9, p10, fun _ => rfl, c1, c2, pa8, bv8⟩
  · rintro L T u hl ⟨a6, c6, bA, hb, p0, p1, p2, p3, p4, p5, p6, p7, p9, p10, p11, c1, c2, pa8, bv8⟩
    simp only [fr, Act.put, List.setIfInBounds_toArray, List.set_cons_zero, List.set_cons_succ]
    have h7 := p11 (hl 11 (by decide))
    obtain ⟨hrow, hb⟩ := c2 (hl 10 (by decide))
    clear p0 p1 p2 p3 p4 p5 p6 p7 p9 p10 p11 c1 c2 pa8 bv8 HC0 HC1 HC2 HX HRw
    rw [h7]
    clear h7
    obtain ⟨g1, g2, g3, g4, g5⟩ := hrow
    obtain ⟨bk, off, rfl, hbk, hcl⟩ := g5 (by omega)
    have hJn := Tryd.strings_Join bk off c6 ([sp, s1, s2] ++ rest) ⟨#[32]⟩ u (fun j x hx => by
      have hj := (List.getElem?_eq_some_iff.1 hx).1
      have := hcl j (by omega) 0 (by decide)
      rw [Nat.mul_one, Nat.add_zero] at this
      rw [this]
      have hx2 : ([sp, s1, s2] ++ rest).getD j default = x := by rw [List.getD, hx]; rfl
      rw [hx2]
      rfl) hbk (by omega) (by omega) (by rw [show (⟨#[32]⟩ : ByteArray).data.toList = [32] from rfl, HJ2.out]; omega)
    rw [show (⟨#[32]⟩ : ByteArray).data.toList = [32] from rfl, HJ2.out, g1] at hJn
    have hz9 : ¬ (9223372036854775807 < J.length + 1) := by omega
    clear hcl g1 g2 g3 g4 HJ2
    go_wp2_with (go_at_call 88; refine hJn.mono ?_; rintro e u2 ⟨rfl, hu2⟩)
    go_ret
    exact ⟨congrArg (fun z => Ending.returned (.string z)) HJ.out.symm, (bW.trans (hb.mono bW.size)).trans (hu2.mono (lT bW hb).size)⟩
end Go.Proofs.YtgohpgollpjlnaaDoor.Cn
