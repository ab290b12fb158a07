/- An append of a row as an operation of a drawn region that goes by an invariant. -/
import Derived.Test.YtjihmhijnpjnoaaGreatDoorRInv
import Derived.Test.YtjihmhijnpjnoaaGreatDoorSAppend
namespace Go.Proofs.YtjihmhijnpjnoaaGreatDoor.St
open Go.ChangeShapes Go.WideShapes Go.ChangeAt Go.RowKit
set_option linter.unusedVariables false

theorem wpv_append_row {α : Type} [Inhabited α] {k : Nat} {cells : α → List Value} {te tsl : TypeId} {i : TypeInfo} {z : Value} {bytes : Nat} (E : Elem k cells te tsl i z bytes) {w : World} {o : Oper} {A : Act} {K : Value → World → Prop} {Q : Exit → Act → World → Prop} (s x : Operand)
    (ho : o.op = .call { callee := .builtin .append, args := #[s, x], argTypes := #[tsl, tsl] })
    (B : Nat) (v : Value) (n : Nat) (xs : List α) (hs : A.eval s = v) (hown : w.ownsRow B te k v n (flat cells xs))
    (a : Option Addr) (len cap : Nat) (bs : List α) (hx : A.eval x = .slice a len cap) (hb : IsRow k cells w a len cap bs) (h63 : n + len ≤ maxLen) (hby : (n + len) * bytes ≤ 140737488355328) (hbase : B ≤ w.heap.size)
    (h : ∀ a' cap' w', w'.ownsRow B te k (.slice a' (n + len) cap') (n + len) (flat cells (xs ++ bs)) → w.grownBy w' v.ownBlock → ((Value.slice a' (n + len) cap').ownBlock = v.ownBlock ∨ (Value.slice a' (n + len) cap').ownBlock = some w.heap.size) → K (.slice a' (n + len) cap') w') :
    Oper.wpv Tryz.prog o A w K Q := by
  obtain ⟨a', cap', w', hr, h2, h3, h4⟩ := run_append_row E (w := w) o.type B v n xs hown a len cap bs hb h63 hby hbase
  unfold Oper.wpv execOp
  simp only [ho, resolve, invoke, builtin, Sem.run_bind, Sem.run_pure, Result.andThen_ok, List.map_toArray, List.map_cons, List.map_nil, hs, hx, hr]
  exact h a' cap' w' h2 h3 h4
end Go.Proofs.YtjihmhijnpjnoaaGreatDoor.St
