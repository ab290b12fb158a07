/- Texts of this claim, one behind the other. -/
import Derived.Orders
import Derived.Test.YtifdjlhgcbkamaaM5PartForces
import Derived.Test.YtifdjlhgcbkamaaM18PartForces
import Derived.Test.YtifdjlhgcbkamaaM19PartForces
import Derived.Test.YtifdjlhgcbkamaaA20PartForces
import Derived.Test.YtifdjlhgcbkamaaA23PartForces
/- A region that draws its order, by what each operation keeps: a small case for each operation in the place of one for each order. -/
namespace Go.Proofs.Ytifdjlhgcbkamaa

/-- A frame with other values in some slots. -/
def fr (a : Act) : List Nat → (Nat → Value) → Act
  | [], _ => a
  | d :: ds, T => fr (a.put (some d) (T d)) ds T
def upd (T : Nat → Value) (d : Nat) (v : Value) : Nat → Value := fun s => cond (Nat.beq s d) v (T s)
def lst (L : Nat → Bool) (k : Nat) : Nat → Bool := fun j => Nat.beq j k || L j
def slot0 (a : Act) : Nat → Value := fun s => (a.tmps[s]?).getD undef

def AllK (f : Nat → Oper → Prop) : Nat → List Oper → Prop
  | _, [] => True
  | k, o :: os => f k o ∧ AllK f (k + 1) os
theorem AllK.get {f : Nat → Oper → Prop} : ∀ {k : Nat} {os : List Oper}, AllK f k os → ∀ i o, os[i]? = some o → f (k + i) o
  | _, [], _, i, o, h => by simp at h
  | k, x :: xs, hh, i, o, h => by
    cases i with
    | zero => simp at h; subst h; exact hh.1
    | succ i =>
      have := AllK.get hh.2 i o (by simpa using h)
      rwa [show k + 1 + i = k + (i + 1) by omega] at this

/-- What has come up has come up behind what it waits for. -/
def Closed (ops : Array Oper) (L : Nat → Bool) : Prop := ∀ j o, ops[j]? = some o → L j = true → ∀ e ∈ o.after.toList, Region.binds .any e = true → L e.on = true
/-- What an operation leaves in its slot, and the world behind it. -/
def Oper.wpv (P : Program) (o : Oper) (a : Act) (w : World) (K : Value → World → Prop) (Q : Exit → Act → World → Prop) : Prop :=
  match (execOp a.eval o).run P w with
  | .ok (.value v) w' => K v w'
  | .ok .skip w' => K undef w'
  | .ok (.enter f args) w' => Calls P f args w' fun
      | .returned v, w'' => K v w''
      | .panicked chain, w'' => Q (.panic chain) a w''
      | .outgrown, _ => LetsOut Q
  | .ok (.row row args) w' => Rows P row args w' fun v w'' => K v w''
  | .halt (.panic v) w' => Q (.panic [{ v, recovered := false }]) a w'
  | _ => False
theorem Oper.wp_of_wpv {P : Program} {o : Oper} {a : Act} {w : World} {K : Value → World → Prop} {N : Act → World → Prop} {Q : Exit → Act → World → Prop} (h : Oper.wpv P o a w K Q) (hk : ∀ v w', K v w' → N (a.put o.dst v) w') : o.wp P a w N Q := by
  unfold Oper.wpv at h
  unfold Oper.wp
  generalize (execOp a.eval o).run P w = r at h
  cases r with
  | ok n w' =>
    cases n with
    | value v => exact hk _ _ h
    | skip => exact hk _ _ h
    | enter f args => exact Calls.mono h (fun e w'' he => by cases e <;> first | exact hk _ _ he | exact he)
    | row r args => exact Rows.mono h (fun _ _ he => hk _ _ he)
    | _ => exact h.elim
  | halt x w' => cases x <;> first | exact h | exact h.elim
def updO (T : Nat → Value) (d : Option Nat) (v : Value) : Nat → Value := match d with
  | some d => upd T d v
  | none => T
theorem put_same (a : Act) (d : Nat) (u v : Value) : (a.put (some d) u).put (some d) v = a.put (some d) v := by
  obtain ⟨tmps, df⟩ := a
  simp [Act.put]
theorem put_ne (a : Act) {d x : Nat} (u v : Value) (h : x ≠ d) : (a.put (some x) u).put (some d) v = (a.put (some d) v).put (some x) u := Act.put_comm a u v (fun y hy hz => h (by cases hy; cases hz; rfl))
theorem fr_put : ∀ (ds : List Nat) (a : Act) (T : Nat → Value) (d : Nat) (v : Value), d ∉ ds → (fr a ds T).put (some d) v = fr (a.put (some d) v) ds T
  | [], _, _, _, _, _ => rfl
  | x :: xs, a, T, d, v, h => by
    simp only [List.mem_cons, not_or] at h
    simp only [fr]
    rw [fr_put xs _ T d v h.2, put_ne a _ _ (Ne.symm h.1)]
theorem upd_ne {T : Nat → Value} {d s : Nat} {v : Value} (h : s ≠ d) : upd T d v s = T s := by
  unfold upd
  cases hb : Nat.beq s d
  · rfl
  · exact absurd (Nat.eq_of_beq_eq_true hb) h
theorem upd_same {T : Nat → Value} {d : Nat} {v : Value} : upd T d v d = v := by simp [upd, Nat.beq_refl]
theorem fr_upd_out : ∀ (ds : List Nat) (a : Act) (T : Nat → Value) (d : Nat) (v : Value), d ∉ ds → fr a ds (upd T d v) = fr a ds T
  | [], _, _, _, _, _ => rfl
  | x :: xs, a, T, d, v, h => by
    simp only [List.mem_cons, not_or] at h
    simp only [fr]
    rw [upd_ne (Ne.symm h.1), fr_upd_out xs _ T d v h.2]
theorem fr_upd : ∀ (ds : List Nat) (a : Act) (T : Nat → Value) (d : Nat) (v : Value), ds.Nodup → d ∈ ds → (fr a ds T).put (some d) v = fr a ds (upd T d v)
  | [], _, _, _, _, _, h => by cases h
  | x :: xs, a, T, d, v, hn, h => by
    obtain ⟨hx, hn'⟩ := List.nodup_cons.1 hn
    simp only [fr]
    by_cases hxd : x = d
    · subst hxd
      rw [fr_put xs _ T x v hx, put_same, upd_same, fr_upd_out xs _ T x v hx]
    · have : d ∈ xs := by rcases List.mem_cons.1 h with h | h; exact absurd h.symm hxd; exact h
      rw [fr_upd xs _ T d v hn' this, upd_ne hxd]
theorem fr_updO {ds : List Nat} {a : Act} {T : Nat → Value} {d : Option Nat} {v : Value} (hn : ds.Nodup) (h : ∀ x, d = some x → x ∈ ds) : (fr a ds T).put d v = fr a ds (updO T d v) := by
  cases d with
  | none => rfl
  | some x => exact fr_upd ds a T x v hn (h x rfl)
/-- What is asked of an operation: from wherever the invariant stands it goes on, and the invariant stands again. -/
def StepK (P : Program) (ops : Array Oper) (Q : Exit → Act → World → Prop) (a : Act) (ds : List Nat) (I : (Nat → Bool) → (Nat → Value) → World → Prop) (k : Nat) (o : Oper) : Prop :=
  ∀ (L : Nat → Bool) (T : Nat → Value) (w : World), (∀ e ∈ o.after.toList, Region.binds .any e = true → L e.on = true) → L k = false → Closed ops L → I L T w →
    ∀ K : Value → World → Prop, (∀ v w', I (lst L k) (updO T o.dst v) w' → K v w') →
      if Region.wanted o (yielded ops (fr a ds T).tmps) = true then Oper.wpv P o (fr a ds T) w K Q else K undef w

/-- The slots that operations write. -/
def dstsIn (ops : Array Oper) (ds : List Nat) : Bool := ops.toList.all fun o => match o.dst with
  | some d => ds.contains d
  | none => true
/-- Edges lead back. -/
def back (ops : Array Oper) : Bool := (List.range ops.size).all fun i => match ops[i]? with
  | some o => o.after.toList.all fun e => !Region.binds .any e || decide (e.on < i)
  | none => true

section
variable {P : Program} {ops : Array Oper} {Q : Exit → Act → World → Prop} {a : Act} {ds : List Nat} {I : (Nat → Bool) → (Nat → Value) → World → Prop}

theorem ready_ne {listed : Array Bool} (hb : back ops = true) (hz : listed.size = ops.size) (i : Nat) (hi : i < ops.size) (hl : listed.getD i true = false) : Region.ready .any ops listed ≠ [] := by
  induction i using Nat.strongRecOn with
  | _ i ih =>
    by_cases hall : ∀ j, j < i → listed.getD j true = true
    · intro h
      have : i ∈ Region.ready .any ops listed := by
        rw [mem_ready]
        refine ⟨hl, ops[i], by simp [hi], fun e he hbn => ?_⟩
        have h1 := List.all_eq_true.1 hb i (by simpa using hi)
        simp only [Array.getElem?_eq_getElem hi] at h1
        have h2 := List.all_eq_true.1 h1 e (by simpa using he)
        have h3 : e.on < i := by simpa [hbn] using h2
        have h4 := hall e.on h3
        have h5 : e.on < listed.size := by omega
        simpa [h5] using h4
      rw [h] at this
      cases this
    · have : ∃ j, j < i ∧ listed.getD j true = false := by
        apply Classical.byContradiction
        intro hn
        apply hall
        intro j hj
        cases hc : listed.getD j true
        · exact absurd ⟨j, hj, hc⟩ hn
        · rfl
      obtain ⟨j, hj, hc⟩ := this
      exact ih j hj (by omega) hc

theorem wpAny_of_inv (hn : ds.Nodup) (hd : dstsIn ops ds = true) (hb : back ops = true) (hs : AllK (StepK P ops Q a ds I) 0 ops.toList)
    (he : ∀ L T w, (∀ i, i < ops.size → L i = true) → I L T w → Q .normal (fr a ds T) w) :
    ∀ (fuel : Nat) (listed : Array Bool) (T : Nat → Value) (w : World), listed.size = ops.size → listed.count false ≤ fuel → Closed ops (fun j => listed.getD j false) → I (fun j => listed.getD j false) T w → wpAny P .any ops Q fuel listed (fr a ds T) w := by
  have done : ∀ (listed : Array Bool) (T : Nat → Value) (w : World), listed.size = ops.size → Region.ready .any ops listed = [] → I (fun j => listed.getD j false) T w → Q .normal (fr a ds T) w := by
    intro listed T w hz hr hI
    refine he _ T w (fun i hi => ?_) hI
    cases hc : listed.getD i true with
    | false => exact absurd hr (ready_ne hb hz i hi hc)
    | true =>
      have h5 : i < listed.size := by omega
      simpa [h5] using hc
  intro fuel
  induction fuel with
  | zero =>
    intro listed T w hz hc hcl hI
    have hr : Region.ready .any ops listed = [] := by
      cases h : Region.ready .any ops listed with
      | nil => rfl
      | cons i is =>
        have hm : i ∈ Region.ready .any ops listed := by rw [h]; exact List.mem_cons_self ..
        obtain ⟨h0, o, ho, _⟩ := mem_ready.1 hm
        have hlt : i < ops.size := (Array.getElem?_eq_some_iff.1 ho).1
        have h5 : i < listed.size := by omega
        have : listed[i] = false := by simpa [h5] using h0
        have hin : false ∈ listed := by rw [← this]; exact Array.getElem_mem h5
        have := Array.count_pos_iff.2 hin
        omega
    exact ⟨hr, done listed T w hz hr hI⟩
  | succ fuel ih =>
    intro listed T w hz hc hcl hI
    refine ⟨fun hr => done listed T w hz hr hI, fun i hi => ?_⟩
    obtain ⟨h0, o, ho, hdep⟩ := mem_ready.1 hi
    have hlt : i < ops.size := (Array.getElem?_eq_some_iff.1 ho).1
    have h5 : i < listed.size := by omega
    have hli : listed[i] = false := by simpa [h5] using h0
    have hstep := AllK.get hs i o (by simpa using ho)
    rw [Nat.zero_add] at hstep
    unfold wpOp
    simp only [ho]
    have hK : ∀ T' w', I (lst (fun j => listed.getD j false) i) T' w' → wpAny P .any ops Q fuel (listed.setIfInBounds i true) (fr a ds T') w' := by
      intro T' w' hI'
      refine ih (listed.setIfInBounds i true) T' w' (by simpa using hz) ?_ ?_ ?_
      · have : listed.setIfInBounds i true = listed.set i true h5 := by simp [Array.setIfInBounds, h5]
        rw [this, Array.count_set h5, hli]
        simp
        omega
      · intro j o' ho' hj e he' hbn
        by_cases hji : j = i
        · subst hji
          obtain rfl : o' = o := Option.some.inj (ho'.symm.trans ho)
          exact getD_set_true (hdep e (by simpa using he') hbn)
        · refine getD_set_true (hcl j o' ho' ?_ e he' hbn)
          simpa only [getD_set_ne false (Ne.symm hji)] using hj
      · have : (fun j => (listed.setIfInBounds i true).getD j false) = lst (fun j => listed.getD j false) i := by
          funext j
          unfold lst
          by_cases hji : j = i
          · subst hji
            simp [h5, Nat.beq_refl]
          · have : Nat.beq j i = false := by
              cases hbq : Nat.beq j i
              · rfl
              · exact absurd (Nat.eq_of_beq_eq_true hbq) hji
            rw [this, Bool.false_or, getD_set_ne false (Ne.symm hji)]
        rw [this]
        exact hI'
    have hdst : ∀ x, o.dst = some x → x ∈ ds := by
      intro x hx
      have h1 := List.all_eq_true.1 hd o (by simpa using Array.mem_of_getElem? ho)
      simp only [hx] at h1
      simpa using h1
    have h1 := hstep _ T w (fun e he hbn => hdep e (by simpa using he) hbn) (by simp [h5, hli]) hcl hI (fun v w' => wpAny P .any ops Q fuel (listed.setIfInBounds i true) (fr a ds (updO T o.dst v)) w') (fun v w' hI' => hK _ w' hI')
    by_cases hw : Region.wanted o (yielded ops (fr a ds T).tmps) = true
    · rw [if_pos hw] at h1 ⊢
      exact .inl (Oper.wp_of_wpv h1 fun v w' h2 => by rw [fr_updO hn hdst]; exact h2)
    · rw [if_neg hw] at h1 ⊢
      rw [fr_updO hn hdst]
      exact h1

theorem fr_slot0 : ∀ (ds : List Nat) (a : Act), fr a ds (slot0 a) = a := by
  have put0 : ∀ (a : Act) (d : Nat), a.put (some d) (slot0 a d) = a := by
    intro a d
    obtain ⟨tmps, df⟩ := a
    simp only [Act.put, slot0]
    by_cases h : d < tmps.size
    · simp [Array.setIfInBounds, h]
    · simp [Array.setIfInBounds, h]
  intro ds
  induction ds with
  | nil => intro a; rfl
  | cons d ds ih => intro a; simp only [fr]; rw [put0]; exact ih a

/-- A drawn region by an invariant. -/
theorem wp_region_inv {id : Nat} {w : World} (hm : P.follows .mixedOrders = true) (ds : List Nat) (I : (Nat → Bool) → (Nat → Value) → World → Prop)
    (hn : ds.Nodup) (hd : dstsIn ops ds = true) (hb : back ops = true) (h0 : I (fun _ => false) (slot0 a) { w with drawn := w.drawn + 1 })
    (hs : AllK (StepK P ops Q a ds I) 0 ops.toList)
    (he : ∀ L T w, (∀ i, i < ops.size → L i = true) → I L T w → Q .normal (fr a ds T) w) : (Code.region id ops true).wp P Q a w := by
  refine wp_region_any hm ?_
  have := wpAny_of_inv hn hd hb hs he ops.size (Array.replicate ops.size false) (slot0 a) { w with drawn := w.drawn + 1 } (by simp) (by simp) (by
    intro j o _ hj
    by_cases hjs : j < ops.size <;> simp [hjs] at hj) (by
    have : (fun j => (Array.replicate ops.size false).getD j false) = fun _ => false := by
      funext j
      by_cases hj : j < ops.size <;> simp [hj]
    rw [this]
    exact h0)
  rwa [fr_slot0] at this
end
end Go.Proofs.Ytifdjlhgcbkamaa
/- An append of a row as an operation of a drawn region that goes by an invariant. -/
namespace Go.Proofs.Ytifdjlhgcbkamaa.St
open Go.ChangeShapes Go.WideShapes Go.ChangeAt Go.RowKit
set_option linter.unusedVariables false

theorem wpv_append_row {α : Type} [Inhabited α] {k : Nat} {cells : α → List Value} {te tsl : TypeId} {i : TypeInfo} {z : Value} {bytes : Nat} (E : Elem k cells te tsl i z bytes) {w : World} {o : Oper} {A : Act} {K : Value → World → Prop} {Q : Exit → Act → World → Prop} (s x : Operand)
    (ho : o.op = .call { callee := .builtin .append, args := #[s, x], argTypes := #[tsl, tsl] })
    (B : Nat) (v : Value) (n : Nat) (xs : List α) (hs : A.eval s = v) (hown : w.ownsRow B te k v n (flat cells xs))
    (a : Option Addr) (len cap : Nat) (bs : List α) (hx : A.eval x = .slice a len cap) (hb : IsRow k cells w a len cap bs) (h63 : n + len ≤ maxLen) (hby : (n + len) * bytes ≤ 140737488355328) (hbase : B ≤ w.heap.size)
    (h : ∀ a' cap' w', w'.ownsRow B te k (.slice a' (n + len) cap') (n + len) (flat cells (xs ++ bs)) → w.grownBy w' v.ownBlock → ((Value.slice a' (n + len) cap').ownBlock = v.ownBlock ∨ (Value.slice a' (n + len) cap').ownBlock = some w.heap.size) → K (.slice a' (n + len) cap') w') :
    Oper.wpv Try.prog o A w K Q := by
  obtain ⟨a', cap', w', hr, h2, h3, h4⟩ := run_append_row E (w := w) o.type B v n xs hown a len cap bs hb h63 hby hbase
  unfold Oper.wpv execOp
  simp only [ho, resolve, invoke, builtin, Sem.run_bind, Sem.run_pure, Result.andThen_ok, List.map_toArray, List.map_cons, List.map_nil, hs, hx, hr]
  exact h a' cap' w' h2 h3 h4
end Go.Proofs.Ytifdjlhgcbkamaa.St
/- The contract of the document's ForcedOf. -/
namespace Go.Proofs.Ytifdjlhgcbkamaa.Pt
open Go.ChangeShapes Go.WideShapes Go.ChangeAt Go.RowKit
open Go.Proofs.Ytifdjlhgcbkamaa.St (SV PS IsStore IsRow storeOK TxWf BoxN boxn_new OwnStore flat flat_append Elem isOne grown_setCell own_below own_isRow isRow_nil cntErr cntIs endErr endData txOK)
set_option linter.unusedVariables false


theorem own_base {w : World} {B C : Nat} {te : TypeId} {k : Nat} {v : Value} {n : Nat} {xs : List Value} (h : w.ownsRow C te k v n xs) (hB : B ≤ C) : w.ownsRow B te k v n xs := by
  obtain ⟨h1, h2⟩ := h
  refine ⟨h1, ?_⟩
  rcases h2 with h2 | ⟨g, cap, cur, e, hb, r⟩
  · exact .inl h2
  · exact .inr ⟨g, cap, cur, e, Nat.le_trans hB hb, r⟩
theorem nT {w u v : World} (h : Below w.heap.size w u) (h2 : Below u.heap.size u v) : Below w.heap.size w v := h.trans (h2.mono h.size)
theorem nS {w u : World} {B : Nat} {b i : Nat} (h : Below B w u) (hb : B ≤ b) (v : Value) : Below B w (u.setCell ⟨b, i, none⟩ v) := h.setCell hb v
theorem boxNewQ {u : World} {cs : Array Value} {t : TypeId} {vs : List Value} {q n : Nat} (hq : q = u.heap.size) (hc : cs.toList = vs) (hk : cs.size = n) : BoxN (u.alloc (.cells cs t)) q n vs := by
  subst hq; subst hc; exact boxn_new u cs t n hk
theorem boxA {u : World} {q n : Nat} {vs : List Value} (h : BoxN u q n vs) (o : Obj) : BoxN (u.alloc o) q n vs := h.below ((Below.refl _ _).alloc (Nat.le_refl _) o) h.lt
theorem boxD {u : World} {q n : Nat} {vs : List Value} (h : BoxN u q n vs) : BoxN u.drew q n vs := h.below (Below.refl _ _).drew h.lt
theorem boxB {u v : World} {q n : Nat} {vs : List Value} (h : BoxN u q n vs) (hb : Below u.heap.size u v) : BoxN v q n vs := h.below hb h.lt
theorem boxG {u v : World} {q n : Nat} {vs : List Value} {r : Option Nat} (h : BoxN u q n vs) (hg : u.grownBy v r) (hr : r ≠ some q) : BoxN v q n vs := h.grown hg (fun e => hr e.symm)
theorem box7 {u : World} {q : Nat} {vs : List Value} (h : BoxN u q 7 vs) (v0 v1 v2 v3 v4 v5 v6 : Value) : BoxN (((((((u.setCell ⟨q, 0, none⟩ v0).setCell ⟨q, 1, none⟩ v1).setCell ⟨q, 2, none⟩ v2).setCell ⟨q, 3, none⟩ v3).setCell ⟨q, 4, none⟩ v4).setCell ⟨q, 5, none⟩ v5).setCell ⟨q, 6, none⟩ v6) q 7 [v0, v1, v2, v3, v4, v5, v6] := by
  obtain ⟨x0, x1, x2, x3, x4, x5, x6, rfl⟩ : ∃ x0 x1 x2 x3 x4 x5 x6, vs = [x0, x1, x2, x3, x4, x5, x6] := by
    match vs, h.len with
    | [x0, x1, x2, x3, x4, x5, x6], _ => exact ⟨x0, x1, x2, x3, x4, x5, x6, rfl⟩
  exact ((((((h.set 0 (by omega) _).set 1 (by omega) _).set 2 (by omega) _).set 3 (by omega) _).set 4 (by omega) _).set 5 (by omega) _).set 6 (by omega) _
theorem row7 {α : Type} [Inhabited α] {k : Nat} {cells : α → List Value} {u : World} {a : Option Addr} {n c : Nat} {xs : List α} (h : IsRow k cells u a n c xs) {q : Nat} (hn : ∀ b off, a = some ⟨b, off, none⟩ → b ≠ q) (v0 v1 v2 v3 v4 v5 v6 : Value) : IsRow k cells (((((((u.setCell ⟨q, 0, none⟩ v0).setCell ⟨q, 1, none⟩ v1).setCell ⟨q, 2, none⟩ v2).setCell ⟨q, 3, none⟩ v3).setCell ⟨q, 4, none⟩ v4).setCell ⟨q, 5, none⟩ v5).setCell ⟨q, 6, none⟩ v6) a n c xs :=
  row_grown h (grown7 u q v0 v1 v2 v3 v4 v5 v6) (fun b off e e' => hn b off e (by simpa using e'))
theorem app_at {w1 V : World} {B : Nat} {te : TypeId} {k n m c5 : Nat} {v : Value} {xs : List Value} {a5 : Option Addr} (own : w1.ownsRow B te k v n xs) (at5 : (Value.slice a5 m c5).ownBlock = v.ownBlock ∨ (Value.slice a5 m c5).ownBlock = some V.heap.size) : ∀ b off, a5 = some ⟨b, off, none⟩ → (B ≤ b ∧ b < w1.heap.size) ∨ b = V.heap.size := fun b off e => by
  subst e
  rcases at5 with h | h
  · exact Or.inl (own.lt b h.symm)
  · exact Or.inr (by simpa [Value.ownBlock] using h)


/-- An answer's box at A with one record and notes in memory of its own, and no store yet. -/
structure FB (Y V : World) (A C nn : Nat) (rblk : Nat) (a5 : Option Addr) (c5 : Nat) (rec : RV) (ns : List NV) : Prop where
  box : BoxN V A 7 [.slice none 0 0, .slice none 0 0, .slice none 0 0, .slice none 0 0, .slice none 0 0, .slice (some ⟨rblk, 0, none⟩) 1 1, .slice a5 (nn + 1) c5]
  rs : IsRow 8 RV.cells V (some ⟨rblk, 0, none⟩) 1 1 [rec]
  ns : IsRow 4 NV.cells V a5 (nn + 1) c5 ns
  far : C ≤ A ∧ C ≤ rblk ∧ rblk ≠ A ∧ ∀ b off, a5 = some ⟨b, off, none⟩ → C ≤ b ∧ b ≠ A
  bel : Below Y.heap.size Y V
set_option maxRecDepth 100000 in
set_option maxHeartbeats 8000000 in
theorem forced_any (s p : Int) (a : Option Addr) (len cap : Nat) (ls : List (Int × Int)) (l me : Int) (sa : Option Addr) (n sc : Nat) (ss : List SV) (na : Option Addr) (nn nc : Nat) (ns : List NV) (t : Int × Int) (yes : Bool) (w : World) (hl : IsLabs w a len cap ls) (hS : IsStores w sa n sc ss) (hN : IsNotes w na nn nc ns) (hn24 : nn * 24 ≤ 140737488351232) (hLt : SSLight n ss) :
    Calls Try.prog 9 #[.agg #[.int .i64 s, .slice a len cap, .int .i64 p], .int .i64 l, .int .i64 me, .slice sa n sc, .slice na nn nc, .agg #[.int .i64 t.1, .int .i64 t.2], .bool yes] w fun e w' => ∃ v : AnsV, e = .returned (.tuple #[v.val, .int .i64 (forceErr s ls p l me n ss nn t)]) ∧ IsAns w' v ∧ v.data = forceD s ls p l me n ss nn ns t yes ∧ Below w.heap.size w w' ∧ v.far w.heap.size := by
  have hRf := fun w' h1 h2 => siteFault_any s p a len cap ls l me sa n sc ss w' h1 h2
  have hok2 := fun h => site_ok (s := s) (ls := ls) (p := p) (l := l) (me := me) (n := n) (ss := ss) h hS.row.1
  have HF : Hid (forceErr s ls p l me n ss nn t = if siteErr s ls p l me n ss = 0 then (if cntErr (ss.getD l.toNat default) t = 0 then (if cntIs (ss.getD l.toNat default) t = 0 then 6 else if 60 ≤ nn then 8 else 0) else cntErr (ss.getD l.toNat default) t) else siteErr s ls p l me n ss) := rfl
  have HD : Hid (forceD s ls p l me n ss nn ns t yes = if forceErr s ls p l me n ss nn t = 0 then ⟨endData (ss.getD l.toNat default) t yes, [], [⟨6, t.1, t.2, 0, 0, 0, yes⟩], ns ++ [⟨t.1, t.2, yes, false⟩]⟩ else AD.nil) := rfl
  obtain ⟨TD, eTD⟩ : ∃ x, x = forceD s ls p l me n ss nn ns t yes := ⟨_, rfl⟩
  rw [← eTD] at HD ⊢
  clear eTD
  obtain ⟨FE, eFE⟩ : ∃ x, x = forceErr s ls p l me n ss nn t := ⟨_, rfl⟩
  rw [← eFE] at HF HD ⊢
  clear eFE
  obtain ⟨E, eE⟩ : ∃ x, x = siteErr s ls p l me n ss := ⟨_, rfl⟩
  rw [← eE] at hRf hok2 HF
  clear eE
  obtain ⟨t1, t2⟩ := t
  simp only [] at HD HF ⊢
  obtain ⟨W, hW⟩ : ∃ W : World, W = ((w.alloc (.cells #[.int .i64 s, .slice a len cap, .int .i64 p] 24)).alloc (.cells #[.int .i64 t1, .int .i64 t2] 28)).alloc (.cells #[.slice none 0 0, .slice none 0 0, .slice none 0 0, .slice none 0 0, .slice none 0 0, .slice none 0 0, .slice none 0 0] 38) := ⟨_, rfl⟩
  have hB : Below w.heap.size w W := by rw [hW]; exact (((Below.refl _ _).alloc (Nat.le_refl _) _).alloc (by simp) _).alloc (by simp; omega) _
  have z2 : w.heap.size + 2 < W.heap.size := by rw [hW]; simp
  have z1 : w.heap.size + 1 < W.heap.size := by omega
  have z0 : w.heap.size < W.heap.size := by omega
  have d0 : W.cell? ⟨w.heap.size, 0, none⟩ = some (.int .i64 s) := by rw [hW]; go_simp
  have d1 : W.cell? ⟨w.heap.size, 1, none⟩ = some (.slice a len cap) := by rw [hW]; go_simp
  have d2 : W.cell? ⟨w.heap.size, 2, none⟩ = some (.int .i64 p) := by rw [hW]; go_simp
  have d3 : W.cell? ⟨w.heap.size + 1, 0, none⟩ = some (.int .i64 t1) := by rw [hW]; go_simp
  have d4 : W.cell? ⟨w.heap.size + 1, 1, none⟩ = some (.int .i64 t2) := by rw [hW]; go_simp
  have qb0 : BoxN W (w.heap.size + 2) 7 [.slice none 0 0, .slice none 0 0, .slice none 0 0, .slice none 0 0, .slice none 0 0, .slice none 0 0, .slice none 0 0] := by
    rw [hW]; simpa using boxn_new ((w.alloc (.cells #[.int .i64 s, .slice a len cap, .int .i64 p] 24)).alloc (.cells #[.int .i64 t1, .int .i64 t2] 28)) #[.slice none 0 0, .slice none 0 0, .slice none 0 0, .slice none 0 0, .slice none 0 0, .slice none 0 0, .slice none 0 0] 38 7 rfl
  have KC : Hid (∀ V : World, Below W.heap.size W V → V.cell? ⟨w.heap.size, 0, none⟩ = some (.int .i64 s) ∧ V.cell? ⟨w.heap.size, 1, none⟩ = some (.slice a len cap) ∧ V.cell? ⟨w.heap.size, 2, none⟩ = some (.int .i64 p) ∧ V.cell? ⟨w.heap.size + 1, 0, none⟩ = some (.int .i64 t1) ∧ V.cell? ⟨w.heap.size + 1, 1, none⟩ = some (.int .i64 t2)) := fun V hV => ⟨(hV.cell (p := ⟨w.heap.size, 0, none⟩) z0).trans d0, (hV.cell (p := ⟨w.heap.size, 1, none⟩) z0).trans d1, (hV.cell (p := ⟨w.heap.size, 2, none⟩) z0).trans d2, (hV.cell (p := ⟨w.heap.size + 1, 0, none⟩) z1).trans d3, (hV.cell (p := ⟨w.heap.size + 1, 1, none⟩) z1).trans d4⟩
  have KQ : Hid (∀ V : World, Below W.heap.size W V → BoxN V (w.heap.size + 2) 7 [.slice none 0 0, .slice none 0 0, .slice none 0 0, .slice none 0 0, .slice none 0 0, .slice none 0 0, .slice none 0 0]) := fun V hV => qb0.below hV qb0.lt
  have HS : Hid (∀ V : World, Below W.heap.size W V → IsLabs V a len cap ls ∧ IsStores V sa n sc ss ∧ IsNotes V na nn nc ns ∧ Below w.heap.size w V) := fun V hV => by
    have hv := hB.trans (hV.mono hB.size)
    exact ⟨hl.below hv, hS.below hv, St.IsRow.below hN hv, hv⟩
  clear qb0
  obtain ⟨hl1, hs1, _⟩ := HS.out _ (Below.refl _ _)
  go_enter Try.func9, Try.ntmps9
  go_upto_region 1 with (fail)
  rw [← hW]
  clear hW
  go_upto_region 2 with (go_at_call 21; refine (hRf _ hl1 hs1).mono ?_; rintro e w1 ⟨rfl, hb1⟩)
  clear d0 d1 d2 d3 d4 hl1 hs1
  have zw1 := hb1.size
  by_cases hE : E = 0
  · obtain ⟨hcf, ⟨hl0, hln⟩, hme, hnl, hso⟩ := hok2 hE
    subst hE
    obtain ⟨k, rfl⟩ : ∃ k : Nat, l = (k : Int) := ⟨l.toNat, by omega⟩
    have hk : k < n := by omega
    have hkn : (k : Int) < (n : Int) := by omega
    have hkc : k < sc := Nat.lt_of_lt_of_le hk hS.row.2.1
    rw [if_pos rfl, Int.toNat_natCast] at HF
    rw [Int.toNat_natCast] at HD
    have hS2 := (HS.out _ hb1).2.1
    have hCn := fun U hU => St.writesRef_any (ss.getD k default) (t1, t2) U hU
    have hIs := (hS2.each k hk).1
    have hEnd := fun U (hU : IsStore U (ss.getD k default)) => St.endRef_own (ss.getD k default) (t1, t2) yes U hU (hLt.2 k hk).items (hLt.2 k hk).locks (hLt.2 k hk).doubts (hLt.2 k hk).over
    rw [end_is] at hEnd
    obtain ⟨b, off, hsa, hblt, y0, y1, y2, y3⟩ := hS2.at hk
    subst hsa
    obtain ⟨CE, eCE⟩ : ∃ x, x = cntErr (ss.getD k default) (t1, t2) := ⟨_, rfl⟩
    obtain ⟨CI, eCI⟩ : ∃ x, x = cntIs (ss.getD k default) (t1, t2) := ⟨_, rfl⟩
    obtain ⟨D, eD⟩ : ∃ x, x = endData (ss.getD k default) (t1, t2) yes := ⟨_, rfl⟩
    rw [← eCE, ← eCI] at HF hCn
    rw [← eCE, ← eD] at hEnd
    rw [← eD] at HD
    clear eCE eCI eD hok2 hnl hcf hme hso
    obtain ⟨⟨xa0, xn0, xc0, xa1, xn1, xc1, xa2, xn2, xc2, xa3, xn3, xc3, xi, xl, xd, xo⟩, eX⟩ : ∃ x, x = ss.getD k default := ⟨_, rfl⟩
    rw [← eX] at hCn hEnd y0 y1 y2 y3 hIs
    clear eX
    simp only [SV.val] at hCn hEnd y0 y1 y2 y3
    obtain ⟨_, _, _, q3, q4⟩ := KC.out _ hb1
    have r0 := fun d os => cell_regrown y0 d os
    have r1 := fun d os => cell_regrown y1 d os
    have r2 := fun d os => cell_regrown y2 d os
    have r3 := fun d os => cell_regrown y3 d os
    have r4 := fun d os => cell_regrown q3 d os
    have r5 := fun d os => cell_regrown q4 d os
    go_upto_region 4 with (fail)
    refine wp_region_quiet_below (by kernel_rfl) (by kernel_rfl) ?_
    repeat (go_big_quiet_step ((exact Calls.regrown_of (hCn _ (hIs.below (below_regrown _ _ _))))))
    refine wpQuiet_nil ?_
    intro _ hw'
    obtain ⟨⟨dq, osq⟩, hw''⟩ := hw'
    subst hw''
    have bQ := below_regrown w1 dq osq
    obtain ⟨Z, eZ⟩ : ∃ Z, Z = Go.Sort.grow (Go.redrawn w1 dq) osq := ⟨_, rfl⟩
    rw [← eZ] at bQ ⊢
    clear eZ r0 r1 r2 r3 r4 r5
    have bWZ : Below W.heap.size W Z := hb1.trans (bQ.mono zw1)
    by_cases hC : CE = 0
    · subst hC
      rw [if_pos rfl] at HF
      by_cases hI : CI = 0
      · subst hI
        rw [if_pos rfl] at HF
        have HE : Hid (FE = 6) := HF
        have HN0 : Hid (TD = AD.nil) := by show _ = _; rw [HD.out, HE.out]; rfl
        clear HF HD
        have qb := KQ.out _ bWZ
        have hwE := (HS.out _ bWZ).2.2.2
        have zQ : w.heap.size + 2 < Z.heap.size := qb.lt
        have k0 := (qb.c 0 (by decide)).1
        have h0 := (qb.c 0 (by decide)).2
        have k1 := (qb.c 1 (by decide)).1
        have h1 := (qb.c 1 (by decide)).2
        have k2 := (qb.c 2 (by decide)).1
        have h2 := (qb.c 2 (by decide)).2
        have k3 := (qb.c 3 (by decide)).1
        have h3 := (qb.c 3 (by decide)).2
        have k4 := (qb.c 4 (by decide)).1
        have h4 := (qb.c 4 (by decide)).2
        have k5 := (qb.c 5 (by decide)).1
        have h5 := (qb.c 5 (by decide)).2
        have k6 := (qb.c 6 (by decide)).1
        have h6 := (qb.c 6 (by decide)).2
        simp only [List.getD_cons_zero, List.getD_cons_succ] at k0 k1 k2 k3 k4 k5 k6
        go_wp2
        refine bodyPost_ret (v := .tuple #[.agg #[.slice none 0 0, .slice none 0 0, .slice none 0 0, .slice none 0 0, .slice none 0 0, .slice none 0 0, .slice none 0 0], .int .i64 6]) (by simp [results, Try.results9, go_sem, k0, k1, k2, k3, k4, k5, k6]) rfl ⟨AnsV.nil, by rw [HE.out]; rfl, isAns_nil _, by rw [HN0.out]; rfl, ?_, AnsV.far_nil _⟩
        exact hwE.grown (grown7 Z (w.heap.size + 2) _ _ _ _ _ _ _) hwE.size (fun q hq => by simp at hq; omega)
      · have hI2 : (CI == 0) = false := by simp [hI]
        rw [if_neg hI] at HF
        by_cases h60 : 60 ≤ nn
        · have h60' : (60 : Int) ≤ (nn : Int) := by omega
          have HE : Hid (FE = 8) := by show _ = _; rw [HF.out, if_pos h60]
          have HN0 : Hid (TD = AD.nil) := by show _ = _; rw [HD.out, HE.out]; rfl
          clear HF HD
          have qb := KQ.out _ bWZ
          have hwE := (HS.out _ bWZ).2.2.2
          have zQ : w.heap.size + 2 < Z.heap.size := qb.lt
          have k0 := (qb.c 0 (by decide)).1
          have h0 := (qb.c 0 (by decide)).2
          have k1 := (qb.c 1 (by decide)).1
          have h1 := (qb.c 1 (by decide)).2
          have k2 := (qb.c 2 (by decide)).1
          have h2 := (qb.c 2 (by decide)).2
          have k3 := (qb.c 3 (by decide)).1
          have h3 := (qb.c 3 (by decide)).2
          have k4 := (qb.c 4 (by decide)).1
          have h4 := (qb.c 4 (by decide)).2
          have k5 := (qb.c 5 (by decide)).1
          have h5 := (qb.c 5 (by decide)).2
          have k6 := (qb.c 6 (by decide)).1
          have h6 := (qb.c 6 (by decide)).2
          simp only [List.getD_cons_zero, List.getD_cons_succ] at k0 k1 k2 k3 k4 k5 k6
          go_wp2
          refine bodyPost_ret (v := .tuple #[.agg #[.slice none 0 0, .slice none 0 0, .slice none 0 0, .slice none 0 0, .slice none 0 0, .slice none 0 0, .slice none 0 0], .int .i64 8]) (by simp [results, Try.results9, go_sem, k0, k1, k2, k3, k4, k5, k6]) rfl ⟨AnsV.nil, by rw [HE.out]; rfl, isAns_nil _, by rw [HN0.out]; rfl, ?_, AnsV.far_nil _⟩
          exact hwE.grown (grown7 Z (w.heap.size + 2) _ _ _ _ _ _ _) hwE.size (fun q hq => by simp at hq; omega)
        · have h60' : (nn : Int) < 60 := by omega
          have HE : Hid (FE = 0) := by show _ = _; rw [HF.out, if_neg h60]
          have HTD : Hid (TD = ⟨D, [], [⟨6, t1, t2, 0, 0, 0, yes⟩], ns ++ [⟨t1, t2, yes, false⟩]⟩) := by show _ = _; rw [HD.out, if_pos HE.out]
          clear HF HD
          go_upto_region 11 with (fail)
          go_cut [18] (fun s18 wc => ∃ (A rblk : Nat) (a5 : Option Addr) (c5 : Nat), s18 = .pointer (some ⟨A, 0, none⟩) ∧ FB Z wc A Z.heap.size nn rblk a5 c5 ⟨6, t1, t2, 0, 0, 0, yes⟩ (ns ++ [⟨t1, t2, yes, false⟩]))
          case first =>
            obtain ⟨iN, EN⟩ := ntElem
            have zZ := bQ.size
            have zq : w.heap.size + 1 < Z.heap.size := by omega
            have hNZ := (HS.out _ bWZ).2.2.1
            have HNc : Hid (∀ U, Below Z.heap.size Z U → Calls Try.prog 8 #[.slice na nn nc] U fun e w' => NotesNew U w' e nn ns) := fun U hU => notesCopy_any na nn nc ns U (St.IsRow.below hNZ hU) hn24
            obtain ⟨_, _, _, e3, e4⟩ := KC.out _ bWZ
            have KT : Hid (∀ U, Below Z.heap.size Z U → U.cell? ⟨w.heap.size + 1, 0, none⟩ = some (.int .i64 t1) ∧ U.cell? ⟨w.heap.size + 1, 1, none⟩ = some (.int .i64 t2)) := fun U hU => ⟨(hU.cell (p := ⟨w.heap.size + 1, 0, none⟩) zq).trans e3, (hU.cell (p := ⟨w.heap.size + 1, 1, none⟩) zq).trans e4⟩
            have PA : Hid (∀ (U : World) (o : Obj), U.cell? ⟨w.heap.size + 1, 0, none⟩ = some (.int .i64 t1) ∧ U.cell? ⟨w.heap.size + 1, 1, none⟩ = some (.int .i64 t2) → (U.alloc o).cell? ⟨w.heap.size + 1, 0, none⟩ = some (.int .i64 t1) ∧ (U.alloc o).cell? ⟨w.heap.size + 1, 1, none⟩ = some (.int .i64 t2)) := fun U o ⟨h0, h1⟩ => ⟨cellA h0 o, cellA h1 o⟩
            have PD : Hid (∀ U : World, U.cell? ⟨w.heap.size + 1, 0, none⟩ = some (.int .i64 t1) ∧ U.cell? ⟨w.heap.size + 1, 1, none⟩ = some (.int .i64 t2) → U.drew.cell? ⟨w.heap.size + 1, 0, none⟩ = some (.int .i64 t1) ∧ U.drew.cell? ⟨w.heap.size + 1, 1, none⟩ = some (.int .i64 t2)) := fun U ⟨h0, h1⟩ => ⟨cellD h0, cellD h1⟩
            have PS : Hid (∀ (U : World) (q i : Nat) (v : Value), w.heap.size + 1 ≠ q → U.cell? ⟨w.heap.size + 1, 0, none⟩ = some (.int .i64 t1) ∧ U.cell? ⟨w.heap.size + 1, 1, none⟩ = some (.int .i64 t2) → (U.setCell ⟨q, i, none⟩ v).cell? ⟨w.heap.size + 1, 0, none⟩ = some (.int .i64 t1) ∧ (U.setCell ⟨q, i, none⟩ v).cell? ⟨w.heap.size + 1, 1, none⟩ = some (.int .i64 t2)) := fun U q i v hq ⟨h0, h1⟩ => ⟨cellS h0 hq i v, cellS h1 hq i v⟩
            have hnl : ns.length = nn := hN.1
            have HNL : Hid (ns.length = nn) := hnl
            clear hEnd hCn y0 y1 y2 y3 q3 q4 hNZ e3 e4 hIs hnl hN hS hl hLt HTD HE KC KQ HS hRf
            refine wp_region_inv (by kernel_rfl) [54, 55, 56, 57, 58, 59, 60, 61, 62, 63, 64, 65, 18] (fun L T u => ∃ (a4 : Option Addr) (c4 : Nat) (bN : Nat) (a5 : Option Addr) (c5 : Nat) (bR : Nat) (A : Nat), Below Z.heap.size Z u ∧ (L 0 = true → T 54 = .slice na nn nc) ∧ (L 1 = true → (T 55 = .slice a4 nn c4 ∧ ∀ q, (.slice a4 nn c4 : Value).ownBlock = some q → Z.heap.size ≤ q ∧ q < u.heap.size)) ∧ (L 1 = true → L 6 = false → u.ownsRow Z.heap.size 56 4 (.slice a4 nn c4) nn (flat NV.cells ns)) ∧ (L 2 = true → T 56 = .agg #[.int .i64 t1, .int .i64 t2]) ∧ (L 3 = true → T 57 = .bool yes) ∧ (L 4 = true → T 58 = .agg #[.int .i64 t1, .int .i64 t2, .bool yes, .bool false]) ∧ (L 5 = true → (T 59 = .slice (some ⟨bN, 0, none⟩) 1 1 ∧ Z.heap.size ≤ bN ∧ bN < u.heap.size)) ∧ (L 5 = true → L 6 = false → IsRow 4 NV.cells u (some ⟨bN, 0, none⟩) 1 1 [(⟨t1, t2, yes, false⟩ : NV)]) ∧ (L 6 = true → (T 60 = .slice a5 (nn + 1) c5 ∧ ∀ q, (.slice a5 (nn + 1) c5 : Value).ownBlock = some q → Z.heap.size ≤ q ∧ q < u.heap.size)) ∧ (L 6 = true → IsRow 4 NV.cells u a5 (nn + 1) c5 (ns ++ [⟨t1, t2, yes, false⟩])) ∧ (L 7 = true → T 61 = .agg #[.int .i64 t1, .int .i64 t2]) ∧ (L 8 = true → T 62 = .bool yes) ∧ (L 9 = true → T 63 = .agg #[.int .i64 6, .int .i64 t1, .int .i64 t2, .int .i64 0, .int .i64 0, .int .i64 0, .bool yes, .slice none 0 0]) ∧ (L 10 = true → (T 64 = .slice (some ⟨bR, 0, none⟩) 1 1 ∧ Z.heap.size ≤ bR ∧ bR < u.heap.size)) ∧ (L 10 = true → IsRow 8 RV.cells u (some ⟨bR, 0, none⟩) 1 1 [(⟨6, t1, t2, 0, 0, 0, yes⟩ : RV)]) ∧ (L 11 = true → T 65 = .agg #[.slice none 0 0, .slice none 0 0, .slice none 0 0, .slice none 0 0, .slice none 0 0, .slice (some ⟨bR, 0, none⟩) 1 1, .slice a5 (nn + 1) c5]) ∧ (L 12 = true → (T 18 = .pointer (some ⟨A, 0, none⟩) ∧ Z.heap.size ≤ A ∧ A < u.heap.size)) ∧ (L 12 = true → L 13 = false → BoxN u A 7 [.slice none 0 0, .slice none 0 0, .slice none 0 0, .slice none 0 0, .slice none 0 0, .slice none 0 0, .slice none 0 0]) ∧ (L 13 = true → BoxN u A 7 [.slice none 0 0, .slice none 0 0, .slice none 0 0, .slice none 0 0, .slice none 0 0, .slice (some ⟨bR, 0, none⟩) 1 1, .slice a5 (nn + 1) c5]) ∧ (L 1 = true → L 5 = true → (.slice a4 nn c4 : Value).ownBlock ≠ some bN) ∧ (L 1 = true → L 10 = true → (.slice a4 nn c4 : Value).ownBlock ≠ some bR) ∧ (L 1 = true → L 12 = true → (.slice a4 nn c4 : Value).ownBlock ≠ some A) ∧ (L 6 = true → L 10 = true → (.slice a5 (nn + 1) c5 : Value).ownBlock ≠ some bR) ∧ (L 6 = true → L 12 = true → (.slice a5 (nn + 1) c5 : Value).ownBlock ≠ some A) ∧ (L 10 = true → L 12 = true → bR ≠ A)) (by decide) (by kernel_rfl) (by kernel_rfl) ?_ ?_ ?_
            · exact ⟨none, 0, 0, none, 0, 0, 0, (Below.refl _ _).drew, nofun, nofun, nofun, nofun, nofun, nofun, nofun, nofun, nofun, nofun, nofun, nofun, nofun, nofun, nofun, nofun, nofun, nofun, nofun, nofun, nofun, nofun, nofun, nofun, nofun⟩
            · refine ⟨?_, ?_, ?_, ?_, ?_, ?_, ?_, ?_, ?_, ?_, ?_, ?_, ?_, ?_, trivial⟩
              · rintro L T u hd hk hcl ⟨a4, c4, bN, a5, c5, bR, A, hb, f0, f1, f1w, f2, f3, f4, f5, f5w, f6, f6w, f7, f8, f9, f10, f10w, f11, f12, f12w, f13, x15, x110, x112, x610, x612, x1012⟩ K hK
                simp only [fr, Act.put, List.setIfInBounds_toArray, List.set_cons_zero, List.set_cons_succ, updO] at hK ⊢
                simp [Region.binds] at hd
                rw [if_pos (by rfl)]
                simp only [Oper.wpv]
                go_simp
                exact hK _ _ ⟨a4, c4, bN, a5, c5, bR, A, hb, fun _ => rfl, f1, f1w, f2, f3, f4, f5, f5w, f6, f6w, f7, f8, f9, f10, f10w, f11, f12, f12w, f13, x15, x110, x112, x610, x612, x1012⟩
              · rintro L T u hd hk hcl ⟨a4, c4, bN, a5, c5, bR, A, hb, f0, f1, f1w, f2, f3, f4, f5, f5w, f6, f6w, f7, f8, f9, f10, f10w, f11, f12, f12w, f13, x15, x110, x112, x610, x612, x1012⟩ K hK
                simp only [fr, Act.put, List.setIfInBounds_toArray, List.set_cons_zero, List.set_cons_succ, updO] at hK ⊢
                simp [Region.binds] at hd
                have g0 := f0 (by simp [hd])
                have k6 := hcl 6 _ rfl
                simp [Region.binds] at k6
                have k11 := hcl 11 _ rfl
                simp [Region.binds] at k11
                have k13 := hcl 13 _ rfl
                simp [Region.binds] at k13
                rw [if_pos (by rfl)]
                simp only [Oper.wpv]
                go_simp
                refine (HNc.out _ hb).mono ?_
                rintro e u1 ⟨na1, nc1, rfl, own1, hg⟩
                exact hK _ _ ⟨na1, nc1, bN, a5, c5, bR, A, (qT hb hg), f0, fun _ => ⟨rfl, fun q e => ⟨Nat.le_trans hb.size (own1.lt q e).1, (own1.lt q e).2⟩⟩, fun _ _ => own_base own1 hb.size, f2, f3, f4, fun h0 => ⟨(f5 h0).1, (f5 h0).2.1, Nat.lt_of_lt_of_le (f5 h0).2.2 hg.size⟩, fun h0 h1 => St.IsRow.below (f5w h0 h1) hg, fun h0 => ⟨(f6 h0).1, fun q e => ⟨((f6 h0).2 q e).1, Nat.lt_of_lt_of_le ((f6 h0).2 q e).2 hg.size⟩⟩, fun h0 => St.IsRow.below (f6w h0) hg, f7, f8, f9, fun h0 => ⟨(f10 h0).1, (f10 h0).2.1, Nat.lt_of_lt_of_le (f10 h0).2.2 hg.size⟩, fun h0 => St.IsRow.below (f10w h0) hg, f11, fun h0 => ⟨(f12 h0).1, (f12 h0).2.1, Nat.lt_of_lt_of_le (f12 h0).2.2 hg.size⟩, fun h0 h1 => (f12w h0 h1).below hg (f12w h0 h1).lt, fun h0 => (f13 h0).below hg (f13 h0).lt, fun _ h e => absurd (own1.lt _ e).1 (Nat.not_le.2 (f5 h).2.2), fun _ h e => absurd (own1.lt _ e).1 (Nat.not_le.2 (f10 h).2.2), fun _ h e => absurd (own1.lt _ e).1 (Nat.not_le.2 (f12 h).2.2), x610, x612, x1012⟩
              · rintro L T u hd hk hcl ⟨a4, c4, bN, a5, c5, bR, A, hb, f0, f1, f1w, f2, f3, f4, f5, f5w, f6, f6w, f7, f8, f9, f10, f10w, f11, f12, f12w, f13, x15, x110, x112, x610, x612, x1012⟩ K hK
                simp only [fr, Act.put, List.setIfInBounds_toArray, List.set_cons_zero, List.set_cons_succ, updO] at hK ⊢
                simp [Region.binds] at hd
                obtain ⟨c0, c1⟩ := KT.out u hb
                rw [if_pos (by rfl)]
                simp only [Oper.wpv]
                go_simp
                exact hK _ _ ⟨a4, c4, bN, a5, c5, bR, A, hb, f0, f1, f1w, fun _ => rfl, f3, f4, f5, f5w, f6, f6w, f7, f8, f9, f10, f10w, f11, f12, f12w, f13, x15, x110, x112, x610, x612, x1012⟩
              · rintro L T u hd hk hcl ⟨a4, c4, bN, a5, c5, bR, A, hb, f0, f1, f1w, f2, f3, f4, f5, f5w, f6, f6w, f7, f8, f9, f10, f10w, f11, f12, f12w, f13, x15, x110, x112, x610, x612, x1012⟩ K hK
                simp only [fr, Act.put, List.setIfInBounds_toArray, List.set_cons_zero, List.set_cons_succ, updO] at hK ⊢
                simp [Region.binds] at hd
                rw [if_pos (by rfl)]
                simp only [Oper.wpv]
                go_simp
                exact hK _ _ ⟨a4, c4, bN, a5, c5, bR, A, hb, f0, f1, f1w, f2, fun _ => rfl, f4, f5, f5w, f6, f6w, f7, f8, f9, f10, f10w, f11, f12, f12w, f13, x15, x110, x112, x610, x612, x1012⟩
              · rintro L T u hd hk hcl ⟨a4, c4, bN, a5, c5, bR, A, hb, f0, f1, f1w, f2, f3, f4, f5, f5w, f6, f6w, f7, f8, f9, f10, f10w, f11, f12, f12w, f13, x15, x110, x112, x610, x612, x1012⟩ K hK
                simp only [fr, Act.put, List.setIfInBounds_toArray, List.set_cons_zero, List.set_cons_succ, updO] at hK ⊢
                simp [Region.binds] at hd
                have g2 := f2 (by simp [hd])
                have g3 := f3 (by simp [hd])
                rw [if_pos (by rfl)]
                simp only [Oper.wpv]
                go_simp
                exact hK _ _ ⟨a4, c4, bN, a5, c5, bR, A, hb, f0, f1, f1w, f2, f3, fun _ => rfl, f5, f5w, f6, f6w, f7, f8, f9, f10, f10w, f11, f12, f12w, f13, x15, x110, x112, x610, x612, x1012⟩
              · rintro L T u hd hk hcl ⟨a4, c4, bN, a5, c5, bR, A, hb, f0, f1, f1w, f2, f3, f4, f5, f5w, f6, f6w, f7, f8, f9, f10, f10w, f11, f12, f12w, f13, x15, x110, x112, x610, x612, x1012⟩ K hK
                simp only [fr, Act.put, List.setIfInBounds_toArray, List.set_cons_zero, List.set_cons_succ, updO] at hK ⊢
                simp [Region.binds] at hd
                have g4 := f4 (by simp [hd])
                have hg : Below u.heap.size u (u.alloc (.cells #[.int .i64 t1, .int .i64 t2, .bool yes, .bool false] 56)) := (Below.refl _ _).alloc (Nat.le_refl _) _
                rw [if_pos (by rfl)]
                simp only [Oper.wpv]
                go_simp
                exact hK _ _ ⟨a4, c4, u.heap.size, a5, c5, bR, A, (nT hb hg), f0, fun h0 => ⟨(f1 h0).1, fun q e => ⟨((f1 h0).2 q e).1, Nat.lt_of_lt_of_le ((f1 h0).2 q e).2 hg.size⟩⟩, fun h0 h1 => own_below (f1w h0 h1) hg, f2, f3, f4, fun _ => ⟨rfl, hb.size, by simp⟩, fun _ _ => isOneQ (cs := #[.int .i64 t1, .int .i64 t2, .bool yes, .bool false]) rfl rfl rfl, fun h0 => ⟨(f6 h0).1, fun q e => ⟨((f6 h0).2 q e).1, Nat.lt_of_lt_of_le ((f6 h0).2 q e).2 hg.size⟩⟩, fun h0 => St.IsRow.below (f6w h0) hg, f7, f8, f9, fun h0 => ⟨(f10 h0).1, (f10 h0).2.1, Nat.lt_of_lt_of_le (f10 h0).2.2 hg.size⟩, fun h0 => St.IsRow.below (f10w h0) hg, f11, fun h0 => ⟨(f12 h0).1, (f12 h0).2.1, Nat.lt_of_lt_of_le (f12 h0).2.2 hg.size⟩, fun h0 h1 => (f12w h0 h1).below hg (f12w h0 h1).lt, fun h0 => (f13 h0).below hg (f13 h0).lt, fun h _ e => absurd ((f1 h).2 _ e).2 (Nat.lt_irrefl _), x110, x112, x610, x612, x1012⟩
              · rintro L T u hd hk hcl ⟨a4, c4, bN, a5, c5, bR, A, hb, f0, f1, f1w, f2, f3, f4, f5, f5w, f6, f6w, f7, f8, f9, f10, f10w, f11, f12, f12w, f13, x15, x110, x112, x610, x612, x1012⟩ K hK
                simp only [fr, Act.put, List.setIfInBounds_toArray, List.set_cons_zero, List.set_cons_succ, updO] at hK ⊢
                simp [Region.binds] at hd
                have o1 := f1w (by simp [hd]) hk
                have g1 := (f1 (by simp [hd])).1
                have g5 := (f5 (by simp [hd])).1
                have r5 := f5w (by simp [hd]) hk
                have hl1 : L 1 = true := by simp [hd]
                have k11 := hcl 11 _ rfl
                simp [Region.binds] at k11
                have k13 := hcl 13 _ rfl
                simp [Region.binds] at k13
                rw [if_pos (by rfl)]
                simp only [Oper.wpv]
                refine St.wpv_append_row EN (.tmp 55) (.tmp 59) (by rfl) Z.heap.size (.slice a4 nn c4) nn ns g1 o1 (some ⟨bN, 0, none⟩) 1 1 [(⟨t1, t2, yes, false⟩ : NV)] g5 r5 (by unfold maxLen; omega) (by omega) hb.size ?_
                intro a6 c6 u6 own6 gr6 at6
                have hu6 : Below Z.heap.size Z u6 := hb.grown gr6 hb.size (fun q hq => ((f1 hl1).2 q hq).1)
                have hr6 := (own_isRow ncells_len own6 (by have := HNL.out; simp; omega)).1
                have hg6 := gr6.size
                have hat : ∀ q, (Value.slice a6 (nn + 1) c6).ownBlock = some q → (Value.slice a4 nn c4).ownBlock = some q ∨ q = u.heap.size := fun q e => by rcases at6 with h | h <;> rw [e] at h <;> first | exact Or.inl h.symm | exact Or.inr (by simpa using h)
                exact hK _ _ ⟨a4, c4, bN, a6, c6, bR, A, hu6, f0, fun h => ⟨(f1 h).1, fun q e => ⟨((f1 h).2 q e).1, Nat.lt_of_lt_of_le ((f1 h).2 q e).2 hg6⟩⟩, fun _ h => Bool.noConfusion (show true = false from h), f2, f3, f4, fun h => ⟨(f5 h).1, (f5 h).2.1, Nat.lt_of_lt_of_le (f5 h).2.2 hg6⟩, fun _ h => Bool.noConfusion (show true = false from h), fun _ => ⟨rfl, fun q e => ⟨(own6.lt q e).1, (own6.lt q e).2⟩⟩, fun _ => hr6, f7, f8, f9, fun h => ⟨(f10 h).1, (f10 h).2.1, Nat.lt_of_lt_of_le (f10 h).2.2 hg6⟩, fun h => row_grown_at (f10w h) gr6 (x110 hl1 h), fun h => by have := k11 h; simp [hk] at this, fun h => ⟨(f12 h).1, (f12 h).2.1, Nat.lt_of_lt_of_le (f12 h).2.2 hg6⟩, fun h h2 => (f12w h h2).grown gr6 (fun e => x112 hl1 h e.symm), fun h => by have := k13 h; have h2 := k11 (by simp [this]); simp [hk] at h2, x15, x110, x112, fun _ h e => by rcases hat _ e with h2 | h2; exact x110 hl1 h h2; exact absurd (f10 h).2.2 (by omega), fun _ h e => by rcases hat _ e with h2 | h2; exact x112 hl1 h h2; exact absurd (f12 h).2.2 (by omega), x1012⟩
              · rintro L T u hd hk hcl ⟨a4, c4, bN, a5, c5, bR, A, hb, f0, f1, f1w, f2, f3, f4, f5, f5w, f6, f6w, f7, f8, f9, f10, f10w, f11, f12, f12w, f13, x15, x110, x112, x610, x612, x1012⟩ K hK
                simp only [fr, Act.put, List.setIfInBounds_toArray, List.set_cons_zero, List.set_cons_succ, updO] at hK ⊢
                simp [Region.binds] at hd
                obtain ⟨c0, c1⟩ := KT.out u hb
                rw [if_pos (by rfl)]
                simp only [Oper.wpv]
                go_simp
                exact hK _ _ ⟨a4, c4, bN, a5, c5, bR, A, hb, f0, f1, f1w, f2, f3, f4, f5, f5w, f6, f6w, fun _ => rfl, f8, f9, f10, f10w, f11, f12, f12w, f13, x15, x110, x112, x610, x612, x1012⟩
              · rintro L T u hd hk hcl ⟨a4, c4, bN, a5, c5, bR, A, hb, f0, f1, f1w, f2, f3, f4, f5, f5w, f6, f6w, f7, f8, f9, f10, f10w, f11, f12, f12w, f13, x15, x110, x112, x610, x612, x1012⟩ K hK
                simp only [fr, Act.put, List.setIfInBounds_toArray, List.set_cons_zero, List.set_cons_succ, updO] at hK ⊢
                simp [Region.binds] at hd
                rw [if_pos (by rfl)]
                simp only [Oper.wpv]
                go_simp
                exact hK _ _ ⟨a4, c4, bN, a5, c5, bR, A, hb, f0, f1, f1w, f2, f3, f4, f5, f5w, f6, f6w, f7, fun _ => rfl, f9, f10, f10w, f11, f12, f12w, f13, x15, x110, x112, x610, x612, x1012⟩
              · rintro L T u hd hk hcl ⟨a4, c4, bN, a5, c5, bR, A, hb, f0, f1, f1w, f2, f3, f4, f5, f5w, f6, f6w, f7, f8, f9, f10, f10w, f11, f12, f12w, f13, x15, x110, x112, x610, x612, x1012⟩ K hK
                simp only [fr, Act.put, List.setIfInBounds_toArray, List.set_cons_zero, List.set_cons_succ, updO] at hK ⊢
                simp [Region.binds] at hd
                have g7 := f7 (by simp [hd])
                have g8 := f8 (by simp [hd])
                rw [if_pos (by rfl)]
                simp only [Oper.wpv]
                go_simp
                exact hK _ _ ⟨a4, c4, bN, a5, c5, bR, A, hb, f0, f1, f1w, f2, f3, f4, f5, f5w, f6, f6w, f7, f8, fun _ => rfl, f10, f10w, f11, f12, f12w, f13, x15, x110, x112, x610, x612, x1012⟩
              · rintro L T u hd hk hcl ⟨a4, c4, bN, a5, c5, bR, A, hb, f0, f1, f1w, f2, f3, f4, f5, f5w, f6, f6w, f7, f8, f9, f10, f10w, f11, f12, f12w, f13, x15, x110, x112, x610, x612, x1012⟩ K hK
                simp only [fr, Act.put, List.setIfInBounds_toArray, List.set_cons_zero, List.set_cons_succ, updO] at hK ⊢
                simp [Region.binds] at hd
                have g9 := f9 (by simp [hd])
                have hg : Below u.heap.size u (u.alloc (.cells #[.int .i64 6, .int .i64 t1, .int .i64 t2, .int .i64 0, .int .i64 0, .int .i64 0, .bool yes, .slice none 0 0] 59)) := (Below.refl _ _).alloc (Nat.le_refl _) _
                have k11 := hcl 11 _ rfl
                simp [Region.binds] at k11
                have k13 := hcl 13 _ rfl
                simp [Region.binds] at k13
                rw [if_pos (by rfl)]
                simp only [Oper.wpv]
                go_simp
                exact hK _ _ ⟨a4, c4, bN, a5, c5, u.heap.size, A, (nT hb hg), f0, fun h0 => ⟨(f1 h0).1, fun q e => ⟨((f1 h0).2 q e).1, Nat.lt_of_lt_of_le ((f1 h0).2 q e).2 hg.size⟩⟩, fun h0 h1 => own_below (f1w h0 h1) hg, f2, f3, f4, fun h0 => ⟨(f5 h0).1, (f5 h0).2.1, Nat.lt_of_lt_of_le (f5 h0).2.2 hg.size⟩, fun h0 h1 => St.IsRow.below (f5w h0 h1) hg, fun h0 => ⟨(f6 h0).1, fun q e => ⟨((f6 h0).2 q e).1, Nat.lt_of_lt_of_le ((f6 h0).2 q e).2 hg.size⟩⟩, fun h0 => St.IsRow.below (f6w h0) hg, f7, f8, f9, fun _ => ⟨rfl, hb.size, by simp⟩, fun _ => isOneQ (cs := #[.int .i64 6, .int .i64 t1, .int .i64 t2, .int .i64 0, .int .i64 0, .int .i64 0, .bool yes, .slice none 0 0]) rfl rfl rfl, fun h => by have := k11 h; simp [hk] at this, fun h0 => ⟨(f12 h0).1, (f12 h0).2.1, Nat.lt_of_lt_of_le (f12 h0).2.2 hg.size⟩, fun h0 h1 => (f12w h0 h1).below hg (f12w h0 h1).lt, fun h => by have := k13 h; have h2 := k11 (by simp [this]); simp [hk] at h2, x15, fun h _ e => absurd ((f1 h).2 _ e).2 (Nat.lt_irrefl _), x112, fun h _ e => absurd ((f6 h).2 _ e).2 (Nat.lt_irrefl _), x612, fun _ h => (Nat.ne_of_lt (f12 h).2.2).symm⟩
              · rintro L T u hd hk hcl ⟨a4, c4, bN, a5, c5, bR, A, hb, f0, f1, f1w, f2, f3, f4, f5, f5w, f6, f6w, f7, f8, f9, f10, f10w, f11, f12, f12w, f13, x15, x110, x112, x610, x612, x1012⟩ K hK
                simp only [fr, Act.put, List.setIfInBounds_toArray, List.set_cons_zero, List.set_cons_succ, updO] at hK ⊢
                simp [Region.binds] at hd
                have g6 := (f6 (by simp [hd])).1
                have g10 := (f10 (by simp [hd])).1
                rw [if_pos (by rfl)]
                simp only [Oper.wpv]
                go_simp
                exact hK _ _ ⟨a4, c4, bN, a5, c5, bR, A, hb, f0, f1, f1w, f2, f3, f4, f5, f5w, f6, f6w, f7, f8, f9, f10, f10w, fun _ => rfl, f12, f12w, f13, x15, x110, x112, x610, x612, x1012⟩
              · rintro L T u hd hk hcl ⟨a4, c4, bN, a5, c5, bR, A, hb, f0, f1, f1w, f2, f3, f4, f5, f5w, f6, f6w, f7, f8, f9, f10, f10w, f11, f12, f12w, f13, x15, x110, x112, x610, x612, x1012⟩ K hK
                simp only [fr, Act.put, List.setIfInBounds_toArray, List.set_cons_zero, List.set_cons_succ, updO] at hK ⊢
                simp [Region.binds] at hd
                have hg : Below u.heap.size u (u.alloc (.cells #[.slice none 0 0, .slice none 0 0, .slice none 0 0, .slice none 0 0, .slice none 0 0, .slice none 0 0, .slice none 0 0] 38)) := (Below.refl _ _).alloc (Nat.le_refl _) _
                have k13 := hcl 13 _ rfl
                simp [Region.binds] at k13
                rw [if_pos (by rfl)]
                simp only [Oper.wpv]
                go_simp
                exact hK _ _ ⟨a4, c4, bN, a5, c5, bR, u.heap.size, (nT hb hg), f0, fun h0 => ⟨(f1 h0).1, fun q e => ⟨((f1 h0).2 q e).1, Nat.lt_of_lt_of_le ((f1 h0).2 q e).2 hg.size⟩⟩, fun h0 h1 => own_below (f1w h0 h1) hg, f2, f3, f4, fun h0 => ⟨(f5 h0).1, (f5 h0).2.1, Nat.lt_of_lt_of_le (f5 h0).2.2 hg.size⟩, fun h0 h1 => St.IsRow.below (f5w h0 h1) hg, fun h0 => ⟨(f6 h0).1, fun q e => ⟨((f6 h0).2 q e).1, Nat.lt_of_lt_of_le ((f6 h0).2 q e).2 hg.size⟩⟩, fun h0 => St.IsRow.below (f6w h0) hg, f7, f8, f9, fun h0 => ⟨(f10 h0).1, (f10 h0).2.1, Nat.lt_of_lt_of_le (f10 h0).2.2 hg.size⟩, fun h0 => St.IsRow.below (f10w h0) hg, f11, fun _ => ⟨rfl, hb.size, by simp⟩, fun _ _ => boxn_new u #[.slice none 0 0, .slice none 0 0, .slice none 0 0, .slice none 0 0, .slice none 0 0, .slice none 0 0, .slice none 0 0] 38 7 rfl, fun h => by have := k13 h; simp [hk] at this, x15, x110, fun h _ e => absurd ((f1 h).2 _ e).2 (Nat.lt_irrefl _), x610, fun h _ e => absurd ((f6 h).2 _ e).2 (Nat.lt_irrefl _), fun h _ => Nat.ne_of_lt (f10 h).2.2⟩
              · rintro L T u hd hk hcl ⟨a4, c4, bN, a5, c5, bR, A, hb, f0, f1, f1w, f2, f3, f4, f5, f5w, f6, f6w, f7, f8, f9, f10, f10w, f11, f12, f12w, f13, x15, x110, x112, x610, x612, x1012⟩ K hK
                simp only [fr, Act.put, List.setIfInBounds_toArray, List.set_cons_zero, List.set_cons_succ, updO] at hK ⊢
                simp [Region.binds] at hd
                have g11 := f11 (by simp [hd])
                obtain ⟨g12, l0, l1⟩ := f12 (by simp [hd])
                have bx := f12w (by simp [hd]) hk
                have v0 : _ = some _ := (bx.c 0 (by decide)).1
                have y0 := (bx.c 0 (by decide)).2
                have v1 : _ = some _ := (bx.c 1 (by decide)).1
                have y1 := (bx.c 1 (by decide)).2
                have v2 : _ = some _ := (bx.c 2 (by decide)).1
                have y2 := (bx.c 2 (by decide)).2
                have v3 : _ = some _ := (bx.c 3 (by decide)).1
                have y3 := (bx.c 3 (by decide)).2
                have v4 : _ = some _ := (bx.c 4 (by decide)).1
                have y4 := (bx.c 4 (by decide)).2
                have v5 : _ = some _ := (bx.c 5 (by decide)).1
                have y5 := (bx.c 5 (by decide)).2
                have v6 : _ = some _ := (bx.c 6 (by decide)).1
                have y6 := (bx.c 6 (by decide)).2
                simp only [List.getD_cons_zero, List.getD_cons_succ] at v0 v1 v2 v3 v4 v5 v6
                have k11 := hcl 11 _ rfl
                simp [Region.binds] at k11
                have h6 : L 6 = true := by have := k11 (by simp [hd]); simp [this]
                rw [if_pos (by rfl)]
                simp only [Oper.wpv]
                go_simp
                exact hK _ _ ⟨a4, c4, bN, a5, c5, bR, A, (nS (nS (nS (nS (nS (nS (nS hb l0 _) l0 _) l0 _) l0 _) l0 _) l0 _) l0 _), f0, fun h0 => ⟨(f1 h0).1, fun q e => ⟨((f1 h0).2 q e).1, by simpa using ((f1 h0).2 q e).2⟩⟩, fun _ h => absurd (show L 6 = false from h) (by simp [h6]), f2, f3, f4, fun h0 => ⟨(f5 h0).1, (f5 h0).2.1, by simpa using (f5 h0).2.2⟩, fun _ h => absurd (show L 6 = false from h) (by simp [h6]), fun h0 => ⟨(f6 h0).1, fun q e => ⟨((f6 h0).2 q e).1, by simpa using ((f6 h0).2 q e).2⟩⟩, fun h0 => row7 (f6w h0) (fun b off e e2 => x612 h0 (by simp [hd]) (by rw [e, e2]; rfl)) _ _ _ _ _ _ _, f7, f8, f9, fun h0 => ⟨(f10 h0).1, (f10 h0).2.1, by simpa using (f10 h0).2.2⟩, fun h0 => row7 (f10w h0) (fun b off e e2 => by simp at e; exact x1012 h0 (by simp [hd]) (e.1.trans e2)) _ _ _ _ _ _ _, f11, fun h0 => ⟨(f12 h0).1, (f12 h0).2.1, by simpa using (f12 h0).2.2⟩, fun _ h => Bool.noConfusion (show true = false from h), fun _ => box7 bx _ _ _ _ _ _ _, x15, x110, x112, x610, x612, x1012⟩
            · rintro L T u hl ⟨a4, c4, bN, a5, c5, bR, A, hb, f0, f1, f1w, f2, f3, f4, f5, f5w, f6, f6w, f7, f8, f9, f10, f10w, f11, f12, f12w, f13, x15, x110, x112, x610, x612, x1012⟩
              simp only [fr, Act.put, List.setIfInBounds_toArray, List.set_cons_zero, List.set_cons_succ]
              obtain ⟨g18, lA, _⟩ := f12 (hl 12 (by decide))
              have hE18 : Hid (T 18 = .pointer (some ⟨A, 0, none⟩)) := g18
              have hfb : FB Z u A Z.heap.size nn bR a5 c5 ⟨6, t1, t2, 0, 0, 0, yes⟩ (ns ++ [⟨t1, t2, yes, false⟩]) := ⟨f13 (hl 13 (by decide)), f10w (hl 10 (by decide)), f6w (hl 6 (by decide)), ⟨lA, (f10 (hl 10 (by decide))).2.1, x1012 (hl 10 (by decide)) (hl 12 (by decide)), fun b off e => ⟨(((f6 (hl 6 (by decide))).2 b (by rw [e]; rfl)).1), fun e2 => x612 (hl 6 (by decide)) (hl 12 (by decide)) (by rw [e, e2]; rfl)⟩⟩, hb⟩
              clear g18 f0 f1 f1w f2 f3 f4 f5 f5w f6 f6w f7 f8 f9 f10 f10w f11 f12 f12w f13 x15 x110 x112 x610 x612 x1012
              go_wp2_with fail
              go_meet
              case rel => exact ⟨A, bR, a5, c5, hE18.out, hfb⟩
          case rest =>
            obtain ⟨A, rblk, a5, c5, rfl, hFB⟩ := hcut
            obtain ⟨Y, eY⟩ : ∃ Y, Y = wc := ⟨_, rfl⟩
            rw [← eY] at hFB ⊢
            clear eY
            have bY := hFB.bel
            have zZ := bQ.size
            have zYZ := bY.size
            have zA := hFB.box.lt
            obtain ⟨fA, fR, fRA, fN⟩ := hFB.far
            have bwY : Below w1.heap.size w1 Y := bQ.trans (bY.mono bQ.size)
            have zq : w.heap.size + 1 < w1.heap.size := by omega
            have hIY := hIs.below bwY
            have HEnd : Hid (∀ U, Below Y.heap.size Y U → Calls Try.prog 23 #[.agg #[.slice xa0 xn0 xc0, .slice xa1 xn1 xc1, .slice xa2 xn2 xc2, .slice xa3 xn3 xc3], .agg #[.int .i64 t1, .int .i64 t2], .bool yes] U fun e w' => ∃ r : SV, e = .returned (.tuple #[r.val, .int .i64 0]) ∧ OwnStore w' U.heap.size r ∧ r.data = D ∧ Below U.heap.size U w') := fun U hU => hEnd U (hIY.below hU)
            have KX : Hid (∀ U, Below Y.heap.size Y U → U.cell? ⟨b, off + k * 4, none⟩ = some (.slice xa0 xn0 xc0) ∧ U.cell? ⟨b, off + k * 4 + 1, none⟩ = some (.slice xa1 xn1 xc1) ∧ U.cell? ⟨b, off + k * 4 + 2, none⟩ = some (.slice xa2 xn2 xc2) ∧ U.cell? ⟨b, off + k * 4 + 3, none⟩ = some (.slice xa3 xn3 xc3) ∧ U.cell? ⟨w.heap.size + 1, 0, none⟩ = some (.int .i64 t1) ∧ U.cell? ⟨w.heap.size + 1, 1, none⟩ = some (.int .i64 t2)) := fun U hU => by
              have hv := bwY.trans (hU.mono bwY.size)
              exact ⟨(hv.cell (p := ⟨b, off + k * 4, none⟩) hblt).trans y0, (hv.cell (p := ⟨b, off + k * 4 + 1, none⟩) hblt).trans y1, (hv.cell (p := ⟨b, off + k * 4 + 2, none⟩) hblt).trans y2, (hv.cell (p := ⟨b, off + k * 4 + 3, none⟩) hblt).trans y3, (hv.cell (p := ⟨w.heap.size + 1, 0, none⟩) zq).trans q3, (hv.cell (p := ⟨w.heap.size + 1, 1, none⟩) zq).trans q4⟩
            have hbA : b ≠ A := by omega
            have htA : w.heap.size + 1 ≠ A := by omega
            have PS4 : Hid (∀ (U : World) (i : Nat) (v : Value), U.cell? ⟨b, off + k * 4, none⟩ = some (.slice xa0 xn0 xc0) ∧ U.cell? ⟨b, off + k * 4 + 1, none⟩ = some (.slice xa1 xn1 xc1) ∧ U.cell? ⟨b, off + k * 4 + 2, none⟩ = some (.slice xa2 xn2 xc2) ∧ U.cell? ⟨b, off + k * 4 + 3, none⟩ = some (.slice xa3 xn3 xc3) ∧ U.cell? ⟨w.heap.size + 1, 0, none⟩ = some (.int .i64 t1) ∧ U.cell? ⟨w.heap.size + 1, 1, none⟩ = some (.int .i64 t2) → (U.setCell ⟨A, i, none⟩ v).cell? ⟨b, off + k * 4, none⟩ = some (.slice xa0 xn0 xc0) ∧ (U.setCell ⟨A, i, none⟩ v).cell? ⟨b, off + k * 4 + 1, none⟩ = some (.slice xa1 xn1 xc1) ∧ (U.setCell ⟨A, i, none⟩ v).cell? ⟨b, off + k * 4 + 2, none⟩ = some (.slice xa2 xn2 xc2) ∧ (U.setCell ⟨A, i, none⟩ v).cell? ⟨b, off + k * 4 + 3, none⟩ = some (.slice xa3 xn3 xc3) ∧ (U.setCell ⟨A, i, none⟩ v).cell? ⟨w.heap.size + 1, 0, none⟩ = some (.int .i64 t1) ∧ (U.setCell ⟨A, i, none⟩ v).cell? ⟨w.heap.size + 1, 1, none⟩ = some (.int .i64 t2)) := fun U i v ⟨h0, h1, h2, h3, h4, h5⟩ => ⟨cellS h0 hbA i v, cellS h1 hbA i v, cellS h2 hbA i v, cellS h3 hbA i v, cellS h4 htA i v, cellS h5 htA i v⟩
            have KA : Hid (∀ U, Below Y.heap.size Y U → BoxN U A 7 [.slice none 0 0, .slice none 0 0, .slice none 0 0, .slice none 0 0, .slice none 0 0, .slice (some ⟨rblk, 0, none⟩) 1 1, .slice a5 (nn + 1) c5] ∧ IsRow 8 RV.cells U (some ⟨rblk, 0, none⟩) 1 1 [(⟨6, t1, t2, 0, 0, 0, yes⟩ : RV)] ∧ IsRow 4 NV.cells U a5 (nn + 1) c5 (ns ++ [⟨t1, t2, yes, false⟩])) := fun U hU => ⟨hFB.box.below hU hFB.box.lt, St.IsRow.below hFB.rs hU, St.IsRow.below hFB.ns hU⟩
            have HfN : Hid (∀ b off, a5 = some ⟨b, off, none⟩ → Z.heap.size ≤ b ∧ b ≠ A) := fN
            clear hEnd hCn hFB y0 y1 y2 y3 q3 q4 fN
            go_upto_region 12 with (fail)
            go_cut [] (fun wc => ∃ r : SV, BoxN wc A 7 [.slice r.ia r.il r.ic, .slice r.la r.ll r.lc, .slice r.da r.dl r.dc, .slice r.oa r.ol r.oc, .slice none 0 0, .slice (some ⟨rblk, 0, none⟩) 1 1, .slice a5 (nn + 1) c5] ∧ OwnStore wc Z.heap.size r ∧ r.data = D ∧ IsRow 8 RV.cells wc (some ⟨rblk, 0, none⟩) 1 1 [(⟨6, t1, t2, 0, 0, 0, yes⟩ : RV)] ∧ IsRow 4 NV.cells wc a5 (nn + 1) c5 (ns ++ [⟨t1, t2, yes, false⟩]) ∧ Below Z.heap.size Z wc)
            case first =>
              go_region_held3 (fun U => U.cell? ⟨b, off + k * 4, none⟩ = some (.slice xa0 xn0 xc0) ∧ U.cell? ⟨b, off + k * 4 + 1, none⟩ = some (.slice xa1 xn1 xc1) ∧ U.cell? ⟨b, off + k * 4 + 2, none⟩ = some (.slice xa2 xn2 xc2) ∧ U.cell? ⟨b, off + k * 4 + 3, none⟩ = some (.slice xa3 xn3 xc3) ∧ U.cell? ⟨w.heap.size + 1, 0, none⟩ = some (.int .i64 t1) ∧ U.cell? ⟨w.heap.size + 1, 1, none⟩ = some (.int .i64 t2))
                (((with_reducible repeat (first | refine PS4.out _ _ _ ?_ | (refine KX.out _ ?_; (repeat (first | exact Below.refl _ _ | exact hu2 | refine qD ?_)); done))); done))
                ((go_at_call 23; refine (HEnd.out _ (by (with_reducible repeat (first | exact Below.refl _ _ | refine qD ?_)); done)).mono ?_; rintro e w2 ⟨⟨ra0, rn0, rc0, ra1, rn1, rc1, ra2, rn2, rc2, ra3, rn3, rc3, ri, rl, rd, ro⟩, rfl, hO2', hd2, hb2⟩; simp only [SV.val]; have hu2 : Below Y.heap.size Y w2 := qT (by (with_reducible repeat (first | exact Below.refl _ _ | refine qD ?_)); done) hb2; obtain ⟨bx3, hr3, hn3⟩ := KA.out _ hu2; have s0 : _ = some (Value.slice none 0 0) := (bx3.c 0 (by decide)).1; have g0 := (bx3.c 0 (by decide)).2; have s1 : _ = some (Value.slice none 0 0) := (bx3.c 1 (by decide)).1; have g1 := (bx3.c 1 (by decide)).2; have s2 : _ = some (Value.slice none 0 0) := (bx3.c 2 (by decide)).1; have g2 := (bx3.c 2 (by decide)).2; have s3 : _ = some (Value.slice none 0 0) := (bx3.c 3 (by decide)).1; have g3 := (bx3.c 3 (by decide)).2; have zbx3 := bx3.lt))
              all_goals
                go_wp2_with fail
                go_meet
                case rel => exact ⟨⟨ra0, rn0, rc0, ra1, rn1, rc1, ra2, rn2, rc2, ra3, rn3, rc3, ri, rl, rd, ro⟩, (((bx3.set 0 (by decide) (.slice ra0 rn0 rc0)).set 1 (by decide) (.slice ra1 rn1 rc1)).set 2 (by decide) (.slice ra2 rn2 rc2)).set 3 (by decide) (.slice ra3 rn3 rc3), (hO2'.four (b := A) (by simp; omega) _ _ _ _).base (by simp; omega), hd2, row_four hr3 (fun b off e => by simp at e; omega) _ _ _ _, row_four hn3 (fun b off e => (HfN.out b off e).2) _ _ _ _, ((bY.trans (hu2.mono zYZ)).setCell (p := ⟨A, 0, none⟩) fA _ |>.setCell (p := ⟨A, 1, none⟩) fA _ |>.setCell (p := ⟨A, 2, none⟩) fA _ |>.setCell (p := ⟨A, 3, none⟩) fA _)⟩
            case rest =>
              obtain ⟨⟨ra0, rn0, rc0, ra1, rn1, rc1, ra2, rn2, rc2, ra3, rn3, rc3, ri, rl, rd, ro⟩, bxA, hOA, hdA, hrA, hnA, bA⟩ := hcut
              obtain ⟨X, eX⟩ : ∃ X, X = wc := ⟨_, rfl⟩
              rw [← eX] at bxA hOA hrA hnA bA ⊢
              clear eX KX HEnd PS4 KA
              have bWX : Below W.heap.size W X := bWZ.trans (bA.mono bWZ.size)
              have qb := KQ.out _ bWX
              have hwX := (HS.out _ bWX).2.2.2
              have hf : AnsV.far ⟨⟨ra0, rn0, rc0, ra1, rn1, rc1, ra2, rn2, rc2, ra3, rn3, rc3, ri, rl, rd, ro⟩, none, 0, 0, some ⟨rblk, 0, none⟩, 1, 1, a5, nn + 1, c5, [], [⟨6, t1, t2, 0, 0, 0, yes⟩], ns ++ [⟨t1, t2, yes, false⟩]⟩ Z.heap.size :=
                ⟨fun b o e => (hOA.items.lt b (by rw [show ra0 = _ from e]; rfl)).1, fun b o e => (hOA.locks.lt b (by rw [show ra1 = _ from e]; rfl)).1, fun b o e => (hOA.doubts.lt b (by rw [show ra2 = _ from e]; rfl)).1, fun b o e => (hOA.over.lt b (by rw [show ra3 = _ from e]; rfl)).1, (fun b o e => by cases e), (fun b o e => by simp at e; omega), fun b o e => (HfN.out b o e).1⟩
              have hi : IsAns X ⟨⟨ra0, rn0, rc0, ra1, rn1, rc1, ra2, rn2, rc2, ra3, rn3, rc3, ri, rl, rd, ro⟩, none, 0, 0, some ⟨rblk, 0, none⟩, 1, 1, a5, nn + 1, c5, [], [⟨6, t1, t2, 0, 0, 0, yes⟩], ns ++ [⟨t1, t2, yes, false⟩]⟩ := ⟨hOA.isStore, isRow_nil _ _ _, hrA, hnA⟩
              have gF := grown7 X (w.heap.size + 2) (.slice ra0 rn0 rc0) (.slice ra1 rn1 rc1) (.slice ra2 rn2 rc2) (.slice ra3 rn3 rc3) (.slice none 0 0) (.slice (some ⟨rblk, 0, none⟩) 1 1) (.slice a5 (nn + 1) c5)
              have hAF := hi.grown gF hf (by omega)
              have hbF := hwX.grown gF hwX.size (fun q hq => by simp at hq; omega)
              have k0 := (qb.c 0 (by decide)).1
              have h0 := (qb.c 0 (by decide)).2
              have v0 := (bxA.c 0 (by decide)).1
              have k1 := (qb.c 1 (by decide)).1
              have h1 := (qb.c 1 (by decide)).2
              have v1 := (bxA.c 1 (by decide)).1
              have k2 := (qb.c 2 (by decide)).1
              have h2 := (qb.c 2 (by decide)).2
              have v2 := (bxA.c 2 (by decide)).1
              have k3 := (qb.c 3 (by decide)).1
              have h3 := (qb.c 3 (by decide)).2
              have v3 := (bxA.c 3 (by decide)).1
              have k4 := (qb.c 4 (by decide)).1
              have h4 := (qb.c 4 (by decide)).2
              have v4 := (bxA.c 4 (by decide)).1
              have k5 := (qb.c 5 (by decide)).1
              have h5 := (qb.c 5 (by decide)).2
              have v5 := (bxA.c 5 (by decide)).1
              have k6 := (qb.c 6 (by decide)).1
              have h6 := (qb.c 6 (by decide)).2
              have v6 := (bxA.c 6 (by decide)).1
              simp only [List.getD_cons_zero, List.getD_cons_succ] at k0 v0 k1 v1 k2 v2 k3 v3 k4 v4 k5 v5 k6 v6
              have zq7 := qb.lt
              have za7 := bxA.lt
              go_wp2
              refine bodyPost_ret (v := .tuple #[.agg #[.slice ra0 rn0 rc0, .slice ra1 rn1 rc1, .slice ra2 rn2 rc2, .slice ra3 rn3 rc3, .slice none 0 0, .slice (some ⟨rblk, 0, none⟩) 1 1, .slice a5 (nn + 1) c5], .int .i64 0]) (by simp [results, Try.results9, go_sem, k0, k1, k2, k3, k4, k5, k6]) rfl ⟨_, by rw [HE.out]; rfl, hAF, ?_, hbF, hf.mono (by omega)⟩
              rw [HTD.out, ← hdA]
              rfl
    · rw [if_neg hC] at HF
      have HE : Hid (FE = CE) := HF
      have hC2 : (CE == 0) = false := by simp [hC]
      have HN0 : Hid (TD = AD.nil) := by show _ = _; rw [HD.out, if_neg (by rw [HE.out]; exact hC)]
      clear HF HD
      have qb := KQ.out _ bWZ
      have hwE := (HS.out _ bWZ).2.2.2
      have zQ : w.heap.size + 2 < Z.heap.size := qb.lt
      have k0 := (qb.c 0 (by decide)).1
      have h0 := (qb.c 0 (by decide)).2
      have k1 := (qb.c 1 (by decide)).1
      have h1 := (qb.c 1 (by decide)).2
      have k2 := (qb.c 2 (by decide)).1
      have h2 := (qb.c 2 (by decide)).2
      have k3 := (qb.c 3 (by decide)).1
      have h3 := (qb.c 3 (by decide)).2
      have k4 := (qb.c 4 (by decide)).1
      have h4 := (qb.c 4 (by decide)).2
      have k5 := (qb.c 5 (by decide)).1
      have h5 := (qb.c 5 (by decide)).2
      have k6 := (qb.c 6 (by decide)).1
      have h6 := (qb.c 6 (by decide)).2
      simp only [List.getD_cons_zero, List.getD_cons_succ] at k0 k1 k2 k3 k4 k5 k6
      go_wp2
      refine bodyPost_ret (v := .tuple #[.agg #[.slice none 0 0, .slice none 0 0, .slice none 0 0, .slice none 0 0, .slice none 0 0, .slice none 0 0, .slice none 0 0], .int .i64 CE]) (by simp [results, Try.results9, go_sem, k0, k1, k2, k3, k4, k5, k6]) rfl ⟨AnsV.nil, by rw [HE.out]; rfl, isAns_nil _, by rw [HN0.out]; rfl, ?_, AnsV.far_nil _⟩
      exact hwE.grown (grown7 Z (w.heap.size + 2) _ _ _ _ _ _ _) hwE.size (fun q hq => by simp at hq; omega)
  · rw [if_neg hE] at HF
    have HE : Hid (FE = E) := HF
    have hE2 : (E == 0) = false := by simp [hE]
    have HN0 : Hid (TD = AD.nil) := by show _ = _; rw [HD.out, if_neg (by rw [HE.out]; exact hE)]
    clear HF HD hok2
    have qb := KQ.out _ hb1
    have hwE := (HS.out _ hb1).2.2.2
    have zQ : w.heap.size + 2 < w1.heap.size := qb.lt
    have k0 := (qb.c 0 (by decide)).1
    have h0 := (qb.c 0 (by decide)).2
    have k1 := (qb.c 1 (by decide)).1
    have h1 := (qb.c 1 (by decide)).2
    have k2 := (qb.c 2 (by decide)).1
    have h2 := (qb.c 2 (by decide)).2
    have k3 := (qb.c 3 (by decide)).1
    have h3 := (qb.c 3 (by decide)).2
    have k4 := (qb.c 4 (by decide)).1
    have h4 := (qb.c 4 (by decide)).2
    have k5 := (qb.c 5 (by decide)).1
    have h5 := (qb.c 5 (by decide)).2
    have k6 := (qb.c 6 (by decide)).1
    have h6 := (qb.c 6 (by decide)).2
    simp only [List.getD_cons_zero, List.getD_cons_succ] at k0 k1 k2 k3 k4 k5 k6
    go_wp2
    refine bodyPost_ret (v := .tuple #[.agg #[.slice none 0 0, .slice none 0 0, .slice none 0 0, .slice none 0 0, .slice none 0 0, .slice none 0 0, .slice none 0 0], .int .i64 E]) (by simp [results, Try.results9, go_sem, k0, k1, k2, k3, k4, k5, k6]) rfl ⟨AnsV.nil, by rw [HE.out]; rfl, isAns_nil _, by rw [HN0.out]; rfl, ?_, AnsV.far_nil _⟩
    exact hwE.grown (grown7 w1 (w.heap.size + 2) _ _ _ _ _ _ _) hwE.size (fun q hq => by simp at hq; omega)
end Go.Proofs.Ytifdjlhgcbkamaa.Pt
