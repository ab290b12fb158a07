/- Texts of this claim, one behind the other. -/
import Derived.Test.YtfhciplckjkflaaM10CoordTicks
import Derived.Shelf.Abstract
import Derived.Orders
import Derived.Test.YtfhciplckjkflaaM11CoordTicks
/- Contracts of slices.IndexFunc and ContainsFunc with any function value that asks about an element; of slices.Index and Contains. -/
namespace Go.Proofs.Ytfhciplckjkflaa.Co
open Go.ChangeShapes Go.WideShapes Go.ChangeAt Go.RowKit
open Go.Proofs.Ytfhciplckjkflaa.St (idxI idxI_hit idxI_none idxI_any idxI_lt IsRow)
set_option linter.unusedVariables false

abbrev IsJobRow := @IsRow JbV _ 6 JbV.cells
/-- A function value that answers a question about an element, and leaves what lay below. -/
def Asks {α : Type} (fn : Nat) (cps : Array Value) (val : α → Value) (p : α → Bool) (w : World) : Prop :=
  Enters Try.prog fn ∧ ∀ (x : α) (w' : World), Below w.heap.size w w' → Calls Try.prog fn (#[val x] ++ cps) w' fun e w'' => e = .returned (.bool (p x)) ∧ Below w'.heap.size w' w''
theorem Asks.below {α : Type} {fn : Nat} {cps : Array Value} {val : α → Value} {p : α → Bool} {w w' : World} (h : Asks fn cps val p w) (hb : Below w.heap.size w w') : Asks fn cps val p w' :=
  ⟨h.1, fun x u hu => h.2 x u (hb.trans (hu.mono hb.size))⟩

set_option maxHeartbeats 1000000 in
theorem indexJob_any (fn : Nat) (cps : Array Value) (p : JbV → Bool) (a : Option Addr) (len cap : Nat) (xs : List JbV) (w : World) (h : IsJobRow w a len cap xs) (hF : Asks fn cps JbV.val p w) :
    Calls Try.prog 45 #[.slice a len cap, .func (.func fn) #[] cps] w fun e w' => e = .returned (.int .i64 (idxI p xs)) ∧ Below w.heap.size w w' := by
  obtain ⟨hlen, hcap, hmax, _, hmem⟩ := h
  obtain ⟨hE, hF⟩ := hF
  unfold Enters at hE
  have HL : Hid (xs.length = len) := hlen
  clear hlen
  unfold maxLen at hmax
  go_enter Try.func45, Try.ntmps45
  go_wp2
  go_loopw [8] (fun s8 wr => ∃ (k : Nat), k ≤ len ∧ s8 = .int .i64 k ∧ (∀ i, i < k → p (xs.getD i default) = false) ∧ Below w.heap.size w wr) (fun s8 _ => len - (intOf s8).toNat)
  case atStart => exact ⟨0, Nat.zero_le _, rfl, fun i hi => absurd hi (by omega), Below.refl _ _⟩
  case round =>
    obtain ⟨k, hk, rfl, hnot, hb⟩ := hrel
    by_cases hlt : k < len
    · have hlt' : (k : Int) < (len : Int) := by omega
      obtain ⟨b, off, rfl, zb, hc⟩ := hmem (by omega)
      have hcells := hc k hlt
      have hx := hF (xs.getD k default) wr hb
      have hhit := idxI_hit (p := p) (l := xs) (k := k) (by have := HL.out; omega) hnot
      have hnot' : p (xs.getD k default) = false → ∀ i, i < k + 1 → p (xs.getD i default) = false := fun hf i hi => by
        by_cases e : i = k
        · rw [e]; exact hf
        · exact hnot i (by omega)
      obtain ⟨x, ex⟩ : ∃ x, x = xs.getD k default := ⟨_, rfl⟩
      rw [← ex] at hcells hx hhit hnot'
      clear ex
      obtain ⟨jn, st, ta, tl, tc, aa, al, ac, asks, age, tasks, asked⟩ := x
      have a0 := hcells 0 (by decide)
      have a1 := hcells 1 (by decide)
      have a2 := hcells 2 (by decide)
      have a3 := hcells 3 (by decide)
      have a4 := hcells 4 (by decide)
      have a5 := hcells 5 (by decide)
      simp [JbV.cells] at a0 a1 a2 a3 a4 a5
      rw [← hb.cell (p := ⟨b, off + k * 6, none⟩) zb] at a0
      rw [← hb.cell (p := ⟨b, off + k * 6 + 1, none⟩) zb] at a1
      rw [← hb.cell (p := ⟨b, off + k * 6 + 2, none⟩) zb] at a2
      rw [← hb.cell (p := ⟨b, off + k * 6 + 3, none⟩) zb] at a3
      rw [← hb.cell (p := ⟨b, off + k * 6 + 4, none⟩) zb] at a4
      rw [← hb.cell (p := ⟨b, off + k * 6 + 5, none⟩) zb] at a5
      clear hcells hc
      simp only [JbV.val] at hx
      obtain ⟨P, eP⟩ : ∃ P, P = p ⟨jn, st, ta, tl, tc, aa, al, ac, asks, age, tasks, asked⟩ := ⟨_, rfl⟩
      rw [← eP] at hx hhit hnot'
      clear eP
      cases P with
      | true =>
        have hh := hhit rfl
        clear hhit hnot'
        go_wp2_with (go_at_fn fn; refine (hx).mono ?_; rintro e w1 ⟨rfl, hb1⟩)
        go_ret
        exact ⟨by rw [hh]; rfl, hb.trans (hb1.mono hb.size)⟩
      | false =>
        have hh := hnot' rfl
        clear hhit hnot'
        go_wp2_with (go_at_fn fn; refine (hx).mono ?_; rintro e w1 ⟨rfl, hb1⟩)
        go_roundw
        case rel => exact ⟨k + 1, by omega, by go_num, hh, hb.trans (hb1.mono hb.size)⟩
        case measure => simp [intOf]; omega
    · have hfin : idxI p xs = -1 := idxI_none (fun i hi => hnot i (by have := HL.out; omega))
      go_wp2
      go_ret
      exact ⟨by rw [hfin]; rfl, hb⟩

set_option maxHeartbeats 1000000 in
theorem indexTask_any (fn : Nat) (cps : Array Value) (p : TkV → Bool) (a : Option Addr) (len cap : Nat) (xs : List TkV) (w : World) (h : IsTasks w a len cap xs) (hF : Asks fn cps TkV.val p w) :
    Calls Try.prog 82 #[.slice a len cap, .func (.func fn) #[] cps] w fun e w' => e = .returned (.int .i64 (idxI p xs)) ∧ Below w.heap.size w w' := by
  obtain ⟨hlen, hcap, hmax, _, hmem⟩ := h
  obtain ⟨hE, hF⟩ := hF
  unfold Enters at hE
  have HL : Hid (xs.length = len) := hlen
  clear hlen
  unfold maxLen at hmax
  go_enter Try.func82, Try.ntmps82
  go_wp2
  go_loopw [8] (fun s8 wr => ∃ (k : Nat), k ≤ len ∧ s8 = .int .i64 k ∧ (∀ i, i < k → p (xs.getD i default) = false) ∧ Below w.heap.size w wr) (fun s8 _ => len - (intOf s8).toNat)
  case atStart => exact ⟨0, Nat.zero_le _, rfl, fun i hi => absurd hi (by omega), Below.refl _ _⟩
  case round =>
    obtain ⟨k, hk, rfl, hnot, hb⟩ := hrel
    by_cases hlt : k < len
    · have hlt' : (k : Int) < (len : Int) := by omega
      obtain ⟨b, off, rfl, zb, hc⟩ := hmem (by omega)
      have hcells := hc k hlt
      have hx := hF (xs.getD k default) wr hb
      have hhit := idxI_hit (p := p) (l := xs) (k := k) (by have := HL.out; omega) hnot
      have hnot' : p (xs.getD k default) = false → ∀ i, i < k + 1 → p (xs.getD i default) = false := fun hf i hi => by
        by_cases e : i = k
        · rw [e]; exact hf
        · exact hnot i (by omega)
      obtain ⟨x, ex⟩ : ∃ x, x = xs.getD k default := ⟨_, rfl⟩
      rw [← ex] at hcells hx hhit hnot'
      clear ex
      obtain ⟨write, label, key, value, version, ask, done, sure⟩ := x
      have a0 := hcells 0 (by decide)
      have a1 := hcells 1 (by decide)
      have a2 := hcells 2 (by decide)
      have a3 := hcells 3 (by decide)
      have a4 := hcells 4 (by decide)
      have a5 := hcells 5 (by decide)
      have a6 := hcells 6 (by decide)
      have a7 := hcells 7 (by decide)
      simp [TkV.cells] at a0 a1 a2 a3 a4 a5 a6 a7
      rw [← hb.cell (p := ⟨b, off + k * 8, none⟩) zb] at a0
      rw [← hb.cell (p := ⟨b, off + k * 8 + 1, none⟩) zb] at a1
      rw [← hb.cell (p := ⟨b, off + k * 8 + 2, none⟩) zb] at a2
      rw [← hb.cell (p := ⟨b, off + k * 8 + 3, none⟩) zb] at a3
      rw [← hb.cell (p := ⟨b, off + k * 8 + 4, none⟩) zb] at a4
      rw [← hb.cell (p := ⟨b, off + k * 8 + 5, none⟩) zb] at a5
      rw [← hb.cell (p := ⟨b, off + k * 8 + 6, none⟩) zb] at a6
      rw [← hb.cell (p := ⟨b, off + k * 8 + 7, none⟩) zb] at a7
      clear hcells hc
      simp only [TkV.val] at hx
      obtain ⟨P, eP⟩ : ∃ P, P = p ⟨write, label, key, value, version, ask, done, sure⟩ := ⟨_, rfl⟩
      rw [← eP] at hx hhit hnot'
      clear eP
      cases P with
      | true =>
        have hh := hhit rfl
        clear hhit hnot'
        go_wp2_with (go_at_fn fn; refine (hx).mono ?_; rintro e w1 ⟨rfl, hb1⟩)
        go_ret
        exact ⟨by rw [hh]; rfl, hb.trans (hb1.mono hb.size)⟩
      | false =>
        have hh := hnot' rfl
        clear hhit hnot'
        go_wp2_with (go_at_fn fn; refine (hx).mono ?_; rintro e w1 ⟨rfl, hb1⟩)
        go_roundw
        case rel => exact ⟨k + 1, by omega, by go_num, hh, hb.trans (hb1.mono hb.size)⟩
        case measure => simp [intOf]; omega
    · have hfin : idxI p xs = -1 := idxI_none (fun i hi => hnot i (by have := HL.out; omega))
      go_wp2
      go_ret
      exact ⟨by rw [hfin]; rfl, hb⟩

theorem containsTask_any (fn : Nat) (cps : Array Value) (p : TkV → Bool) (a : Option Addr) (len cap : Nat) (xs : List TkV) (w : World) (h : IsTasks w a len cap xs) (hF : Asks fn cps TkV.val p w) :
    Calls Try.prog 72 #[.slice a len cap, .func (.func fn) #[] cps] w fun e w' => e = .returned (.bool (xs.any p)) ∧ Below w.heap.size w w' := by
  have hI := fun w' h1 h2 => indexTask_any fn cps p a len cap xs w' h1 h2
  have hA := idxI_any p xs
  obtain ⟨I, eI⟩ : ∃ I, I = idxI p xs := ⟨_, rfl⟩
  rw [← eI] at hI hA
  rw [← hA]
  clear eI hA
  go_enter Try.func72, Try.ntmps72
  go_wp2_with (go_at_call 82; refine (hI _ h hF).mono ?_; rintro e w1 ⟨rfl, hb1⟩)
  go_ret
  exact ⟨rfl, hb1⟩
end Go.Proofs.Ytfhciplckjkflaa.Co
/- A region that draws its order, by what each operation keeps: a small case for each operation in the place of one for each order. -/
namespace Go.Proofs.Ytfhciplckjkflaa

/-- A frame with other values in some slots. -/
def fr (a : Act) : List Nat → (Nat → Value) → Act
  | [], _ => a
  | d :: ds, T => fr (a.put (some d) (T d)) ds T
def upd (T : Nat → Value) (d : Nat) (v : Value) : Nat → Value := fun s => cond (Nat.beq s d) v (T s)
def lst (L : Nat → Bool) (k : Nat) : Nat → Bool := fun j => Nat.beq j k || L j
def slot0 (a : Act) : Nat → Value := fun s => (a.tmps[s]?).getD undef

def AllK (f : Nat → Oper → Prop) : Nat → List Oper → Prop
  | _, [] => True
  | k, o :: os => f k o ∧ AllK f (k + 1) os
theorem AllK.get {f : Nat → Oper → Prop} : ∀ {k : Nat} {os : List Oper}, AllK f k os → ∀ i o, os[i]? = some o → f (k + i) o
  | _, [], _, i, o, h => by simp at h
  | k, x :: xs, hh, i, o, h => by
    cases i with
    | zero => simp at h; subst h; exact hh.1
    | succ i =>
      have := AllK.get hh.2 i o (by simpa using h)
      rwa [show k + 1 + i = k + (i + 1) by omega] at this

/-- What has come up has come up behind what it waits for. -/
def Closed (ops : Array Oper) (L : Nat → Bool) : Prop := ∀ j o, ops[j]? = some o → L j = true → ∀ e ∈ o.after.toList, Region.binds .any e = true → L e.on = true
/-- What an operation leaves in its slot, and the world behind it. -/
def Oper.wpv (P : Program) (o : Oper) (a : Act) (w : World) (K : Value → World → Prop) (Q : Exit → Act → World → Prop) : Prop :=
  match (execOp a.eval o).run P w with
  | .ok (.value v) w' => K v w'
  | .ok .skip w' => K undef w'
  | .ok (.enter f args) w' => Calls P f args w' fun
      | .returned v, w'' => K v w''
      | .panicked chain, w'' => Q (.panic chain) a w''
      | .outgrown, _ => LetsOut Q
  | .ok (.row row args) w' => Rows P row args w' fun v w'' => K v w''
  | .halt (.panic v) w' => Q (.panic [{ v, recovered := false }]) a w'
  | _ => False
theorem Oper.wp_of_wpv {P : Program} {o : Oper} {a : Act} {w : World} {K : Value → World → Prop} {N : Act → World → Prop} {Q : Exit → Act → World → Prop} (h : Oper.wpv P o a w K Q) (hk : ∀ v w', K v w' → N (a.put o.dst v) w') : o.wp P a w N Q := by
  unfold Oper.wpv at h
  unfold Oper.wp
  generalize (execOp a.eval o).run P w = r at h
  cases r with
  | ok n w' =>
    cases n with
    | value v => exact hk _ _ h
    | skip => exact hk _ _ h
    | enter f args => exact Calls.mono h (fun e w'' he => by cases e <;> first | exact hk _ _ he | exact he)
    | row r args => exact Rows.mono h (fun _ _ he => hk _ _ he)
    | _ => exact h.elim
  | halt x w' => cases x <;> first | exact h | exact h.elim
def updO (T : Nat → Value) (d : Option Nat) (v : Value) : Nat → Value := match d with
  | some d => upd T d v
  | none => T
theorem put_same (a : Act) (d : Nat) (u v : Value) : (a.put (some d) u).put (some d) v = a.put (some d) v := by
  obtain ⟨tmps, df⟩ := a
  simp [Act.put]
theorem put_ne (a : Act) {d x : Nat} (u v : Value) (h : x ≠ d) : (a.put (some x) u).put (some d) v = (a.put (some d) v).put (some x) u := Act.put_comm a u v (fun y hy hz => h (by cases hy; cases hz; rfl))
theorem fr_put : ∀ (ds : List Nat) (a : Act) (T : Nat → Value) (d : Nat) (v : Value), d ∉ ds → (fr a ds T).put (some d) v = fr (a.put (some d) v) ds T
  | [], _, _, _, _, _ => rfl
  | x :: xs, a, T, d, v, h => by
    simp only [List.mem_cons, not_or] at h
    simp only [fr]
    rw [fr_put xs _ T d v h.2, put_ne a _ _ (Ne.symm h.1)]
theorem upd_ne {T : Nat → Value} {d s : Nat} {v : Value} (h : s ≠ d) : upd T d v s = T s := by
  unfold upd
  cases hb : Nat.beq s d
  · rfl
  · exact absurd (Nat.eq_of_beq_eq_true hb) h
theorem upd_same {T : Nat → Value} {d : Nat} {v : Value} : upd T d v d = v := by simp [upd, Nat.beq_refl]
theorem fr_upd_out : ∀ (ds : List Nat) (a : Act) (T : Nat → Value) (d : Nat) (v : Value), d ∉ ds → fr a ds (upd T d v) = fr a ds T
  | [], _, _, _, _, _ => rfl
  | x :: xs, a, T, d, v, h => by
    simp only [List.mem_cons, not_or] at h
    simp only [fr]
    rw [upd_ne (Ne.symm h.1), fr_upd_out xs _ T d v h.2]
theorem fr_upd : ∀ (ds : List Nat) (a : Act) (T : Nat → Value) (d : Nat) (v : Value), ds.Nodup → d ∈ ds → (fr a ds T).put (some d) v = fr a ds (upd T d v)
  | [], _, _, _, _, _, h => by cases h
  | x :: xs, a, T, d, v, hn, h => by
    obtain ⟨hx, hn'⟩ := List.nodup_cons.1 hn
    simp only [fr]
    by_cases hxd : x = d
    · subst hxd
      rw [fr_put xs _ T x v hx, put_same, upd_same, fr_upd_out xs _ T x v hx]
    · have : d ∈ xs := by rcases List.mem_cons.1 h with h | h; exact absurd h.symm hxd; exact h
      rw [fr_upd xs _ T d v hn' this, upd_ne hxd]
theorem fr_updO {ds : List Nat} {a : Act} {T : Nat → Value} {d : Option Nat} {v : Value} (hn : ds.Nodup) (h : ∀ x, d = some x → x ∈ ds) : (fr a ds T).put d v = fr a ds (updO T d v) := by
  cases d with
  | none => rfl
  | some x => exact fr_upd ds a T x v hn (h x rfl)
/-- What is asked of an operation: from wherever the invariant stands it goes on, and the invariant stands again. -/
def StepK (P : Program) (ops : Array Oper) (Q : Exit → Act → World → Prop) (a : Act) (ds : List Nat) (I : (Nat → Bool) → (Nat → Value) → World → Prop) (k : Nat) (o : Oper) : Prop :=
  ∀ (L : Nat → Bool) (T : Nat → Value) (w : World), (∀ e ∈ o.after.toList, Region.binds .any e = true → L e.on = true) → L k = false → Closed ops L → I L T w →
    ∀ K : Value → World → Prop, (∀ v w', I (lst L k) (updO T o.dst v) w' → K v w') →
      if Region.wanted o (yielded ops (fr a ds T).tmps) = true then Oper.wpv P o (fr a ds T) w K Q else K undef w

/-- The slots that operations write. -/
def dstsIn (ops : Array Oper) (ds : List Nat) : Bool := ops.toList.all fun o => match o.dst with
  | some d => ds.contains d
  | none => true
/-- Edges lead back. -/
def back (ops : Array Oper) : Bool := (List.range ops.size).all fun i => match ops[i]? with
  | some o => o.after.toList.all fun e => !Region.binds .any e || decide (e.on < i)
  | none => true

section
variable {P : Program} {ops : Array Oper} {Q : Exit → Act → World → Prop} {a : Act} {ds : List Nat} {I : (Nat → Bool) → (Nat → Value) → World → Prop}

theorem ready_ne {listed : Array Bool} (hb : back ops = true) (hz : listed.size = ops.size) (i : Nat) (hi : i < ops.size) (hl : listed.getD i true = false) : Region.ready .any ops listed ≠ [] := by
  induction i using Nat.strongRecOn with
  | _ i ih =>
    by_cases hall : ∀ j, j < i → listed.getD j true = true
    · intro h
      have : i ∈ Region.ready .any ops listed := by
        rw [mem_ready]
        refine ⟨hl, ops[i], by simp [hi], fun e he hbn => ?_⟩
        have h1 := List.all_eq_true.1 hb i (by simpa using hi)
        simp only [Array.getElem?_eq_getElem hi] at h1
        have h2 := List.all_eq_true.1 h1 e (by simpa using he)
        have h3 : e.on < i := by simpa [hbn] using h2
        have h4 := hall e.on h3
        have h5 : e.on < listed.size := by omega
        simpa [h5] using h4
      rw [h] at this
      cases this
    · have : ∃ j, j < i ∧ listed.getD j true = false := by
        apply Classical.byContradiction
        intro hn
        apply hall
        intro j hj
        cases hc : listed.getD j true
        · exact absurd ⟨j, hj, hc⟩ hn
        · rfl
      obtain ⟨j, hj, hc⟩ := this
      exact ih j hj (by omega) hc

theorem wpAny_of_inv (hn : ds.Nodup) (hd : dstsIn ops ds = true) (hb : back ops = true) (hs : AllK (StepK P ops Q a ds I) 0 ops.toList)
    (he : ∀ L T w, (∀ i, i < ops.size → L i = true) → I L T w → Q .normal (fr a ds T) w) :
    ∀ (fuel : Nat) (listed : Array Bool) (T : Nat → Value) (w : World), listed.size = ops.size → listed.count false ≤ fuel → Closed ops (fun j => listed.getD j false) → I (fun j => listed.getD j false) T w → wpAny P .any ops Q fuel listed (fr a ds T) w := by
  have done : ∀ (listed : Array Bool) (T : Nat → Value) (w : World), listed.size = ops.size → Region.ready .any ops listed = [] → I (fun j => listed.getD j false) T w → Q .normal (fr a ds T) w := by
    intro listed T w hz hr hI
    refine he _ T w (fun i hi => ?_) hI
    cases hc : listed.getD i true with
    | false => exact absurd hr (ready_ne hb hz i hi hc)
    | true =>
      have h5 : i < listed.size := by omega
      simpa [h5] using hc
  intro fuel
  induction fuel with
  | zero =>
    intro listed T w hz hc hcl hI
    have hr : Region.ready .any ops listed = [] := by
      cases h : Region.ready .any ops listed with
      | nil => rfl
      | cons i is =>
        have hm : i ∈ Region.ready .any ops listed := by rw [h]; exact List.mem_cons_self ..
        obtain ⟨h0, o, ho, _⟩ := mem_ready.1 hm
        have hlt : i < ops.size := (Array.getElem?_eq_some_iff.1 ho).1
        have h5 : i < listed.size := by omega
        have : listed[i] = false := by simpa [h5] using h0
        have hin : false ∈ listed := by rw [← this]; exact Array.getElem_mem h5
        have := Array.count_pos_iff.2 hin
        omega
    exact ⟨hr, done listed T w hz hr hI⟩
  | succ fuel ih =>
    intro listed T w hz hc hcl hI
    refine ⟨fun hr => done listed T w hz hr hI, fun i hi => ?_⟩
    obtain ⟨h0, o, ho, hdep⟩ := mem_ready.1 hi
    have hlt : i < ops.size := (Array.getElem?_eq_some_iff.1 ho).1
    have h5 : i < listed.size := by omega
    have hli : listed[i] = false := by simpa [h5] using h0
    have hstep := AllK.get hs i o (by simpa using ho)
    rw [Nat.zero_add] at hstep
    unfold wpOp
    simp only [ho]
    have hK : ∀ T' w', I (lst (fun j => listed.getD j false) i) T' w' → wpAny P .any ops Q fuel (listed.setIfInBounds i true) (fr a ds T') w' := by
      intro T' w' hI'
      refine ih (listed.setIfInBounds i true) T' w' (by simpa using hz) ?_ ?_ ?_
      · have : listed.setIfInBounds i true = listed.set i true h5 := by simp [Array.setIfInBounds, h5]
        rw [this, Array.count_set h5, hli]
        simp
        omega
      · intro j o' ho' hj e he' hbn
        by_cases hji : j = i
        · subst hji
          obtain rfl : o' = o := Option.some.inj (ho'.symm.trans ho)
          exact getD_set_true (hdep e (by simpa using he') hbn)
        · refine getD_set_true (hcl j o' ho' ?_ e he' hbn)
          simpa only [getD_set_ne false (Ne.symm hji)] using hj
      · have : (fun j => (listed.setIfInBounds i true).getD j false) = lst (fun j => listed.getD j false) i := by
          funext j
          unfold lst
          by_cases hji : j = i
          · subst hji
            simp [h5, Nat.beq_refl]
          · have : Nat.beq j i = false := by
              cases hbq : Nat.beq j i
              · rfl
              · exact absurd (Nat.eq_of_beq_eq_true hbq) hji
            rw [this, Bool.false_or, getD_set_ne false (Ne.symm hji)]
        rw [this]
        exact hI'
    have hdst : ∀ x, o.dst = some x → x ∈ ds := by
      intro x hx
      have h1 := List.all_eq_true.1 hd o (by simpa using Array.mem_of_getElem? ho)
      simp only [hx] at h1
      simpa using h1
    have h1 := hstep _ T w (fun e he hbn => hdep e (by simpa using he) hbn) (by simp [h5, hli]) hcl hI (fun v w' => wpAny P .any ops Q fuel (listed.setIfInBounds i true) (fr a ds (updO T o.dst v)) w') (fun v w' hI' => hK _ w' hI')
    by_cases hw : Region.wanted o (yielded ops (fr a ds T).tmps) = true
    · rw [if_pos hw] at h1 ⊢
      exact .inl (Oper.wp_of_wpv h1 fun v w' h2 => by rw [fr_updO hn hdst]; exact h2)
    · rw [if_neg hw] at h1 ⊢
      rw [fr_updO hn hdst]
      exact h1

theorem fr_slot0 : ∀ (ds : List Nat) (a : Act), fr a ds (slot0 a) = a := by
  have put0 : ∀ (a : Act) (d : Nat), a.put (some d) (slot0 a d) = a := by
    intro a d
    obtain ⟨tmps, df⟩ := a
    simp only [Act.put, slot0]
    by_cases h : d < tmps.size
    · simp [Array.setIfInBounds, h]
    · simp [Array.setIfInBounds, h]
  intro ds
  induction ds with
  | nil => intro a; rfl
  | cons d ds ih => intro a; simp only [fr]; rw [put0]; exact ih a

/-- A drawn region by an invariant. -/
theorem wp_region_inv {id : Nat} {w : World} (hm : P.follows .mixedOrders = true) (ds : List Nat) (I : (Nat → Bool) → (Nat → Value) → World → Prop)
    (hn : ds.Nodup) (hd : dstsIn ops ds = true) (hb : back ops = true) (h0 : I (fun _ => false) (slot0 a) { w with drawn := w.drawn + 1 })
    (hs : AllK (StepK P ops Q a ds I) 0 ops.toList)
    (he : ∀ L T w, (∀ i, i < ops.size → L i = true) → I L T w → Q .normal (fr a ds T) w) : (Code.region id ops true).wp P Q a w := by
  refine wp_region_any hm ?_
  have := wpAny_of_inv hn hd hb hs he ops.size (Array.replicate ops.size false) (slot0 a) { w with drawn := w.drawn + 1 } (by simp) (by simp) (by
    intro j o _ hj
    by_cases hjs : j < ops.size <;> simp [hjs] at hj) (by
    have : (fun j => (Array.replicate ops.size false).getD j false) = fun _ => false := by
      funext j
      by_cases hj : j < ops.size <;> simp [hj]
    rw [this]
    exact h0)
  rwa [fr_slot0] at this
end
end Go.Proofs.Ytfhciplckjkflaa
/- The clerk's job: which one has that number; and a job's cells as they lie. -/
namespace Go.Proofs.Ytfhciplckjkflaa.Co
open Go.ChangeShapes Go.WideShapes Go.ChangeAt Go.RowKit
open Go.Proofs.Ytfhciplckjkflaa.St (BoxN boxn_new own_below grown_setCell IsRow Elem flat flat_append own_isRow idxI idxI_lt own_setk)
set_option linter.unusedVariables false

def isN (n : Int) (j : JbV) : Bool := decide (j.n = n)
set_option maxHeartbeats 1000000 in
theorem numbered_asks (b0 : Nat) (n : Int) (w : World) (c0 : w.cell? ⟨b0, 0, none⟩ = some (.int .i64 n)) (z0 : b0 < w.heap.size) : Asks 67 #[.pointer (some ⟨b0, 0, none⟩)] JbV.val (isN n) w := by
  refine ⟨enters_of Try.func67 (by kernel_rfl) rfl, fun x w' hb => ?_⟩
  rw [← hb.cell (p := ⟨b0, 0, none⟩) z0] at c0
  have y0 := Nat.lt_of_lt_of_le z0 hb.size
  obtain ⟨jn, st, ta, tl, tc, aa, al, ac, asks, age, tasks, asked⟩ := x
  simp only [JbV.val] at *
  have hA : ∀ o, Below w'.heap.size w' (w'.alloc o) := fun o => (Below.refl _ _).alloc (Nat.le_refl _) _
  show Calls Try.prog 67 #[_, .pointer (some ⟨b0, 0, none⟩)] w' _
  go_enter Try.func67, Try.ntmps67
  go_wp2
  all_goals go_ret
  all_goals exact ⟨ret_bool (by first | (simp_all [isN]; done) | (simp_all [isN]; rfl)), hA _⟩
theorem numbered_any (n : Int) (w : World) :
    Calls Try.prog 46 #[.int .i64 n] w fun e w' => ∃ b0 : Nat, e = .returned (.func (.func 67) #[] #[.pointer (some ⟨b0, 0, none⟩)]) ∧ w'.cell? ⟨b0, 0, none⟩ = some (.int .i64 n) ∧ (w.heap.size ≤ b0 ∧ b0 < w'.heap.size) ∧ Below w.heap.size w w' := by
  obtain ⟨W, hW⟩ : ∃ W : World, W = w.alloc (.cells #[.int .i64 n] 3) := ⟨_, rfl⟩
  have hB : Below w.heap.size w W := by rw [hW]; exact (Below.refl _ _).alloc (Nat.le_refl _) _
  have zW : W.heap.size = w.heap.size + 1 := by rw [hW]; simp
  have c0 : W.cell? ⟨w.heap.size, 0, none⟩ = some (.int .i64 n) := by rw [hW]; go_simp
  go_enter Try.func46, Try.ntmps46
  go_wp2
  rw [← hW]
  go_ret
  exact ⟨w.heap.size, rfl, c0, ⟨Nat.le_refl _, by omega⟩, hB⟩

theorem Clerk.jobRow {w X : World} {B q : Nat} {v : CkV} {ix : List (Nat × Nat)} {more : List Rw} (h : Clerk w X B q v ix more) : X.ownsRow B 47 6 (.slice v.ja v.jl v.jc) v.jl (flat JbV.cells v.js) := h.held.own.own 0 ⟨47, 6, .slice v.ja v.jl v.jc, v.jl, flat JbV.cells v.js⟩ rfl
theorem own_spot {w : World} {B : Nat} {te : TypeId} {k n cap : Nat} {a : Option Addr} {xs : List Value} (h : w.ownsRow B te k (.slice a n cap) n xs) (hn : 0 < n) : ∃ g, a = some ⟨g, 0, none⟩ ∧ B ≤ g ∧ g < w.heap.size := by
  rcases h.2 with ⟨hv, h0⟩ | ⟨g, cap', cur, hv, hb, r⟩
  · omega
  · simp at hv
    exact ⟨g, hv.1, hb, (h.lt g (by rw [hv.1]; rfl)).2⟩
/-- Where the i-th job lies, and what its cells hold. -/
theorem Clerk.jobAt {w X : World} {B q : Nat} {v : CkV} {ix : List (Nat × Nat)} {more : List Rw} (h : Clerk w X B q v ix more) {i : Nat} (hi : i < v.jl) : ∃ g, v.ja = some ⟨g, 0, none⟩ ∧ B ≤ g ∧ g < X.heap.size ∧ g ≠ q ∧ (∀ c, c < 6 → X.cell? ⟨g, i * 6 + c, none⟩ = (v.js.getD i default).cells[c]?) ∧ ∀ c, c < 6 → X.frozen? ⟨g, i * 6 + c, none⟩ = false := by
  have hr := h.jobRow
  obtain ⟨g, e, h1, h2⟩ := own_spot hr (by omega)
  have hrow := (own_isRow jb_len hr h.lens.1).1
  obtain ⟨b, off, e2, _, hc⟩ := hrow.2.2.2.2 (by omega)
  rw [e] at e2
  simp at e2
  obtain ⟨rfl, rfl⟩ := e2
  refine ⟨g, e, h1, h2, ?_, fun c hcl => ?_, fun c hcl => ?_⟩
  · intro e3
    subst e3
    exact h.held.apart 0 ⟨47, 6, .slice v.ja v.jl v.jc, v.jl, flat JbV.cells v.js⟩ rfl (by rw [e]; rfl)
  · have := hc i hi c hcl
    simpa using this
  · rw [e] at hr
    exact (St.own_there hr (by omega)).2

/-- A pointer to the job with that number, or to none. -/
def JobIs (e : Ending) (v : CkV) (n : Int) : Prop :=
  e = .returned (.pointer none) ∧ idxI (isN n) v.js = -1 ∨ ∃ (i g : Nat), e = .returned (.pointer (some ⟨g, i * 6, none⟩)) ∧ idxI (isN n) v.js = (i : Int) ∧ i < v.jl ∧ v.ja = some ⟨g, 0, none⟩
set_option maxRecDepth 100000 in
set_option maxHeartbeats 4000000 in
theorem job_any {w : World} {B q : Nat} {v : CkV} {ix : List (Nat × Nat)} {more : List Rw} (X : World) (h : Clerk w X B q v ix more) (n : Int) :
    Calls Try.prog 18 #[.pointer (some ⟨q, 0, none⟩), .int .i64 n] X fun e X' => JobIs e v n ∧ Below X.heap.size X X' := by
  have hI := fun fn cps U h1 h2 => indexJob_any fn cps (isN n) v.ja v.jl v.jc v.js U h1 h2
  have hrow := (own_isRow jb_len h.jobRow h.lens.1).1
  have hlt := idxI_lt (p := isN n) (l := v.js)
  rw [h.lens.1] at hlt
  have hAt := fun i (hi : i < v.jl) => h.jobAt hi
  have hmx : v.jl ≤ v.jc ∧ v.jc ≤ maxLen := ⟨hrow.2.1, hrow.2.2.1⟩
  obtain ⟨I, eI⟩ : ∃ I, I = idxI (isN n) v.js := ⟨_, rfl⟩
  rw [← eI] at hI hlt
  have HI : Hid (idxI (isN n) v.js = I) := eI.symm
  clear eI
  have zq := h.held.box.lt
  have KQ : Hid (∀ U, Below X.heap.size X U → U.cell? ⟨q, 6, none⟩ = some (.slice v.ja v.jl v.jc) ∧ IsJobRow U v.ja v.jl v.jc v.js) := fun U hU => ⟨((h.below hU).held.box.c 6 (by decide)).1, hrow.below hU⟩
  clear h hrow
  unfold maxLen at hmx
  go_enter Try.func18, Try.ntmps18
  go_upto_region 1 with (fail)
  go_cut [5] (fun s5 wc => s5 = .int .i64 I ∧ Below X.heap.size X wc)
  case first =>
    go_region_held3 (fun U => U.cell? ⟨q, 6, none⟩ = some (.slice v.ja v.jl v.jc))
      (first | exact (KQ.out _ ((Below.refl _ _).drew)).1 | exact (KQ.out _ hu2).1 | exact (KQ.out _ hu1).1)
      (first
        | (go_at_call 46; refine (numbered_any n _).mono ?_; rintro e u1 ⟨b0, rfl, hc0, ⟨hb0, hb0'⟩, hb1⟩; have hu1 : Below X.heap.size X u1 := (Below.refl X.heap.size X).drew.trans (hb1.mono (Nat.le_refl _)))
        | (go_at_call 45; refine (hI _ _ _ (KQ.out _ hu1).2 (numbered_asks b0 n _ hc0 hb0')).mono ?_; rintro e u2 ⟨rfl, hb2⟩; have hu2 : Below X.heap.size X u2 := hu1.trans (hb2.mono hu1.size)))
    all_goals
      go_wp2_with fail
      go_meet
      case rel => exact ⟨rfl, hu2⟩
  case rest =>
    obtain ⟨rfl, bF⟩ := hcut
    obtain ⟨Y, eY⟩ : ∃ Y, Y = wc := ⟨_, rfl⟩
    rw [← eY] at bF ⊢
    clear eY
    have q6 := (KQ.out _ bF).1
    have zY := Nat.lt_of_lt_of_le zq bF.size
    by_cases hneg : I = -1
    · subst hneg
      clear hAt hI
      go_wp2
      go_ret
      exact ⟨Or.inl ⟨rfl, HI.out⟩, bF⟩
    · obtain ⟨i, rfl⟩ : ∃ i : Nat, I = (i : Int) := ⟨I.toNat, by omega⟩
      have hi : i < v.jl := by omega
      obtain ⟨g, eg, _⟩ := hAt i hi
      clear hAt hI KQ hneg
      obtain ⟨s, a, len, cap, p, l, me, next, ja, jl, jc, ma, ml, mc, ra, rl, rc, pa, pl, pc, sure, com, js, ms, rs, ps⟩ := v
      simp only [] at *
      subst eg
      have hi' : (i : Int) < (jl : Int) := by omega
      have hn0 : ¬ ((i : Int) < 0) := by omega
      go_wp2
      go_ret
      exact ⟨Or.inr ⟨i, g, rfl, HI.out, hi, rfl⟩, bF⟩
end Go.Proofs.Ytfhciplckjkflaa.Co
