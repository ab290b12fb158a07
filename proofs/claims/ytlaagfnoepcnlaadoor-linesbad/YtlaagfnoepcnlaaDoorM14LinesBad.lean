/- Texts of this claim, one behind the other. -/
import Derived.Orders
import Derived.Test.YtlaagfnoepcnlaaDoorM13LinesBad
import Derived.Test.YtlaagfnoepcnlaaDoorA1LinesBad
import Derived.Test.YtlaagfnoepcnlaaDoorM10LinesBad
import Derived.SizedLaws
/- A region that draws its order, by what each operation keeps: a small case for each operation in the place of one for each order. -/
namespace Go.Proofs.YtlaagfnoepcnlaaDoor

/-- A frame with other values in some slots. -/
def fr (a : Act) : List Nat → (Nat → Value) → Act
  | [], _ => a
  | d :: ds, T => fr (a.put (some d) (T d)) ds T
def upd (T : Nat → Value) (d : Nat) (v : Value) : Nat → Value := fun s => cond (Nat.beq s d) v (T s)
def lst (L : Nat → Bool) (k : Nat) : Nat → Bool := fun j => Nat.beq j k || L j
def slot0 (a : Act) : Nat → Value := fun s => (a.tmps[s]?).getD undef

def AllK (f : Nat → Oper → Prop) : Nat → List Oper → Prop
  | _, [] => True
  | k, o :: os => f k o ∧ AllK f (k + 1) os
theorem AllK.get {f : Nat → Oper → Prop} : ∀ {k : Nat} {os : List Oper}, AllK f k os → ∀ i o, os[i]? = some o → f (k + i) o
  | _, [], _, i, o, h => by simp at h
  | k, x :: xs, hh, i, o, h => by
    cases i with
    | zero => simp at h; subst h; exact hh.1
    | succ i =>
      have := AllK.get hh.2 i o (by simpa using h)
      rwa [show k + 1 + i = k + (i + 1) by omega] at this

/-- What has come up has come up behind what it waits for. -/
def Closed (ops : Array Oper) (L : Nat → Bool) : Prop := ∀ j o, ops[j]? = some o → L j = true → ∀ e ∈ o.after.toList, Region.binds .any e = true → L e.on = true
/-- What an operation leaves in its slot, and the world behind it. -/
def Oper.wpv (P : Program) (o : Oper) (a : Act) (w : World) (K : Value → World → Prop) (Q : Exit → Act → World → Prop) : Prop :=
  match (execOp a.eval o).run P w with
  | .ok (.value v) w' => K v w'
  | .ok .skip w' => K undef w'
  | .ok (.enter f args) w' => Calls P f args w' fun
      | .returned v, w'' => K v w''
      | .panicked chain, w'' => Q (.panic chain) a w''
      | .outgrown, _ => LetsOut Q
  | .ok (.row row args) w' => Rows P row args w' fun v w'' => K v w''
  | .halt (.panic v) w' => Q (.panic [{ v, recovered := false }]) a w'
  | _ => False
theorem Oper.wp_of_wpv {P : Program} {o : Oper} {a : Act} {w : World} {K : Value → World → Prop} {N : Act → World → Prop} {Q : Exit → Act → World → Prop} (h : Oper.wpv P o a w K Q) (hk : ∀ v w', K v w' → N (a.put o.dst v) w') : o.wp P a w N Q := by
  unfold Oper.wpv at h
  unfold Oper.wp
  generalize (execOp a.eval o).run P w = r at h
  cases r with
  | ok n w' =>
    cases n with
    | value v => exact hk _ _ h
    | skip => exact hk _ _ h
    | enter f args => exact Calls.mono h (fun e w'' he => by cases e <;> first | exact hk _ _ he | exact he)
    | row r args => exact Rows.mono h (fun _ _ he => hk _ _ he)
    | _ => exact h.elim
  | halt x w' => cases x <;> first | exact h | exact h.elim
def updO (T : Nat → Value) (d : Option Nat) (v : Value) : Nat → Value := match d with
  | some d => upd T d v
  | none => T
theorem put_same (a : Act) (d : Nat) (u v : Value) : (a.put (some d) u).put (some d) v = a.put (some d) v := by
  obtain ⟨tmps, df⟩ := a
  simp [Act.put]
theorem put_ne (a : Act) {d x : Nat} (u v : Value) (h : x ≠ d) : (a.put (some x) u).put (some d) v = (a.put (some d) v).put (some x) u := Act.put_comm a u v (fun y hy hz => h (by cases hy; cases hz; rfl))
theorem fr_put : ∀ (ds : List Nat) (a : Act) (T : Nat → Value) (d : Nat) (v : Value), d ∉ ds → (fr a ds T).put (some d) v = fr (a.put (some d) v) ds T
  | [], _, _, _, _, _ => rfl
  | x :: xs, a, T, d, v, h => by
    simp only [List.mem_cons, not_or] at h
    simp only [fr]
    rw [fr_put xs _ T d v h.2, put_ne a _ _ (Ne.symm h.1)]
theorem upd_ne {T : Nat → Value} {d s : Nat} {v : Value} (h : s ≠ d) : upd T d v s = T s := by
  unfold upd
  cases hb : Nat.beq s d
  · rfl
  · exact absurd (Nat.eq_of_beq_eq_true hb) h
theorem upd_same {T : Nat → Value} {d : Nat} {v : Value} : upd T d v d = v := by simp [upd, Nat.beq_refl]
theorem fr_upd_out : ∀ (ds : List Nat) (a : Act) (T : Nat → Value) (d : Nat) (v : Value), d ∉ ds → fr a ds (upd T d v) = fr a ds T
  | [], _, _, _, _, _ => rfl
  | x :: xs, a, T, d, v, h => by
    simp only [List.mem_cons, not_or] at h
    simp only [fr]
    rw [upd_ne (Ne.symm h.1), fr_upd_out xs _ T d v h.2]
theorem fr_upd : ∀ (ds : List Nat) (a : Act) (T : Nat → Value) (d : Nat) (v : Value), ds.Nodup → d ∈ ds → (fr a ds T).put (some d) v = fr a ds (upd T d v)
  | [], _, _, _, _, _, h => by cases h
  | x :: xs, a, T, d, v, hn, h => by
    obtain ⟨hx, hn'⟩ := List.nodup_cons.1 hn
    simp only [fr]
    by_cases hxd : x = d
    · subst hxd
      rw [fr_put xs _ T x v hx, put_same, upd_same, fr_upd_out xs _ T x v hx]
    · have : d ∈ xs := by rcases List.mem_cons.1 h with h | h; exact absurd h.symm hxd; exact h
      rw [fr_upd xs _ T d v hn' this, upd_ne hxd]
theorem fr_updO {ds : List Nat} {a : Act} {T : Nat → Value} {d : Option Nat} {v : Value} (hn : ds.Nodup) (h : ∀ x, d = some x → x ∈ ds) : (fr a ds T).put d v = fr a ds (updO T d v) := by
  cases d with
  | none => rfl
  | some x => exact fr_upd ds a T x v hn (h x rfl)
/-- What is asked of an operation: from wherever the invariant stands it goes on, and the invariant stands again. -/
def StepK (P : Program) (ops : Array Oper) (Q : Exit → Act → World → Prop) (a : Act) (ds : List Nat) (I : (Nat → Bool) → (Nat → Value) → World → Prop) (k : Nat) (o : Oper) : Prop :=
  ∀ (L : Nat → Bool) (T : Nat → Value) (w : World), (∀ e ∈ o.after.toList, Region.binds .any e = true → L e.on = true) → L k = false → Closed ops L → I L T w →
    ∀ K : Value → World → Prop, (∀ v w', I (lst L k) (updO T o.dst v) w' → K v w') →
      if Region.wanted o (yielded ops (fr a ds T).tmps) = true then Oper.wpv P o (fr a ds T) w K Q else K undef w

/-- The slots that operations write. -/
def dstsIn (ops : Array Oper) (ds : List Nat) : Bool := ops.toList.all fun o => match o.dst with
  | some d => ds.contains d
  | none => true
/-- Edges lead back. -/
def back (ops : Array Oper) : Bool := (List.range ops.size).all fun i => match ops[i]? with
  | some o => o.after.toList.all fun e => !Region.binds .any e || decide (e.on < i)
  | none => true

section
variable {P : Program} {ops : Array Oper} {Q : Exit → Act → World → Prop} {a : Act} {ds : List Nat} {I : (Nat → Bool) → (Nat → Value) → World → Prop}

theorem ready_ne {listed : Array Bool} (hb : back ops = true) (hz : listed.size = ops.size) (i : Nat) (hi : i < ops.size) (hl : listed.getD i true = false) : Region.ready .any ops listed ≠ [] := by
  induction i using Nat.strongRecOn with
  | _ i ih =>
    by_cases hall : ∀ j, j < i → listed.getD j true = true
    · intro h
      have : i ∈ Region.ready .any ops listed := by
        rw [mem_ready]
        refine ⟨hl, ops[i], by simp [hi], fun e he hbn => ?_⟩
        have h1 := List.all_eq_true.1 hb i (by simpa using hi)
        simp only [Array.getElem?_eq_getElem hi] at h1
        have h2 := List.all_eq_true.1 h1 e (by simpa using he)
        have h3 : e.on < i := by simpa [hbn] using h2
        have h4 := hall e.on h3
        have h5 : e.on < listed.size := by omega
        simpa [h5] using h4
      rw [h] at this
      cases this
    · have : ∃ j, j < i ∧ listed.getD j true = false := by
        apply Classical.byContradiction
        intro hn
        apply hall
        intro j hj
        cases hc : listed.getD j true
        · exact absurd ⟨j, hj, hc⟩ hn
        · rfl
      obtain ⟨j, hj, hc⟩ := this
      exact ih j hj (by omega) hc

theorem wpAny_of_inv (hn : ds.Nodup) (hd : dstsIn ops ds = true) (hb : back ops = true) (hs : AllK (StepK P ops Q a ds I) 0 ops.toList)
    (he : ∀ L T w, (∀ i, i < ops.size → L i = true) → I L T w → Q .normal (fr a ds T) w) :
    ∀ (fuel : Nat) (listed : Array Bool) (T : Nat → Value) (w : World), listed.size = ops.size → listed.count false ≤ fuel → Closed ops (fun j => listed.getD j false) → I (fun j => listed.getD j false) T w → wpAny P .any ops Q fuel listed (fr a ds T) w := by
  have done : ∀ (listed : Array Bool) (T : Nat → Value) (w : World), listed.size = ops.size → Region.ready .any ops listed = [] → I (fun j => listed.getD j false) T w → Q .normal (fr a ds T) w := by
    intro listed T w hz hr hI
    refine he _ T w (fun i hi => ?_) hI
    cases hc : listed.getD i true with
    | false => exact absurd hr (ready_ne hb hz i hi hc)
    | true =>
      have h5 : i < listed.size := by omega
      simpa [h5] using hc
  intro fuel
  induction fuel with
  | zero =>
    intro listed T w hz hc hcl hI
    have hr : Region.ready .any ops listed = [] := by
      cases h : Region.ready .any ops listed with
      | nil => rfl
      | cons i is =>
        have hm : i ∈ Region.ready .any ops listed := by rw [h]; exact List.mem_cons_self ..
        obtain ⟨h0, o, ho, _⟩ := mem_ready.1 hm
        have hlt : i < ops.size := (Array.getElem?_eq_some_iff.1 ho).1
        have h5 : i < listed.size := by omega
        have : listed[i] = false := by simpa [h5] using h0
        have hin : false ∈ listed := by rw [← this]; exact Array.getElem_mem h5
        have := Array.count_pos_iff.2 hin
        omega
    exact ⟨hr, done listed T w hz hr hI⟩
  | succ fuel ih =>
    intro listed T w hz hc hcl hI
    refine ⟨fun hr => done listed T w hz hr hI, fun i hi => ?_⟩
    obtain ⟨h0, o, ho, hdep⟩ := mem_ready.1 hi
    have hlt : i < ops.size := (Array.getElem?_eq_some_iff.1 ho).1
    have h5 : i < listed.size := by omega
    have hli : listed[i] = false := by simpa [h5] using h0
    have hstep := AllK.get hs i o (by simpa using ho)
    rw [Nat.zero_add] at hstep
    unfold wpOp
    simp only [ho]
    have hK : ∀ T' w', I (lst (fun j => listed.getD j false) i) T' w' → wpAny P .any ops Q fuel (listed.setIfInBounds i true) (fr a ds T') w' := by
      intro T' w' hI'
      refine ih (listed.setIfInBounds i true) T' w' (by simpa using hz) ?_ ?_ ?_
      · have : listed.setIfInBounds i true = listed.set i true h5 := by simp [Array.setIfInBounds, h5]
        rw [this, Array.count_set h5, hli]
        simp
        omega
      · intro j o' ho' hj e he' hbn
        by_cases hji : j = i
        · subst hji
          obtain rfl : o' = o := Option.some.inj (ho'.symm.trans ho)
          exact getD_set_true (hdep e (by simpa using he') hbn)
        · refine getD_set_true (hcl j o' ho' ?_ e he' hbn)
          simpa only [getD_set_ne false (Ne.symm hji)] using hj
      · have : (fun j => (listed.setIfInBounds i true).getD j false) = lst (fun j => listed.getD j false) i := by
          funext j
          unfold lst
          by_cases hji : j = i
          · subst hji
            simp [h5, Nat.beq_refl]
          · have : Nat.beq j i = false := by
              cases hbq : Nat.beq j i
              · rfl
              · exact absurd (Nat.eq_of_beq_eq_true hbq) hji
            rw [this, Bool.false_or, getD_set_ne false (Ne.symm hji)]
        rw [this]
        exact hI'
    have hdst : ∀ x, o.dst = some x → x ∈ ds := by
      intro x hx
      have h1 := List.all_eq_true.1 hd o (by simpa using Array.mem_of_getElem? ho)
      simp only [hx] at h1
      simpa using h1
    have h1 := hstep _ T w (fun e he hbn => hdep e (by simpa using he) hbn) (by simp [h5, hli]) hcl hI (fun v w' => wpAny P .any ops Q fuel (listed.setIfInBounds i true) (fr a ds (updO T o.dst v)) w') (fun v w' hI' => hK _ w' hI')
    by_cases hw : Region.wanted o (yielded ops (fr a ds T).tmps) = true
    · rw [if_pos hw] at h1 ⊢
      exact .inl (Oper.wp_of_wpv h1 fun v w' h2 => by rw [fr_updO hn hdst]; exact h2)
    · rw [if_neg hw] at h1 ⊢
      rw [fr_updO hn hdst]
      exact h1

theorem fr_slot0 : ∀ (ds : List Nat) (a : Act), fr a ds (slot0 a) = a := by
  have put0 : ∀ (a : Act) (d : Nat), a.put (some d) (slot0 a d) = a := by
    intro a d
    obtain ⟨tmps, df⟩ := a
    simp only [Act.put, slot0]
    by_cases h : d < tmps.size
    · simp [Array.setIfInBounds, h]
    · simp [Array.setIfInBounds, h]
  intro ds
  induction ds with
  | nil => intro a; rfl
  | cons d ds ih => intro a; simp only [fr]; rw [put0]; exact ih a

/-- A drawn region by an invariant. -/
theorem wp_region_inv {id : Nat} {w : World} (hm : P.follows .mixedOrders = true) (ds : List Nat) (I : (Nat → Bool) → (Nat → Value) → World → Prop)
    (hn : ds.Nodup) (hd : dstsIn ops ds = true) (hb : back ops = true) (h0 : I (fun _ => false) (slot0 a) { w with drawn := w.drawn + 1 })
    (hs : AllK (StepK P ops Q a ds I) 0 ops.toList)
    (he : ∀ L T w, (∀ i, i < ops.size → L i = true) → I L T w → Q .normal (fr a ds T) w) : (Code.region id ops true).wp P Q a w := by
  refine wp_region_any hm ?_
  have := wpAny_of_inv hn hd hb hs he ops.size (Array.replicate ops.size false) (slot0 a) { w with drawn := w.drawn + 1 } (by simp) (by simp) (by
    intro j o _ hj
    by_cases hjs : j < ops.size <;> simp [hjs] at hj) (by
    have : (fun j => (Array.replicate ops.size false).getD j false) = fun _ => false := by
      funext j
      by_cases hj : j < ops.size <;> simp [hj]
    rw [this]
    exact h0)
  rwa [fr_slot0] at this
end
end Go.Proofs.YtlaagfnoepcnlaaDoor
/- The contract of lines.checkCall. -/
namespace Go.Proofs.YtlaagfnoepcnlaaDoor.Ln
open Go.ChangeShapes Go.WideShapes Go.ChangeAt Go.RowKit
open Go.Proofs.YtlaagfnoepcnlaaDoor.St (BoxN boxn_new)
set_option linter.unusedVariables false

/-- A table of rows of n flags, as the program lays it. -/
def Tab (w : World) (g n : Nat) (t : List (List Bool)) : Prop := ∀ i j, i < t.length → j < n → w.cell? ⟨g, i * n + j, none⟩ = some (.bool ((t.getD i []).getD j false))
theorem Tab.below {w w' : World} {B g n : Nat} {t : List (List Bool)} (h : Tab w g n t) (hb : Below B w w') (hB : g < B) : Tab w' g n t := by
  intro i j hi hj
  rw [hb.cell (p := ⟨g, i * n + j, none⟩) hB]
  exact h i j hi hj
def CTops (w : World) : Prop := Nms w 3 cTops
theorem Tab.lt {w : World} {g n : Nat} {t : List (List Bool)} (h : Tab w g n t) (ht : 0 < t.length) (hn : 0 < n) : g < w.heap.size := World.block_lt_of_cell? w _ (h 0 0 ht hn)
theorem cHas_four (k : Nat) (hk : k < 6) : cHas.getD k [] = [(cHas.getD k []).getD 0 false, (cHas.getD k []).getD 1 false, (cHas.getD k []).getD 2 false, (cHas.getD k []).getD 3 false] := by
  rcases (by omega : k = 0 ∨ k = 1 ∨ k = 2 ∨ k = 3 ∨ k = 4 ∨ k = 5) with rfl | rfl | rfl | rfl | rfl | rfl <;> rfl

theorem nD {w u : World} {B : Nat} (h : Below B w u) : Below B w u.drew := h.drew
theorem nA {w u : World} (h : Below w.heap.size w u) (o : Obj) : Below w.heap.size w (u.alloc o) := h.alloc h.size o
theorem nT {w u v : World} (h : Below w.heap.size w u) (h2 : Below u.heap.size u v) : Below w.heap.size w v := h.trans (h2.mono h.size)
theorem nS {w u : World} {B : Nat} {b i : Nat} (h : Below B w u) (hb : B ≤ b) (v : Value) : Below B w (u.setCell ⟨b, i, none⟩ v) := h.setCell hb v
theorem Bools.of {w : World} {b : Nat} {hs : List Bool} {n : Nat} (h : BoxN w b n (hs.map Value.bool)) : Bools w b hs := by
  have hl := h.len
  simp at hl
  refine ⟨h.lt, fun i hi => ?_⟩
  rw [(h.c i (by omega)).1]
  simp [List.getD, hi]
theorem Nms.of {w : World} {b : Nat} {ps : List Int} {n : Nat} (h : BoxN w b n (ps.map (Value.int .i64))) : Nms w b ps := by
  have hl := h.len
  simp at hl
  refine ⟨h.lt, fun i hi => ?_⟩
  rw [(h.c i (by omega)).1]
  simp [List.getD, hi]

theorem idx4_0 (v0 v1 v2 v3 : Int) (w : World) : (Instr.index 113 (.agg #[.int .i64 v0, .int .i64 v1, .int .i64 v2, .int .i64 v3]) (.int .i64 0)).run Tryd.prog w = .ok (.int .i64 v0) w := by kernel_rfl
theorem idx4_1 (v0 v1 v2 v3 : Int) (w : World) : (Instr.index 113 (.agg #[.int .i64 v0, .int .i64 v1, .int .i64 v2, .int .i64 v3]) (.int .i64 1)).run Tryd.prog w = .ok (.int .i64 v1) w := by kernel_rfl
theorem idx4_2 (v0 v1 v2 v3 : Int) (w : World) : (Instr.index 113 (.agg #[.int .i64 v0, .int .i64 v1, .int .i64 v2, .int .i64 v3]) (.int .i64 2)).run Tryd.prog w = .ok (.int .i64 v2) w := by kernel_rfl
theorem idx4_3 (v0 v1 v2 v3 : Int) (w : World) : (Instr.index 113 (.agg #[.int .i64 v0, .int .i64 v1, .int .i64 v2, .int .i64 v3]) (.int .i64 3)).run Tryd.prog w = .ok (.int .i64 v3) w := by kernel_rfl

set_option maxRecDepth 100000 in
set_option maxHeartbeats 4000000 in
theorem checkCall_any (c0 c1 c2 c3 c4 : Int) (w : World) (hh : Tab w 2 4 cHas) (ht : CTops w) :
    Calls Tryd.prog 42 #[.agg #[.int .i64 c0, .int .i64 c1, .int .i64 c2, .int .i64 c3, .int .i64 c4]] w fun e w' => e = .returned (.int .i64 (callFault c0 c1 c2 c3 c4)) ∧ Below w.heap.size w w' := by
  have zh := hh.lt (by decide) (by decide)
  obtain ⟨F, eF⟩ : ∃ F, F = callFault c0 c1 c2 c3 c4 := ⟨_, rfl⟩
  have HF : Hid (F = callFault c0 c1 c2 c3 c4) := eF
  rw [← eF]
  clear eF
  obtain ⟨W, hW⟩ : ∃ W : World, W = w.alloc (.cells #[.int .i64 c0, .int .i64 c1, .int .i64 c2, .int .i64 c3, .int .i64 c4] 39) := ⟨_, rfl⟩
  have hB : Below w.heap.size w W := by rw [hW]; exact (Below.refl _ _).alloc (Nat.le_refl _) _
  have zW : w.heap.size < W.heap.size := by rw [hW]; simp
  have d0 : W.cell? ⟨w.heap.size, 0, none⟩ = some (.int .i64 c0) := by rw [hW]; go_simp
  have d1 : W.cell? ⟨w.heap.size, 1, none⟩ = some (.int .i64 c1) := by rw [hW]; go_simp
  have d2 : W.cell? ⟨w.heap.size, 2, none⟩ = some (.int .i64 c2) := by rw [hW]; go_simp
  have d3 : W.cell? ⟨w.heap.size, 3, none⟩ = some (.int .i64 c3) := by rw [hW]; go_simp
  have d4 : W.cell? ⟨w.heap.size, 4, none⟩ = some (.int .i64 c4) := by rw [hW]; go_simp
  go_enter Tryd.func42, Tryd.ntmps42
  go_upto_region 1 with (fail)
  rw [← hW]
  clear hW
  cases hK : inR c0 1 5 with
  | false =>
    have hf : Hid (F = 3) := by show _ = _; rw [HF.out, callFault, if_pos hK]
    go_wp2_with (go_at_call 36; refine (within_any _ _ _ _).mono ?_; rintro e u1 ⟨rfl, hu1⟩; rw [hu1]; clear hu1)
    go_ret
    exact ⟨ret_int hf.out.symm, hB⟩
  | true =>
    have kb := inR_of hK
    obtain ⟨k, rfl⟩ : ∃ k : Nat, c0 = k := ⟨c0.toNat, by omega⟩
    have k6 : k < 6 := by omega
    have k6' : (k : Int) < 6 := by omega
    have HF1 : Hid (F = if inTops cTops [c1, c2, c3, c4] = false then 2 else if only (cHas.getD k []) [c1, c2, c3, c4] = false then 4 else 0) := by
      show _ = _
      rw [HF.out, callFault, if_neg (by rw [hK]; simp), Int.toNat_natCast]
    clear HF
    go_upto_region 3 with (go_at_call 36; refine (within_any _ _ _ _).mono ?_; rintro e u1 ⟨rfl, hu1⟩; rw [hu1]; clear hu1)
    have EH := cHas_four k k6
    have f0 := (hh.below hB zh) k 0 k6 (by decide)
    have f1 := (hh.below hB zh) k 1 k6 (by decide)
    have f2 := (hh.below hB zh) k 2 k6 (by decide)
    have f3 := (hh.below hB zh) k 3 k6 (by decide)
    obtain ⟨h0, eh0⟩ : ∃ x, x = (cHas.getD k []).getD 0 false := ⟨_, rfl⟩
    obtain ⟨h1, eh1⟩ : ∃ x, x = (cHas.getD k []).getD 1 false := ⟨_, rfl⟩
    obtain ⟨h2, eh2⟩ : ∃ x, x = (cHas.getD k []).getD 2 false := ⟨_, rfl⟩
    obtain ⟨h3, eh3⟩ : ∃ x, x = (cHas.getD k []).getD 3 false := ⟨_, rfl⟩
    rw [← eh0, ← eh1, ← eh2, ← eh3] at EH
    rw [← eh0] at f0
    rw [← eh1] at f1
    rw [← eh2] at f2
    rw [← eh3] at f3
    clear eh0 eh1 eh2 eh3
    simp only [Nat.add_zero] at f0
    rw [EH] at HF1
    clear EH
    have zhW : 2 < W.heap.size := by omega

    have KC : Hid (∀ U : World, Below W.heap.size W U → (U.cell? ⟨w.heap.size, 0, none⟩ = some (.int .i64 (k : Int)) ∧ U.cell? ⟨w.heap.size, 1, none⟩ = some (.int .i64 c1) ∧ U.cell? ⟨w.heap.size, 2, none⟩ = some (.int .i64 c2) ∧ U.cell? ⟨w.heap.size, 3, none⟩ = some (.int .i64 c3) ∧ U.cell? ⟨w.heap.size, 4, none⟩ = some (.int .i64 c4)) ∧ U.cell? ⟨2, k * 4, none⟩ = some (.bool h0) ∧ U.cell? ⟨2, k * 4 + 1, none⟩ = some (.bool h1) ∧ U.cell? ⟨2, k * 4 + 2, none⟩ = some (.bool h2) ∧ U.cell? ⟨2, k * 4 + 3, none⟩ = some (.bool h3)) := fun U hU => ⟨⟨(hU.cell (p := ⟨w.heap.size, 0, none⟩) zW).trans d0, (hU.cell (p := ⟨w.heap.size, 1, none⟩) zW).trans d1, (hU.cell (p := ⟨w.heap.size, 2, none⟩) zW).trans d2, (hU.cell (p := ⟨w.heap.size, 3, none⟩) zW).trans d3, (hU.cell (p := ⟨w.heap.size, 4, none⟩) zW).trans d4⟩, (hU.cell (p := ⟨2, k * 4, none⟩) zhW).trans f0, (hU.cell (p := ⟨2, k * 4 + 1, none⟩) zhW).trans f1, (hU.cell (p := ⟨2, k * 4 + 2, none⟩) zhW).trans f2, (hU.cell (p := ⟨2, k * 4 + 3, none⟩) zhW).trans f3⟩
    clear d0 d1 d2 d3 d4 f0 f1 f2 f3
    go_cut [3, 4] (fun s3 s4 wc => ∃ b3 b4 : Nat, s3 = .pointer (some ⟨b3, 0, none⟩) ∧ s4 = .pointer (some ⟨b4, 0, none⟩) ∧ Bools wc b3 [h0, h1, h2, h3] ∧ Nms wc b4 [c1, c2, c3, c4] ∧ Below W.heap.size W wc)
    case first =>
      refine wp_region_inv (by kernel_rfl) [11, 12, 13, 14, 15, 16, 3, 4] (fun L T u => ∃ (b3 : Nat) (b4 : Nat), Below W.heap.size W u ∧ (L 0 = true → T 11 = .pointer (some ⟨w.heap.size, 0, none⟩)) ∧ (L 1 = true → T 12 = .int .i64 (k : Int)) ∧ (L 2 = true → T 13 = .pointer (some ⟨2, k * 4, none⟩)) ∧ (L 3 = true → T 14 = .agg #[.bool h0, .bool h1, .bool h2, .bool h3]) ∧ (L 4 = true → T 15 = .agg #[.int .i64 (k : Int), .int .i64 c1, .int .i64 c2, .int .i64 c3, .int .i64 c4]) ∧ (L 5 = true → T 16 = .agg #[.int .i64 c1, .int .i64 c2, .int .i64 c3, .int .i64 c4]) ∧ (L 6 = true → (T 3 = .pointer (some ⟨b3, 0, none⟩) ∧ W.heap.size ≤ b3 ∧ b3 < u.heap.size)) ∧ (L 7 = true → (T 4 = .pointer (some ⟨b4, 0, none⟩) ∧ W.heap.size ≤ b4 ∧ b4 < u.heap.size)) ∧ (L 6 = true → L 7 = true → b3 ≠ b4) ∧ (L 6 = true → L 8 = false → BoxN u b3 4 [.bool false, .bool false, .bool false, .bool false]) ∧ (L 7 = true → L 9 = false → BoxN u b4 4 [.int .i64 0, .int .i64 0, .int .i64 0, .int .i64 0]) ∧ (L 8 = true → BoxN u b3 4 [.bool h0, .bool h1, .bool h2, .bool h3]) ∧ (L 9 = true → BoxN u b4 4 [.int .i64 c1, .int .i64 c2, .int .i64 c3, .int .i64 c4])) (by decide) (by kernel_rfl) (by kernel_rfl) ?_ ?_ ?_
      · exact ⟨0, 0, (Below.refl _ _).drew, nofun, nofun, nofun, nofun, nofun, nofun, nofun, nofun, nofun, nofun, nofun, nofun, nofun⟩
      · refine ⟨?_, ?_, ?_, ?_, ?_, ?_, ?_, ?_, ?_, ?_, trivial⟩
        · rintro L T u hd hk hcl ⟨b3, b4, hb, p0, p1, p2, p3, p4, p5, p6, p7, ap, z3, z4, q3, q4⟩ K hK
          simp only [fr, Act.put, List.setIfInBounds_toArray, List.set_cons_zero, List.set_cons_succ, updO] at hK ⊢
          simp [Region.binds] at hd
          rw [if_pos (by rfl)]
          simp only [Oper.wpv]
          go_simp
          exact hK _ _ ⟨b3, b4, hb, fun _ => rfl, p1, p2, p3, p4, p5, p6, p7, ap, z3, z4, q3, q4⟩
        · rintro L T u hd hk hcl ⟨b3, b4, hb, p0, p1, p2, p3, p4, p5, p6, p7, ap, z3, z4, q3, q4⟩ K hK
          simp only [fr, Act.put, List.setIfInBounds_toArray, List.set_cons_zero, List.set_cons_succ, updO] at hK ⊢
          simp [Region.binds] at hd
          have e0 := p0 (by simp [hd])
          obtain ⟨⟨d0, d1, d2, d3, d4⟩, f0, f1, f2, f3⟩ := KC.out u hb
          rw [if_pos (by rfl)]
          simp only [Oper.wpv]
          go_simp
          exact hK _ _ ⟨b3, b4, hb, p0, fun _ => rfl, p2, p3, p4, p5, p6, p7, ap, z3, z4, q3, q4⟩
        · rintro L T u hd hk hcl ⟨b3, b4, hb, p0, p1, p2, p3, p4, p5, p6, p7, ap, z3, z4, q3, q4⟩ K hK
          simp only [fr, Act.put, List.setIfInBounds_toArray, List.set_cons_zero, List.set_cons_succ, updO] at hK ⊢
          simp [Region.binds] at hd
          have e0 := p1 (by simp [hd])
          have k0 : (0 : Int) ≤ (k : Int) := by omega
          rw [if_pos (by rfl)]
          simp only [Oper.wpv]
          go_simp
          exact hK _ _ ⟨b3, b4, hb, p0, p1, fun _ => rfl, p3, p4, p5, p6, p7, ap, z3, z4, q3, q4⟩
        · rintro L T u hd hk hcl ⟨b3, b4, hb, p0, p1, p2, p3, p4, p5, p6, p7, ap, z3, z4, q3, q4⟩ K hK
          simp only [fr, Act.put, List.setIfInBounds_toArray, List.set_cons_zero, List.set_cons_succ, updO] at hK ⊢
          simp [Region.binds] at hd
          have e0 := p2 (by simp [hd])
          obtain ⟨⟨d0, d1, d2, d3, d4⟩, f0, f1, f2, f3⟩ := KC.out u hb
          rw [if_pos (by rfl)]
          simp only [Oper.wpv]
          go_simp
          exact hK _ _ ⟨b3, b4, hb, p0, p1, p2, fun _ => rfl, p4, p5, p6, p7, ap, z3, z4, q3, q4⟩
        · rintro L T u hd hk hcl ⟨b3, b4, hb, p0, p1, p2, p3, p4, p5, p6, p7, ap, z3, z4, q3, q4⟩ K hK
          simp only [fr, Act.put, List.setIfInBounds_toArray, List.set_cons_zero, List.set_cons_succ, updO] at hK ⊢
          simp [Region.binds] at hd
          obtain ⟨⟨d0, d1, d2, d3, d4⟩, f0, f1, f2, f3⟩ := KC.out u hb
          rw [if_pos (by rfl)]
          simp only [Oper.wpv]
          go_simp
          exact hK _ _ ⟨b3, b4, hb, p0, p1, p2, p3, fun _ => rfl, p5, p6, p7, ap, z3, z4, q3, q4⟩
        · rintro L T u hd hk hcl ⟨b3, b4, hb, p0, p1, p2, p3, p4, p5, p6, p7, ap, z3, z4, q3, q4⟩ K hK
          simp only [fr, Act.put, List.setIfInBounds_toArray, List.set_cons_zero, List.set_cons_succ, updO] at hK ⊢
          simp [Region.binds] at hd
          have e0 := p4 (by simp [hd])
          rw [if_pos (by rfl)]
          simp only [Oper.wpv]
          go_simp
          refine (callParts_any _ _ _ _ _ _).mono ?_
          rintro e u1 ⟨rfl, hg⟩
          exact hK _ _ ⟨b3, b4, (nT hb hg), p0, p1, p2, p3, p4, fun _ => rfl, fun h0 => ⟨(p6 h0).1, (p6 h0).2.1, Nat.lt_of_lt_of_le (p6 h0).2.2 hg.size⟩, fun h0 => ⟨(p7 h0).1, (p7 h0).2.1, Nat.lt_of_lt_of_le (p7 h0).2.2 hg.size⟩, ap, fun h0 h1 => (z3 h0 h1).below hg (z3 h0 h1).lt, fun h0 h1 => (z4 h0 h1).below hg (z4 h0 h1).lt, fun h0 => (q3 h0).below hg (q3 h0).lt, fun h0 => (q4 h0).below hg (q4 h0).lt⟩
        · rintro L T u hd hk hcl ⟨b3, b4, hb, p0, p1, p2, p3, p4, p5, p6, p7, ap, z3, z4, q3, q4⟩ K hK
          simp only [fr, Act.put, List.setIfInBounds_toArray, List.set_cons_zero, List.set_cons_succ, updO] at hK ⊢
          simp [Region.binds] at hd
          have hg : Below u.heap.size u (u.alloc (.cells #[.bool false, .bool false, .bool false, .bool false] 111)) := (Below.refl _ _).alloc (Nat.le_refl _) _
          have c8 := hcl 8 _ rfl
          simp [Region.binds] at c8
          rw [if_pos (by rfl)]
          simp only [Oper.wpv]
          go_simp
          exact hK _ _ ⟨u.heap.size, b4, (nT hb hg), p0, p1, p2, p3, p4, p5, fun _ => ⟨rfl, hb.size, by simp⟩, fun h0 => ⟨(p7 h0).1, (p7 h0).2.1, Nat.lt_of_lt_of_le (p7 h0).2.2 hg.size⟩, fun _ h1 => (Nat.ne_of_lt (p7 h1).2.2).symm, fun _ _ => boxn_new u #[.bool false, .bool false, .bool false, .bool false] 111 4 rfl, fun h0 h1 => (z4 h0 h1).below hg (z4 h0 h1).lt, fun h => by have := c8 h; simp [hk] at this, fun h0 => (q4 h0).below hg (q4 h0).lt⟩
        · rintro L T u hd hk hcl ⟨b3, b4, hb, p0, p1, p2, p3, p4, p5, p6, p7, ap, z3, z4, q3, q4⟩ K hK
          simp only [fr, Act.put, List.setIfInBounds_toArray, List.set_cons_zero, List.set_cons_succ, updO] at hK ⊢
          simp [Region.binds] at hd
          have hg : Below u.heap.size u (u.alloc (.cells #[.int .i64 0, .int .i64 0, .int .i64 0, .int .i64 0] 113)) := (Below.refl _ _).alloc (Nat.le_refl _) _
          have c9 := hcl 9 _ rfl
          simp [Region.binds] at c9
          rw [if_pos (by rfl)]
          simp only [Oper.wpv]
          go_simp
          exact hK _ _ ⟨b3, u.heap.size, (nT hb hg), p0, p1, p2, p3, p4, p5, fun h0 => ⟨(p6 h0).1, (p6 h0).2.1, Nat.lt_of_lt_of_le (p6 h0).2.2 hg.size⟩, fun _ => ⟨rfl, hb.size, by simp⟩, fun h0 _ => Nat.ne_of_lt (p6 h0).2.2, fun h0 h1 => (z3 h0 h1).below hg (z3 h0 h1).lt, fun _ _ => boxn_new u #[.int .i64 0, .int .i64 0, .int .i64 0, .int .i64 0] 113 4 rfl, fun h0 => (q3 h0).below hg (q3 h0).lt, fun h => by have := c9 h; simp [hk] at this⟩
        · rintro L T u hd hk hcl ⟨b3, b4, hb, p0, p1, p2, p3, p4, p5, p6, p7, ap, z3, z4, q3, q4⟩ K hK
          simp only [fr, Act.put, List.setIfInBounds_toArray, List.set_cons_zero, List.set_cons_succ, updO] at hK ⊢
          simp [Region.binds] at hd
          have e3 := p3 (by simp [hd])
          obtain ⟨e0, l0, l1⟩ := p6 (by simp [hd])
          have bx := z3 (by simp [hd]) hk
          have x0 : _ = some _ := (bx.c 0 (by decide)).1
          have y0 := (bx.c 0 (by decide)).2
          have x1 : _ = some _ := (bx.c 1 (by decide)).1
          have y1 := (bx.c 1 (by decide)).2
          have x2 : _ = some _ := (bx.c 2 (by decide)).1
          have y2 := (bx.c 2 (by decide)).2
          have x3 : _ = some _ := (bx.c 3 (by decide)).1
          have y3 := (bx.c 3 (by decide)).2
          simp only [List.getD_cons_zero, List.getD_cons_succ] at x0 x1 x2 x3
          have c9 := hcl 9 _ rfl
          simp [Region.binds] at c9
          rw [if_pos (by rfl)]
          simp only [Oper.wpv]
          go_simp
          exact hK _ _ ⟨b3, b4, (nS (nS (nS (nS hb l0 _) l0 _) l0 _) l0 _), p0, p1, p2, p3, p4, p5, fun h0 => ⟨(p6 h0).1, (p6 h0).2.1, by simpa using (p6 h0).2.2⟩, fun h0 => ⟨(p7 h0).1, (p7 h0).2.1, by simpa using (p7 h0).2.2⟩, ap, fun _ h => Bool.noConfusion (show true = false from h), fun h0 h1 => (((((z4 h0 h1).far (Ne.symm (ap (by simp [hd]) h0))).far (Ne.symm (ap (by simp [hd]) h0))).far (Ne.symm (ap (by simp [hd]) h0))).far (Ne.symm (ap (by simp [hd]) h0))), fun _ => ((((bx.set 0 (by decide) (.bool h0)).set 1 (by decide) (.bool h1)).set 2 (by decide) (.bool h2)).set 3 (by decide) (.bool h3)), fun h0 => (((((q4 h0).far (Ne.symm (ap (by simp [hd]) (by simp [c9 h0])))).far (Ne.symm (ap (by simp [hd]) (by simp [c9 h0])))).far (Ne.symm (ap (by simp [hd]) (by simp [c9 h0])))).far (Ne.symm (ap (by simp [hd]) (by simp [c9 h0]))))⟩
        · rintro L T u hd hk hcl ⟨b3, b4, hb, p0, p1, p2, p3, p4, p5, p6, p7, ap, z3, z4, q3, q4⟩ K hK
          simp only [fr, Act.put, List.setIfInBounds_toArray, List.set_cons_zero, List.set_cons_succ, updO] at hK ⊢
          simp [Region.binds] at hd
          have e3 := p5 (by simp [hd])
          obtain ⟨e0, l0, l1⟩ := p7 (by simp [hd])
          have bx := z4 (by simp [hd]) hk
          have x0 : _ = some _ := (bx.c 0 (by decide)).1
          have y0 := (bx.c 0 (by decide)).2
          have x1 : _ = some _ := (bx.c 1 (by decide)).1
          have y1 := (bx.c 1 (by decide)).2
          have x2 : _ = some _ := (bx.c 2 (by decide)).1
          have y2 := (bx.c 2 (by decide)).2
          have x3 : _ = some _ := (bx.c 3 (by decide)).1
          have y3 := (bx.c 3 (by decide)).2
          simp only [List.getD_cons_zero, List.getD_cons_succ] at x0 x1 x2 x3
          have c8 := hcl 8 _ rfl
          simp [Region.binds] at c8
          rw [if_pos (by rfl)]
          simp only [Oper.wpv]
          go_simp
          exact hK _ _ ⟨b3, b4, (nS (nS (nS (nS hb l0 _) l0 _) l0 _) l0 _), p0, p1, p2, p3, p4, p5, fun h0 => ⟨(p6 h0).1, (p6 h0).2.1, by simpa using (p6 h0).2.2⟩, fun h0 => ⟨(p7 h0).1, (p7 h0).2.1, by simpa using (p7 h0).2.2⟩, ap, fun h0 h1 => (((((z3 h0 h1).far (ap h0 (by simp [hd]))).far (ap h0 (by simp [hd]))).far (ap h0 (by simp [hd]))).far (ap h0 (by simp [hd]))), fun _ h => Bool.noConfusion (show true = false from h), fun h0 => (((((q3 h0).far (ap (by simp [c8 h0]) (by simp [hd]))).far (ap (by simp [c8 h0]) (by simp [hd]))).far (ap (by simp [c8 h0]) (by simp [hd]))).far (ap (by simp [c8 h0]) (by simp [hd]))), fun _ => ((((bx.set 0 (by decide) (.int .i64 c1)).set 1 (by decide) (.int .i64 c2)).set 2 (by decide) (.int .i64 c3)).set 3 (by decide) (.int .i64 c4))⟩
      · rintro L T u hl ⟨b3, b4, hb, p0, p1, p2, p3, p4, p5, p6, p7, ap, z3, z4, q3, q4⟩
        simp only [fr, Act.put, List.setIfInBounds_toArray, List.set_cons_zero, List.set_cons_succ]
        obtain ⟨e3, _, _⟩ := p6 (hl 6 (by decide))
        obtain ⟨e4, _, _⟩ := p7 (hl 7 (by decide))
        have bx3 := q3 (hl 8 (by decide))
        have bx4 := q4 (hl 9 (by decide))
        have HE : Hid (T 3 = .pointer (some ⟨b3, 0, none⟩) ∧ T 4 = .pointer (some ⟨b4, 0, none⟩)) := ⟨e3, e4⟩
        clear e3 e4 p0 p1 p2 p3 p4 p5 p6 p7 ap z3 z4 q3 q4
        go_wp2_with fail
        go_meet
        case rel => exact ⟨b3, b4, HE.out.1, HE.out.2, Bools.of (hs := [h0, h1, h2, h3]) bx3, Nms.of (ps := [c1, c2, c3, c4]) bx4, hb⟩
    case rest =>
      obtain ⟨b3, b4, rfl, rfl, hB3, hN4, bX⟩ := hcut
      obtain ⟨X, eX⟩ : ∃ X, X = wc := ⟨_, rfl⟩
      rw [← eX] at hB3 hN4 bX ⊢
      clear eX KC
      have hT : CTops X := ht.below (hB.trans (bX.mono hB.size)) ht.1
      obtain ⟨zt, ct⟩ := hT
      have t0 := ct 0 (by decide)
      have t1 := ct 1 (by decide)
      have t2 := ct 2 (by decide)
      have t3 := ct 3 (by decide)
      simp only [cTops, List.getD_cons_zero, List.getD_cons_succ] at t0 t1 t2 t3
      have HOnly := fun U (hU : Below X.heap.size X U) => onlyHas_any b3 b4 4 [h0, h1, h2, h3] [c1, c2, c3, c4] U rfl rfl (by decide) (hB3.below hU hB3.1) (hN4.below hU hN4.1)
      have HO : Hid (∀ U, Below X.heap.size X U → Calls Tryd.prog 41 #[.slice (some ⟨b3, 0, none⟩) 4 4, .slice (some ⟨b4, 0, none⟩) 4 4] U fun e w' => e = .returned (.bool (only [h0, h1, h2, h3] [c1, c2, c3, c4])) ∧ w' = U) := HOnly
      clear HOnly
      have n0 := hN4.2 0 (by simp)
      have n1 := hN4.2 1 (by simp)
      have n2 := hN4.2 2 (by simp)
      have n3 := hN4.2 3 (by simp)
      simp only [List.getD_cons_zero, List.getD_cons_succ] at n0 n1 n2 n3
      have z3 := hB3.1
      have z4 := hN4.1
      have hBX := hB.trans (bX.mono hB.size)
      obtain ⟨O, eO⟩ : ∃ O, O = only [h0, h1, h2, h3] [c1, c2, c3, c4] := ⟨_, rfl⟩
      rw [← eO] at HF1 HO
      clear eO hh ht hB3 hN4
      clear ct
      go_upto_region 5 with (fail)
      have HT0 : Hid (inTops cTops [c1, c2, c3, c4] = inTops (cTops.drop 0) ([c1, c2, c3, c4].drop 0)) := rfl
      go_loop [5, 6, 18] (fun _ _ s18 => ∃ m : Nat, m ≤ 4 ∧ s18 = .int .i64 (m : Int) ∧ Hid (inTops cTops [c1, c2, c3, c4] = inTops (cTops.drop m) ([c1, c2, c3, c4].drop m))) (fun _ _ s18 => 4 - (intOf s18).toNat)
      case atStart => exact ⟨0, by omega, rfl, HT0.out⟩
      case round =>
        obtain ⟨m, hm, rfl, hat⟩ := hrel
        rcases (by omega : m = 0 ∨ m = 1 ∨ m = 2 ∨ m = 3 ∨ m = 4) with rfl | rfl | rfl | rfl | rfl
        · have hx := idx4_0 1048576 5 8 1073741824
          have hst : Hid (inTops cTops [c1, c2, c3, c4] = (inR c1 0 1048576 && inTops (cTops.drop 1) ([c1, c2, c3, c4].drop 1))) := by show _ = _; rw [hat.out]; exact inTops_at (by decide) (by simp)
          clear hat
          cases hr : inR c1 0 1048576 with
          | false =>
            have hf : Hid (F = 2) := by show _ = _; rw [HF1.out, if_pos (by rw [hst.out, hr]; rfl)]
            clear hst
            go_wp2_with (go_at_call 36; refine (within_any _ _ _ _).mono ?_; rintro e u1 ⟨rfl, hu1⟩; rw [hu1]; clear hu1)
            go_ret
            exact ⟨ret_int hf.out.symm, hBX⟩
          | true =>
            have hn : Hid (inTops cTops [c1, c2, c3, c4] = inTops (cTops.drop 1) ([c1, c2, c3, c4].drop 1)) := by show _ = _; rw [hst.out, hr]; rfl
            clear hst
            go_wp2_with (go_at_call 36; refine (within_any _ _ _ _).mono ?_; rintro e u1 ⟨rfl, hu1⟩; rw [hu1]; clear hu1)
            go_round
            case rel => exact ⟨1, by omega, by go_num, hn.out⟩
            case measure => simp [intOf]
        · have hx := idx4_1 1048576 5 8 1073741824
          have hst : Hid (inTops cTops [c1, c2, c3, c4] = (inR c2 0 5 && inTops (cTops.drop 2) ([c1, c2, c3, c4].drop 2))) := by show _ = _; rw [hat.out]; exact inTops_at (by decide) (by simp)
          clear hat
          cases hr : inR c2 0 5 with
          | false =>
            have hf : Hid (F = 2) := by show _ = _; rw [HF1.out, if_pos (by rw [hst.out, hr]; rfl)]
            clear hst
            go_wp2_with (go_at_call 36; refine (within_any _ _ _ _).mono ?_; rintro e u1 ⟨rfl, hu1⟩; rw [hu1]; clear hu1)
            go_ret
            exact ⟨ret_int hf.out.symm, hBX⟩
          | true =>
            have hn : Hid (inTops cTops [c1, c2, c3, c4] = inTops (cTops.drop 2) ([c1, c2, c3, c4].drop 2)) := by show _ = _; rw [hst.out, hr]; rfl
            clear hst
            go_wp2_with (go_at_call 36; refine (within_any _ _ _ _).mono ?_; rintro e u1 ⟨rfl, hu1⟩; rw [hu1]; clear hu1)
            go_round
            case rel => exact ⟨2, by omega, by go_num, hn.out⟩
            case measure => simp [intOf]
        · have hx := idx4_2 1048576 5 8 1073741824
          have hst : Hid (inTops cTops [c1, c2, c3, c4] = (inR c3 0 8 && inTops (cTops.drop 3) ([c1, c2, c3, c4].drop 3))) := by show _ = _; rw [hat.out]; exact inTops_at (by decide) (by simp)
          clear hat
          cases hr : inR c3 0 8 with
          | false =>
            have hf : Hid (F = 2) := by show _ = _; rw [HF1.out, if_pos (by rw [hst.out, hr]; rfl)]
            clear hst
            go_wp2_with (go_at_call 36; refine (within_any _ _ _ _).mono ?_; rintro e u1 ⟨rfl, hu1⟩; rw [hu1]; clear hu1)
            go_ret
            exact ⟨ret_int hf.out.symm, hBX⟩
          | true =>
            have hn : Hid (inTops cTops [c1, c2, c3, c4] = inTops (cTops.drop 3) ([c1, c2, c3, c4].drop 3)) := by show _ = _; rw [hst.out, hr]; rfl
            clear hst
            go_wp2_with (go_at_call 36; refine (within_any _ _ _ _).mono ?_; rintro e u1 ⟨rfl, hu1⟩; rw [hu1]; clear hu1)
            go_round
            case rel => exact ⟨3, by omega, by go_num, hn.out⟩
            case measure => simp [intOf]
        · have hx := idx4_3 1048576 5 8 1073741824
          have hst : Hid (inTops cTops [c1, c2, c3, c4] = (inR c4 0 1073741824 && inTops (cTops.drop 4) ([c1, c2, c3, c4].drop 4))) := by show _ = _; rw [hat.out]; exact inTops_at (by decide) (by simp)
          clear hat
          cases hr : inR c4 0 1073741824 with
          | false =>
            have hf : Hid (F = 2) := by show _ = _; rw [HF1.out, if_pos (by rw [hst.out, hr]; rfl)]
            clear hst
            go_wp2_with (go_at_call 36; refine (within_any _ _ _ _).mono ?_; rintro e u1 ⟨rfl, hu1⟩; rw [hu1]; clear hu1)
            go_ret
            exact ⟨ret_int hf.out.symm, hBX⟩
          | true =>
            have hn : Hid (inTops cTops [c1, c2, c3, c4] = inTops (cTops.drop 4) ([c1, c2, c3, c4].drop 4)) := by show _ = _; rw [hst.out, hr]; rfl
            clear hst
            go_wp2_with (go_at_call 36; refine (within_any _ _ _ _).mono ?_; rintro e u1 ⟨rfl, hu1⟩; rw [hu1]; clear hu1)
            go_round
            case rel => exact ⟨4, by omega, by go_num, hn.out⟩
            case measure => simp [intOf]
        · have HF2 : Hid (F = if O = false then 4 else 0) := by show _ = _; rw [HF1.out, if_neg (by rw [hat.out]; simp [cTops, inTops])]
          clear hat HF1
          go_upto_region 10 with (fail)
          go_region_with ((go_at_call 41; refine (HO.out _ ((Below.refl _ _).drew)).mono ?_; rintro e u2 ⟨rfl, hu⟩; rw [hu]; clear hu))
          cases O with
          | false =>
            go_wp2
            go_ret
            exact ⟨ret_int HF2.out.symm, hBX.drew⟩
          | true =>
            go_wp2
            go_ret
            exact ⟨ret_int HF2.out.symm, hBX.drew⟩
end Go.Proofs.YtlaagfnoepcnlaaDoor.Ln
/- How a slice of acts comes in as an argument: the acts one behind the other, their Keeps wherever they are; each slice within the reach. -/
namespace Go.Proofs.YtlaagfnoepcnlaaDoor
set_option maxRecDepth 10000
open Go.ChangeShapes Go.WideShapes Go.ChangeAt Go.RowKit Go.Joins Go.Deep

variable {H : Type} {enc : TypeId × Value → H} {W : World} {base : Nat}

theorem cellsI : Tryd.prog.cellsOf 3 = 1 := by kernel_rfl
theorem cellsK : Tryd.prog.cellsOf 34 = 1 := by kernel_rfl
theorem cellsC : Tryd.prog.cellsOf 39 = 5 := by kernel_rfl
theorem cellsS : Tryd.prog.cellsOf 9 = 1 := by kernel_rfl
theorem cellsA : Tryd.prog.cellsOf 41 = 12 := by kernel_rfl
theorem bytesI : Tryd.prog.bytesOf 3 = 8 := by kernel_rfl
theorem bytesA : Tryd.prog.bytesOf 41 = 120 := by kernel_rfl

/-- All weights of a datum are within the reach. -/
def Light (t : TypeId) (d : DataW H) : Prop := ∀ n ∈ d.weights Tryd.prog t, n ≤ reachBytes

theorem mem_weightsAll {P : Program} {e : TypeId} : ∀ {l : List (DataW H)} {d : DataW H} {n : Nat}, d ∈ l → n ∈ d.weights P e → n ∈ DataW.weightsAll P e l
  | a :: r, d, n, hd, hn => by
    simp only [DataW.weightsAll, List.mem_append]
    rcases List.mem_cons.1 hd with rfl | hd
    · exact .inl hn
    · exact .inr (mem_weightsAll hd hn)

theorem trod_ints {n : Nat} {cs : List Value} {x : DataW H × List MemPlace} (h : DataW.trod enc Tryd.prog W 0 (fun _ => true) true n 34 cs = some x) :
    ∃ (a : Option Addr) (len cap : Nat) (zs : List Int), cs = [.slice a len cap] ∧ IsInts W a len cap zs ∧ (Light 34 x.1 → zs.length * 8 ≤ 140737488355328) := by
  rcases open_ints Tryd.underlying34 Tryd.underlying3 cellsI h with ⟨hcs, _⟩ | ⟨x, len, cap, zs, hcs, _, hl, hm, hz, hx, hcell, hwz⟩
  · subst hcs
    exact ⟨none, 0, 0, [], rfl, ⟨rfl, Nat.le_refl _, Nat.zero_le _, fun i => by simp, fun h => absurd h (by omega)⟩, fun _ => by simp⟩
  · subst hcs
    have hz' : zs.length = cap := by simpa using hz
    refine ⟨some x, len, cap, zs.take len, rfl, ⟨by simp; omega, hl, hm, fun i => ?_, fun hp => ?_⟩, fun hL => ?_⟩
    · by_cases hi : i < len
      · have hi' : i < zs.length := by omega
        have := bounds_i64 (hwz zs[i] (List.getElem_mem hi'))
        simpa [List.getD, hi, hi'] using this
      · simp [List.getD, List.getElem?_take, hi]
    · obtain ⟨b, off, spot⟩ := x
      have h0 := hcell 0 (by omega)
      have hspot : spot = none := by simpa [Addr.add] using World.cell?_spot h0
      subst hspot
      have ad : ∀ i, (⟨b, off, none⟩ : Addr).add i = ⟨b, off + i, none⟩ := by
        intro i
        unfold Addr.add
        by_cases h : i = 0 <;> simp [h]
      rw [ad] at h0
      refine ⟨b, off, rfl, World.block_lt_of_cell? W _ h0, fun i hi => ?_⟩
      have := hcell i (by omega)
      rw [ad] at this
      rw [this]
      simp [List.getD, hi]
    · rw [hx] at hL
      have := hL _ (by simp only [DataW.weights, Tryd.underlying34]; exact List.mem_cons_self ..)
      rw [bytesI] at this
      simp only [lits, List.length_map, List.length_take, List.length_drop, reachBytes] at this
      simp
      omega

theorem five_of {α : Type} {l : List α} (h : l.length = 5) : ∃ a b c d e, l = [a, b, c, d, e] := by
  match l, h with
  | [a, b, c, d, e], _ => exact ⟨a, b, c, d, e, rfl⟩
theorem eight_of {α : Type} {l : List α} (h : l.length = 8) : ∃ a b c d e f g i, l = [a, b, c, d, e, f, g, i] := by
  match l, h with
  | [a, b, c, d, e, f, g, i], _ => exact ⟨a, b, c, d, e, f, g, i, rfl⟩
theorem twelve_of {α : Type} {l : List α} (h : l.length = 12) : ∃ a b c d e f g i j k m n, l = [a, b, c, d, e, f, g, i, j, k, m, n] := by
  match l, h with
  | [a, b, c, d, e, f, g, i, j, k, m, n], _ => exact ⟨a, b, c, d, e, f, g, i, j, k, m, n, rfl⟩

theorem trod_call {n : Nat} {cs : List Value} {x : DataW H × List MemPlace} (h : DataW.trod enc Tryd.prog W 0 (fun _ => true) true n 39 cs = some x) :
    ∃ c0 c1 c2 c3 c4 : Int, cs = [.int .i64 c0, .int .i64 c1, .int .i64 c2, .int .i64 c3, .int .i64 c4] := by
  obtain ⟨ys, m, _, _, hlen, hyl, hf⟩ := DataW.trod_struct Tryd.underlying39 h
  rw [cellsC] at hlen
  obtain ⟨v0, v1, v2, v3, v4, rfl⟩ := five_of hlen
  obtain ⟨y0, y1, y2, y3, y4, rfl⟩ := five_of (l := ys) (by simpa using hyl)
  have e0 := hf 0 _ rfl
  have e1 := hf 1 _ rfl
  have e2 := hf 2 _ rfl
  have e3 := hf 3 _ rfl
  have e4 := hf 4 _ rfl
  simp [cellsI] at e0 e1 e2 e3 e4
  obtain ⟨a0, r0, _⟩ := DataW.trod_int Tryd.underlying3 e0
  obtain ⟨a1, r1, _⟩ := DataW.trod_int Tryd.underlying3 e1
  obtain ⟨a2, r2, _⟩ := DataW.trod_int Tryd.underlying3 e2
  obtain ⟨a3, r3, _⟩ := DataW.trod_int Tryd.underlying3 e3
  obtain ⟨a4, r4, _⟩ := DataW.trod_int Tryd.underlying3 e4
  simp at r0 r1 r2 r3 r4
  exact ⟨a0, a1, a2, a3, a4, by rw [r0, r1, r2, r3, r4]⟩

theorem trod_act {n : Nat} {cs : List Value} {x : DataW H × List MemPlace} (h : DataW.trod enc Tryd.prog W 0 (fun _ => true) true n 41 cs = some x) :
    ∃ a : AV, cs = a.cells ∧ IsInts W a.ka a.kl a.kc a.keep ∧ (Light 41 x.1 → a.keep.length * 8 ≤ 140737488355328) := by
  obtain ⟨ys, m, _, hx, hlen, hyl, hf⟩ := DataW.trod_struct Tryd.underlying41 h
  rw [cellsA] at hlen
  obtain ⟨v0, v1, v2, v3, v4, v5, v6, v7, v8, v9, v10, v11, rfl⟩ := twelve_of hlen
  obtain ⟨y0, y1, y2, y3, y4, y5, y6, y7, rfl⟩ := eight_of (l := ys) (by simpa using hyl)
  have e0 := hf 0 _ rfl
  have e1 := hf 1 _ rfl
  have e2 := hf 2 _ rfl
  have e3 := hf 3 _ rfl
  have e4 := hf 4 _ rfl
  have e5 := hf 5 _ rfl
  have e6 := hf 6 _ rfl
  have e7 := hf 7 _ rfl
  simp [cellsI] at e0 e1 e2 e3 e4
  simp [cellsK] at e5
  simp [cellsC] at e6
  simp [cellsS] at e7
  obtain ⟨a0, r0, _⟩ := DataW.trod_int Tryd.underlying3 e0
  obtain ⟨a1, r1, _⟩ := DataW.trod_int Tryd.underlying3 e1
  obtain ⟨a2, r2, _⟩ := DataW.trod_int Tryd.underlying3 e2
  obtain ⟨a3, r3, _⟩ := DataW.trod_int Tryd.underlying3 e3
  obtain ⟨a4, r4, _⟩ := DataW.trod_int Tryd.underlying3 e4
  obtain ⟨ka, kl, kc, keep, r5, hI, hL⟩ := trod_ints e5
  obtain ⟨c0, c1, c2, c3, c4, r6⟩ := trod_call e6
  obtain ⟨line, r7, _⟩ := DataW.trod_string Tryd.underlying9 e7
  simp at r0 r1 r2 r3 r4 r5 r6 r7
  obtain ⟨s0, s1, s2, s3, s4⟩ := r6
  refine ⟨⟨a0, a1, a2, a3, a4, ka, kl, kc, c0, c1, c2, c3, c4, line, keep⟩, by rw [r0, r1, r2, r3, r4, r5, s0, s1, s2, s3, s4, r7]; rfl, hI, fun hA => hL fun k hk => hA k ?_⟩
  rw [hx]
  simp only [DataW.weights, Tryd.underlying41]
  exact DataW.weights_mem_each (j := 5) (t := 34) (d := y5.1) rfl rfl k hk

theorem op_acts {v : Value} {d : DataW H} {p : List MemPlace} (hv : Value.okWide Tryd.prog W .any base 25 v) (h : DataW.Trod enc Tryd.prog W 0 (fun _ => true) true 25 v d p) :
    ∃ (a : Option Addr) (len cap : Nat) (xs : List AV), v = .slice a len cap ∧ IsActs W a len cap xs ∧ (Light 25 d → len * 120 ≤ 140737488355328 ∧ ∀ i, (xs.getD i default).keep.length * 8 ≤ 140737488355328) := by
  obtain ⟨a, len, cap, rfl⟩ := okWide_slice Tryd.underlying25 hv
  obtain ⟨fuel, hf⟩ := h
  rcases open_slice Tryd.underlying25 hf with ⟨hcs, _⟩ | ⟨a, len, cap, m, n, D, Pl, hcs, _, hl, hm, hmm, hxd, hx⟩
  · simp [Value.cells] at hcs
    obtain ⟨rfl, rfl, rfl⟩ := hcs
    exact ⟨none, 0, 0, [], rfl, ⟨rfl, Nat.le_refl _, Nat.zero_le _, fun h => absurd h (by omega)⟩, fun _ => ⟨by omega, fun i => by simp [List.getD, default]⟩⟩
  · simp [Value.cells] at hcs
    obtain ⟨rfl, rfl, rfl⟩ := hcs
    have hmc : m = cap := by simpa using hmm
    subst hmc
    rw [cellsA] at hx
    have hy : ∀ i, i < m → ∃ y : AV, W.cells? 0 (a.add (i * 12)) 12 = some y.cells ∧ IsInts W y.ka y.kl y.kc y.keep ∧ (Light 41 (D i) → y.keep.length * 8 ≤ 140737488355328) := by
      intro i hi
      obtain ⟨cs', h1, h2⟩ := hx i hi
      obtain ⟨y, rfl, h3, h4⟩ := trod_act h2
      exact ⟨y, h1, h3, h4⟩
    obtain ⟨f, hf⟩ := choose_lt hy
    simp only [Prod.mk.injEq] at hxd
    refine ⟨some a, len, m, (List.range len).map f, rfl, ⟨by simp, hl, hm, fun hp => ?_⟩, fun hL => ⟨?_, fun i => ?_⟩⟩
    · obtain ⟨b, off, spot⟩ := a
      have hc0 := (World.cells?_some (hf 0 (by omega)).1).2.2 0 (by decide)
      have h0 : W.cell? (((⟨b, off, spot⟩ : Addr).add (0 * 12)).add 0) = some (.int .i64 (f 0).kind) := by rw [hc0]; rfl
      have hspot : spot = none := by simpa [Addr.add] using World.cell?_spot h0
      subst hspot
      have ad : ∀ i, (⟨b, off, none⟩ : Addr).add i = ⟨b, off + i, none⟩ := by
        intro i
        unfold Addr.add
        by_cases h : i = 0 <;> simp [h]
      have hb0 : W.cell? ⟨b, off, none⟩ = some (.int .i64 (f 0).kind) := by simpa [Addr.add] using h0
      refine ⟨b, off, rfl, World.block_lt_of_cell? W _ hb0, fun i hi => ⟨fun j hj => ?_, ?_⟩⟩
      · have hi' : i < len := by simpa using hi
        have hc := (World.cells?_some (hf i (by omega)).1).2.2 j hj
        rw [ad] at hc
        have ad2 : (⟨b, off + i * 12, none⟩ : Addr).add j = ⟨b, off + i * 12 + j, none⟩ := by
          unfold Addr.add
          by_cases h : j = 0 <;> simp [h]
        rw [ad2] at hc
        rw [hc]
        simp [List.getD, hi']
      · have hi' : i < len := by simpa using hi
        have := (hf i (by omega)).2.1
        simpa [List.getD, hi'] using this
    · rw [hxd.1] at hL
      have := hL _ (by simp only [DataW.weights, Tryd.underlying25]; exact List.mem_cons_self ..)
      rw [bytesA] at this
      simp only [List.length_map, List.length_range, reachBytes] at this
      omega
    · by_cases hi : i < len
      · have h3 := (hf i (by omega)).2.2 (fun k hk => ?_)
        · simpa [List.getD, hi] using h3
        · rw [hxd.1] at hL
          refine hL k ?_
          simp only [DataW.weights, Tryd.underlying25]
          refine List.mem_cons_of_mem _ (List.mem_append_left _ (mem_weightsAll (d := D i) ?_ hk))
          simp
          exact ⟨i, hi, rfl⟩
      · simp [List.getD, hi, default]
end Go.Proofs.YtlaagfnoepcnlaaDoor
