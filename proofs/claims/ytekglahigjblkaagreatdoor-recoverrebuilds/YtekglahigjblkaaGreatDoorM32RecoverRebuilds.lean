/- Texts of this claim, one behind the other. -/
import Derived.Test.YtekglahigjblkaaGreatDoorM23RecoverRebuilds
import Derived.Test.YtekglahigjblkaaGreatDoorM7RecoverRebuilds
import Derived.Test.YtekglahigjblkaaGreatDoorA30RecoverRebuilds
import Derived.OwnWalk
import Derived.Test.YtekglahigjblkaaGreatDoorM24RecoverRebuilds
import Derived.Test.YtekglahigjblkaaGreatDoorM8RecoverRebuilds
import Derived.LoopTactic
import Derived.Deep.QuietTactic
import Derived.BigQuiet
/- An append of a row as an operation of a drawn region that goes by an invariant. -/
namespace Go.Proofs.YtekglahigjblkaaGreatDoor.St
open Go.ChangeShapes Go.WideShapes Go.ChangeAt Go.RowKit
set_option linter.unusedVariables false

theorem wpv_append_row {α : Type} [Inhabited α] {k : Nat} {cells : α → List Value} {te tsl : TypeId} {i : TypeInfo} {z : Value} {bytes : Nat} (E : Elem k cells te tsl i z bytes) {w : World} {o : Oper} {A : Act} {K : Value → World → Prop} {Q : Exit → Act → World → Prop} (s x : Operand)
    (ho : o.op = .call { callee := .builtin .append, args := #[s, x], argTypes := #[tsl, tsl] })
    (B : Nat) (v : Value) (n : Nat) (xs : List α) (hs : A.eval s = v) (hown : w.ownsRow B te k v n (flat cells xs))
    (a : Option Addr) (len cap : Nat) (bs : List α) (hx : A.eval x = .slice a len cap) (hb : IsRow k cells w a len cap bs) (h63 : n + len ≤ maxLen) (hby : (n + len) * bytes ≤ 140737488355328) (hbase : B ≤ w.heap.size)
    (h : ∀ a' cap' w', w'.ownsRow B te k (.slice a' (n + len) cap') (n + len) (flat cells (xs ++ bs)) → w.grownBy w' v.ownBlock → ((Value.slice a' (n + len) cap').ownBlock = v.ownBlock ∨ (Value.slice a' (n + len) cap').ownBlock = some w.heap.size) → K (.slice a' (n + len) cap') w') :
    Oper.wpv Tryz.prog o A w K Q := by
  obtain ⟨a', cap', w', hr, h2, h3, h4⟩ := run_append_row E (w := w) o.type B v n xs hown a len cap bs hb h63 hby hbase
  unfold Oper.wpv execOp
  simp only [ho, resolve, invoke, builtin, Sem.run_bind, Sem.run_pure, Result.andThen_ok, List.map_toArray, List.map_cons, List.map_nil, hs, hx, hr]
  exact h a' cap' w' h2 h3 h4
end Go.Proofs.YtekglahigjblkaaGreatDoor.St
/- What Rebuild and RebuiltOf tell, in memory, in one word: a store, jobs and notes; it lives on beside boxes of the caller's. -/
namespace Go.Proofs.YtekglahigjblkaaGreatDoor.Rb
open Go.ChangeShapes Go.WideShapes Go.ChangeAt Go.RowKit
open Go.Proofs.YtekglahigjblkaaGreatDoor.St Go.Proofs.YtekglahigjblkaaGreatDoor.Co Go.Proofs.YtekglahigjblkaaGreatDoor.Pt
set_option linter.unusedVariables false

/-- A store, jobs and notes. -/
structure Rq where
  s : SV
  a : Option Addr
  c : Nat
  js : List JbV
  na : Option Addr
  nc : Nat
  ns : List NV
def Rq.nil : Rq := ⟨SV.nil, none, 0, [], none, 0, []⟩
instance : Inhabited Rq := ⟨Rq.nil⟩
def Rq.rows (q : Rq) : List Value := [.slice q.s.ia q.s.il q.s.ic, .slice q.s.la q.s.ll q.s.lc, .slice q.s.da q.s.dl q.s.dc, .slice q.s.oa q.s.ol q.s.oc, .slice q.a q.js.length q.c, .slice q.na q.ns.length q.nc] ++ q.js.map fun j => .slice j.aa j.al j.ac
def FarQ (r : Nat) (vs : List Value) : Prop := ∀ v ∈ vs, v.ownBlock ≠ some r
structure RqAt (B : Nat) (u : World) (q : Rq) : Prop where
  st : OwnStore u B q.s
  jb : JobsMem u B q.a q.js.length q.c q.js
  nt : u.ownsRow B 59 4 (.slice q.na q.ns.length q.nc) q.ns.length (flat NV.cells q.ns)
theorem RqAt.below {B : Nat} {u v : World} {q : Rq} (h : RqAt B u q) (hb : Below u.heap.size u v) : RqAt B v q := ⟨h.st.below hb, h.jb.below hb, own_below h.nt hb⟩
theorem RqAt.base {B C : Nat} {u : World} {q : Rq} (h : RqAt B u q) (hC : C ≤ B) : RqAt C u q := ⟨h.st.base hC, JobsMem.base h.jb hC, Co.own_base h.nt hC⟩
theorem RqAt.mem {B : Nat} {u : World} {q : Rq} (h : RqAt B u q) {v : Value} (hv : v ∈ q.rows) {r : Nat} (hr : v.ownBlock = some r) : B ≤ r ∧ r < u.heap.size := by
  unfold Rq.rows at hv
  simp only [List.cons_append, List.nil_append, List.mem_cons, List.mem_map] at hv
  rcases hv with rfl | rfl | rfl | rfl | rfl | rfl | ⟨j, hj, rfl⟩
  · exact h.st.items.lt _ hr
  · exact h.st.locks.lt _ hr
  · exact h.st.doubts.lt _ hr
  · exact h.st.over.lt _ hr
  · exact h.jb.own.lt _ hr
  · exact h.nt.lt _ hr
  · exact (h.jb.ask j hj).1.lt _ hr
theorem RqAt.farNew {B : Nat} {u : World} {q : Rq} (h : RqAt B u q) : FarQ u.heap.size q.rows := fun v hv e => Nat.lt_irrefl _ (h.mem hv e).2
theorem RqAt.farOld {B : Nat} {u : World} {q : Rq} (h : RqAt B u q) {r : Nat} (hr : r < B) : FarQ r q.rows := fun v hv e => by have := (h.mem hv e).1; omega
theorem RqAt.aside {B : Nat} {u : World} {q : Rq} (h : RqAt B u q) {r : Nat} (hr : FarQ r q.rows) (i : Nat) (v : Value) : RqAt B (u.setCell ⟨r, i, none⟩ v) q := by
  have key : ∀ {te : TypeId} {k : Nat} {x : Value} {m : Nat} {xs : List Value}, x ∈ q.rows → u.ownsRow B te k x m xs → (u.setCell ⟨r, i, none⟩ v).ownsRow B te k x m xs := fun hm hx => ownsRow_setCell_other hx (hr _ hm) v
  refine ⟨⟨key (by simp [Rq.rows]) h.st.items, key (by simp [Rq.rows]) h.st.locks, key (by simp [Rq.rows]) h.st.doubts, key (by simp [Rq.rows]) h.st.over, h.st.ap_il, h.st.ap_id, h.st.ap_io, h.st.ap_ld, h.st.ap_lo, h.st.ap_do⟩, ⟨key (by simp [Rq.rows]) h.jb.own, h.jb.len, h.jb.bare, fun j hj => ⟨key ?_ (h.jb.ask j hj).1, (h.jb.ask j hj).2⟩⟩, key (by simp [Rq.rows]) h.nt⟩
  unfold Rq.rows
  exact List.mem_append.2 (Or.inr (List.mem_map.2 ⟨j, hj, rfl⟩))
theorem RqAt.aside2 {B : Nat} {u : World} {q : Rq} (h : RqAt B u q) {r : Nat} (hr : FarQ r q.rows) (a b : Value) : RqAt B ((u.setCell ⟨r, 0, none⟩ a).setCell ⟨r, 1, none⟩ b) q := (h.aside hr 0 a).aside hr 1 b
theorem RqAt.aside4 {B : Nat} {u : World} {q : Rq} (h : RqAt B u q) {r : Nat} (hr : FarQ r q.rows) (a b c d : Value) : RqAt B ((((u.setCell ⟨r, 0, none⟩ a).setCell ⟨r, 1, none⟩ b).setCell ⟨r, 2, none⟩ c).setCell ⟨r, 3, none⟩ d) q := (((h.aside hr 0 a).aside hr 1 b).aside hr 2 c).aside hr 3 d
theorem RqAt.none (B : Nat) (u : World) : RqAt B u Rq.nil := ⟨ownStore_nil _ _, jobsMem_nil _ _, World.ownsRow_nil _ _ _ _⟩
theorem RqAt.isStore {B : Nat} {u : World} {q : Rq} (h : RqAt B u q) : IsStore u q.s := h.st.isStore
theorem RqAt.isJobs {B : Nat} {u : World} {q : Rq} (h : RqAt B u q) : IsJobs u q.a q.js.length q.c q.js := h.jb.is
theorem RqAt.isNotes {B : Nat} {u : World} {q : Rq} (h : RqAt B u q) : IsNotes u q.na q.ns.length q.nc q.ns := (own_isRow ncells_len h.nt rfl).1
/-- What it is as plain data. -/
def rqNext (E me : Int) (P : List RcP) : Int := if E = 0 then (recDesk me P).1 else 0
def RqOK (q : Rq) (E me : Int) (P : List RcP) : Prop := q.s.data = (if E = 0 then recStore P else Rq.nil.s.data) ∧ q.js.map JbV.bare = (if E = 0 then (recDesk me P).2 else []) ∧ q.ns = (if E = 0 then recNotes P else [])
theorem rebIs_q {w w' : World} {e : Ending} {E me : Int} {P : List RcP} (h : RebIs w w' e E me P) : ∃ q : Rq, e = .returned (.tuple #[.agg #[.slice q.s.ia q.s.il q.s.ic, .slice q.s.la q.s.ll q.s.lc, .slice q.s.da q.s.dl q.s.dc, .slice q.s.oa q.s.ol q.s.oc], .agg #[.int .i64 (rqNext E me P), .slice q.a q.js.length q.c], .slice q.na q.ns.length q.nc, .int .i64 E]) ∧ RqAt w.heap.size w' q ∧ RqOK q E me P ∧ Below w.heap.size w w' := by
  rcases h with ⟨h0, rfl, hb⟩ | ⟨h0, u, a, c, js, na, nc, rfl, h2, h3, h4, h5, h6, h7⟩
  · refine ⟨Rq.nil, ?_, RqAt.none _ _, ⟨?_, ?_, ?_⟩, hb⟩
    · rw [show rqNext E me P = 0 from if_neg h0]; rfl
    · rw [if_neg h0]
    · rw [if_neg h0]; rfl
    · rw [if_neg h0]; rfl
  · subst h0
    refine ⟨⟨u, a, c, js, na, nc, recNotes P⟩, ?_, ⟨h2, h4, h6⟩, ⟨?_, ?_, ?_⟩, h7⟩
    · rw [show rqNext 0 me P = (recDesk me P).1 from if_pos rfl]; rfl
    · rw [if_pos rfl]; exact h3
    · rw [if_pos rfl]; exact h5
    · rw [if_pos rfl]
theorem RqOK.same {q r : Rq} {E me : Int} {P : List RcP} (h : RqOK q E me P) (k : RqOK r E me P) : q.s.data = r.s.data ∧ q.js.map JbV.bare = r.js.map JbV.bare ∧ q.ns = r.ns := ⟨h.1.trans k.1.symm, h.2.1.trans k.2.1.symm, h.2.2.trans k.2.2.symm⟩
end Go.Proofs.YtekglahigjblkaaGreatDoor.Rb
/- sameInts, sameTasks (of none) and sameDesk of reredoslaw: at desks without tasks that are the same as plain data they return true. -/
namespace Go.Proofs.YtekglahigjblkaaGreatDoor.Rb
open Go.ChangeShapes Go.WideShapes Go.ChangeAt Go.RowKit
open Go.Proofs.YtekglahigjblkaaGreatDoor.St Go.Proofs.YtekglahigjblkaaGreatDoor.Co
set_option linter.unusedVariables false

set_option maxHeartbeats 1000000 in
theorem sameInts_rb (a b : Option Addr) (n cap cap' : Nat) (zs : List Int) (w : World) (h : IsSites w a n cap zs) (h' : IsSites w b n cap' zs) :
    Calls Tryz.prog 23 #[.slice a n cap, .slice b n cap'] w fun e w' => e = .returned (.bool true) ∧ Below w.heap.size w w' := by
  have hmx : n ≤ maxLen := Nat.le_trans h.2.1 h.2.2.1
  unfold maxLen at hmx
  go_enter Tryz.func23, Tryz.ntmps23
  go_wp2
  go_loopw [5] (fun i wr => ∃ k : Nat, k ≤ n ∧ i = .int .i64 k ∧ Below w.heap.size w wr) (fun i _ => n - (intOf i).toNat)
  case atStart => exact ⟨0, Nat.zero_le _, rfl, Below.refl _ _⟩
  case round =>
    obtain ⟨k, hk, rfl, hb⟩ := hrel
    by_cases hlt : k < n
    · have hlt' : (k : Int) < (n : Int) := by omega
      obtain ⟨b1, o1, rfl, _, c1⟩ := (h.below hb).2.2.2.2 (by omega)
      obtain ⟨b2, o2, rfl, _, c2⟩ := (h'.below hb).2.2.2.2 (by omega)
      have e1 := c1 k hlt 0 (by decide)
      have e2 := c2 k hlt 0 (by decide)
      rw [Nat.mul_one, Nat.add_zero] at e1 e2
      obtain ⟨z, hz⟩ : ∃ z, z = zs.getD k default := ⟨_, rfl⟩
      rw [← hz] at e1 e2
      simp only [inCell, List.getElem?_cons_zero] at e1 e2
      clear hz c1 c2
      go_wp2
      go_quiet (fail)
      go_wp2
      go_roundw
      case rel => exact ⟨k + 1, by omega, by go_num, below_drewN hb nq⟩
      case measure => simp [intOf]; omega
    · go_wp2
      go_ret
      exact ⟨rfl, hb⟩
theorem bare_partsR {j k : JbV} (h : j.bare = k.bare) : j.n = k.n ∧ j.state = k.state ∧ j.asks = k.asks ∧ j.age = k.age ∧ j.tasks = k.tasks ∧ j.asked = k.asked := by
  obtain ⟨n, st, ta, tl, tc, aa, al, ac, asks, age, tasks, asked⟩ := j
  obtain ⟨n', st', ta', tl', tc', aa', al', ac', asks', age', tasks', asked'⟩ := k
  simp [JbV.bare] at h
  exact ⟨h.1, h.2.1, h.2.2.1, h.2.2.2.1, h.2.2.2.2.1, h.2.2.2.2.2⟩
set_option maxHeartbeats 1000000 in
theorem sameTasks_rb (w : World) : Calls Tryz.prog 22 #[.slice none 0 0, .slice none 0 0] w fun e w' => e = .returned (.bool true) ∧ Below w.heap.size w w' := by
  go_enter Tryz.func22, Tryz.ntmps22
  go_wp2
  go_loopw [5] (fun i wr => i = .int .i64 0 ∧ Below w.heap.size w wr) (fun i _ => 0)
  case atStart => exact ⟨rfl, Below.refl _ _⟩
  case round =>
    obtain ⟨rfl, hb⟩ := hrel
    go_wp2
    go_ret
    exact ⟨rfl, hb⟩
set_option maxRecDepth 100000 in
set_option maxHeartbeats 8000000 in
theorem sameDesk_rb (next : Int) (ja : Option Addr) (jl jc : Nat) (js : List JbV) (ka : Option Addr) (kc : Nat) (ks : List JbV) (w : World) (h : IsJobs w ja jl jc js) (h' : IsJobs w ka jl kc ks) (hn1 : ∀ j ∈ js, j.ta = none ∧ j.tl = 0 ∧ j.tc = 0 ∧ j.tasks = []) (hn2 : ∀ j ∈ ks, j.ta = none ∧ j.tl = 0 ∧ j.tc = 0 ∧ j.tasks = []) (he : js.map JbV.bare = ks.map JbV.bare) :
    Calls Tryz.prog 7 #[.agg #[.int .i64 next, .slice ja jl jc], .agg #[.int .i64 next, .slice ka jl kc]] w fun e w' => e = .returned (.bool true) ∧ Below w.heap.size w w' := by
  have m1 : jl ≤ maxLen := Nat.le_trans h.row.2.1 h.row.2.2.1
  unfold maxLen at m1
  have hlj : js.length = jl := h.row.1
  have hlk : ks.length = jl := h'.row.1
  obtain ⟨W, hW⟩ : ∃ W : World, W = (w.alloc (.cells #[.int .i64 next, .slice ja jl jc] 34)).alloc (.cells #[.int .i64 next, .slice ka jl kc] 34) := ⟨_, rfl⟩
  have hB : Below w.heap.size w W := by rw [hW]; exact ((Below.refl _ _).alloc (Nat.le_refl _) _).alloc (by simp) _
  have zW : W.heap.size = w.heap.size + 2 := by rw [hW]; simp
  have z0 : w.heap.size < W.heap.size := by omega
  have z1 : w.heap.size + 1 < W.heap.size := by omega
  clear zW
  have c0 : W.cell? ⟨w.heap.size, 0, none⟩ = some (.int .i64 next) := by rw [hW]; go_simp
  have d0 : W.cell? ⟨w.heap.size + 1, 0, none⟩ = some (.int .i64 next) := by rw [hW]; go_simp
  have c1 : W.cell? ⟨w.heap.size, 1, none⟩ = some (.slice ja jl jc) := by rw [hW]; go_simp
  have d1 : W.cell? ⟨w.heap.size + 1, 1, none⟩ = some (.slice ka jl kc) := by rw [hW]; go_simp
  have KA : Hid (∀ U : World, Below W.heap.size W U → U.cell? ⟨w.heap.size, 1, none⟩ = some (.slice ja jl jc) ∧ U.cell? ⟨w.heap.size + 1, 1, none⟩ = some (.slice ka jl kc) ∧ w.heap.size < U.heap.size ∧ w.heap.size + 1 < U.heap.size) := fun U hU => ⟨(hU.cell (p := ⟨w.heap.size, 1, none⟩) z0).trans c1, (hU.cell (p := ⟨w.heap.size + 1, 1, none⟩) z1).trans d1, Nat.lt_of_lt_of_le z0 hU.size, Nat.lt_of_lt_of_le z1 hU.size⟩
  have HB : Hid (∀ U, Below W.heap.size W U → Below w.heap.size w U) := fun U hU => hB.trans (hU.mono hB.size)
  have HS : Hid (∀ U, Below W.heap.size W U → IsJobs U ja jl jc js) := fun U hU => h.below (HB.out U hU)
  have HS' : Hid (∀ U, Below W.heap.size W U → IsJobs U ka jl kc ks) := fun U hU => h'.below (HB.out U hU)
  have HP : Hid (∀ k, k < jl → (js.getD k default).bare = (ks.getD k default).bare) := fun k hk => by
    have := congrArg (fun l => l.getD k default) he
    simp only [List.getD, List.getElem?_map] at this
    simpa [List.getD, show k < js.length by omega, show k < ks.length by omega] using this
  have HM : Hid (∀ k, k < jl → js.getD k default ∈ js ∧ ks.getD k default ∈ ks) := fun k hk => ⟨mem_at (by omega), mem_at (by omega)⟩
  clear h h' he
  go_enter Tryz.func7, Tryz.ntmps7
  go_upto_region 1 with (fail)
  rw [← hW]
  clear hW
  have hb0 := Below.refl W.heap.size W
  go_upto_region 4 with (fail)
  clear c0 c1 d0 d1
  go_loopw [5] (fun i wr => ∃ k : Nat, k ≤ jl ∧ i = .int .i64 k ∧ Below W.heap.size W wr) (fun i _ => jl - (intOf i).toNat)
  case atStart => exact ⟨0, Nat.zero_le _, rfl, hb0⟩
  case round =>
    obtain ⟨k, hk, rfl, hb⟩ := hrel
    by_cases hlt : k < jl
    · have hlt' : (k : Int) < (jl : Int) := by omega
      obtain ⟨c1, d1, y0, y1⟩ := KA.out _ hb
      have hJ := HS.out _ hb
      have hK := HS'.out _ hb
      obtain ⟨b1, o1, rfl, zb1, k1⟩ := hJ.row.2.2.2.2 (by omega)
      obtain ⟨b2, o2, rfl, zb2, k2⟩ := hK.row.2.2.2.2 (by omega)
      have hjc : k < jc := Nat.lt_of_lt_of_le hlt hJ.row.2.1
      have hkc : k < kc := Nat.lt_of_lt_of_le hlt hK.row.2.1
      have e1 := k1 k hlt
      have e2 := k2 k hlt
      have hm := HM.out k hlt
      have n1 := hn1 _ hm.1
      have n2 := hn2 _ hm.2
      have f1 := hJ.each _ hm.1
      have f2 := hK.each _ hm.2
      have hp := bare_partsR (HP.out k hlt)
      obtain ⟨x, ex⟩ : ∃ x, x = js.getD k default := ⟨_, rfl⟩
      obtain ⟨y, ey⟩ : ∃ y, y = ks.getD k default := ⟨_, rfl⟩
      rw [← ex] at e1 f1 hp n1
      rw [← ey] at e2 f2 hp n2
      clear ex ey hm k1 k2 hJ hK
      obtain ⟨n, st, ta, tl, tc, aa, al, ac, asks, age, tasks, asked⟩ := x
      obtain ⟨n', st', ta', tl', tc', aa', al', ac', asks', age', tasks', asked'⟩ := y
      simp only [] at hp n1 n2
      obtain ⟨rfl, rfl, rfl, rfl⟩ := n1
      obtain ⟨rfl, rfl, rfl, -⟩ := n2
      obtain ⟨rfl, rfl, rfl, rfl, -, rfl⟩ := hp
      obtain rfl : al = al' := f1.asked.1.symm.trans f2.asked.1
      have p0 := e1 0 (by decide)
      have p1 := e1 1 (by decide)
      have p2 := e1 2 (by decide)
      have p3 := e1 3 (by decide)
      have p4 := e1 4 (by decide)
      have p5 := e1 5 (by decide)
      have q0 := e2 0 (by decide)
      have q1 := e2 1 (by decide)
      have q2 := e2 2 (by decide)
      have q3 := e2 3 (by decide)
      have q4 := e2 4 (by decide)
      have q5 := e2 5 (by decide)
      simp only [JbV.cells, List.getElem?_cons_zero, List.getElem?_cons_succ] at p0 p1 p2 p3 p4 p5 q0 q1 q2 q3 q4 q5
      rw [Nat.add_zero] at p0 q0
      clear e1 e2
      obtain ⟨V, hV⟩ : ∃ V : World, V = (wr.alloc (.cells #[.int .i64 n, .int .i64 st, .slice none 0 0, .slice aa al ac, .int .i64 asks, .int .i64 age] 64)).alloc (.cells #[.int .i64 n, .int .i64 st, .slice none 0 0, .slice aa' al ac', .int .i64 asks, .int .i64 age] 64) := ⟨_, rfl⟩
      have bV : Below wr.heap.size wr V := by rw [hV]; exact ((Below.refl _ _).alloc (Nat.le_refl _) _).alloc (by simp) _
      have zV : wr.heap.size + 1 < V.heap.size := by rw [hV]; simp
      have zV0 : wr.heap.size < V.heap.size := by omega
      have x0 : V.cell? ⟨wr.heap.size, 0, none⟩ = some (.int .i64 n) := by rw [hV]; go_simp
      have x1 : V.cell? ⟨wr.heap.size, 1, none⟩ = some (.int .i64 st) := by rw [hV]; go_simp
      have x2 : V.cell? ⟨wr.heap.size, 2, none⟩ = some (.slice none 0 0) := by rw [hV]; go_simp
      have x3 : V.cell? ⟨wr.heap.size, 3, none⟩ = some (.slice aa al ac) := by rw [hV]; go_simp
      have x4 : V.cell? ⟨wr.heap.size, 4, none⟩ = some (.int .i64 asks) := by rw [hV]; go_simp
      have x5 : V.cell? ⟨wr.heap.size, 5, none⟩ = some (.int .i64 age) := by rw [hV]; go_simp
      have v0 : V.cell? ⟨wr.heap.size + 1, 0, none⟩ = some (.int .i64 n) := by rw [hV]; go_simp
      have v1 : V.cell? ⟨wr.heap.size + 1, 1, none⟩ = some (.int .i64 st) := by rw [hV]; go_simp
      have v2 : V.cell? ⟨wr.heap.size + 1, 2, none⟩ = some (.slice none 0 0) := by rw [hV]; go_simp
      have v3 : V.cell? ⟨wr.heap.size + 1, 3, none⟩ = some (.slice aa' al ac') := by rw [hV]; go_simp
      have v4 : V.cell? ⟨wr.heap.size + 1, 4, none⟩ = some (.int .i64 asks) := by rw [hV]; go_simp
      have v5 : V.cell? ⟨wr.heap.size + 1, 5, none⟩ = some (.int .i64 age) := by rw [hV]; go_simp
      have HI : Hid (Calls Tryz.prog 23 #[.slice aa al ac, .slice aa' al ac'] V fun e w' => e = .returned (.bool true) ∧ Below V.heap.size V w') := sameInts_rb aa aa' al ac ac' asked V (f1.asked.below bV) (f2.asked.below bV)
      have KB : Hid (∀ U, Below V.heap.size V U → U.cell? ⟨wr.heap.size, 2, none⟩ = some (.slice none 0 0) ∧ U.cell? ⟨wr.heap.size + 1, 2, none⟩ = some (.slice none 0 0) ∧ wr.heap.size < U.heap.size ∧ wr.heap.size + 1 < U.heap.size ∧ Below W.heap.size W U) := fun U hU => ⟨(hU.cell (p := ⟨wr.heap.size, 2, none⟩) zV0).trans x2, (hU.cell (p := ⟨wr.heap.size + 1, 2, none⟩) zV).trans v2, Nat.lt_of_lt_of_le zV0 hU.size, Nat.lt_of_lt_of_le zV hU.size, hb.trans ((bV.trans (hU.mono bV.size)).mono hb.size)⟩
      have i1 := f1.asked
      have i2 := f2.asked
      clear f1 f2
      go_upto_region 8 with (fail)
      rw [← hV]
      clear hV p0 p1 p2 p3 p4 p5 q0 q1 q2 q3 q4 q5 c1 d1
      have HI2 : Hid (∀ U, Below V.heap.size V U → Calls Tryz.prog 23 #[.slice aa al ac, .slice aa' al ac'] U fun e w' => e = .returned (.bool true) ∧ Below U.heap.size U w') := fun U hU => sameInts_rb aa aa' al ac ac' asked U ((i1.below bV).below hU) ((i2.below bV).below hU)
      have KC : Hid (∀ U, Below V.heap.size V U → U.cell? ⟨wr.heap.size, 3, none⟩ = some (.slice aa al ac) ∧ U.cell? ⟨wr.heap.size + 1, 3, none⟩ = some (.slice aa' al ac')) := fun U hU => ⟨(hU.cell (p := ⟨wr.heap.size, 3, none⟩) zV0).trans x3, (hU.cell (p := ⟨wr.heap.size + 1, 3, none⟩) zV).trans v3⟩
      clear HI i1 i2 hn1 hn2
      go_wp2_with (first | (go_at_call 22; refine (sameTasks_rb V).mono ?_; rintro e V1 ⟨rfl, hb1⟩; obtain ⟨s2, t2, zs, zt, hW1⟩ := KB.out _ hb1; obtain ⟨s3, t3⟩ := KC.out _ hb1; clear x0 x1 x2 x3 x4 x5 v0 v1 v2 v3 v4 v5) | (go_at_call 23; refine (HI2.out _ hb1).mono ?_; rintro e V2 ⟨rfl, hb2⟩))
      have HW2 := (KB.out _ (hb1.trans (hb2.mono hb1.size))).2.2.2.2
      go_roundw
      case rel => exact ⟨k + 1, by omega, by go_num, HW2⟩
      case measure => simp [intOf]; omega
    · have hlt' : ¬ (k : Int) < (jl : Int) := by omega
      obtain ⟨c1, d1, y0, y1⟩ := KA.out _ hb
      go_wp2
      go_ret
      exact ⟨rfl, HB.out _ hb⟩
end Go.Proofs.YtekglahigjblkaaGreatDoor.Rb
