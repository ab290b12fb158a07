/- Texts of this claim, one behind the other. -/
import Derived.Test.YtdjnaahkcnklhaaM21TaskTwice
import Derived.Test.YtdjnaahkcnklhaaM6TaskTwice
import Derived.Test.YtdjnaahkcnklhaaM8TaskTwice
import Derived.Test.YtdjnaahkcnklhaaM5TaskTwice
import Derived.LoopTactic
import Derived.Deep.QuietTactic
import Derived.BigQuiet
/- Small desks over the config of two labels, as plain data. -/
namespace Go.Proofs.Ytdjnaahkcnklhaa.Co
open Go.ChangeShapes Go.WideShapes Go.ChangeAt Go.RowKit
open Go.Proofs.Ytdjnaahkcnklhaa.St (IsRow idxI)
open Go.Proofs.Ytdjnaahkcnklhaa.Pt (LS2 cfg_two two_any)
set_option linter.unusedVariables false

theorem rf_two {s l next : Int} {js : List JbV} (h1 : 1 ≤ s) (h2 : s ≤ 4) (hl : l = 0 ∨ l = 1) (hn : 1 ≤ next ∧ next ≤ 1048577) (hj : jbsOK s 2 next js = true) : rfErr s LS2 3 l 0 next js = 0 := by
  have hd : dkErr s LS2 3 next js = 0 := by
    unfold dkErr
    rw [if_pos (cfg_two h1 h2 (by omega) (by omega))]
    have e : ((LS2.length : Nat) : Int) = 2 := rfl
    rw [e, hj]
    have : inR next 1 1048577 = true := by simp [inR, hn]
    rw [this]
    rfl
  unfold rfErr
  rw [if_pos hd, if_pos (by rcases hl with rfl | rfl <;> decide), if_pos (by simp [inR]; omega)]
theorem cl_two {s l next kind : Int} {js : List JbV} (h1 : 1 ≤ s) (h2 : s ≤ 4) (hl : l = 0 ∨ l = 1) (hn : 1 ≤ next ∧ next ≤ 1048577) (hj : jbsOK s 2 next js = true) (hk : 1 ≤ kind ∧ kind ≤ 5) : clErr ⟨s, LS2, 3, l, 0⟩ next js kind = 0 := by
  unfold clErr
  rw [if_pos (rf_two h1 h2 hl hn hj), if_pos (by simp [inR, hk])]
theorem sees_two {s l b : Int} (h1 : 1 ≤ s) (h2 : s ≤ 4) (hl : l = 0 ∨ l = 1) (hb : b = 0 ∨ b = 1) : Se.seesB s LS2 3 l b = decide (b ≤ l) := by
  have hc := cfg_two (p := 3) h1 h2 (by omega) (by omega)
  unfold Se.seesB Se.seesErr
  rw [if_pos hc]
  rcases hl with rfl | rfl <;> rcases hb with rfl | rfl <;> decide
def tBegin : Tn := ⟨2, [newJob 1], [], [⟨5, 0, 1, 0, 0, 0, false, none, 0, 0, []⟩], [⟨0, 1, 1, 0, 0, 0⟩], 0, 0⟩
theorem ans_begin {s l : Int} (h1 : 1 ≤ s) (h2 : s ≤ 4) (hl : l = 0 ∨ l = 1) : clErr ⟨s, LS2, 3, l, 0⟩ 1 [] 1 = 0 ∧ CallAns ⟨s, LS2, 3, l, 0⟩ 1 [] 6000 ⟨1, 0, 0, 0, 0⟩ = tBegin := by
  have hc := cl_two (js := []) (kind := 1) (next := 1) h1 h2 hl (by omega) rfl (by omega)
  refine ⟨hc, ?_⟩
  unfold CallAns
  rw [if_pos hc]
  rfl
theorem jbs_new {s : Int} (h1 : 1 ≤ s) : jbsOK s 2 2 [newJob 1] = true := by
  simp [jbsOK, jbsGo, jbOK, rise, tksOK, tksGo, newJob, inR]
def jOne (t : TkV) : JbV := ⟨1, 1, none, 0, 0, none, 0, 0, 1, 0, [t], []⟩
theorem jbs_one {s : Int} {t : TkV} (h1 : 1 ≤ s) (ha : t.ask = 1) (hl : t.label = 0 ∨ t.label = 1) (hk : 0 ≤ t.key ∧ t.key ≤ 7) (hv : t.value = 0) (hw : t.version = 0) (hs : t.sure = false) : jbsOK s 2 2 [jOne t] = true := by
  have hl2 : 0 ≤ t.label ∧ t.label ≤ 1 := by omega
  simp [jbsOK, jbsGo, jbOK, rise, tksOK, tksGo, jOne, inR, tkOK, ha, hl2, hk, hv, hw, hs]
theorem idx_one {t : JbV} (h : t.n = 1) : idxI (isN 1) [t] = 0 := by
  simp [idxI, isN, h, List.findIdx?, List.findIdx?.go]
/-- A Get or a Put of the job 1 that has no task yet. -/
theorem ans_ask {s l kind label key : Int} (h1 : 1 ≤ s) (h2 : s ≤ 4) (hl : l = 0 ∨ l = 1) (hb : label = 0 ∨ label = 1) (hs : kind = 2 → label ≤ l) (hk : 0 ≤ key ∧ key ≤ 7) (hK : kind = 2 ∨ kind = 3) : CallAns ⟨s, LS2, 3, l, 0⟩ 2 [newJob 1] 6000 ⟨kind, 1, label, key, 0⟩ = ⟨2, [jOne ⟨decide (kind = 3), if kind = 2 then label else l, key, 0, 0, 1, false, false⟩], [⟨if kind = 2 then 1 else 2, 0, homeNum s LS2 3 key, 0, 1, if kind = 2 then label else 0, key, 0, 0, 1, false, 0⟩], [], [], 0, 0⟩ := by
  have hc := cl_two (js := [newJob 1]) (kind := kind) (next := 2) h1 h2 hl (by omega) (jbs_new h1) (by omega)
  unfold CallAns
  rw [if_pos hc]
  have e1 : ¬ kind = 1 := by omega
  have e2 : idxI (isN 1) (tn0 2 [newJob 1]).js = 0 := idx_one rfl
  have e3 : (tn0 2 [newJob 1]).js.getD 0 default = newJob 1 := rfl
  have e4 : askErr ⟨s, LS2, 3, l, 0⟩ ⟨kind, 1, label, key, 0⟩ (newJob 1) = 0 := by
    unfold askErr
    have k1 : (kind == 2 || kind == 3) = true := by simpa using hK
    have k2 : (inR key 0 7 && inR (0 : Int) 0 1073741824) = true := by simp [inR, hk]
    have k3 : (kind == 2 && !Cx.sees ⟨s, LS2, 3, l, 0⟩ label) = false := by
      unfold Cx.sees
      simp only []
      rw [sees_two h1 h2 hl hb]
      rcases hK with rfl | rfl
      · have := hs rfl
        simp [this]
      · rfl
    simp only []
    rw [k1, k2, k3]
    rfl
  unfold Tn.call
  simp only [e2, e3, Int.toNat_zero]
  rw [if_neg e1, if_neg (by decide), e4, if_neg (by decide)]
  rcases hK with rfl | rfl
  · rfl
  · rfl
/-- Of a label that is not seen nothing is asked. -/
theorem ans_up {s key : Int} (h1 : 1 ≤ s) (h2 : s ≤ 4) (hk : 0 ≤ key ∧ key ≤ 7) : CallAns ⟨s, LS2, 3, 0, 0⟩ 2 [newJob 1] 6000 ⟨2, 1, 1, key, 0⟩ = ⟨2, [newJob 1], [], [], [⟨0, 2, 1, key, 0, 10⟩], 0, 0⟩ := by
  have hc := cl_two (js := [newJob 1]) (kind := 2) (next := 2) (l := 0) h1 h2 (by omega) (by omega) (jbs_new h1) (by omega)
  unfold CallAns
  rw [if_pos hc]
  have e2 : idxI (isN 1) (tn0 2 [newJob 1]).js = 0 := idx_one rfl
  have e3 : (tn0 2 [newJob 1]).js.getD 0 default = newJob 1 := rfl
  have e4 : askErr ⟨s, LS2, 3, 0, 0⟩ ⟨2, 1, 1, key, 0⟩ (newJob 1) = 10 := by
    unfold askErr
    have k2 : (inR key 0 7 && inR (0 : Int) 0 1073741824) = true := by simp [inR, hk]
    have k3 : Cx.sees ⟨s, LS2, 3, 0, 0⟩ 1 = false := by
      unfold Cx.sees
      simp only []
      rw [sees_two h1 h2 (Or.inl rfl) (Or.inr rfl)]
      rfl
    simp only []
    rw [k2, k3]
    rfl
  unfold Tn.call
  simp only [e2, e3, Int.toNat_zero]
  rw [if_neg (by decide), if_neg (by decide), e4, if_pos (by decide)]
  rfl
/-- Who waits for a task asks for no other one. -/
theorem ans_wait {s l kind label key : Int} {t : TkV} (h1 : 1 ≤ s) (h2 : s ≤ 4) (hl : l = 0 ∨ l = 1) (ha : t.ask = 1) (hb : t.label = 0 ∨ t.label = 1) (hk : 0 ≤ t.key ∧ t.key ≤ 7) (hv : t.value = 0) (hw : t.version = 0) (hs : t.sure = false) (hd : t.done = false) (hK : 2 ≤ kind ∧ kind ≤ 5) : CallAns ⟨s, LS2, 3, l, 0⟩ 2 [jOne t] 6000 ⟨kind, 1, label, key, 0⟩ = ⟨2, [jOne t], [], [], [⟨0, kind, 1, key, 0, 14⟩], 0, 0⟩ ∧ clErr ⟨s, LS2, 3, l, 0⟩ 2 [jOne t] kind = 0 := by
  have hc := cl_two (js := [jOne t]) (kind := kind) (next := 2) h1 h2 hl (by omega) (jbs_one h1 ha hb hk hv hw hs) (by omega)
  refine ⟨?_, hc⟩
  unfold CallAns
  rw [if_pos hc]
  have e2 : idxI (isN 1) (tn0 2 [jOne t]).js = 0 := idx_one rfl
  have e3 : (tn0 2 [jOne t]).js.getD 0 default = jOne t := rfl
  have e4 : askErr ⟨s, LS2, 3, l, 0⟩ ⟨kind, 1, label, key, 0⟩ (jOne t) = 14 := by
    unfold askErr
    have k2 : waitB (jOne t) = true := by simp [waitB, jOne, hd]
    rw [k2]
    rfl
  unfold Tn.call
  simp only [e2, e3, Int.toNat_zero]
  rw [if_neg (by omega), if_neg (by decide), e4, if_pos (by decide)]
  rfl
end Go.Proofs.Ytdjnaahkcnklhaa.Co
/- sameInts and sameDesk of reredoskeep: at desks that are the same as plain data they return true. -/
namespace Go.Proofs.Ytdjnaahkcnklhaa.Co
open Go.ChangeShapes Go.WideShapes Go.ChangeAt Go.RowKit
open Go.Proofs.Ytdjnaahkcnklhaa.St (BoxN boxn_new IsRow flat)
set_option linter.unusedVariables false

set_option maxHeartbeats 1000000 in
theorem sameInts_eq (a b : Option Addr) (n cap cap' : Nat) (zs : List Int) (w : World) (h : IsSites w a n cap zs) (h' : IsSites w b n cap' zs) :
    Calls Try.prog 20 #[.slice a n cap, .slice b n cap'] w fun e w' => e = .returned (.bool true) ∧ Below w.heap.size w w' := by
  have hmx : n ≤ maxLen := Nat.le_trans h.2.1 h.2.2.1
  unfold maxLen at hmx
  go_enter Try.func20, Try.ntmps20
  go_wp2
  go_loopw [5] (fun i wr => ∃ k : Nat, k ≤ n ∧ i = .int .i64 k ∧ Below w.heap.size w wr) (fun i _ => n - (intOf i).toNat)
  case atStart => exact ⟨0, Nat.zero_le _, rfl, Below.refl _ _⟩
  case round =>
    obtain ⟨k, hk, rfl, hb⟩ := hrel
    by_cases hlt : k < n
    · have hlt' : (k : Int) < (n : Int) := by omega
      obtain ⟨b1, o1, rfl, _, c1⟩ := (h.below hb).2.2.2.2 (by omega)
      obtain ⟨b2, o2, rfl, _, c2⟩ := (h'.below hb).2.2.2.2 (by omega)
      have e1 := c1 k hlt 0 (by decide)
      have e2 := c2 k hlt 0 (by decide)
      rw [Nat.mul_one, Nat.add_zero] at e1 e2
      obtain ⟨z, hz⟩ : ∃ z, z = zs.getD k default := ⟨_, rfl⟩
      rw [← hz] at e1 e2
      simp only [inCell, List.getElem?_cons_zero] at e1 e2
      clear hz c1 c2
      go_wp2
      go_quiet (fail)
      go_wp2
      go_roundw
      case rel => exact ⟨k + 1, by omega, by go_num, below_drewN hb nq⟩
      case measure => simp [intOf]; omega
    · go_wp2
      go_ret
      exact ⟨rfl, hb⟩
theorem bare_parts {j k : JbV} (h : j.bare = k.bare) : j.n = k.n ∧ j.state = k.state ∧ j.asks = k.asks ∧ j.age = k.age ∧ j.tasks = k.tasks ∧ j.asked = k.asked := by
  obtain ⟨n, st, ta, tl, tc, aa, al, ac, asks, age, tasks, asked⟩ := j
  obtain ⟨n', st', ta', tl', tc', aa', al', ac', asks', age', tasks', asked'⟩ := k
  simp [JbV.bare] at h
  exact ⟨h.1, h.2.1, h.2.2.1, h.2.2.2.1, h.2.2.2.2.1, h.2.2.2.2.2⟩
set_option maxRecDepth 100000 in
set_option maxHeartbeats 8000000 in
theorem sameDesk_eq (next : Int) (ja : Option Addr) (jl jc : Nat) (js : List JbV) (ka : Option Addr) (kc : Nat) (ks : List JbV) (w : World) (h : IsJobs w ja jl jc js) (h' : IsJobs w ka jl kc ks) (he : js.map JbV.bare = ks.map JbV.bare) :
    Calls Try.prog 8 #[.agg #[.int .i64 next, .slice ja jl jc], .agg #[.int .i64 next, .slice ka jl kc]] w fun e w' => e = .returned (.bool true) ∧ Below w.heap.size w w' := by
  have m1 : jl ≤ maxLen := Nat.le_trans h.row.2.1 h.row.2.2.1
  unfold maxLen at m1
  have hlj : js.length = jl := h.row.1
  have hlk : ks.length = jl := h'.row.1
  obtain ⟨W, hW⟩ : ∃ W : World, W = (w.alloc (.cells #[.int .i64 next, .slice ja jl jc] 28)).alloc (.cells #[.int .i64 next, .slice ka jl kc] 28) := ⟨_, rfl⟩
  have hB : Below w.heap.size w W := by rw [hW]; exact ((Below.refl _ _).alloc (Nat.le_refl _) _).alloc (by simp) _
  have zW : W.heap.size = w.heap.size + 2 := by rw [hW]; simp
  have z0 : w.heap.size < W.heap.size := by omega
  have z1 : w.heap.size + 1 < W.heap.size := by omega
  clear zW
  have c0 : W.cell? ⟨w.heap.size, 0, none⟩ = some (.int .i64 next) := by rw [hW]; go_simp
  have d0 : W.cell? ⟨w.heap.size + 1, 0, none⟩ = some (.int .i64 next) := by rw [hW]; go_simp
  have c1 : W.cell? ⟨w.heap.size, 1, none⟩ = some (.slice ja jl jc) := by rw [hW]; go_simp
  have d1 : W.cell? ⟨w.heap.size + 1, 1, none⟩ = some (.slice ka jl kc) := by rw [hW]; go_simp
  have KA : Hid (∀ U : World, Below W.heap.size W U → U.cell? ⟨w.heap.size, 1, none⟩ = some (.slice ja jl jc) ∧ U.cell? ⟨w.heap.size + 1, 1, none⟩ = some (.slice ka jl kc) ∧ w.heap.size < U.heap.size ∧ w.heap.size + 1 < U.heap.size) := fun U hU => ⟨(hU.cell (p := ⟨w.heap.size, 1, none⟩) z0).trans c1, (hU.cell (p := ⟨w.heap.size + 1, 1, none⟩) z1).trans d1, Nat.lt_of_lt_of_le z0 hU.size, Nat.lt_of_lt_of_le z1 hU.size⟩
  have HB : Hid (∀ U, Below W.heap.size W U → Below w.heap.size w U) := fun U hU => hB.trans (hU.mono hB.size)
  have HS : Hid (∀ U, Below W.heap.size W U → IsJobs U ja jl jc js) := fun U hU => h.below (HB.out U hU)
  have HS' : Hid (∀ U, Below W.heap.size W U → IsJobs U ka jl kc ks) := fun U hU => h'.below (HB.out U hU)
  have HP : Hid (∀ k, k < jl → (js.getD k default).bare = (ks.getD k default).bare) := fun k hk => by
    have := congrArg (fun l => l.getD k default) he
    simp only [List.getD, List.getElem?_map] at this
    simpa [List.getD, show k < js.length by omega, show k < ks.length by omega] using this
  have HM : Hid (∀ k, k < jl → js.getD k default ∈ js ∧ ks.getD k default ∈ ks) := fun k hk => ⟨mem_at (by omega), mem_at (by omega)⟩
  clear h h' he
  go_enter Try.func8, Try.ntmps8
  go_upto_region 1 with (fail)
  rw [← hW]
  clear hW
  have hb0 := Below.refl W.heap.size W
  go_upto_region 4 with (fail)
  clear c0 c1 d0 d1
  go_loopw [5, 6, 7, 8, 26] (fun _ _ _ _ i wr => ∃ k : Nat, k ≤ jl ∧ i = .int .i64 k ∧ Below W.heap.size W wr) (fun _ _ _ _ i _ => jl - (intOf i).toNat)
  case atStart => exact ⟨0, Nat.zero_le _, rfl, hb0⟩
  case round =>
    obtain ⟨k, hk, rfl, hb⟩ := hrel
    by_cases hlt : k < jl
    · have hlt' : (k : Int) < (jl : Int) := by omega
      obtain ⟨c1, d1, y0, y1⟩ := KA.out _ hb
      have hJ := HS.out _ hb
      have hK := HS'.out _ hb
      obtain ⟨b1, o1, rfl, zb1, k1⟩ := hJ.row.2.2.2.2 (by omega)
      obtain ⟨b2, o2, rfl, zb2, k2⟩ := hK.row.2.2.2.2 (by omega)
      have hjc : k < jc := Nat.lt_of_lt_of_le hlt hJ.row.2.1
      have hkc : k < kc := Nat.lt_of_lt_of_le hlt hK.row.2.1
      have e1 := k1 k hlt
      have e2 := k2 k hlt
      have hm := HM.out k hlt
      have f1 := hJ.each _ hm.1
      have f2 := hK.each _ hm.2
      have hp := bare_parts (HP.out k hlt)
      obtain ⟨x, ex⟩ : ∃ x, x = js.getD k default := ⟨_, rfl⟩
      obtain ⟨y, ey⟩ : ∃ y, y = ks.getD k default := ⟨_, rfl⟩
      rw [← ex] at e1 f1 hp
      rw [← ey] at e2 f2 hp
      clear ex ey hm k1 k2 hJ hK
      obtain ⟨n, st, ta, tl, tc, aa, al, ac, asks, age, tasks, asked⟩ := x
      obtain ⟨n', st', ta', tl', tc', aa', al', ac', asks', age', tasks', asked'⟩ := y
      simp only [] at hp
      obtain ⟨rfl, rfl, rfl, rfl, rfl, rfl⟩ := hp
      obtain rfl : tl = tl' := f1.tasks.1.symm.trans f2.tasks.1
      obtain rfl : al = al' := f1.asked.1.symm.trans f2.asked.1
      have p0 := e1 0 (by decide)
      have p1 := e1 1 (by decide)
      have p2 := e1 2 (by decide)
      have p3 := e1 3 (by decide)
      have p4 := e1 4 (by decide)
      have p5 := e1 5 (by decide)
      have q0 := e2 0 (by decide)
      have q1 := e2 1 (by decide)
      have q2 := e2 2 (by decide)
      have q3 := e2 3 (by decide)
      have q4 := e2 4 (by decide)
      have q5 := e2 5 (by decide)
      simp only [JbV.cells, List.getElem?_cons_zero, List.getElem?_cons_succ] at p0 p1 p2 p3 p4 p5 q0 q1 q2 q3 q4 q5
      rw [Nat.add_zero] at p0 q0
      clear e1 e2
      have m2 : tl ≤ maxLen := Nat.le_trans f1.tasks.2.1 f1.tasks.2.2.1
      unfold maxLen at m2
      obtain ⟨V, hV⟩ : ∃ V : World, V = (wr.alloc (.cells #[.int .i64 n, .int .i64 st, .slice ta tl tc, .slice aa al ac, .int .i64 asks, .int .i64 age] 67)).alloc (.cells #[.int .i64 n, .int .i64 st, .slice ta' tl tc', .slice aa' al ac', .int .i64 asks, .int .i64 age] 67) := ⟨_, rfl⟩
      have bV : Below wr.heap.size wr V := by rw [hV]; exact ((Below.refl _ _).alloc (Nat.le_refl _) _).alloc (by simp) _
      have zV : wr.heap.size + 1 < V.heap.size := by rw [hV]; simp
      have zV0 : wr.heap.size < V.heap.size := by omega
      have x0 : V.cell? ⟨wr.heap.size, 0, none⟩ = some (.int .i64 n) := by rw [hV]; go_simp
      have x1 : V.cell? ⟨wr.heap.size, 1, none⟩ = some (.int .i64 st) := by rw [hV]; go_simp
      have x2 : V.cell? ⟨wr.heap.size, 2, none⟩ = some (.slice ta tl tc) := by rw [hV]; go_simp
      have x3 : V.cell? ⟨wr.heap.size, 3, none⟩ = some (.slice aa al ac) := by rw [hV]; go_simp
      have x4 : V.cell? ⟨wr.heap.size, 4, none⟩ = some (.int .i64 asks) := by rw [hV]; go_simp
      have x5 : V.cell? ⟨wr.heap.size, 5, none⟩ = some (.int .i64 age) := by rw [hV]; go_simp
      have v0 : V.cell? ⟨wr.heap.size + 1, 0, none⟩ = some (.int .i64 n) := by rw [hV]; go_simp
      have v1 : V.cell? ⟨wr.heap.size + 1, 1, none⟩ = some (.int .i64 st) := by rw [hV]; go_simp
      have v2 : V.cell? ⟨wr.heap.size + 1, 2, none⟩ = some (.slice ta' tl tc') := by rw [hV]; go_simp
      have v3 : V.cell? ⟨wr.heap.size + 1, 3, none⟩ = some (.slice aa' al ac') := by rw [hV]; go_simp
      have v4 : V.cell? ⟨wr.heap.size + 1, 4, none⟩ = some (.int .i64 asks) := by rw [hV]; go_simp
      have v5 : V.cell? ⟨wr.heap.size + 1, 5, none⟩ = some (.int .i64 age) := by rw [hV]; go_simp
      have HI : Hid (Calls Try.prog 20 #[.slice aa al ac, .slice aa' al ac'] V fun e w' => e = .returned (.bool true) ∧ Below V.heap.size V w') := sameInts_eq aa aa' al ac ac' asked V (f1.asked.below bV) (f2.asked.below bV)
      have HT1 : Hid (∀ U, Below V.heap.size V U → IsTasks U ta tl tc tasks) := fun U hU => (f1.tasks.below bV).below hU
      have HT2 : Hid (∀ U, Below V.heap.size V U → IsTasks U ta' tl tc' tasks) := fun U hU => (f2.tasks.below bV).below hU
      have KB : Hid (∀ U, Below V.heap.size V U → U.cell? ⟨wr.heap.size, 2, none⟩ = some (.slice ta tl tc) ∧ U.cell? ⟨wr.heap.size + 1, 2, none⟩ = some (.slice ta' tl tc') ∧ wr.heap.size < U.heap.size ∧ wr.heap.size + 1 < U.heap.size ∧ Below W.heap.size W U) := fun U hU => ⟨(hU.cell (p := ⟨wr.heap.size, 2, none⟩) zV0).trans x2, (hU.cell (p := ⟨wr.heap.size + 1, 2, none⟩) zV).trans v2, Nat.lt_of_lt_of_le zV0 hU.size, Nat.lt_of_lt_of_le zV hU.size, hb.trans ((bV.trans (hU.mono bV.size)).mono hb.size)⟩
      clear f1 f2
      go_upto_region 8 with (fail)
      rw [← hV]
      clear hV p0 p1 p2 p3 p4 p5 q0 q1 q2 q3 q4 q5 c1 d1
      go_upto_region 10 with (go_at_call 20; refine HI.out.mono ?_; rintro e V1 ⟨rfl, hb1⟩)
      obtain ⟨s2, t2, zs, zt, -⟩ := KB.out _ hb1
      clear x0 x1 x2 x3 x4 x5 v0 v1 v2 v3 v4 v5 HI
      rename World => wo
      go_upto_region 11 with (fail)
      clear s2 t2 zs zt
      go_loopw [8, 85] (fun _ i wi => ∃ m : Nat, m ≤ tl ∧ i = .int .i64 m ∧ Below V.heap.size V wi) (fun _ i _ => tl - (intOf i).toNat)
      case atStart => exact ⟨0, Nat.zero_le _, rfl, hb1⟩
      case round =>
        obtain ⟨m, hm, rfl, hbm⟩ := hrel
        obtain ⟨s2, t2, zs, zt, hWm⟩ := KB.out _ hbm
        by_cases hlm : m < tl
        · have hlm' : (m : Int) < (tl : Int) := by omega
          have g1 := HT1.out _ hbm
          have g2 := HT2.out _ hbm
          obtain ⟨b3, o3, rfl, zb3, k3⟩ := g1.2.2.2.2 (by omega)
          obtain ⟨b4, o4, rfl, zb4, k4⟩ := g2.2.2.2.2 (by omega)
          have hmc : m < tc := Nat.lt_of_lt_of_le hlm g1.2.1
          have hmc' : m < tc' := Nat.lt_of_lt_of_le hlm g2.2.1
          have e3 := k3 m hlm
          have e4 := k4 m hlm
          obtain ⟨x, ex⟩ : ∃ x, x = tasks.getD m default := ⟨_, rfl⟩
          rw [← ex] at e3 e4
          clear ex k3 k4 g1 g2
          obtain ⟨write, label, key, value, version, ask, done, sure⟩ := x
          have p0 := e3 0 (by decide)
          have p1 := e3 1 (by decide)
          have p2 := e3 2 (by decide)
          have p3 := e3 3 (by decide)
          have p4 := e3 4 (by decide)
          have p5 := e3 5 (by decide)
          have p6 := e3 6 (by decide)
          have p7 := e3 7 (by decide)
          have q0 := e4 0 (by decide)
          have q1 := e4 1 (by decide)
          have q2 := e4 2 (by decide)
          have q3 := e4 3 (by decide)
          have q4 := e4 4 (by decide)
          have q5 := e4 5 (by decide)
          have q6 := e4 6 (by decide)
          have q7 := e4 7 (by decide)
          simp only [TkV.cells, List.getElem?_cons_zero, List.getElem?_cons_succ] at p0 p1 p2 p3 p4 p5 p6 p7 q0 q1 q2 q3 q4 q5 q6 q7
          rw [Nat.add_zero] at p0 q0
          clear e3 e4
          go_upto_region 13 with (fail)
          go_quiet (fail)
          go_wp2
          go_roundw
          case rel => exact ⟨m + 1, by omega, by go_num, below_drewN hbm nq⟩
          case measure => simp [intOf]; omega
        · have hlm' : ¬ (m : Int) < (tl : Int) := by omega
          go_wp2
          go_roundw
          case rel => exact ⟨k + 1, by omega, by go_num, hWm⟩
          case measure => simp [intOf]; omega
    · go_wp2
      go_ret
      exact ⟨rfl, HB.out _ hb⟩
end Go.Proofs.Ytdjnaahkcnklhaa.Co
/- The walk of the law TaskTwice: at any numbers it returns true and leaves what was in memory. -/
namespace Go.Proofs.Ytdjnaahkcnklhaa.Co
open Go.ChangeShapes Go.WideShapes Go.ChangeAt Go.RowKit
open Go.Proofs.Ytdjnaahkcnklhaa.St (BoxN boxn_new own_below grown_setCell IsRow Elem flat flat_append own_isRow idxI)
open Go.Proofs.Ytdjnaahkcnklhaa.Pt (LS2 cfg_two two_any)
set_option linter.unusedVariables false

set_option maxRecDepth 100000 in
set_option maxHeartbeats 8000000 in
theorem taskTwice_walk (s key : Int) (write : Bool) (w : World) (hs : (Lit.int .i64 s).wf = true) (hk : (Lit.int .i64 key).wf = true) :
    Calls Try.prog 4 #[.int .i64 s, .int .i64 key, .bool write] w fun e w' => e = .returned (.bool true) ∧ Below w.heap.size w w' := by
  have bds : -9223372036854775808 ≤ s ∧ s ≤ 9223372036854775807 := by
    simp [Lit.wf, IntKind.min, IntKind.max, IntKind.signed, IntKind.bits] at hs
    omega
  have bdk : -9223372036854775808 ≤ key ∧ key ≤ 9223372036854775807 := by
    simp [Lit.wf, IntKind.min, IntKind.max, IntKind.signed, IntKind.bits] at hk
    omega
  clear hs hk
  have hkp := pk_bd key 8 (by omega)
  have hPKK := fun u => picked_any key 8 u bdk (by omega) (by omega)
  obtain ⟨KK, eKK⟩ : ∃ x, x = pk key 8 := ⟨_, rfl⟩
  rw [← eKK] at hkp hPKK
  clear eKK
  have hsp := pk_bd s 3 (by omega)
  have hTw := fun u => two_any s u bds
  obtain ⟨S1, eS1⟩ : ∃ x, x = 1 + pk s 3 := ⟨_, rfl⟩
  rw [← eS1] at hTw
  have hS1 : 1 ≤ S1 := by omega
  have hS4 : S1 ≤ 4 := by omega
  have hK7 : 0 ≤ KK ∧ KK ≤ 7 := by omega
  clear eS1 hsp hkp
  have bw : Below w.heap.size w w := Below.refl _ _
  go_enter Try.func4, Try.ntmps4
  go_upto_region 2 with (go_at_call 5; refine (hTw _).mono ?_; rintro e w1 ⟨g0, rfl, hl, hg0, hb1⟩)
  clear hTw
  replace bw := bw.trans (hb1.mono bw.size)
  obtain ⟨X1, eX1⟩ : ∃ X : World, X = w1.alloc (.cells #[.int .i64 S1, .slice (some ⟨g0, 0, none⟩) 2 2, .int .i64 3] 24) := ⟨_, rfl⟩
  have cb : BoxN X1 w1.heap.size 3 [.int .i64 S1, .slice (some ⟨g0, 0, none⟩) 2 2, .int .i64 3] := by rw [eX1]; exact boxn_new w1 #[.int .i64 S1, .slice (some ⟨g0, 0, none⟩) 2 2, .int .i64 3] 24 3 rfl
  have bX1 : Below w1.heap.size w1 X1 := by rw [eX1]; exact (Below.refl _ _).alloc (Nat.le_refl _) _
  rw [← eX1]
  clear eX1
  replace bw := bw.trans (bX1.mono bw.size)
  replace hl := hl.below bX1
  have HC1 : Hid (Calls Try.prog 6 #[.agg #[.int .i64 S1, .slice (some ⟨g0, 0, none⟩) 2 2, .int .i64 3], .int .i64 0, .int .i64 0, .agg #[.int .i64 1, .slice none 0 0], .int .i64 6000, .agg #[.int .i64 1, .int .i64 0, .int .i64 0, .int .i64 0, .int .i64 0]] X1 fun e w' => ∃ (v' : CkV) (ix' : List (Nat × Nat)) (more' : List Rw), e = .returned (.tuple #[.agg #[.int .i64 2, .slice v'.ja 1 v'.jc, .slice v'.ma 0 v'.mc, .slice v'.ra 1 v'.rc, .slice v'.pa 1 v'.pc, .int .i64 0, .int .i64 0], .int .i64 0]) ∧ Live X1.heap.size w' v' ix' more' tBegin ∧ Below X1.heap.size X1 w') := call_first S1 3 (some ⟨g0, 0, none⟩) 2 2 LS2 0 0 1 6000 ⟨1, 0, 0, 0, 0⟩ X1 hl ((ans_begin hS1 hS4 (Or.inl rfl)).1) ((ans_begin hS1 hS4 (Or.inl rfl)).2) rfl rfl rfl rfl rfl rfl rfl
  have cb_0 : X1.cell? ⟨w1.heap.size, 0, none⟩ = some (.int .i64 S1) := (cb.c 0 (by decide)).1
  have cb_1 : X1.cell? ⟨w1.heap.size, 1, none⟩ = some (.slice (some ⟨g0, 0, none⟩) 2 2) := (cb.c 1 (by decide)).1
  have cb_2 : X1.cell? ⟨w1.heap.size, 2, none⟩ = some (.int .i64 3) := (cb.c 2 (by decide)).1
  have cb_z := cb.lt
  go_upto_region 3 with (go_at_call 6; refine HC1.out.mono ?_; rintro e y1 ⟨v1, ix1, more1, rfl, hL1, hc1⟩)
  clear cb_0 cb_1 cb_2 cb_z
  clear HC1
  replace cb := cb.below hc1 cb.lt
  replace bw := bw.trans (hc1.mono bw.size)
  replace hl := hl.below hc1
  obtain ⟨X2, eX2⟩ : ∃ X : World, X = y1.alloc (.cells #[.int .i64 2, .slice v1.ja 1 v1.jc, .slice v1.ma 0 v1.mc, .slice v1.ra 1 v1.rc, .slice v1.pa 1 v1.pc, .int .i64 0, .int .i64 0] 33) := ⟨_, rfl⟩
  have tb1 : BoxN X2 y1.heap.size 7 [.int .i64 2, .slice v1.ja 1 v1.jc, .slice v1.ma 0 v1.mc, .slice v1.ra 1 v1.rc, .slice v1.pa 1 v1.pc, .int .i64 0, .int .i64 0] := by rw [eX2]; exact boxn_new y1 #[.int .i64 2, .slice v1.ja 1 v1.jc, .slice v1.ma 0 v1.mc, .slice v1.ra 1 v1.rc, .slice v1.pa 1 v1.pc, .int .i64 0, .int .i64 0] 33 7 rfl
  have bX2 : Below y1.heap.size y1 X2 := by rw [eX2]; exact (Below.refl _ _).alloc (Nat.le_refl _) _
  rw [← eX2]
  clear eX2
  replace cb := cb.below bX2 cb.lt
  replace bw := bw.trans (bX2.mono bw.size)
  replace hl := hl.below bX2
  replace hL1 := hL1.below bX2
  cases write with
  | false =>
    go_upto_region 6 with (go_at_call 7; refine (hPKK _).mono ?_; rintro e u ⟨rfl, hu⟩; rw [hu]; clear hu)
    obtain ⟨X3, eX3⟩ : ∃ X : World, X = X2.alloc (.cells #[.int .i64 2, .int .i64 1, .int .i64 0, .int .i64 KK, .int .i64 0] 38) := ⟨_, rfl⟩
    have xb : BoxN X3 X2.heap.size 5 [.int .i64 2, .int .i64 1, .int .i64 0, .int .i64 KK, .int .i64 0] := by rw [eX3]; exact boxn_new X2 #[.int .i64 2, .int .i64 1, .int .i64 0, .int .i64 KK, .int .i64 0] 38 5 rfl
    have bX3 : Below X2.heap.size X2 X3 := by rw [eX3]; exact (Below.refl _ _).alloc (Nat.le_refl _) _
    rw [← eX3]
    clear eX3
    replace cb := cb.below bX3 cb.lt
    replace tb1 := tb1.below bX3 tb1.lt
    replace bw := bw.trans (bX3.mono bw.size)
    replace hl := hl.below bX3
    replace hL1 := hL1.below bX3
    clear hPKK
    have HC2 : Hid (Calls Try.prog 6 #[.agg #[.int .i64 S1, .slice (some ⟨g0, 0, none⟩) 2 2, .int .i64 3], .int .i64 0, .int .i64 0, .agg #[.int .i64 2, .slice v1.ja 1 v1.jc], .int .i64 6000, .agg #[.int .i64 2, .int .i64 1, .int .i64 0, .int .i64 KK, .int .i64 0]] X3 fun e w' => ∃ (v' : CkV) (ix' : List (Nat × Nat)) (more' : List Rw), e = .returned (.tuple #[.agg #[.int .i64 2, .slice v'.ja 1 v'.jc, .slice v'.ma 1 v'.mc, .slice v'.ra 0 v'.rc, .slice v'.pa 0 v'.pc, .int .i64 0, .int .i64 0], .int .i64 0]) ∧ Live X3.heap.size w' v' ix' more' ⟨2, [jOne ⟨false, 0, KK, 0, 0, 1, false, false⟩], [⟨1, 0, homeNum S1 LS2 3 KK, 0, 1, 0, KK, 0, 0, 1, false, 0⟩], [], [], 0, 0⟩ ∧ Below X3.heap.size X3 w') := call_on S1 3 (some ⟨g0, 0, none⟩) 2 2 LS2 0 0 6000 ⟨2, 1, 0, KK, 0⟩ X3 hl hL1 (nx0 := 2) (jl0 := 1) rfl rfl (cl_two hS1 hS4 (Or.inl rfl) (by decide) (jbs_new hS1) (by simp)) (ans_ask (kind := 2) hS1 hS4 (Or.inl rfl) (Or.inl rfl) (by omega) hK7 (by omega)) rfl rfl rfl rfl rfl rfl rfl
    have cb_0 : X3.cell? ⟨w1.heap.size, 0, none⟩ = some (.int .i64 S1) := (cb.c 0 (by decide)).1
    have cb_1 : X3.cell? ⟨w1.heap.size, 1, none⟩ = some (.slice (some ⟨g0, 0, none⟩) 2 2) := (cb.c 1 (by decide)).1
    have cb_2 : X3.cell? ⟨w1.heap.size, 2, none⟩ = some (.int .i64 3) := (cb.c 2 (by decide)).1
    have cb_z := cb.lt
    have tb1_0 : X3.cell? ⟨y1.heap.size, 0, none⟩ = some (.int .i64 2) := (tb1.c 0 (by decide)).1
    have tb1_1 : X3.cell? ⟨y1.heap.size, 1, none⟩ = some (.slice v1.ja 1 v1.jc) := (tb1.c 1 (by decide)).1
    have tb1_z := tb1.lt
    have xb_0 : X3.cell? ⟨X2.heap.size, 0, none⟩ = some (.int .i64 2) := (xb.c 0 (by decide)).1
    have xb_1 : X3.cell? ⟨X2.heap.size, 1, none⟩ = some (.int .i64 1) := (xb.c 1 (by decide)).1
    have xb_2 : X3.cell? ⟨X2.heap.size, 2, none⟩ = some (.int .i64 0) := (xb.c 2 (by decide)).1
    have xb_3 : X3.cell? ⟨X2.heap.size, 3, none⟩ = some (.int .i64 KK) := (xb.c 3 (by decide)).1
    have xb_4 : X3.cell? ⟨X2.heap.size, 4, none⟩ = some (.int .i64 0) := (xb.c 4 (by decide)).1
    have xb_z := xb.lt
    go_upto_region 7 with (go_at_call 6; refine HC2.out.mono ?_; rintro e y2 ⟨v2, ix2, more2, rfl, hL2, hc2⟩)
    clear cb_0 cb_1 cb_2 cb_z tb1_0 tb1_1 tb1_z xb_0 xb_1 xb_2 xb_3 xb_4 xb_z
    clear HC2
    replace cb := cb.below hc2 cb.lt
    replace tb1 := tb1.below hc2 tb1.lt
    replace xb := xb.below hc2 xb.lt
    replace bw := bw.trans (hc2.mono bw.size)
    replace hl := hl.below hc2
    replace hL1 := hL1.below hc2
    obtain ⟨X4, eX4⟩ : ∃ X : World, X = y2.alloc (.cells #[.int .i64 2, .slice v2.ja 1 v2.jc, .slice v2.ma 1 v2.mc, .slice v2.ra 0 v2.rc, .slice v2.pa 0 v2.pc, .int .i64 0, .int .i64 0] 33) := ⟨_, rfl⟩
    have tb2 : BoxN X4 y2.heap.size 7 [.int .i64 2, .slice v2.ja 1 v2.jc, .slice v2.ma 1 v2.mc, .slice v2.ra 0 v2.rc, .slice v2.pa 0 v2.pc, .int .i64 0, .int .i64 0] := by rw [eX4]; exact boxn_new y2 #[.int .i64 2, .slice v2.ja 1 v2.jc, .slice v2.ma 1 v2.mc, .slice v2.ra 0 v2.rc, .slice v2.pa 0 v2.pc, .int .i64 0, .int .i64 0] 33 7 rfl
    have bX4 : Below y2.heap.size y2 X4 := by rw [eX4]; exact (Below.refl _ _).alloc (Nat.le_refl _) _
    rw [← eX4]
    clear eX4
    replace cb := cb.below bX4 cb.lt
    replace tb1 := tb1.below bX4 tb1.lt
    replace xb := xb.below bX4 xb.lt
    replace bw := bw.trans (bX4.mono bw.size)
    replace hl := hl.below bX4
    replace hL1 := hL1.below bX4
    replace hL2 := hL2.below bX4
    have HC3 : Hid (Calls Try.prog 6 #[.agg #[.int .i64 S1, .slice (some ⟨g0, 0, none⟩) 2 2, .int .i64 3], .int .i64 0, .int .i64 0, .agg #[.int .i64 2, .slice v2.ja 1 v2.jc], .int .i64 6000, .agg #[.int .i64 2, .int .i64 1, .int .i64 0, .int .i64 KK, .int .i64 0]] X4 fun e w' => ∃ (v' : CkV) (ix' : List (Nat × Nat)) (more' : List Rw), e = .returned (.tuple #[.agg #[.int .i64 2, .slice v'.ja 1 v'.jc, .slice v'.ma 0 v'.mc, .slice v'.ra 0 v'.rc, .slice v'.pa 1 v'.pc, .int .i64 0, .int .i64 0], .int .i64 0]) ∧ Live X4.heap.size w' v' ix' more' ⟨2, [jOne ⟨false, 0, KK, 0, 0, 1, false, false⟩], [], [], [⟨0, 2, 1, KK, 0, 14⟩], 0, 0⟩ ∧ Below X4.heap.size X4 w') := call_on S1 3 (some ⟨g0, 0, none⟩) 2 2 LS2 0 0 6000 ⟨2, 1, 0, KK, 0⟩ X4 hl hL2 (nx0 := 2) (jl0 := 1) rfl rfl ((ans_wait (t := ⟨false, 0, KK, 0, 0, 1, false, false⟩) (label := 0) (key := KK) (kind := 2) hS1 hS4 (Or.inl rfl) rfl (Or.inl rfl) hK7 rfl rfl rfl rfl (by decide)).2) ((ans_wait (t := ⟨false, 0, KK, 0, 0, 1, false, false⟩) (kind := 2) hS1 hS4 (Or.inl rfl) rfl (Or.inl rfl) hK7 rfl rfl rfl rfl (by decide)).1) rfl rfl rfl rfl rfl rfl rfl
    have cb_0 : X4.cell? ⟨w1.heap.size, 0, none⟩ = some (.int .i64 S1) := (cb.c 0 (by decide)).1
    have cb_1 : X4.cell? ⟨w1.heap.size, 1, none⟩ = some (.slice (some ⟨g0, 0, none⟩) 2 2) := (cb.c 1 (by decide)).1
    have cb_2 : X4.cell? ⟨w1.heap.size, 2, none⟩ = some (.int .i64 3) := (cb.c 2 (by decide)).1
    have cb_z := cb.lt
    have tb2_0 : X4.cell? ⟨y2.heap.size, 0, none⟩ = some (.int .i64 2) := (tb2.c 0 (by decide)).1
    have tb2_1 : X4.cell? ⟨y2.heap.size, 1, none⟩ = some (.slice v2.ja 1 v2.jc) := (tb2.c 1 (by decide)).1
    have tb2_z := tb2.lt
    have xb_0 : X4.cell? ⟨X2.heap.size, 0, none⟩ = some (.int .i64 2) := (xb.c 0 (by decide)).1
    have xb_1 : X4.cell? ⟨X2.heap.size, 1, none⟩ = some (.int .i64 1) := (xb.c 1 (by decide)).1
    have xb_2 : X4.cell? ⟨X2.heap.size, 2, none⟩ = some (.int .i64 0) := (xb.c 2 (by decide)).1
    have xb_3 : X4.cell? ⟨X2.heap.size, 3, none⟩ = some (.int .i64 KK) := (xb.c 3 (by decide)).1
    have xb_4 : X4.cell? ⟨X2.heap.size, 4, none⟩ = some (.int .i64 0) := (xb.c 4 (by decide)).1
    have xb_z := xb.lt
    go_upto_region 8 with (go_at_call 6; refine HC3.out.mono ?_; rintro e y3 ⟨v3, ix3, more3, rfl, hL3, hc3⟩)
    clear cb_0 cb_1 cb_2 cb_z tb2_0 tb2_1 tb2_z xb_0 xb_1 xb_2 xb_3 xb_4 xb_z
    clear HC3
    replace cb := cb.below hc3 cb.lt
    replace tb1 := tb1.below hc3 tb1.lt
    replace xb := xb.below hc3 xb.lt
    replace tb2 := tb2.below hc3 tb2.lt
    replace bw := bw.trans (hc3.mono bw.size)
    replace hl := hl.below hc3
    replace hL1 := hL1.below hc3
    replace hL2 := hL2.below hc3
    obtain ⟨X5, eX5⟩ : ∃ X : World, X = y3.alloc (.cells #[.int .i64 2, .slice v3.ja 1 v3.jc, .slice v3.ma 0 v3.mc, .slice v3.ra 0 v3.rc, .slice v3.pa 1 v3.pc, .int .i64 0, .int .i64 0] 33) := ⟨_, rfl⟩
    have tb3 : BoxN X5 y3.heap.size 7 [.int .i64 2, .slice v3.ja 1 v3.jc, .slice v3.ma 0 v3.mc, .slice v3.ra 0 v3.rc, .slice v3.pa 1 v3.pc, .int .i64 0, .int .i64 0] := by rw [eX5]; exact boxn_new y3 #[.int .i64 2, .slice v3.ja 1 v3.jc, .slice v3.ma 0 v3.mc, .slice v3.ra 0 v3.rc, .slice v3.pa 1 v3.pc, .int .i64 0, .int .i64 0] 33 7 rfl
    have bX5 : Below y3.heap.size y3 X5 := by rw [eX5]; exact (Below.refl _ _).alloc (Nat.le_refl _) _
    rw [← eX5]
    clear eX5
    replace cb := cb.below bX5 cb.lt
    replace tb1 := tb1.below bX5 tb1.lt
    replace xb := xb.below bX5 xb.lt
    replace tb2 := tb2.below bX5 tb2.lt
    replace bw := bw.trans (bX5.mono bw.size)
    replace hl := hl.below bX5
    replace hL1 := hL1.below bX5
    replace hL2 := hL2.below bX5
    replace hL3 := hL3.below bX5
    have HC4 : Hid (Calls Try.prog 6 #[.agg #[.int .i64 S1, .slice (some ⟨g0, 0, none⟩) 2 2, .int .i64 3], .int .i64 0, .int .i64 0, .agg #[.int .i64 2, .slice v2.ja 1 v2.jc], .int .i64 6000, .agg #[.int .i64 4, .int .i64 1, .int .i64 0, .int .i64 0, .int .i64 0]] X5 fun e w' => ∃ (v' : CkV) (ix' : List (Nat × Nat)) (more' : List Rw), e = .returned (.tuple #[.agg #[.int .i64 2, .slice v'.ja 1 v'.jc, .slice v'.ma 0 v'.mc, .slice v'.ra 0 v'.rc, .slice v'.pa 1 v'.pc, .int .i64 0, .int .i64 0], .int .i64 0]) ∧ Live X5.heap.size w' v' ix' more' ⟨2, [jOne ⟨false, 0, KK, 0, 0, 1, false, false⟩], [], [], [⟨0, 4, 1, 0, 0, 14⟩], 0, 0⟩ ∧ Below X5.heap.size X5 w') := call_on S1 3 (some ⟨g0, 0, none⟩) 2 2 LS2 0 0 6000 ⟨4, 1, 0, 0, 0⟩ X5 hl hL2 (nx0 := 2) (jl0 := 1) rfl rfl ((ans_wait (t := ⟨false, 0, KK, 0, 0, 1, false, false⟩) (label := 0) (key := 0) (kind := 4) hS1 hS4 (Or.inl rfl) rfl (Or.inl rfl) hK7 rfl rfl rfl rfl (by decide)).2) ((ans_wait (t := ⟨false, 0, KK, 0, 0, 1, false, false⟩) (kind := 4) hS1 hS4 (Or.inl rfl) rfl (Or.inl rfl) hK7 rfl rfl rfl rfl (by decide)).1) rfl rfl rfl rfl rfl rfl rfl
    have cb_0 : X5.cell? ⟨w1.heap.size, 0, none⟩ = some (.int .i64 S1) := (cb.c 0 (by decide)).1
    have cb_1 : X5.cell? ⟨w1.heap.size, 1, none⟩ = some (.slice (some ⟨g0, 0, none⟩) 2 2) := (cb.c 1 (by decide)).1
    have cb_2 : X5.cell? ⟨w1.heap.size, 2, none⟩ = some (.int .i64 3) := (cb.c 2 (by decide)).1
    have cb_z := cb.lt
    have tb2_0 : X5.cell? ⟨y2.heap.size, 0, none⟩ = some (.int .i64 2) := (tb2.c 0 (by decide)).1
    have tb2_1 : X5.cell? ⟨y2.heap.size, 1, none⟩ = some (.slice v2.ja 1 v2.jc) := (tb2.c 1 (by decide)).1
    have tb2_z := tb2.lt
    go_upto_region 9 with (go_at_call 6; refine HC4.out.mono ?_; rintro e y4 ⟨v4, ix4, more4, rfl, hL4, hc4⟩)
    clear cb_0 cb_1 cb_2 cb_z tb2_0 tb2_1 tb2_z
    clear HC4
    replace cb := cb.below hc4 cb.lt
    replace tb1 := tb1.below hc4 tb1.lt
    replace xb := xb.below hc4 xb.lt
    replace tb2 := tb2.below hc4 tb2.lt
    replace tb3 := tb3.below hc4 tb3.lt
    replace bw := bw.trans (hc4.mono bw.size)
    replace hl := hl.below hc4
    replace hL1 := hL1.below hc4
    replace hL2 := hL2.below hc4
    replace hL3 := hL3.below hc4
    obtain ⟨X6, eX6⟩ : ∃ X : World, X = y4.alloc (.cells #[.int .i64 2, .slice v4.ja 1 v4.jc, .slice v4.ma 0 v4.mc, .slice v4.ra 0 v4.rc, .slice v4.pa 1 v4.pc, .int .i64 0, .int .i64 0] 33) := ⟨_, rfl⟩
    have tb4 : BoxN X6 y4.heap.size 7 [.int .i64 2, .slice v4.ja 1 v4.jc, .slice v4.ma 0 v4.mc, .slice v4.ra 0 v4.rc, .slice v4.pa 1 v4.pc, .int .i64 0, .int .i64 0] := by rw [eX6]; exact boxn_new y4 #[.int .i64 2, .slice v4.ja 1 v4.jc, .slice v4.ma 0 v4.mc, .slice v4.ra 0 v4.rc, .slice v4.pa 1 v4.pc, .int .i64 0, .int .i64 0] 33 7 rfl
    have bX6 : Below y4.heap.size y4 X6 := by rw [eX6]; exact (Below.refl _ _).alloc (Nat.le_refl _) _
    rw [← eX6]
    clear eX6
    replace cb := cb.below bX6 cb.lt
    replace tb1 := tb1.below bX6 tb1.lt
    replace xb := xb.below bX6 xb.lt
    replace tb2 := tb2.below bX6 tb2.lt
    replace tb3 := tb3.below bX6 tb3.lt
    replace bw := bw.trans (bX6.mono bw.size)
    replace hl := hl.below bX6
    replace hL1 := hL1.below bX6
    replace hL2 := hL2.below bX6
    replace hL3 := hL3.below bX6
    replace hL4 := hL4.below bX6
    have hR3 := hL3.reps
    rw [hL3.ps.1, hL3.ps.2] at hR3
    simp only [List.length_cons, List.length_nil, Nat.zero_add] at hR3
    obtain ⟨rb3, ro3, er3, zr3, hr3⟩ := hR3.2.2.2.2 (by decide)
    have hp3 := hr3 0 (by decide) 5 (by decide)
    have hcap3 : 0 < v3.pc := hR3.2.1
    simp only [List.getD_cons_zero, RpV.cells, List.getElem?_cons_zero, List.getElem?_cons_succ, Nat.zero_mul, Nat.add_zero] at hp3
    clear hr3 hR3
    have hR4 := hL4.reps
    rw [hL4.ps.1, hL4.ps.2] at hR4
    simp only [List.length_cons, List.length_nil, Nat.zero_add] at hR4
    obtain ⟨rb4, ro4, er4, zr4, hr4⟩ := hR4.2.2.2.2 (by decide)
    have hp4 := hr4 0 (by decide) 5 (by decide)
    have hcap4 : 0 < v4.pc := hR4.2.1
    simp only [List.getD_cons_zero, RpV.cells, List.getElem?_cons_zero, List.getElem?_cons_succ, Nat.zero_mul, Nat.add_zero] at hp4
    clear hr4 hR4
    have HSm : Hid (Calls Try.prog 8 #[.agg #[.int .i64 2, .slice v3.ja 1 v3.jc], .agg #[.int .i64 2, .slice v2.ja 1 v2.jc]] X6 fun e w' => e = .returned (.bool true) ∧ Below X6.heap.size X6 w') := by
      have j3 := hL3.isJobs
      have j2 := hL2.isJobs
      rw [hL3.js.2] at j3
      rw [hL2.js.2] at j2
      exact sameDesk_eq 2 v3.ja 1 v3.jc v3.js v2.ja v2.jc v2.js X6 j3 j2 (hL3.js.1.trans hL2.js.1.symm)
    clear hL1 hL2 hL3 hL4
    have tb2_0 : X6.cell? ⟨y2.heap.size, 0, none⟩ = some (.int .i64 2) := (tb2.c 0 (by decide)).1
    have tb2_1 : X6.cell? ⟨y2.heap.size, 1, none⟩ = some (.slice v2.ja 1 v2.jc) := (tb2.c 1 (by decide)).1
    have tb2_4 : X6.cell? ⟨y2.heap.size, 4, none⟩ = some (.slice v2.pa 0 v2.pc) := (tb2.c 4 (by decide)).1
    have tb2_z := tb2.lt
    have tb3_0 : X6.cell? ⟨y3.heap.size, 0, none⟩ = some (.int .i64 2) := (tb3.c 0 (by decide)).1
    have tb3_1 : X6.cell? ⟨y3.heap.size, 1, none⟩ = some (.slice v3.ja 1 v3.jc) := (tb3.c 1 (by decide)).1
    have tb3_4 : X6.cell? ⟨y3.heap.size, 4, none⟩ = some (.slice v3.pa 1 v3.pc) := (tb3.c 4 (by decide)).1
    have tb3_z := tb3.lt
    have tb4_4 : X6.cell? ⟨y4.heap.size, 4, none⟩ = some (.slice v4.pa 1 v4.pc) := (tb4.c 4 (by decide)).1
    have tb4_z := tb4.lt
    rw [er3] at tb3_4
    rw [er4] at tb4_4
    go_wp2_with (go_at_call 8; refine HSm.out.mono ?_; rintro e wz ⟨rfl, hbz⟩)
    go_ret
    exact ⟨rfl, bw.trans (hbz.mono bw.size)⟩
  | true =>
    go_upto_region 6 with (go_at_call 7; refine (hPKK _).mono ?_; rintro e u ⟨rfl, hu⟩; rw [hu]; clear hu)
    obtain ⟨X3, eX3⟩ : ∃ X : World, X = X2.alloc (.cells #[.int .i64 3, .int .i64 1, .int .i64 0, .int .i64 KK, .int .i64 0] 38) := ⟨_, rfl⟩
    have xb : BoxN X3 X2.heap.size 5 [.int .i64 3, .int .i64 1, .int .i64 0, .int .i64 KK, .int .i64 0] := by rw [eX3]; exact boxn_new X2 #[.int .i64 3, .int .i64 1, .int .i64 0, .int .i64 KK, .int .i64 0] 38 5 rfl
    have bX3 : Below X2.heap.size X2 X3 := by rw [eX3]; exact (Below.refl _ _).alloc (Nat.le_refl _) _
    rw [← eX3]
    clear eX3
    replace cb := cb.below bX3 cb.lt
    replace tb1 := tb1.below bX3 tb1.lt
    replace bw := bw.trans (bX3.mono bw.size)
    replace hl := hl.below bX3
    replace hL1 := hL1.below bX3
    clear hPKK
    have HC2 : Hid (Calls Try.prog 6 #[.agg #[.int .i64 S1, .slice (some ⟨g0, 0, none⟩) 2 2, .int .i64 3], .int .i64 0, .int .i64 0, .agg #[.int .i64 2, .slice v1.ja 1 v1.jc], .int .i64 6000, .agg #[.int .i64 3, .int .i64 1, .int .i64 0, .int .i64 KK, .int .i64 0]] X3 fun e w' => ∃ (v' : CkV) (ix' : List (Nat × Nat)) (more' : List Rw), e = .returned (.tuple #[.agg #[.int .i64 2, .slice v'.ja 1 v'.jc, .slice v'.ma 1 v'.mc, .slice v'.ra 0 v'.rc, .slice v'.pa 0 v'.pc, .int .i64 0, .int .i64 0], .int .i64 0]) ∧ Live X3.heap.size w' v' ix' more' ⟨2, [jOne ⟨true, 0, KK, 0, 0, 1, false, false⟩], [⟨2, 0, homeNum S1 LS2 3 KK, 0, 1, 0, KK, 0, 0, 1, false, 0⟩], [], [], 0, 0⟩ ∧ Below X3.heap.size X3 w') := call_on S1 3 (some ⟨g0, 0, none⟩) 2 2 LS2 0 0 6000 ⟨3, 1, 0, KK, 0⟩ X3 hl hL1 (nx0 := 2) (jl0 := 1) rfl rfl (cl_two hS1 hS4 (Or.inl rfl) (by decide) (jbs_new hS1) (by simp)) (ans_ask (kind := 3) hS1 hS4 (Or.inl rfl) (Or.inl rfl) (by omega) hK7 (by omega)) rfl rfl rfl rfl rfl rfl rfl
    have cb_0 : X3.cell? ⟨w1.heap.size, 0, none⟩ = some (.int .i64 S1) := (cb.c 0 (by decide)).1
    have cb_1 : X3.cell? ⟨w1.heap.size, 1, none⟩ = some (.slice (some ⟨g0, 0, none⟩) 2 2) := (cb.c 1 (by decide)).1
    have cb_2 : X3.cell? ⟨w1.heap.size, 2, none⟩ = some (.int .i64 3) := (cb.c 2 (by decide)).1
    have cb_z := cb.lt
    have tb1_0 : X3.cell? ⟨y1.heap.size, 0, none⟩ = some (.int .i64 2) := (tb1.c 0 (by decide)).1
    have tb1_1 : X3.cell? ⟨y1.heap.size, 1, none⟩ = some (.slice v1.ja 1 v1.jc) := (tb1.c 1 (by decide)).1
    have tb1_z := tb1.lt
    have xb_0 : X3.cell? ⟨X2.heap.size, 0, none⟩ = some (.int .i64 3) := (xb.c 0 (by decide)).1
    have xb_1 : X3.cell? ⟨X2.heap.size, 1, none⟩ = some (.int .i64 1) := (xb.c 1 (by decide)).1
    have xb_2 : X3.cell? ⟨X2.heap.size, 2, none⟩ = some (.int .i64 0) := (xb.c 2 (by decide)).1
    have xb_3 : X3.cell? ⟨X2.heap.size, 3, none⟩ = some (.int .i64 KK) := (xb.c 3 (by decide)).1
    have xb_4 : X3.cell? ⟨X2.heap.size, 4, none⟩ = some (.int .i64 0) := (xb.c 4 (by decide)).1
    have xb_z := xb.lt
    go_upto_region 7 with (go_at_call 6; refine HC2.out.mono ?_; rintro e y2 ⟨v2, ix2, more2, rfl, hL2, hc2⟩)
    clear cb_0 cb_1 cb_2 cb_z tb1_0 tb1_1 tb1_z xb_0 xb_1 xb_2 xb_3 xb_4 xb_z
    clear HC2
    replace cb := cb.below hc2 cb.lt
    replace tb1 := tb1.below hc2 tb1.lt
    replace xb := xb.below hc2 xb.lt
    replace bw := bw.trans (hc2.mono bw.size)
    replace hl := hl.below hc2
    replace hL1 := hL1.below hc2
    obtain ⟨X4, eX4⟩ : ∃ X : World, X = y2.alloc (.cells #[.int .i64 2, .slice v2.ja 1 v2.jc, .slice v2.ma 1 v2.mc, .slice v2.ra 0 v2.rc, .slice v2.pa 0 v2.pc, .int .i64 0, .int .i64 0] 33) := ⟨_, rfl⟩
    have tb2 : BoxN X4 y2.heap.size 7 [.int .i64 2, .slice v2.ja 1 v2.jc, .slice v2.ma 1 v2.mc, .slice v2.ra 0 v2.rc, .slice v2.pa 0 v2.pc, .int .i64 0, .int .i64 0] := by rw [eX4]; exact boxn_new y2 #[.int .i64 2, .slice v2.ja 1 v2.jc, .slice v2.ma 1 v2.mc, .slice v2.ra 0 v2.rc, .slice v2.pa 0 v2.pc, .int .i64 0, .int .i64 0] 33 7 rfl
    have bX4 : Below y2.heap.size y2 X4 := by rw [eX4]; exact (Below.refl _ _).alloc (Nat.le_refl _) _
    rw [← eX4]
    clear eX4
    replace cb := cb.below bX4 cb.lt
    replace tb1 := tb1.below bX4 tb1.lt
    replace xb := xb.below bX4 xb.lt
    replace bw := bw.trans (bX4.mono bw.size)
    replace hl := hl.below bX4
    replace hL1 := hL1.below bX4
    replace hL2 := hL2.below bX4
    have HC3 : Hid (Calls Try.prog 6 #[.agg #[.int .i64 S1, .slice (some ⟨g0, 0, none⟩) 2 2, .int .i64 3], .int .i64 0, .int .i64 0, .agg #[.int .i64 2, .slice v2.ja 1 v2.jc], .int .i64 6000, .agg #[.int .i64 3, .int .i64 1, .int .i64 0, .int .i64 KK, .int .i64 0]] X4 fun e w' => ∃ (v' : CkV) (ix' : List (Nat × Nat)) (more' : List Rw), e = .returned (.tuple #[.agg #[.int .i64 2, .slice v'.ja 1 v'.jc, .slice v'.ma 0 v'.mc, .slice v'.ra 0 v'.rc, .slice v'.pa 1 v'.pc, .int .i64 0, .int .i64 0], .int .i64 0]) ∧ Live X4.heap.size w' v' ix' more' ⟨2, [jOne ⟨true, 0, KK, 0, 0, 1, false, false⟩], [], [], [⟨0, 3, 1, KK, 0, 14⟩], 0, 0⟩ ∧ Below X4.heap.size X4 w') := call_on S1 3 (some ⟨g0, 0, none⟩) 2 2 LS2 0 0 6000 ⟨3, 1, 0, KK, 0⟩ X4 hl hL2 (nx0 := 2) (jl0 := 1) rfl rfl ((ans_wait (t := ⟨true, 0, KK, 0, 0, 1, false, false⟩) (label := 0) (key := KK) (kind := 3) hS1 hS4 (Or.inl rfl) rfl (Or.inl rfl) hK7 rfl rfl rfl rfl (by decide)).2) ((ans_wait (t := ⟨true, 0, KK, 0, 0, 1, false, false⟩) (kind := 3) hS1 hS4 (Or.inl rfl) rfl (Or.inl rfl) hK7 rfl rfl rfl rfl (by decide)).1) rfl rfl rfl rfl rfl rfl rfl
    have cb_0 : X4.cell? ⟨w1.heap.size, 0, none⟩ = some (.int .i64 S1) := (cb.c 0 (by decide)).1
    have cb_1 : X4.cell? ⟨w1.heap.size, 1, none⟩ = some (.slice (some ⟨g0, 0, none⟩) 2 2) := (cb.c 1 (by decide)).1
    have cb_2 : X4.cell? ⟨w1.heap.size, 2, none⟩ = some (.int .i64 3) := (cb.c 2 (by decide)).1
    have cb_z := cb.lt
    have tb2_0 : X4.cell? ⟨y2.heap.size, 0, none⟩ = some (.int .i64 2) := (tb2.c 0 (by decide)).1
    have tb2_1 : X4.cell? ⟨y2.heap.size, 1, none⟩ = some (.slice v2.ja 1 v2.jc) := (tb2.c 1 (by decide)).1
    have tb2_z := tb2.lt
    have xb_0 : X4.cell? ⟨X2.heap.size, 0, none⟩ = some (.int .i64 3) := (xb.c 0 (by decide)).1
    have xb_1 : X4.cell? ⟨X2.heap.size, 1, none⟩ = some (.int .i64 1) := (xb.c 1 (by decide)).1
    have xb_2 : X4.cell? ⟨X2.heap.size, 2, none⟩ = some (.int .i64 0) := (xb.c 2 (by decide)).1
    have xb_3 : X4.cell? ⟨X2.heap.size, 3, none⟩ = some (.int .i64 KK) := (xb.c 3 (by decide)).1
    have xb_4 : X4.cell? ⟨X2.heap.size, 4, none⟩ = some (.int .i64 0) := (xb.c 4 (by decide)).1
    have xb_z := xb.lt
    go_upto_region 8 with (go_at_call 6; refine HC3.out.mono ?_; rintro e y3 ⟨v3, ix3, more3, rfl, hL3, hc3⟩)
    clear cb_0 cb_1 cb_2 cb_z tb2_0 tb2_1 tb2_z xb_0 xb_1 xb_2 xb_3 xb_4 xb_z
    clear HC3
    replace cb := cb.below hc3 cb.lt
    replace tb1 := tb1.below hc3 tb1.lt
    replace xb := xb.below hc3 xb.lt
    replace tb2 := tb2.below hc3 tb2.lt
    replace bw := bw.trans (hc3.mono bw.size)
    replace hl := hl.below hc3
    replace hL1 := hL1.below hc3
    replace hL2 := hL2.below hc3
    obtain ⟨X5, eX5⟩ : ∃ X : World, X = y3.alloc (.cells #[.int .i64 2, .slice v3.ja 1 v3.jc, .slice v3.ma 0 v3.mc, .slice v3.ra 0 v3.rc, .slice v3.pa 1 v3.pc, .int .i64 0, .int .i64 0] 33) := ⟨_, rfl⟩
    have tb3 : BoxN X5 y3.heap.size 7 [.int .i64 2, .slice v3.ja 1 v3.jc, .slice v3.ma 0 v3.mc, .slice v3.ra 0 v3.rc, .slice v3.pa 1 v3.pc, .int .i64 0, .int .i64 0] := by rw [eX5]; exact boxn_new y3 #[.int .i64 2, .slice v3.ja 1 v3.jc, .slice v3.ma 0 v3.mc, .slice v3.ra 0 v3.rc, .slice v3.pa 1 v3.pc, .int .i64 0, .int .i64 0] 33 7 rfl
    have bX5 : Below y3.heap.size y3 X5 := by rw [eX5]; exact (Below.refl _ _).alloc (Nat.le_refl _) _
    rw [← eX5]
    clear eX5
    replace cb := cb.below bX5 cb.lt
    replace tb1 := tb1.below bX5 tb1.lt
    replace xb := xb.below bX5 xb.lt
    replace tb2 := tb2.below bX5 tb2.lt
    replace bw := bw.trans (bX5.mono bw.size)
    replace hl := hl.below bX5
    replace hL1 := hL1.below bX5
    replace hL2 := hL2.below bX5
    replace hL3 := hL3.below bX5
    have HC4 : Hid (Calls Try.prog 6 #[.agg #[.int .i64 S1, .slice (some ⟨g0, 0, none⟩) 2 2, .int .i64 3], .int .i64 0, .int .i64 0, .agg #[.int .i64 2, .slice v2.ja 1 v2.jc], .int .i64 6000, .agg #[.int .i64 4, .int .i64 1, .int .i64 0, .int .i64 0, .int .i64 0]] X5 fun e w' => ∃ (v' : CkV) (ix' : List (Nat × Nat)) (more' : List Rw), e = .returned (.tuple #[.agg #[.int .i64 2, .slice v'.ja 1 v'.jc, .slice v'.ma 0 v'.mc, .slice v'.ra 0 v'.rc, .slice v'.pa 1 v'.pc, .int .i64 0, .int .i64 0], .int .i64 0]) ∧ Live X5.heap.size w' v' ix' more' ⟨2, [jOne ⟨true, 0, KK, 0, 0, 1, false, false⟩], [], [], [⟨0, 4, 1, 0, 0, 14⟩], 0, 0⟩ ∧ Below X5.heap.size X5 w') := call_on S1 3 (some ⟨g0, 0, none⟩) 2 2 LS2 0 0 6000 ⟨4, 1, 0, 0, 0⟩ X5 hl hL2 (nx0 := 2) (jl0 := 1) rfl rfl ((ans_wait (t := ⟨true, 0, KK, 0, 0, 1, false, false⟩) (label := 0) (key := 0) (kind := 4) hS1 hS4 (Or.inl rfl) rfl (Or.inl rfl) hK7 rfl rfl rfl rfl (by decide)).2) ((ans_wait (t := ⟨true, 0, KK, 0, 0, 1, false, false⟩) (kind := 4) hS1 hS4 (Or.inl rfl) rfl (Or.inl rfl) hK7 rfl rfl rfl rfl (by decide)).1) rfl rfl rfl rfl rfl rfl rfl
    have cb_0 : X5.cell? ⟨w1.heap.size, 0, none⟩ = some (.int .i64 S1) := (cb.c 0 (by decide)).1
    have cb_1 : X5.cell? ⟨w1.heap.size, 1, none⟩ = some (.slice (some ⟨g0, 0, none⟩) 2 2) := (cb.c 1 (by decide)).1
    have cb_2 : X5.cell? ⟨w1.heap.size, 2, none⟩ = some (.int .i64 3) := (cb.c 2 (by decide)).1
    have cb_z := cb.lt
    have tb2_0 : X5.cell? ⟨y2.heap.size, 0, none⟩ = some (.int .i64 2) := (tb2.c 0 (by decide)).1
    have tb2_1 : X5.cell? ⟨y2.heap.size, 1, none⟩ = some (.slice v2.ja 1 v2.jc) := (tb2.c 1 (by decide)).1
    have tb2_z := tb2.lt
    go_upto_region 9 with (go_at_call 6; refine HC4.out.mono ?_; rintro e y4 ⟨v4, ix4, more4, rfl, hL4, hc4⟩)
    clear cb_0 cb_1 cb_2 cb_z tb2_0 tb2_1 tb2_z
    clear HC4
    replace cb := cb.below hc4 cb.lt
    replace tb1 := tb1.below hc4 tb1.lt
    replace xb := xb.below hc4 xb.lt
    replace tb2 := tb2.below hc4 tb2.lt
    replace tb3 := tb3.below hc4 tb3.lt
    replace bw := bw.trans (hc4.mono bw.size)
    replace hl := hl.below hc4
    replace hL1 := hL1.below hc4
    replace hL2 := hL2.below hc4
    replace hL3 := hL3.below hc4
    obtain ⟨X6, eX6⟩ : ∃ X : World, X = y4.alloc (.cells #[.int .i64 2, .slice v4.ja 1 v4.jc, .slice v4.ma 0 v4.mc, .slice v4.ra 0 v4.rc, .slice v4.pa 1 v4.pc, .int .i64 0, .int .i64 0] 33) := ⟨_, rfl⟩
    have tb4 : BoxN X6 y4.heap.size 7 [.int .i64 2, .slice v4.ja 1 v4.jc, .slice v4.ma 0 v4.mc, .slice v4.ra 0 v4.rc, .slice v4.pa 1 v4.pc, .int .i64 0, .int .i64 0] := by rw [eX6]; exact boxn_new y4 #[.int .i64 2, .slice v4.ja 1 v4.jc, .slice v4.ma 0 v4.mc, .slice v4.ra 0 v4.rc, .slice v4.pa 1 v4.pc, .int .i64 0, .int .i64 0] 33 7 rfl
    have bX6 : Below y4.heap.size y4 X6 := by rw [eX6]; exact (Below.refl _ _).alloc (Nat.le_refl _) _
    rw [← eX6]
    clear eX6
    replace cb := cb.below bX6 cb.lt
    replace tb1 := tb1.below bX6 tb1.lt
    replace xb := xb.below bX6 xb.lt
    replace tb2 := tb2.below bX6 tb2.lt
    replace tb3 := tb3.below bX6 tb3.lt
    replace bw := bw.trans (bX6.mono bw.size)
    replace hl := hl.below bX6
    replace hL1 := hL1.below bX6
    replace hL2 := hL2.below bX6
    replace hL3 := hL3.below bX6
    replace hL4 := hL4.below bX6
    have hR3 := hL3.reps
    rw [hL3.ps.1, hL3.ps.2] at hR3
    simp only [List.length_cons, List.length_nil, Nat.zero_add] at hR3
    obtain ⟨rb3, ro3, er3, zr3, hr3⟩ := hR3.2.2.2.2 (by decide)
    have hp3 := hr3 0 (by decide) 5 (by decide)
    have hcap3 : 0 < v3.pc := hR3.2.1
    simp only [List.getD_cons_zero, RpV.cells, List.getElem?_cons_zero, List.getElem?_cons_succ, Nat.zero_mul, Nat.add_zero] at hp3
    clear hr3 hR3
    have hR4 := hL4.reps
    rw [hL4.ps.1, hL4.ps.2] at hR4
    simp only [List.length_cons, List.length_nil, Nat.zero_add] at hR4
    obtain ⟨rb4, ro4, er4, zr4, hr4⟩ := hR4.2.2.2.2 (by decide)
    have hp4 := hr4 0 (by decide) 5 (by decide)
    have hcap4 : 0 < v4.pc := hR4.2.1
    simp only [List.getD_cons_zero, RpV.cells, List.getElem?_cons_zero, List.getElem?_cons_succ, Nat.zero_mul, Nat.add_zero] at hp4
    clear hr4 hR4
    have HSm : Hid (Calls Try.prog 8 #[.agg #[.int .i64 2, .slice v3.ja 1 v3.jc], .agg #[.int .i64 2, .slice v2.ja 1 v2.jc]] X6 fun e w' => e = .returned (.bool true) ∧ Below X6.heap.size X6 w') := by
      have j3 := hL3.isJobs
      have j2 := hL2.isJobs
      rw [hL3.js.2] at j3
      rw [hL2.js.2] at j2
      exact sameDesk_eq 2 v3.ja 1 v3.jc v3.js v2.ja v2.jc v2.js X6 j3 j2 (hL3.js.1.trans hL2.js.1.symm)
    clear hL1 hL2 hL3 hL4
    have tb2_0 : X6.cell? ⟨y2.heap.size, 0, none⟩ = some (.int .i64 2) := (tb2.c 0 (by decide)).1
    have tb2_1 : X6.cell? ⟨y2.heap.size, 1, none⟩ = some (.slice v2.ja 1 v2.jc) := (tb2.c 1 (by decide)).1
    have tb2_4 : X6.cell? ⟨y2.heap.size, 4, none⟩ = some (.slice v2.pa 0 v2.pc) := (tb2.c 4 (by decide)).1
    have tb2_z := tb2.lt
    have tb3_0 : X6.cell? ⟨y3.heap.size, 0, none⟩ = some (.int .i64 2) := (tb3.c 0 (by decide)).1
    have tb3_1 : X6.cell? ⟨y3.heap.size, 1, none⟩ = some (.slice v3.ja 1 v3.jc) := (tb3.c 1 (by decide)).1
    have tb3_4 : X6.cell? ⟨y3.heap.size, 4, none⟩ = some (.slice v3.pa 1 v3.pc) := (tb3.c 4 (by decide)).1
    have tb3_z := tb3.lt
    have tb4_4 : X6.cell? ⟨y4.heap.size, 4, none⟩ = some (.slice v4.pa 1 v4.pc) := (tb4.c 4 (by decide)).1
    have tb4_z := tb4.lt
    rw [er3] at tb3_4
    rw [er4] at tb4_4
    go_wp2_with (go_at_call 8; refine HSm.out.mono ?_; rintro e wz ⟨rfl, hbz⟩)
    go_ret
    exact ⟨rfl, bw.trans (hbz.mono bw.size)⟩
end Go.Proofs.Ytdjnaahkcnklhaa.Co
