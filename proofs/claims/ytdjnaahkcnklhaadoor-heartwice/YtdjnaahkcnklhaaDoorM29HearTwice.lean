/- Texts of this claim, one behind the other. -/
import Derived.Test.YtdjnaahkcnklhaaDoorM28HearTwice
import Derived.Test.YtdjnaahkcnklhaaDoorM7HearTwice
import Derived.Test.YtdjnaahkcnklhaaDoorM22HearTwice
import Derived.Test.YtdjnaahkcnklhaaDoorProg
import Derived.WalkKit
import Derived.ProofKit
import Derived.Below
import Derived.OpenShut
import Derived.Test.YtdjnaahkcnklhaaDoorA0HearTwice
/- The config of two labels, the second one above the first one. -/
namespace Go.Proofs.YtdjnaahkcnklhaaDoor.Pt
open Go.ChangeShapes Go.WideShapes Go.ChangeAt Go.RowKit
set_option linter.unusedVariables false

def LS2 : List (Int × Int) := [(0, 0), (1, 0)]
theorem cfg_two {s p : Int} (h1 : 1 ≤ s) (h2 : s ≤ 4) (h3 : 1 ≤ p) (h4 : p ≤ 1048576) : cfgFault s LS2 p = 0 := by
  unfold cfgFault
  rw [if_neg (by omega), if_neg (by decide), if_neg (by decide), if_neg (by omega)]
set_option maxRecDepth 100000 in
theorem two_any (s : Int) (w : World) (hs : -9223372036854775808 ≤ s ∧ s ≤ 9223372036854775807) :
    Calls Tryd.prog 7 #[.int .i64 s] w fun e w' => ∃ g, e = .returned (.agg #[.int .i64 (1 + pk s 3), .slice (some ⟨g, 0, none⟩) 2 2, .int .i64 3]) ∧ IsLabs w' (some ⟨g, 0, none⟩) 2 2 LS2 ∧ w.heap.size ≤ g ∧ Below w.heap.size w w' := by
  have hp := pk_bd s 3 (by omega)
  have hwr : IntKind.i64.wrap (1 + pk s 3) = 1 + pk s 3 := by simp [IntKind.wrap, IntKind.bits, IntKind.signed]; omega
  have hP := fun u => picked_any s 3 u hs (by omega) (by omega)
  obtain ⟨K, eK⟩ : ∃ K, K = pk s 3 := ⟨_, rfl⟩
  rw [← eK] at hP hwr ⊢
  clear eK hp
  go_enter Tryd.func7, Tryd.ntmps7
  go_wp2_with (go_at_call 9; refine (hP _).mono ?_; rintro e u ⟨rfl, hu⟩; rw [hu]; clear hu)
  obtain ⟨X, eX⟩ : ∃ X : World, X = (w.alloc (.cells #[.int .i64 (1 + K), .slice (some ⟨w.heap.size + 1, 0, none⟩) 2 2, .int .i64 3] 25)).alloc (.cells #[.int .i64 0, .int .i64 0, .int .i64 1, .int .i64 0] 63) := ⟨_, rfl⟩
  have hb : Below w.heap.size w X := by rw [eX]; exact ((Below.refl _ _).alloc (Nat.le_refl _) _).alloc (by simp) _
  have c0 : X.cell? ⟨w.heap.size + 1, 0, none⟩ = some (.int .i64 0) := by rw [eX]; go_simp
  have c1 : X.cell? ⟨w.heap.size + 1, 1, none⟩ = some (.int .i64 0) := by rw [eX]; go_simp
  have c2 : X.cell? ⟨w.heap.size + 1, 2, none⟩ = some (.int .i64 1) := by rw [eX]; go_simp
  have c3 : X.cell? ⟨w.heap.size + 1, 3, none⟩ = some (.int .i64 0) := by rw [eX]; go_simp
  have q0 : X.cell? ⟨w.heap.size, 0, none⟩ = some (.int .i64 (1 + K)) := by rw [eX]; go_simp
  have q1 : X.cell? ⟨w.heap.size, 1, none⟩ = some (.slice (some ⟨w.heap.size + 1, 0, none⟩) 2 2) := by rw [eX]; go_simp
  have q2 : X.cell? ⟨w.heap.size, 2, none⟩ = some (.int .i64 3) := by rw [eX]; go_simp
  have zX : w.heap.size + 1 < X.heap.size := by rw [eX]; simp
  rw [← eX]
  clear eX
  refine bodyPost_ret (v := .agg #[.int .i64 (1 + K), .slice (some ⟨w.heap.size + 1, 0, none⟩) 2 2, .int .i64 3]) (by simp [results, Tryd.results7, go_sem, q0, q1, q2]) rfl ⟨w.heap.size + 1, rfl, ?_, by omega, ?_⟩
  · refine ⟨rfl, Nat.le_refl _, by unfold maxLen; omega, fun _ => ⟨w.heap.size + 1, 0, rfl, zX, fun i hi => ?_⟩⟩
    have hi2 : i = 0 ∨ i = 1 := by simp [LS2] at hi; omega
    rcases hi2 with rfl | rfl
    · exact ⟨c0, c1⟩
    · exact ⟨c2, c3⟩
  · exact hb
end Go.Proofs.YtdjnaahkcnklhaaDoor.Pt
/- Small desks over the config of two labels, as plain data. -/
namespace Go.Proofs.YtdjnaahkcnklhaaDoor.Co
open Go.ChangeShapes Go.WideShapes Go.ChangeAt Go.RowKit
open Go.Proofs.YtdjnaahkcnklhaaDoor.St (IsRow idxI)
open Go.Proofs.YtdjnaahkcnklhaaDoor.Pt (LS2 cfg_two two_any)
set_option linter.unusedVariables false

theorem rf_two {s l next : Int} {js : List JbV} (h1 : 1 ≤ s) (h2 : s ≤ 4) (hl : l = 0 ∨ l = 1) (hn : 1 ≤ next ∧ next ≤ 1048577) (hj : jbsOK s 2 next js = true) : rfErr s LS2 3 l 0 next js = 0 := by
  have hd : dkErr s LS2 3 next js = 0 := by
    unfold dkErr
    rw [if_pos (cfg_two h1 h2 (by omega) (by omega))]
    have e : ((LS2.length : Nat) : Int) = 2 := rfl
    rw [e, hj]
    have : inR next 1 1048577 = true := by simp [inR, hn]
    rw [this]
    rfl
  unfold rfErr
  rw [if_pos hd, if_pos (by rcases hl with rfl | rfl <;> decide), if_pos (by simp [inR]; omega)]
theorem cl_two {s l next kind : Int} {js : List JbV} (h1 : 1 ≤ s) (h2 : s ≤ 4) (hl : l = 0 ∨ l = 1) (hn : 1 ≤ next ∧ next ≤ 1048577) (hj : jbsOK s 2 next js = true) (hk : 1 ≤ kind ∧ kind ≤ 5) : clErr ⟨s, LS2, 3, l, 0⟩ next js kind = 0 := by
  unfold clErr
  rw [if_pos (rf_two h1 h2 hl hn hj), if_pos (by simp [inR, hk])]
theorem sees_two {s l b : Int} (h1 : 1 ≤ s) (h2 : s ≤ 4) (hl : l = 0 ∨ l = 1) (hb : b = 0 ∨ b = 1) : Se.seesB s LS2 3 l b = decide (b ≤ l) := by
  have hc := cfg_two (p := 3) h1 h2 (by omega) (by omega)
  unfold Se.seesB Se.seesErr
  rw [if_pos hc]
  rcases hl with rfl | rfl <;> rcases hb with rfl | rfl <;> decide
def tBegin : Tn := ⟨2, [newJob 1], [], [⟨5, 0, 1, 0, 0, 0, false, none, 0, 0, []⟩], [⟨0, 1, 1, 0, 0, 0⟩], 0, 0⟩
theorem ans_begin {s l : Int} (h1 : 1 ≤ s) (h2 : s ≤ 4) (hl : l = 0 ∨ l = 1) : clErr ⟨s, LS2, 3, l, 0⟩ 1 [] 1 = 0 ∧ CallAns ⟨s, LS2, 3, l, 0⟩ 1 [] 6000 ⟨1, 0, 0, 0, 0⟩ = tBegin := by
  have hc := cl_two (js := []) (kind := 1) (next := 1) h1 h2 hl (by omega) rfl (by omega)
  refine ⟨hc, ?_⟩
  unfold CallAns
  rw [if_pos hc]
  rfl
theorem jbs_new {s : Int} (h1 : 1 ≤ s) : jbsOK s 2 2 [newJob 1] = true := by
  simp [jbsOK, jbsGo, jbOK, rise, tksOK, tksGo, newJob, inR]
def jOne (t : TkV) : JbV := ⟨1, 1, none, 0, 0, none, 0, 0, 1, 0, [t], []⟩
theorem jbs_one {s : Int} {t : TkV} (h1 : 1 ≤ s) (ha : t.ask = 1) (hl : t.label = 0 ∨ t.label = 1) (hk : 0 ≤ t.key ∧ t.key ≤ 7) (hv : t.value = 0) (hw : t.version = 0) (hs : t.sure = false) : jbsOK s 2 2 [jOne t] = true := by
  have hl2 : 0 ≤ t.label ∧ t.label ≤ 1 := by omega
  simp [jbsOK, jbsGo, jbOK, rise, tksOK, tksGo, jOne, inR, tkOK, ha, hl2, hk, hv, hw, hs]
theorem idx_one {t : JbV} (h : t.n = 1) : idxI (isN 1) [t] = 0 := by
  simp [idxI, isN, h, List.findIdx?, List.findIdx?.go]
/-- A Get or a Put of the job 1 that has no task yet. -/
theorem ans_ask {s l kind label key : Int} (h1 : 1 ≤ s) (h2 : s ≤ 4) (hl : l = 0 ∨ l = 1) (hb : label = 0 ∨ label = 1) (hs : kind = 2 → label ≤ l) (hk : 0 ≤ key ∧ key ≤ 7) (hK : kind = 2 ∨ kind = 3) : CallAns ⟨s, LS2, 3, l, 0⟩ 2 [newJob 1] 6000 ⟨kind, 1, label, key, 0⟩ = ⟨2, [jOne ⟨decide (kind = 3), if kind = 2 then label else l, key, 0, 0, 1, false, false⟩], [⟨if kind = 2 then 1 else 2, 0, homeNum s LS2 3 key, 0, 1, if kind = 2 then label else 0, key, 0, 0, 1, false, 0⟩], [], [], 0, 0⟩ := by
  have hc := cl_two (js := [newJob 1]) (kind := kind) (next := 2) h1 h2 hl (by omega) (jbs_new h1) (by omega)
  unfold CallAns
  rw [if_pos hc]
  have e1 : ¬ kind = 1 := by omega
  have e2 : idxI (isN 1) (tn0 2 [newJob 1]).js = 0 := idx_one rfl
  have e3 : (tn0 2 [newJob 1]).js.getD 0 default = newJob 1 := rfl
  have e4 : askErr ⟨s, LS2, 3, l, 0⟩ ⟨kind, 1, label, key, 0⟩ (newJob 1) = 0 := by
    unfold askErr
    have k1 : (kind == 2 || kind == 3) = true := by simpa using hK
    have k2 : (inR key 0 7 && inR (0 : Int) 0 1073741824) = true := by simp [inR, hk]
    have k3 : (kind == 2 && !Cx.sees ⟨s, LS2, 3, l, 0⟩ label) = false := by
      unfold Cx.sees
      simp only []
      rw [sees_two h1 h2 hl hb]
      rcases hK with rfl | rfl
      · have := hs rfl
        simp [this]
      · rfl
    simp only []
    rw [k1, k2, k3]
    rfl
  unfold Tn.call
  simp only [e2, e3, Int.toNat_zero]
  rw [if_neg e1, if_neg (by decide), e4, if_neg (by decide)]
  rcases hK with rfl | rfl
  · rfl
  · rfl
/-- Of a label that is not seen nothing is asked. -/
theorem ans_up {s key : Int} (h1 : 1 ≤ s) (h2 : s ≤ 4) (hk : 0 ≤ key ∧ key ≤ 7) : CallAns ⟨s, LS2, 3, 0, 0⟩ 2 [newJob 1] 6000 ⟨2, 1, 1, key, 0⟩ = ⟨2, [newJob 1], [], [], [⟨0, 2, 1, key, 0, 10⟩], 0, 0⟩ := by
  have hc := cl_two (js := [newJob 1]) (kind := 2) (next := 2) (l := 0) h1 h2 (by omega) (by omega) (jbs_new h1) (by omega)
  unfold CallAns
  rw [if_pos hc]
  have e2 : idxI (isN 1) (tn0 2 [newJob 1]).js = 0 := idx_one rfl
  have e3 : (tn0 2 [newJob 1]).js.getD 0 default = newJob 1 := rfl
  have e4 : askErr ⟨s, LS2, 3, 0, 0⟩ ⟨2, 1, 1, key, 0⟩ (newJob 1) = 10 := by
    unfold askErr
    have k2 : (inR key 0 7 && inR (0 : Int) 0 1073741824) = true := by simp [inR, hk]
    have k3 : Cx.sees ⟨s, LS2, 3, 0, 0⟩ 1 = false := by
      unfold Cx.sees
      simp only []
      rw [sees_two h1 h2 (Or.inl rfl) (Or.inr rfl)]
      rfl
    simp only []
    rw [k2, k3]
    rfl
  unfold Tn.call
  simp only [e2, e3, Int.toNat_zero]
  rw [if_neg (by decide), if_neg (by decide), e4, if_pos (by decide)]
  rfl
/-- Who waits for a task asks for no other one. -/
theorem ans_wait {s l kind label key : Int} {t : TkV} (h1 : 1 ≤ s) (h2 : s ≤ 4) (hl : l = 0 ∨ l = 1) (ha : t.ask = 1) (hb : t.label = 0 ∨ t.label = 1) (hk : 0 ≤ t.key ∧ t.key ≤ 7) (hv : t.value = 0) (hw : t.version = 0) (hs : t.sure = false) (hd : t.done = false) (hK : 2 ≤ kind ∧ kind ≤ 5) : CallAns ⟨s, LS2, 3, l, 0⟩ 2 [jOne t] 6000 ⟨kind, 1, label, key, 0⟩ = ⟨2, [jOne t], [], [], [⟨0, kind, 1, key, 0, 14⟩], 0, 0⟩ ∧ clErr ⟨s, LS2, 3, l, 0⟩ 2 [jOne t] kind = 0 := by
  have hc := cl_two (js := [jOne t]) (kind := kind) (next := 2) h1 h2 hl (by omega) (jbs_one h1 ha hb hk hv hw hs) (by omega)
  refine ⟨?_, hc⟩
  unfold CallAns
  rw [if_pos hc]
  have e2 : idxI (isN 1) (tn0 2 [jOne t]).js = 0 := idx_one rfl
  have e3 : (tn0 2 [jOne t]).js.getD 0 default = jOne t := rfl
  have e4 : askErr ⟨s, LS2, 3, l, 0⟩ ⟨kind, 1, label, key, 0⟩ (jOne t) = 14 := by
    unfold askErr
    have k2 : waitB (jOne t) = true := by simp [waitB, jOne, hd]
    rw [k2]
    rfl
  unfold Tn.call
  simp only [e2, e3, Int.toNat_zero]
  rw [if_neg (by omega), if_neg (by decide), e4, if_pos (by decide)]
  rfl
end Go.Proofs.YtdjnaahkcnklhaaDoor.Co
/- Contracts of picked and Lab: a number from 0 on below another one; a label of a raw number. -/
namespace Go.Proofs.YtdjnaahkcnklhaaDoor
open Go.ChangeShapes Go.WideShapes Go.ChangeAt Go.RowKit

def labL (n : Int) : Int := pk n 3
def labC (n : Int) : Int := pk (n.tdiv 3) 4
theorem labL_bd (n : Int) : 0 ≤ labL n ∧ labL n ≤ 2 := by have := pk_bd n 3 (by decide); unfold labL; omega
theorem labC_bd (n : Int) : 0 ≤ labC n ∧ labC n ≤ 3 := by have := pk_bd (n.tdiv 3) 4 (by decide); unfold labC; omega
theorem tdiv_bd {n m : Int} (hn : -9223372036854775808 ≤ n ∧ n ≤ 9223372036854775807) (hm : 0 < m) : -9223372036854775808 ≤ n.tdiv m ∧ n.tdiv m ≤ 9223372036854775807 := by
  rcases Int.le_total 0 n with h | h
  · have h1 : 0 ≤ n.tdiv m := Int.tdiv_nonneg h (by omega)
    have h2 : n.tdiv m ≤ n := Int.tdiv_le_self m h
    omega
  · have e : n.tdiv m = -((-n).tdiv m) := by rw [Int.neg_tdiv]; omega
    have h1 : 0 ≤ (-n).tdiv m := Int.tdiv_nonneg (by omega) (by omega)
    have h2 : (-n).tdiv m ≤ -n := Int.tdiv_le_self m (by omega)
    omega

end Go.Proofs.YtdjnaahkcnklhaaDoor
