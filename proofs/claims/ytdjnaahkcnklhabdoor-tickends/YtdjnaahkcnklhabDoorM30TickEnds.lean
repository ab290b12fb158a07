/- Texts of this claim, one behind the other. -/
import Derived.Test.YtdjnaahkcnklhabDoorM22TickEnds
import Derived.Test.YtdjnaahkcnklhabDoorM29TickEnds
import Derived.Test.YtdjnaahkcnklhabDoorProg
import Derived.WalkKit
import Derived.ProofKit
import Derived.Below
import Derived.OpenShut
import Derived.Test.YtdjnaahkcnklhabDoorA0TickEnds
import Derived.Laws.IdiomStrings
import Derived.Laws.Concat
import Derived.Deep.QuietTactic
import Derived.BigQuiet
import Derived.Lib.QuietBelow
/- Small desks over the config of two labels, as plain data. -/
namespace Go.Proofs.YtdjnaahkcnklhabDoor.Co
open Go.ChangeShapes Go.WideShapes Go.ChangeAt Go.RowKit
open Go.Proofs.YtdjnaahkcnklhabDoor.St (IsRow idxI)
open Go.Proofs.YtdjnaahkcnklhabDoor.Pt (LS2 cfg_two two_any)
set_option linter.unusedVariables false

theorem rf_two {s l next : Int} {js : List JbV} (h1 : 1 ≤ s) (h2 : s ≤ 4) (hl : l = 0 ∨ l = 1) (hn : 1 ≤ next ∧ next ≤ 1048577) (hj : jbsOK s 2 next js = true) : rfErr s LS2 3 l 0 next js = 0 := by
  have hd : dkErr s LS2 3 next js = 0 := by
    unfold dkErr
    rw [if_pos (cfg_two h1 h2 (by omega) (by omega))]
    have e : ((LS2.length : Nat) : Int) = 2 := rfl
    rw [e, hj]
    have : inR next 1 1048577 = true := by simp [inR, hn]
    rw [this]
    rfl
  unfold rfErr
  rw [if_pos hd, if_pos (by rcases hl with rfl | rfl <;> decide), if_pos (by simp [inR]; omega)]
theorem cl_two {s l next kind : Int} {js : List JbV} (h1 : 1 ≤ s) (h2 : s ≤ 4) (hl : l = 0 ∨ l = 1) (hn : 1 ≤ next ∧ next ≤ 1048577) (hj : jbsOK s 2 next js = true) (hk : 1 ≤ kind ∧ kind ≤ 5) : clErr ⟨s, LS2, 3, l, 0⟩ next js kind = 0 := by
  unfold clErr
  rw [if_pos (rf_two h1 h2 hl hn hj), if_pos (by simp [inR, hk])]
theorem sees_two {s l b : Int} (h1 : 1 ≤ s) (h2 : s ≤ 4) (hl : l = 0 ∨ l = 1) (hb : b = 0 ∨ b = 1) : Se.seesB s LS2 3 l b = decide (b ≤ l) := by
  have hc := cfg_two (p := 3) h1 h2 (by omega) (by omega)
  unfold Se.seesB Se.seesErr
  rw [if_pos hc]
  rcases hl with rfl | rfl <;> rcases hb with rfl | rfl <;> decide
def tBegin : Tn := ⟨2, [newJob 1], [], [⟨5, 0, 1, 0, 0, 0, false, none, 0, 0, []⟩], [⟨0, 1, 1, 0, 0, 0⟩], 0, 0⟩
theorem ans_begin {s l : Int} (h1 : 1 ≤ s) (h2 : s ≤ 4) (hl : l = 0 ∨ l = 1) : clErr ⟨s, LS2, 3, l, 0⟩ 1 [] 1 = 0 ∧ CallAns ⟨s, LS2, 3, l, 0⟩ 1 [] 6000 ⟨1, 0, 0, 0, 0⟩ = tBegin := by
  have hc := cl_two (js := []) (kind := 1) (next := 1) h1 h2 hl (by omega) rfl (by omega)
  refine ⟨hc, ?_⟩
  unfold CallAns
  rw [if_pos hc]
  rfl
theorem jbs_new {s : Int} (h1 : 1 ≤ s) : jbsOK s 2 2 [newJob 1] = true := by
  simp [jbsOK, jbsGo, jbOK, rise, tksOK, tksGo, newJob, inR]
def jOne (t : TkV) : JbV := ⟨1, 1, none, 0, 0, none, 0, 0, 1, 0, [t], []⟩
theorem jbs_one {s : Int} {t : TkV} (h1 : 1 ≤ s) (ha : t.ask = 1) (hl : t.label = 0 ∨ t.label = 1) (hk : 0 ≤ t.key ∧ t.key ≤ 7) (hv : t.value = 0) (hw : t.version = 0) (hs : t.sure = false) : jbsOK s 2 2 [jOne t] = true := by
  have hl2 : 0 ≤ t.label ∧ t.label ≤ 1 := by omega
  simp [jbsOK, jbsGo, jbOK, rise, tksOK, tksGo, jOne, inR, tkOK, ha, hl2, hk, hv, hw, hs]
theorem idx_one {t : JbV} (h : t.n = 1) : idxI (isN 1) [t] = 0 := by
  simp [idxI, isN, h, List.findIdx?, List.findIdx?.go]
/-- A Get or a Put of the job 1 that has no task yet. -/
theorem ans_ask {s l kind label key : Int} (h1 : 1 ≤ s) (h2 : s ≤ 4) (hl : l = 0 ∨ l = 1) (hb : label = 0 ∨ label = 1) (hs : kind = 2 → label ≤ l) (hk : 0 ≤ key ∧ key ≤ 7) (hK : kind = 2 ∨ kind = 3) : CallAns ⟨s, LS2, 3, l, 0⟩ 2 [newJob 1] 6000 ⟨kind, 1, label, key, 0⟩ = ⟨2, [jOne ⟨decide (kind = 3), if kind = 2 then label else l, key, 0, 0, 1, false, false⟩], [⟨if kind = 2 then 1 else 2, 0, homeNum s LS2 3 key, 0, 1, if kind = 2 then label else 0, key, 0, 0, 1, false, 0⟩], [], [], 0, 0⟩ := by
  have hc := cl_two (js := [newJob 1]) (kind := kind) (next := 2) h1 h2 hl (by omega) (jbs_new h1) (by omega)
  unfold CallAns
  rw [if_pos hc]
  have e1 : ¬ kind = 1 := by omega
  have e2 : idxI (isN 1) (tn0 2 [newJob 1]).js = 0 := idx_one rfl
  have e3 : (tn0 2 [newJob 1]).js.getD 0 default = newJob 1 := rfl
  have e4 : askErr ⟨s, LS2, 3, l, 0⟩ ⟨kind, 1, label, key, 0⟩ (newJob 1) = 0 := by
    unfold askErr
    have k1 : (kind == 2 || kind == 3) = true := by simpa using hK
    have k2 : (inR key 0 7 && inR (0 : Int) 0 1073741824) = true := by simp [inR, hk]
    have k3 : (kind == 2 && !Cx.sees ⟨s, LS2, 3, l, 0⟩ label) = false := by
      unfold Cx.sees
      simp only []
      rw [sees_two h1 h2 hl hb]
      rcases hK with rfl | rfl
      · have := hs rfl
        simp [this]
      · rfl
    simp only []
    rw [k1, k2, k3]
    rfl
  unfold Tn.call
  simp only [e2, e3, Int.toNat_zero]
  rw [if_neg e1, if_neg (by decide), e4, if_neg (by decide)]
  rcases hK with rfl | rfl
  · rfl
  · rfl
/-- Of a label that is not seen nothing is asked. -/
theorem ans_up {s key : Int} (h1 : 1 ≤ s) (h2 : s ≤ 4) (hk : 0 ≤ key ∧ key ≤ 7) : CallAns ⟨s, LS2, 3, 0, 0⟩ 2 [newJob 1] 6000 ⟨2, 1, 1, key, 0⟩ = ⟨2, [newJob 1], [], [], [⟨0, 2, 1, key, 0, 10⟩], 0, 0⟩ := by
  have hc := cl_two (js := [newJob 1]) (kind := 2) (next := 2) (l := 0) h1 h2 (by omega) (by omega) (jbs_new h1) (by omega)
  unfold CallAns
  rw [if_pos hc]
  have e2 : idxI (isN 1) (tn0 2 [newJob 1]).js = 0 := idx_one rfl
  have e3 : (tn0 2 [newJob 1]).js.getD 0 default = newJob 1 := rfl
  have e4 : askErr ⟨s, LS2, 3, 0, 0⟩ ⟨2, 1, 1, key, 0⟩ (newJob 1) = 10 := by
    unfold askErr
    have k2 : (inR key 0 7 && inR (0 : Int) 0 1073741824) = true := by simp [inR, hk]
    have k3 : Cx.sees ⟨s, LS2, 3, 0, 0⟩ 1 = false := by
      unfold Cx.sees
      simp only []
      rw [sees_two h1 h2 (Or.inl rfl) (Or.inr rfl)]
      rfl
    simp only []
    rw [k2, k3]
    rfl
  unfold Tn.call
  simp only [e2, e3, Int.toNat_zero]
  rw [if_neg (by decide), if_neg (by decide), e4, if_pos (by decide)]
  rfl
/-- Who waits for a task asks for no other one. -/
theorem ans_wait {s l kind label key : Int} {t : TkV} (h1 : 1 ≤ s) (h2 : s ≤ 4) (hl : l = 0 ∨ l = 1) (ha : t.ask = 1) (hb : t.label = 0 ∨ t.label = 1) (hk : 0 ≤ t.key ∧ t.key ≤ 7) (hv : t.value = 0) (hw : t.version = 0) (hs : t.sure = false) (hd : t.done = false) (hK : 2 ≤ kind ∧ kind ≤ 5) : CallAns ⟨s, LS2, 3, l, 0⟩ 2 [jOne t] 6000 ⟨kind, 1, label, key, 0⟩ = ⟨2, [jOne t], [], [], [⟨0, kind, 1, key, 0, 14⟩], 0, 0⟩ ∧ clErr ⟨s, LS2, 3, l, 0⟩ 2 [jOne t] kind = 0 := by
  have hc := cl_two (js := [jOne t]) (kind := kind) (next := 2) h1 h2 hl (by omega) (jbs_one h1 ha hb hk hv hw hs) (by omega)
  refine ⟨?_, hc⟩
  unfold CallAns
  rw [if_pos hc]
  have e2 : idxI (isN 1) (tn0 2 [jOne t]).js = 0 := idx_one rfl
  have e3 : (tn0 2 [jOne t]).js.getD 0 default = jOne t := rfl
  have e4 : askErr ⟨s, LS2, 3, l, 0⟩ ⟨kind, 1, label, key, 0⟩ (jOne t) = 14 := by
    unfold askErr
    have k2 : waitB (jOne t) = true := by simp [waitB, jOne, hd]
    rw [k2]
    rfl
  unfold Tn.call
  simp only [e2, e3, Int.toNat_zero]
  rw [if_neg (by omega), if_neg (by decide), e4, if_pos (by decide)]
  rfl
end Go.Proofs.YtdjnaahkcnklhabDoor.Co
/- Contracts of picked and Lab: a number from 0 on below another one; a label of a raw number. -/
namespace Go.Proofs.YtdjnaahkcnklhabDoor
open Go.ChangeShapes Go.WideShapes Go.ChangeAt Go.RowKit

def labL (n : Int) : Int := pk n 3
def labC (n : Int) : Int := pk (n.tdiv 3) 4
theorem labL_bd (n : Int) : 0 ≤ labL n ∧ labL n ≤ 2 := by have := pk_bd n 3 (by decide); unfold labL; omega
theorem labC_bd (n : Int) : 0 ≤ labC n ∧ labC n ≤ 3 := by have := pk_bd (n.tdiv 3) 4 (by decide); unfold labC; omega
theorem tdiv_bd {n m : Int} (hn : -9223372036854775808 ≤ n ∧ n ≤ 9223372036854775807) (hm : 0 < m) : -9223372036854775808 ≤ n.tdiv m ∧ n.tdiv m ≤ 9223372036854775807 := by
  rcases Int.le_total 0 n with h | h
  · have h1 : 0 ≤ n.tdiv m := Int.tdiv_nonneg h (by omega)
    have h2 : n.tdiv m ≤ n := Int.tdiv_le_self m h
    omega
  · have e : n.tdiv m = -((-n).tdiv m) := by rw [Int.neg_tdiv]; omega
    have h1 : 0 ≤ (-n).tdiv m := Int.tdiv_nonneg (by omega) (by omega)
    have h2 : (-n).tdiv m ≤ -n := Int.tdiv_le_self m (by omega)
    omega

end Go.Proofs.YtdjnaahkcnklhabDoor
/- Contracts of picked (once more), dec at a digit, ask and typed: some numbers, some text; what was in memory stays. -/
namespace Go.Proofs.YtdjnaahkcnklhabDoor
open Go.ChangeShapes Go.WideShapes Go.ChangeAt Go.RowKit
set_option linter.unusedVariables false

def decB (n : Int) : ByteArray := ⟨#[UInt8.ofNat (48 + n).toNat]⟩
theorem decB_size (n : Int) : (decB n).size = 1 := rfl

theorem picked_below (n m : Int) (w : World) (hn : -9223372036854775808 ≤ n ∧ n ≤ 9223372036854775807) (hm : 0 < m) (hm2 : m ≤ 9223372036854775807) :
    Calls Tryd.prog 9 #[.int .i64 n, .int .i64 m] w fun e w' => e = .returned (.int .i64 (pk n m)) ∧ Below w.heap.size w w' :=
  (picked_any n m w hn hm hm2).mono fun _ _ ⟨he, hw⟩ => ⟨he, hw ▸ Below.refl _ _⟩
end Go.Proofs.YtdjnaahkcnklhabDoor
