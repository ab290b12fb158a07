/- Texts of this claim, one behind the other. -/
import Derived.Test.YtgohpgollpjlnaaDoorProg
import Derived.WalkKit
import Derived.ProofKit
import Derived.Below
import Derived.OpenShut
import Derived.Test.YtgohpgollpjlnaaDoorA0ConsoleBad
import Derived.Test.YtgohpgollpjlnaaDoorM5ConsoleBad
import Derived.Test.YtgohpgollpjlnaaDoorM6ConsoleBad
import Derived.OwnWalk
import Derived.Test.YtgohpgollpjlnaaDoorRows
import Derived.JoinedOf
import Derived.KernelRfl
/- The contract of picked: a number from 0 on below another one. -/
namespace Go.Proofs.YtgohpgollpjlnaaDoor
open Go.ChangeShapes Go.WideShapes Go.ChangeAt Go.RowKit

def pk (n m : Int) : Int := (if n < 0 then -(n + 1) else n) % m
theorem pk_bd (n m : Int) (h : 0 < m) : 0 ≤ pk n m ∧ pk n m < m := ⟨Int.emod_nonneg _ (by omega), Int.emod_lt_of_pos _ h⟩
theorem pk_neg {n m : Int} (h : n < 0) : pk n m = (-(n + 1)) % m := by simp [pk, h]
theorem pk_pos {n m : Int} (h : ¬ n < 0) : pk n m = n % m := by simp [pk, h]

theorem i64_bd {n : Int} (h : (Lit.int .i64 n).wf = true) : -9223372036854775808 ≤ n ∧ n ≤ 9223372036854775807 := by
  have := bounds_i64 h
  omega

theorem picked_any (n m : Int) (w : World) (hn : -9223372036854775808 ≤ n ∧ n ≤ 9223372036854775807) (hm : 0 < m) (hm2 : m ≤ 9223372036854775807) :
    Calls Tryd.prog 13 #[.int .i64 n, .int .i64 m] w fun e w' => e = .returned (.int .i64 (pk n m)) ∧ w' = w := by
  obtain ⟨h1, h2⟩ := hn
  by_cases h : n < 0
  · rw [pk_neg h]
    go_enter Tryd.func13, Tryd.ntmps13
    go_wp2
    go_ret
    exact ⟨ret_int (by rw [← Int.tmod_eq_emod_of_nonneg (by omega), Int.neg_tmod]), rfl⟩
  · rw [pk_pos h]
    have h0 : 0 ≤ n := by omega
    go_enter Tryd.func13, Tryd.ntmps13
    go_wp2
    go_ret
    exact ⟨rfl, rfl⟩

end Go.Proofs.YtgohpgollpjlnaaDoor
/- The walk of the law ConsoleBad: at any numbers it returns true and leaves what was in memory. -/
namespace Go.Proofs.YtgohpgollpjlnaaDoor.Cn
open Go.ChangeShapes Go.WideShapes Go.ChangeAt Go.RowKit
open Go.Proofs.YtgohpgollpjlnaaDoor.St (BoxN boxn_new)
set_option linter.unusedVariables false

def oddB : List ByteArray := [⟨#[]⟩, ⟨#[76, 105, 115, 116]⟩, ⟨#[108, 105, 115, 116, 32, 49]⟩, ⟨#[115, 116, 97, 116, 117, 115]⟩, ⟨#[115, 116, 97, 116, 117, 115, 32, 48, 32, 48]⟩, ⟨#[115, 116, 97, 116, 117, 115, 32, 48, 32, 48, 32, 45, 49]⟩, ⟨#[115, 116, 97, 116, 117, 115, 32, 48, 32, 48, 32, 48, 49]⟩, ⟨#[115, 116, 97, 116, 117, 115, 32, 54, 32, 48, 32, 49]⟩, ⟨#[115, 116, 97, 116, 117, 115, 32, 48, 32, 52, 32, 49]⟩, ⟨#[115, 116, 97, 116, 117, 115, 32, 48, 32, 48, 32, 49, 48, 52, 56, 53, 55, 55]⟩, ⟨#[102, 111, 114, 99, 101, 32, 48, 32, 48, 32, 49]⟩, ⟨#[102, 111, 114, 99, 101, 32, 48, 32, 48, 32, 49, 32, 109, 97, 121, 98, 101]⟩, ⟨#[102, 111, 114, 99, 101, 32, 48, 32, 48, 32, 49, 32, 32, 99, 111, 109, 109, 105, 116]⟩, ⟨#[97, 117, 100, 105, 116, 10]⟩]
theorem odd_txt (i : Nat) (hi : i < 14) : (oddB.getD i .empty).data.toList = odd.getD i [] ∧ (oddB.getD i .empty).size ≤ 60 := by
  rcases (by omega : i = 0 ∨ i = 1 ∨ i = 2 ∨ i = 3 ∨ i = 4 ∨ i = 5 ∨ i = 6 ∨ i = 7 ∨ i = 8 ∨ i = 9 ∨ i = 10 ∨ i = 11 ∨ i = 12 ∨ i = 13) with rfl | rfl | rfl | rfl | rfl | rfl | rfl | rfl | rfl | rfl | rfl | rfl | rfl | rfl <;> exact ⟨rfl, by decide⟩
set_option maxRecDepth 100000 in
set_option maxHeartbeats 8000000 in
theorem consoleBad_walk (wh n : Int) (w : World) (hwh : (Lit.int .i64 wh).wf = true) (hn : (Lit.int .i64 n).wf = true) (hT : ∀ U, Below w.heap.size w U → CnW U) :
    Calls Tryd.prog 6 #[.int .i64 wh, .int .i64 n] w fun e w' => e = .returned (.bool true) ∧ Below w.heap.size w w' := by
  have bdwh : -9223372036854775808 ≤ wh ∧ wh ≤ 9223372036854775807 := by
    simp [Lit.wf, IntKind.min, IntKind.max, IntKind.signed, IntKind.bits] at hwh
    omega
  clear hwh
  have bdn : -9223372036854775808 ≤ n ∧ n ≤ 9223372036854775807 := by
    simp [Lit.wf, IntKind.min, IntKind.max, IntKind.signed, IntKind.bits] at hn
    omega
  clear hn
  have hp1 := pk_bd wh 14 (by omega)
  have hp2 := pk_bd n 9 (by omega)
  have hPW := fun u => picked_any wh 14 u bdwh (by omega) (by omega)
  have hPN := fun u => picked_any n 9 u bdn (by omega) (by omega)
  obtain ⟨I, eI⟩ : ∃ I : Nat, (I : Int) = pk wh 14 := ⟨(pk wh 14).toNat, by omega⟩
  obtain ⟨J, eJ⟩ : ∃ J : Nat, (J : Int) = pk n 9 := ⟨(pk n 9).toNat, by omega⟩
  rw [← eI] at hPW hp1
  rw [← eJ] at hPN hp2
  have hI : I < 14 := by omega
  have hJ : J < 9 := by omega
  clear eI eJ hp1 hp2
  have bw : Below w.heap.size w w := Below.refl _ _
  have HT : Hid (∀ U, Below w.heap.size w U → CnW U) := hT
  clear hT
  go_enter Tryd.func6, Tryd.ntmps6
  go_upto_region 2 with (fail)
  obtain ⟨X1, eX1⟩ : ∃ X : World, X = w.alloc (.cells #[.string ⟨#[]⟩, .string ⟨#[76, 105, 115, 116]⟩, .string ⟨#[108, 105, 115, 116, 32, 49]⟩, .string ⟨#[115, 116, 97, 116, 117, 115]⟩, .string ⟨#[115, 116, 97, 116, 117, 115, 32, 48, 32, 48]⟩, .string ⟨#[115, 116, 97, 116, 117, 115, 32, 48, 32, 48, 32, 45, 49]⟩, .string ⟨#[115, 116, 97, 116, 117, 115, 32, 48, 32, 48, 32, 48, 49]⟩, .string ⟨#[115, 116, 97, 116, 117, 115, 32, 54, 32, 48, 32, 49]⟩, .string ⟨#[115, 116, 97, 116, 117, 115, 32, 48, 32, 52, 32, 49]⟩, .string ⟨#[115, 116, 97, 116, 117, 115, 32, 48, 32, 48, 32, 49, 48, 52, 56, 53, 55, 55]⟩, .string ⟨#[102, 111, 114, 99, 101, 32, 48, 32, 48, 32, 49]⟩, .string ⟨#[102, 111, 114, 99, 101, 32, 48, 32, 48, 32, 49, 32, 109, 97, 121, 98, 101]⟩, .string ⟨#[102, 111, 114, 99, 101, 32, 48, 32, 48, 32, 49, 32, 32, 99, 111, 109, 109, 105, 116]⟩, .string ⟨#[97, 117, 100, 105, 116, 10]⟩] 9) := ⟨_, rfl⟩
  have ob : BoxN X1 w.heap.size 14 [.string ⟨#[]⟩, .string ⟨#[76, 105, 115, 116]⟩, .string ⟨#[108, 105, 115, 116, 32, 49]⟩, .string ⟨#[115, 116, 97, 116, 117, 115]⟩, .string ⟨#[115, 116, 97, 116, 117, 115, 32, 48, 32, 48]⟩, .string ⟨#[115, 116, 97, 116, 117, 115, 32, 48, 32, 48, 32, 45, 49]⟩, .string ⟨#[115, 116, 97, 116, 117, 115, 32, 48, 32, 48, 32, 48, 49]⟩, .string ⟨#[115, 116, 97, 116, 117, 115, 32, 54, 32, 48, 32, 49]⟩, .string ⟨#[115, 116, 97, 116, 117, 115, 32, 48, 32, 52, 32, 49]⟩, .string ⟨#[115, 116, 97, 116, 117, 115, 32, 48, 32, 48, 32, 49, 48, 52, 56, 53, 55, 55]⟩, .string ⟨#[102, 111, 114, 99, 101, 32, 48, 32, 48, 32, 49]⟩, .string ⟨#[102, 111, 114, 99, 101, 32, 48, 32, 48, 32, 49, 32, 109, 97, 121, 98, 101]⟩, .string ⟨#[102, 111, 114, 99, 101, 32, 48, 32, 48, 32, 49, 32, 32, 99, 111, 109, 109, 105, 116]⟩, .string ⟨#[97, 117, 100, 105, 116, 10]⟩] := by rw [eX1]; exact boxn_new w #[.string ⟨#[]⟩, .string ⟨#[76, 105, 115, 116]⟩, .string ⟨#[108, 105, 115, 116, 32, 49]⟩, .string ⟨#[115, 116, 97, 116, 117, 115]⟩, .string ⟨#[115, 116, 97, 116, 117, 115, 32, 48, 32, 48]⟩, .string ⟨#[115, 116, 97, 116, 117, 115, 32, 48, 32, 48, 32, 45, 49]⟩, .string ⟨#[115, 116, 97, 116, 117, 115, 32, 48, 32, 48, 32, 48, 49]⟩, .string ⟨#[115, 116, 97, 116, 117, 115, 32, 54, 32, 48, 32, 49]⟩, .string ⟨#[115, 116, 97, 116, 117, 115, 32, 48, 32, 52, 32, 49]⟩, .string ⟨#[115, 116, 97, 116, 117, 115, 32, 48, 32, 48, 32, 49, 48, 52, 56, 53, 55, 55]⟩, .string ⟨#[102, 111, 114, 99, 101, 32, 48, 32, 48, 32, 49]⟩, .string ⟨#[102, 111, 114, 99, 101, 32, 48, 32, 48, 32, 49, 32, 109, 97, 121, 98, 101]⟩, .string ⟨#[102, 111, 114, 99, 101, 32, 48, 32, 48, 32, 49, 32, 32, 99, 111, 109, 109, 105, 116]⟩, .string ⟨#[97, 117, 100, 105, 116, 10]⟩] 9 14 rfl
  have bX1 : Below w.heap.size w X1 := by rw [eX1]; exact (Below.refl _ _).alloc (Nat.le_refl _) _
  rw [← eX1]
  clear eX1
  replace bw := bw.trans (bX1.mono bw.size)
  have hcell : X1.cell? ⟨w.heap.size, I, none⟩ = some (.string (oddB.getD I .empty)) := by
    have h8 := (ob.c I (by omega)).1
    rw [h8]
    rcases (by omega : I = 0 ∨ I = 1 ∨ I = 2 ∨ I = 3 ∨ I = 4 ∨ I = 5 ∨ I = 6 ∨ I = 7 ∨ I = 8 ∨ I = 9 ∨ I = 10 ∨ I = 11 ∨ I = 12 ∨ I = 13) with rfl | rfl | rfl | rfl | rfl | rfl | rfl | rfl | rfl | rfl | rfl | rfl | rfl | rfl <;> rfl
  have hob := ob.lt
  obtain ⟨o1, o2⟩ := odd_txt I hI
  obtain ⟨o3, o4⟩ := odd_bad I hI
  have hR := read_any (oddB.getD I .empty) X1 (by omega) (fun U hU => HT.out U (bw.trans (hU.mono bw.size)))
  rw [o1, o3, o4] at hR
  obtain ⟨s0, es0⟩ : ∃ s, s = oddB.getD I .empty := ⟨_, rfl⟩
  rw [← es0] at hcell hR
  clear es0 o1 o2 o3 o4
  have hI14 : (I : Int) < 14 := by omega
  simp only [Cmd.val, Cmd.nil] at hR
  go_upto_region 3 with (first | (go_at_call 13; refine (hPW _).mono ?_; rintro e u ⟨rfl, hu⟩; rw [hu]; clear hu) | (go_at_call 9; refine hR.mono ?_; rintro e y1 ⟨rfl, hb1⟩))
  clear hPW hR hcell hob
  replace bw := bw.trans (hb1.mono bw.size)
  clear ob
  obtain ⟨X2, eX2⟩ : ∃ X : World, X = y1.alloc (.cells #[.int .i64 0, .int .i64 0, .int .i64 0, .int .i64 0, .bool false] 25) := ⟨_, rfl⟩
  have xb : BoxN X2 y1.heap.size 5 [.int .i64 0, .int .i64 0, .int .i64 0, .int .i64 0, .bool false] := by rw [eX2]; exact boxn_new y1 #[.int .i64 0, .int .i64 0, .int .i64 0, .int .i64 0, .bool false] 25 5 rfl
  have bX2 : Below y1.heap.size y1 X2 := by rw [eX2]; exact (Below.refl _ _).alloc (Nat.le_refl _) _
  rw [← eX2]
  clear eX2
  replace bw := bw.trans (bX2.mono bw.size)
  obtain ⟨ib, hib, hiz, his, hiy⟩ := info_parts (P := Tryd.prog) (e := 5) (z := .int .u8 0) (size := 1) (bytes := 1) (by kernel_rfl)
  obtain ⟨NN, eNN⟩ : ∃ NN : Nat, NN = 61 + J := ⟨_, rfl⟩
  have hwr : IntKind.i64.wrap (61 + (J : Int)) = (NN : Int) := by rw [eNN]; simp [IntKind.wrap, IntKind.bits, IntKind.signed]; omega
  have hN1 : 60 < NN := by omega
  have hN2 : NN ≤ 70 := by omega
  clear eNN
  obtain ⟨M, hrun, hown, hgr⟩ := run_makeSlice_full (P := Tryd.prog) (w := X2) X2.heap.size 42 5 ib (.int .u8 0) 1 (by kernel_rfl) hib hiz his .i64 .i64 NN (by omega) (by rw [hiy]; omega) (by unfold maxLen; omega) (Nat.le_refl _)
  have hbM : Below X2.heap.size X2 M := (Below.refl _ _).grown hgr (Nat.le_refl _) (fun q hq => by cases hq)
  have hmc : (madeCells (Value.int .u8 0).cells (NN * 1)).toList = bytesV (List.replicate NN 0) := by
    apply List.ext_getElem
    · simp [madeCells, bytesV]
    · intro i h1 h2
      simp [madeCells, bytesV, Nat.mod_one, Value.cells]
  rw [hmc] at hown
  have hB := (isB_slice hown (fun b hb => by rw [List.eq_of_mem_replicate hb]; omega)).1
  clear hib hiz his hiy hown hgr hmc
  go_upto_region 4 with (go_at_call 13; refine (hPN _).mono ?_; rintro e u ⟨rfl, hu⟩; rw [hu]; clear hu)
  clear hPN hrun hwr
  replace xb := xb.below hbM xb.lt
  replace bw := bw.trans (hbM.mono bw.size)
  have hSt := run_string hB
  obtain ⟨sB, esB⟩ : ∃ s, s = strOf (List.replicate NN 0) := ⟨_, rfl⟩
  have hsz : sB.size = NN := by rw [esB]; simp [strOf, ByteArray.size]
  rw [← esB] at hSt
  clear esB hB
  have hR := read_any sB M (by omega) (fun U hU => HT.out U (bw.trans (hU.mono bw.size)))
  have hle : lineErr sB.data.toList = 1 ∧ lineCmd sB.data.toList = Cmd.nil := by
    have h8 : sB.data.toList.length = sB.size := rfl
    unfold lineErr lineCmd
    rw [h8, hsz, if_pos hN1, if_pos hN1]
    exact ⟨rfl, rfl⟩
  rw [hle.1, hle.2] at hR
  simp only [Cmd.val, Cmd.nil] at hR
  clear hle hsz
  go_upto_region 5 with (go_at_call 9; refine hR.mono ?_; rintro e y2 ⟨rfl, hb2⟩)
  clear hR hSt
  replace xb := xb.below hb2 xb.lt
  replace bw := bw.trans (hb2.mono bw.size)
  obtain ⟨X3, eX3⟩ : ∃ X : World, X = y2.alloc (.cells #[.int .i64 0, .int .i64 0, .int .i64 0, .int .i64 0, .bool false] 25) := ⟨_, rfl⟩
  have xb2 : BoxN X3 y2.heap.size 5 [.int .i64 0, .int .i64 0, .int .i64 0, .int .i64 0, .bool false] := by rw [eX3]; exact boxn_new y2 #[.int .i64 0, .int .i64 0, .int .i64 0, .int .i64 0, .bool false] 25 5 rfl
  have bX3 : Below y2.heap.size y2 X3 := by rw [eX3]; exact (Below.refl _ _).alloc (Nat.le_refl _) _
  rw [← eX3]
  clear eX3
  replace xb := xb.below bX3 xb.lt
  replace bw := bw.trans (bX3.mono bw.size)
  have xb_0 : X3.cell? ⟨y1.heap.size, 0, none⟩ = some (.int .i64 0) := (xb.c 0 (by decide)).1
  have xb_1 : X3.cell? ⟨y1.heap.size, 1, none⟩ = some (.int .i64 0) := (xb.c 1 (by decide)).1
  have xb_2 : X3.cell? ⟨y1.heap.size, 2, none⟩ = some (.int .i64 0) := (xb.c 2 (by decide)).1
  have xb_3 : X3.cell? ⟨y1.heap.size, 3, none⟩ = some (.int .i64 0) := (xb.c 3 (by decide)).1
  have xb_4 : X3.cell? ⟨y1.heap.size, 4, none⟩ = some (.bool false) := (xb.c 4 (by decide)).1
  have xb_z := xb.lt
  clear xb xb2
  go_wp2
  go_ret
  exact ⟨rfl, bw⟩
end Go.Proofs.YtgohpgollpjlnaaDoor.Cn
/- Closed facts of the row of ConsoleBad, by the kernel. -/
namespace Go.Proofs.YtgohpgollpjlnaaDoor.consoleBadProof
set_option maxRecDepth 100000
theorem c_inPlace : (Rows.consoleBadRow.inPlace == Tryd.pinned.checked.prog.inPlace 6) = true := by kernel_rfl
end Go.Proofs.YtgohpgollpjlnaaDoor.consoleBadProof
