/- Texts of this claim, one behind the other. -/
import Derived.Test.YtgohpgollpjlnaaDoorM18ShowHidden
import Derived.Test.YtgohpgollpjlnaaDoorM20ShowHidden
import Derived.Test.YtgohpgollpjlnaaDoorM28ShowHidden
import Derived.Test.YtgohpgollpjlnaaDoorM19ShowHidden
/- The config of two labels, the second one above the first one. -/
namespace Go.Proofs.YtgohpgollpjlnaaDoor.Pt
open Go.ChangeShapes Go.WideShapes Go.ChangeAt Go.RowKit
set_option linter.unusedVariables false

def LS2 : List (Int × Int) := [(0, 0), (1, 0)]
theorem cfg_two {s p : Int} (h1 : 1 ≤ s) (h2 : s ≤ 4) (h3 : 1 ≤ p) (h4 : p ≤ 1048576) : cfgFault s LS2 p = 0 := by
  unfold cfgFault
  rw [if_neg (by omega), if_neg (by decide), if_neg (by decide), if_neg (by omega)]
set_option maxRecDepth 100000 in
theorem two_any (s : Int) (w : World) (hs : -9223372036854775808 ≤ s ∧ s ≤ 9223372036854775807) :
    Calls Tryd.prog 15 #[.int .i64 s] w fun e w' => ∃ g, e = .returned (.agg #[.int .i64 (1 + pk s 3), .slice (some ⟨g, 0, none⟩) 2 2, .int .i64 3]) ∧ IsLabs w' (some ⟨g, 0, none⟩) 2 2 LS2 ∧ w.heap.size ≤ g ∧ Below w.heap.size w w' := by
  have hp := pk_bd s 3 (by omega)
  have hwr : IntKind.i64.wrap (1 + pk s 3) = 1 + pk s 3 := by simp [IntKind.wrap, IntKind.bits, IntKind.signed]; omega
  have hP := fun u => picked_any s 3 u hs (by omega) (by omega)
  obtain ⟨K, eK⟩ : ∃ K, K = pk s 3 := ⟨_, rfl⟩
  rw [← eK] at hP hwr ⊢
  clear eK hp
  go_enter Tryd.func15, Tryd.ntmps15
  go_wp2_with (go_at_call 13; refine (hP _).mono ?_; rintro e u ⟨rfl, hu⟩; rw [hu]; clear hu)
  obtain ⟨X, eX⟩ : ∃ X : World, X = (w.alloc (.cells #[.int .i64 (1 + K), .slice (some ⟨w.heap.size + 1, 0, none⟩) 2 2, .int .i64 3] 32)).alloc (.cells #[.int .i64 0, .int .i64 0, .int .i64 1, .int .i64 0] 80) := ⟨_, rfl⟩
  have hb : Below w.heap.size w X := by rw [eX]; exact ((Below.refl _ _).alloc (Nat.le_refl _) _).alloc (by simp) _
  have c0 : X.cell? ⟨w.heap.size + 1, 0, none⟩ = some (.int .i64 0) := by rw [eX]; go_simp
  have c1 : X.cell? ⟨w.heap.size + 1, 1, none⟩ = some (.int .i64 0) := by rw [eX]; go_simp
  have c2 : X.cell? ⟨w.heap.size + 1, 2, none⟩ = some (.int .i64 1) := by rw [eX]; go_simp
  have c3 : X.cell? ⟨w.heap.size + 1, 3, none⟩ = some (.int .i64 0) := by rw [eX]; go_simp
  have q0 : X.cell? ⟨w.heap.size, 0, none⟩ = some (.int .i64 (1 + K)) := by rw [eX]; go_simp
  have q1 : X.cell? ⟨w.heap.size, 1, none⟩ = some (.slice (some ⟨w.heap.size + 1, 0, none⟩) 2 2) := by rw [eX]; go_simp
  have q2 : X.cell? ⟨w.heap.size, 2, none⟩ = some (.int .i64 3) := by rw [eX]; go_simp
  have zX : w.heap.size + 1 < X.heap.size := by rw [eX]; simp
  rw [← eX]
  clear eX
  refine bodyPost_ret (v := .agg #[.int .i64 (1 + K), .slice (some ⟨w.heap.size + 1, 0, none⟩) 2 2, .int .i64 3]) (by simp [results, Tryd.results15, go_sem, q0, q1, q2]) rfl ⟨w.heap.size + 1, rfl, ?_, by omega, ?_⟩
  · refine ⟨rfl, Nat.le_refl _, by unfold maxLen; omega, fun _ => ⟨w.heap.size + 1, 0, rfl, zX, fun i hi => ?_⟩⟩
    have hi2 : i = 0 ∨ i = 1 := by simp [LS2] at hi; omega
    rcases hi2 with rfl | rfl
    · exact ⟨c0, c1⟩
    · exact ⟨c2, c3⟩
  · exact hb
end Go.Proofs.YtgohpgollpjlnaaDoor.Pt
/- What a label is told hangs on what it dominates alone, on plain data: two labels. -/
namespace Go.Proofs.YtgohpgollpjlnaaDoor.Cn
open Go.ChangeShapes Go.WideShapes Go.ChangeAt Go.RowKit
open Go.Proofs.YtgohpgollpjlnaaDoor.St (BoxN boxn_new SV PS IsStore IsRow DbV storeOK TxWf own_below txOK)
open Go.Proofs.YtgohpgollpjlnaaDoor.Pt (IsStores NV IsNotes LS2 cfg_two)
set_option linter.unusedVariables false

def nA : NV := ⟨0, 1, false, false⟩
def nB : NV := ⟨0, 2, true, false⟩
theorem sees_00 : seesP LS2 0 0 = true := by decide
theorem sees_01 : seesP LS2 0 1 = false := by decide
theorem sees_10 : seesP LS2 1 0 = true := by decide
theorem sees_11 : seesP LS2 1 1 = true := by decide
theorem sees_out {x : Int} (h : seesP LS2 0 x = true) : x = 0 := by
  unfold seesP at h
  rw [Bool.and_eq_true] at h
  have h1 := inR_bd h.1
  have e : ((LS2.length : Nat) : Int) = 2 := rfl
  rw [e] at h1
  rcases (by omega : x = 0 ∨ x = 1) with rfl | rfl
  · rfl
  · exact absurd h.2 (by decide)
theorem sh_two {l : Int} {r q : SV} {n1 n2 : NL} (hl : l = 0 ∨ l = 1) (h1 : storeOK r = true) (h2 : storeOK q = true) (h3 : notesOK n1.ns = true) (h4 : notesOK n2.ns = true) : shErr 1 LS2 3 l [r, q] [n1, n2] = 0 := by
  unfold shErr
  rw [if_pos (cfg_two (by omega) (by omega) (by omega) (by omega)), if_pos (by rcases hl with rfl | rfl <;> decide), if_pos ⟨rfl, rfl⟩, if_pos]
  intro i hi
  have hi2 : i = 0 ∨ i = 1 := by simp [LS2] at hi; omega
  rcases hi2 with rfl | rfl
  · exact ⟨h1, h3⟩
  · exact ⟨h2, h4⟩
theorem db_data {k : Int} {r : SV} : ∀ (ds : List DbV), listDb k r ds = listDb k r.data.svd ds
  | [] => rfl
  | d :: ds => by
    rw [listDb, listDb, db_data ds]
    rfl
theorem txt_data {ls : List (Int × Int)} {l : Int} {r q : SV} {nl : List NL} {x : Cmd} : showTxt ls l [r, q] nl x = showTxt ls l [r.data.svd, q.data.svd] nl x := by
  have e1 : listGo ls l 0 [r, q] = listGo ls l 0 [r.data.svd, q.data.svd] := by
    simp only [listGo]
    rw [db_data (r := r), db_data (r := q)]
    rfl
  have e2 : stText ls l [r, q] x.label x.site x.num = stText ls l [r.data.svd, q.data.svd] x.label x.site x.num := by
    unfold stText
    rcases x.label.toNat with _ | _ | k
    · rfl
    · rfl
    · rfl
  unfold showTxt
  rw [e1, e2]
/-- What the lower label is told does not hang on the upper one's store, nor on its notes. -/
theorem txt_hidden {r q o : SV} {a1 a2 b1 b2 : Option Addr} {n1 n2 m1 m2 : Nat} {ys : List NV} {x : Cmd} : showTxt LS2 0 [r, q] [⟨a1, n1, n1, [nA]⟩, ⟨a2, n2, n2, ys⟩] x = showTxt LS2 0 [r, o] [⟨b1, m1, m1, [nA]⟩, ⟨b2, m2, m2, []⟩] x := by
  unfold showTxt
  split
  · have e : ∀ z : SV, listGo LS2 0 0 [r, z] = listDb 0 r r.doubts := fun z => by
      simp only [listGo]
      rw [show ((0 : Nat) : Int) = 0 from rfl, show ((0 + 1 : Nat) : Int) = 1 from rfl, sees_00, sees_01]
      simp
    rw [e, e]
  · split
    · unfold stText
      by_cases h : seesP LS2 0 x.label = true
      · have h0 := sees_out h
        rw [h0]
        rfl
      · have h2 : seesP LS2 0 x.label = false := by simpa using h
        rw [h2]
        rfl
    · split
      · have e : ∀ (p : Option Addr) (i : Nat) (p2 : Option Addr) (j k : Nat) (zs : List NV), auditGo LS2 0 0 [⟨p, i, i, [nA]⟩, ⟨p2, j, k, zs⟩] = auditNs 0 [nA] := fun p i p2 j k zs => by
          simp only [auditGo]
          rw [show ((0 : Nat) : Int) = 0 from rfl, show ((0 + 1 : Nat) : Int) = 1 from rfl, sees_00, sees_01]
          simp
        rw [e, e]
      · rfl
theorem itoa_dig {n : Nat} (h : n < 10) : Lib.itoa (n : Int) = [UInt8.ofNat (48 + n)] := by
  rw [Lib.itoa_nonneg, Lib.decDigits_one h]
def ALL : ByteArray := ⟨#[48, 32, 48, 32, 49, 32, 97, 98, 111, 114, 116, 10, 49, 32, 48, 32, 50, 32, 99, 111, 109, 109, 105, 116, 10]⟩
theorem line_A : (ntLine 0 nA) = [48, 32, 48, 32, 49, 32, 97, 98, 111, 114, 116, 10] := by
  have h0 : Lib.itoa 0 = [48] := itoa_dig (n := 0) (by decide)
  have h1 : Lib.itoa 1 = [49] := itoa_dig (n := 1) (by decide)
  unfold ntLine lineBy nA
  simp only [h0, h1]
  rfl
theorem line_B : (ntLine 1 nB) = [49, 32, 48, 32, 50, 32, 99, 111, 109, 109, 105, 116, 10] := by
  have h0 : Lib.itoa 0 = [48] := itoa_dig (n := 0) (by decide)
  have h1 : Lib.itoa 1 = [49] := itoa_dig (n := 1) (by decide)
  have h2 : Lib.itoa 2 = [50] := itoa_dig (n := 2) (by decide)
  unfold ntLine lineBy nB
  simp only [h0, h1, h2]
  rfl
theorem txt_all {r q : SV} {a1 a2 : Option Addr} {n1 n2 : Nat} : showTxt LS2 1 [r, q] [⟨a1, n1, n1, [nA]⟩, ⟨a2, n2, n2, [nB]⟩] ⟨4, 0, 0, 0, false⟩ = ALL := by
  unfold showTxt
  rw [if_neg (by simp), if_neg (by simp), if_pos rfl]
  have e : auditGo LS2 1 0 [⟨a1, n1, n1, [nA]⟩, ⟨a2, n2, n2, [nB]⟩] = ntLine 0 nA ++ ntLine 1 nB := by
    simp only [auditGo, auditNs]
    rw [show ((0 : Nat) : Int) = 0 from rfl, show ((0 + 1 : Nat) : Int) = 1 from rfl, sees_10, sees_11]
    simp
  rw [e, line_A, line_B]
  rfl
theorem audit_short {l : Int} {a1 a2 : Option Addr} {n1 n2 c1 c2 : Nat} {xs ys : List NV} (hx : xs = [nA] ∨ xs = []) (hy : ys = [nB] ∨ ys = []) : (auditGo LS2 l 0 [⟨a1, n1, c1, xs⟩, ⟨a2, n2, c2, ys⟩]).length ≤ 140737488355328 := by
  have hA : (auditNs 0 xs).length ≤ 20 := by rcases hx with rfl | rfl <;> simp [auditNs, line_A]
  have hB : (auditNs 1 ys).length ≤ 20 := by rcases hy with rfl | rfl <;> simp [auditNs, line_B]
  simp only [auditGo]
  rw [show ((0 : Nat) : Int) = 0 from rfl, show ((0 + 1 : Nat) : Int) = 1 from rfl]
  cases seesP LS2 l 0 <;> cases seesP LS2 l 1 <;> simp <;> omega
end Go.Proofs.YtgohpgollpjlnaaDoor.Cn
