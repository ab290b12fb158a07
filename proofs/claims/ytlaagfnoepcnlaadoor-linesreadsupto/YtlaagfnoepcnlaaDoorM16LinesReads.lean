/- Texts of this claim, one behind the other. -/
import Derived.Test.YtlaagfnoepcnlaaDoorShelf
import Derived.Test.YtlaagfnoepcnlaaDoorM12LinesReads
import Derived.Lib.IndexMore
import Derived.BigQuiet
import Derived.Lib.QuietBelow
import Derived.Test.YtlaagfnoepcnlaaDoorM7LinesReads
import Derived.OwnWalk
import Derived.Test.YtlaagfnoepcnlaaDoorM15LinesReads
import Derived.Lib.AtoiErrMem
import Derived.Deep.RegionHeld3
/- strings.Cut at a separator of one byte, whatever the string's size. -/
namespace Go.Proofs.YtlaagfnoepcnlaaDoor.Ln
open Go.ChangeShapes Go.WideShapes Go.ChangeAt Go.RowKit
set_option linter.unusedVariables false

def cutC (c : UInt8) (s : List UInt8) : List UInt8 × List UInt8 × Bool :=
  if 0 ≤ Lib.indexByte s c then (s.take (Lib.indexByte s c).toNat, s.drop ((Lib.indexByte s c).toNat + 1), true) else (s, [], false)
set_option maxRecDepth 100000 in
set_option maxHeartbeats 2000000 in
theorem index1_any (s : ByteArray) (c : UInt8) (w : World) :
    Calls Tryd.prog 73 #[.string s, .string ⟨#[c]⟩] w fun e w' => e = .returned (.int .i64 (Lib.indexByte s.data.toList c)) ∧ w' = w := by
  have h : Calls Tryd.prog 85 #[.string s, .int .u8 c.toNat] w fun e w' => e = .returned (.int .i64 (Lib.indexByte s.data.toList c)) ∧ w' = w := by
    have := Tryd.stringslite_IndexByte s c.toNat w
    simpa using this
  by_cases hs : s = ⟨#[c]⟩
  · subst hs
    have h0 : Lib.indexByte [c] c = 0 := by simp [Lib.indexByte]
    rw [show (ByteArray.mk #[c]).data.toList = [c] from rfl, h0]
    go_enter Tryd.func73, Tryd.ntmps73
    go_wp2_with (fail)
    go_ret
    exact ⟨rfl, rfl⟩
  · have hb : ([c] == s.toList) = false := by
      rw [beq_eq_false_iff_ne]
      intro e
      apply hs
      apply ByteArray.ext
      apply Array.toList_inj.1
      exact (e.trans (Go.ByteArray.toList_eq s)).symm
    go_enter Tryd.func73, Tryd.ntmps73
    go_wp2_with (first | (rw [hb]; done) | (go_at_call 85; refine h.mono ?_; rintro e u ⟨rfl, rfl⟩))
    go_ret
    exact ⟨rfl, rfl⟩
theorem cut_hit {c : UInt8} : ∀ {s : List UInt8}, 0 ≤ Lib.indexByte s c → (Lib.indexByte s c).toNat + 1 ≤ s.length
  | [], h => by simp [Lib.indexByte] at h
  | x :: r, h => by
    unfold Lib.indexByte at h ⊢
    have ih := @cut_hit c r
    split
    · simp
    · rename_i hx
      simp only [hx] at h
      simp only [List.length_cons]
      split at h <;> split <;> simp_all <;> omega
set_option maxRecDepth 100000 in
set_option maxHeartbeats 2000000 in
theorem cutLite_any (s : ByteArray) (c : UInt8) (w : World) (hs : s.size ≤ 9223372036854775807) :
    Calls Tryd.prog 56 #[.string s, .string ⟨#[c]⟩] w fun e w' => e = .returned (.tuple #[.string ⟨(cutC c s.data.toList).1.toArray⟩, .string ⟨(cutC c s.data.toList).2.1.toArray⟩, .bool (cutC c s.data.toList).2.2]) ∧ Below w.heap.size w w' := by
  have h := index1_any s c w
  have hl : s.data.toList.length = s.size := rfl
  by_cases h0 : 0 ≤ Lib.indexByte s.data.toList c
  · have h1 := cut_hit h0
    rw [cutC, if_pos h0]
    obtain ⟨i, hi⟩ : ∃ i : Nat, Lib.indexByte s.data.toList c = (i : Int) := ⟨_, (Int.toNat_of_nonneg h0).symm⟩
    rw [hi] at h h1 ⊢
    simp only [Int.toNat_natCast] at h1 ⊢
    have c1 : (0 : Int) ≤ (i : Int) := by omega
    have c2 : (i : Int) ≤ (s.size : Int) := by omega
    have c3 : (0 : Int) ≤ (i : Int) + 1 := by omega
    have c4 : (i : Int) + 1 ≤ (s.size : Int) := by omega
    have e1 : (⟨(s.data.toList.take i).toArray⟩ : ByteArray) = s.extract 0 i := by rw [Lib.extract_eq]; simp
    have e2 : (⟨(s.data.toList.drop (i + 1)).toArray⟩ : ByteArray) = s.extract (i + 1) s.size := by
      have ht : List.take (s.size - (i + 1)) (List.drop (i + 1) s.data.toList) = List.drop (i + 1) s.data.toList := List.take_of_length_le (by rw [List.length_drop]; omega)
      rw [Lib.extract_eq, ht]
    go_enter Tryd.func56, Tryd.ntmps56
    go_wp2_with (go_at_call 73; refine h.mono ?_; rintro e u ⟨rfl, rfl⟩)
    have mixed : Tryd.prog.follows .mixedOrders = true := by kernel_rfl
    have w1 : IntKind.i64.wrap ((i : Int) + 1) = (i : Int) + 1 := by rw [IntKind.wrap_i64]; omega
    have w2 : ((i : Int) + 1).toNat = i + 1 := by omega
    go_region_o
    go_wp2
    go_ret3
    refine ⟨?_, (Below.refl _ _).drew⟩
    rw [e1, e2]
    rfl
  · have h1 : Lib.indexByte s.data.toList c < 0 := by omega
    rw [cutC, if_neg h0]
    go_enter Tryd.func56, Tryd.ntmps56
    go_wp2_with (go_at_call 73; refine h.mono ?_; rintro e u ⟨rfl, rfl⟩)
    go_ret3
    exact ⟨rfl, Below.refl _ _⟩
set_option maxRecDepth 100000 in
set_option maxHeartbeats 2000000 in
theorem cut_any (s : ByteArray) (c : UInt8) (w : World) (hs : s.size ≤ 9223372036854775807) :
    Calls Tryd.prog 28 #[.string s, .string ⟨#[c]⟩] w fun e w' => e = .returned (.tuple #[.string ⟨(cutC c s.data.toList).1.toArray⟩, .string ⟨(cutC c s.data.toList).2.1.toArray⟩, .bool (cutC c s.data.toList).2.2]) ∧ Below w.heap.size w w' := by
  have h := cutLite_any s c w hs
  go_enter Tryd.func28, Tryd.ntmps28
  go_wp2_with (go_at_call 56; refine h.mono ?_; rintro e u ⟨rfl, hb⟩)
  go_ret3
  exact ⟨rfl, hb⟩
end Go.Proofs.YtlaagfnoepcnlaaDoor.Ln
/- lines' reader: a box of three cells; what a call of it leaves; word. -/
namespace Go.Proofs.YtlaagfnoepcnlaaDoor.Ln
open Go.ChangeShapes Go.WideShapes Go.ChangeAt Go.RowKit
open Go.Proofs.YtlaagfnoepcnlaaDoor.St (BoxN boxn_new)
set_option linter.unusedVariables false

/-- All that lay there lies there still, but for one block. -/
structure Sav (q : Nat) (w w' : World) : Prop where
  os : w'.os = w.os
  tape : w'.tape = w.tape
  output : w'.output = w.output
  size : w.heap.size ≤ w'.heap.size
  block : ∀ k, k < w.heap.size → k ≠ q → w'.heap[k]? = w.heap[k]?
theorem Sav.refl (q : Nat) (w : World) : Sav q w w := ⟨rfl, rfl, rfl, Nat.le_refl _, fun _ _ _ => rfl⟩
theorem Sav.trans {q : Nat} {u v z : World} (h : Sav q u v) (k : Sav q v z) : Sav q u z :=
  ⟨k.os.trans h.os, k.tape.trans h.tape, k.output.trans h.output, Nat.le_trans h.size k.size, fun j hj hq => (k.block j (Nat.lt_of_lt_of_le hj h.size) hq).trans (h.block j hj hq)⟩
theorem Sav.of {q : Nat} {u v : World} (h : Below u.heap.size u v) : Sav q u v := ⟨h.os, h.tape, h.output, h.size, fun j hj _ => h.block j hj⟩
theorem Sav.below {q B : Nat} {u v : World} (h : Sav q u v) (hB : B ≤ q) (hu : B ≤ u.heap.size) : Below B u v := ⟨h.os, h.tape, h.output, h.size, fun j hj => h.block j (by omega) (by omega)⟩
theorem Sav.set {q k : Nat} {u v : World} {x : Value} (h : Sav q u v) : Sav q u (v.setCell ⟨q, k, none⟩ x) := by
  have b := (Below.refl q v).setCell (p := ⟨q, k, none⟩) (Nat.le_refl q) x
  exact ⟨b.os.trans h.os, b.tape.trans h.tape, b.output.trans h.output, Nat.le_trans h.size b.size, fun j hj hq => (Below.heap_setCell v _ _ j (fun e => hq e)).trans (h.block j hj hq)⟩
theorem Sav.box {q b n : Nat} {vs : List Value} {u v : World} (h : Sav q u v) (hb : BoxN u b n vs) (hq : b ≠ q) : BoxN v b n vs := by
  have e := h.block b hb.lt hq
  refine ⟨hb.len, Nat.lt_of_lt_of_le hb.lt h.size, fun i hi => ⟨?_, ?_⟩⟩
  · rw [World.cell?_of_block (a := ⟨b, i, none⟩) e]; exact (hb.c i hi).1
  · rw [World.frozen?_of_block (a := ⟨b, i, none⟩) e]; exact (hb.c i hi).2
theorem Sav.drew {q : Nat} {u v : World} (h : Sav q u v) : Sav q u v.drew := ⟨h.os, h.tape, h.output, h.size, h.block⟩

/-- A reader: what is left, that no word is left, that something was wrong. -/
def rdC (r : List UInt8) (en wr : Bool) : List Value := [.string ⟨r.toArray⟩, .bool en, .bool wr]
set_option maxRecDepth 100000 in
set_option maxHeartbeats 4000000 in
theorem word_any (q : Nat) (r : List UInt8) (en wr : Bool) (u : World) (bx : BoxN u q 3 (rdC r en wr)) (hs : r.length ≤ 9223372036854775807) :
    Calls Tryd.prog 75 #[.pointer (some ⟨q, 0, none⟩)] u fun e u' => e = .returned (.string ⟨(cutC 32 r).1.toArray⟩) ∧ BoxN u' q 3 (rdC (cutC 32 r).2.1 (!(cutC 32 r).2.2) wr) ∧ Sav q u u' := by
  have h := cut_any ⟨r.toArray⟩ 32 u (by show r.toArray.size ≤ _; simpa using hs)
  simp only at h
  have c0 : u.cell? ⟨q, 0, none⟩ = some (.string ⟨r.toArray⟩) := (bx.c 0 (by decide)).1
  have zq := bx.lt
  obtain ⟨A, eA⟩ : ∃ x, x = (cutC 32 r).1 := ⟨_, rfl⟩
  obtain ⟨R, eR⟩ : ∃ x, x = (cutC 32 r).2.1 := ⟨_, rfl⟩
  obtain ⟨M, eM⟩ : ∃ x, x = (cutC 32 r).2.2 := ⟨_, rfl⟩
  rw [← eA, ← eR, ← eM] at h ⊢
  have HB : Hid (BoxN u q 3 (rdC r en wr)) := bx
  clear bx eA eR eM
  go_enter Tryd.func75, Tryd.ntmps75
  go_upto_region 2 with (go_at_call 28; refine h.mono ?_; rintro e v ⟨rfl, hb⟩)
  have b1 := HB.out.below hb zq
  have c0 : v.cell? ⟨q, 0, none⟩ = some (.string ⟨r.toArray⟩) := (b1.c 0 (by decide)).1
  have c1 : v.cell? ⟨q, 1, none⟩ = some (.bool en) := (b1.c 1 (by decide)).1
  have f0 := (b1.c 0 (by decide)).2
  have f1 := (b1.c 1 (by decide)).2
  have zq2 := b1.lt
  have HB1 : Hid (BoxN v q 3 (rdC r en wr)) := b1
  clear b1
  go_wp2
  go_ret
  exact ⟨rfl, ((HB1.out.set 0 (by decide) (.string ⟨R.toArray⟩)).set 1 (by decide) (.bool !M)), ((Sav.of hb).set).set⟩
end Go.Proofs.YtlaagfnoepcnlaaDoor.Ln
/- lines' reader: number. -/
namespace Go.Proofs.YtlaagfnoepcnlaaDoor.Ln
open Go.ChangeShapes Go.WideShapes Go.ChangeAt Go.RowKit
open Go.Proofs.YtlaagfnoepcnlaaDoor.St (BoxN boxn_new)
set_option linter.unusedVariables false

/-- What lies in the library's variables, for the reader. -/
structure RdW (w : World) : Prop where
  tab : Lib.TabIs Tryd.prog w "internal/strconv.uint64pow10" .u64 Lib.pow10Tab
  syn : ∃ ev, w.cell? ⟨9, 0, none⟩ = some ev ∧ (ev = .nilIface ∨ ∃ te pe, ev = .iface te pe)
  rng : ∃ ev, w.cell? ⟨10, 0, none⟩ = some ev ∧ (ev = .nilIface ∨ ∃ te pe, ev = .iface te pe)
/-- The number that a word is written for. -/
def numL (l : List UInt8) : Option Int := match Lib.atoiAll l with
  | .ok v => if Lib.itoa v = l then some v else none
  | _ => none
theorem atoi_range {l : List UInt8} {v : Int} (h : Lib.atoiAll l = .ok v) : -9223372036854775808 ≤ v ∧ v ≤ 9223372036854775807 := by
  unfold Lib.atoiAll at h
  split at h
  · cases h
  · simp only at h
    split at h
    · cases h
    · cases h
    · split at h
      · cases h
      · split at h
        · cases h
        · injection h with h
          subst h
          split <;> omega
theorem cutC_len {c : UInt8} {r : List UInt8} : (cutC c r).1.length ≤ r.length ∧ (cutC c r).2.1.length ≤ r.length := by
  unfold cutC
  split
  · exact ⟨by simp; omega, by simp⟩
  · exact ⟨Nat.le_refl _, Nat.zero_le _⟩
theorem iface_bld (w : World) (e : TypeId) (s : ByteArray) : Below w.heap.size w (Lib.bytesWorld w e s) := Lib.bytesWorld_below w e s
theorem grow_below (w : World) (k : Nat) (os : Array Obj) : Below w.heap.size w (Go.Sort.grow (w.drewN k) os) := by
  refine ⟨rfl, rfl, rfl, ?_, fun j hj => ?_⟩
  · simp [Go.Sort.grow, World.drewN]
  · simp only [Go.Sort.grow, World.drewN]
    rw [Array.getElem?_append_left hj]
set_option maxRecDepth 100000 in
set_option maxHeartbeats 4000000 in
theorem number_any (q : Nat) (r : List UInt8) (en wr : Bool) (u : World) (bx : BoxN u q 3 (rdC r en wr)) (hs : r.length ≤ 140737488355328) (hT : ∀ U, Sav q u U → RdW U) :
    Calls Tryd.prog 89 #[.pointer (some ⟨q, 0, none⟩)] u fun e u' => ∃ n, e = .returned (.int .i64 n) ∧ i64n n ∧ (∀ v, numL (cutC 32 r).1 = some v → n = v) ∧ BoxN u' q 3 (rdC (cutC 32 r).2.1 (!(cutC 32 r).2.2) (wr || (numL (cutC 32 r).1).isNone)) ∧ Sav q u u' := by
  have hw := word_any q r en wr u bx (by omega)
  have hA0 := (cutC_len (c := 32) (r := r)).1
  have HT : Hid (∀ U, Sav q u U → RdW U) := hT
  obtain ⟨A, eA⟩ : ∃ x, x = (cutC 32 r).1 := ⟨_, rfl⟩
  obtain ⟨R, eR⟩ : ∃ x, x = (cutC 32 r).2.1 := ⟨_, rfl⟩
  obtain ⟨M, eM⟩ : ∃ x, x = !(cutC 32 r).2.2 := ⟨_, rfl⟩
  rw [← eA] at hA0
  rw [← eA, ← eR, ← eM] at hw ⊢
  have hAs : (⟨A.toArray⟩ : ByteArray).size ≤ 140737488355328 := by show A.toArray.size ≤ _; simp; omega
  clear bx eA eR eM hT
  cases hA : Lib.atoiAll A with
  | «syntax» =>
    have HN : Hid (numL A = none) := by show _ = _; unfold numL; rw [hA]
    go_enter Tryd.func89, Tryd.ntmps89
    go_upto_region 2 with (go_at_call 75; refine hw.mono ?_; rintro e u1 ⟨rfl, b1, s1⟩)
    obtain ⟨ev, hv, hev⟩ := (HT.out u1 s1).syn
    have hc := Tryd.strconv_Atoi_syntax ⟨A.toArray⟩ (by omega) (by simpa using hA) ev u1 hv hev
    clear hv hev hA0 hAs hA
    have HB1 : Hid (BoxN u1 q 3 (rdC R M wr)) := b1
    go_upto_region 3 with (go_at_call 99; refine hc.mono ?_; rintro e u2 ⟨N, rfl, -, -, hu⟩)
    have b2 := HB1.out.below hu b1.lt
    have c2 : u2.cell? ⟨q, 2, none⟩ = some (.bool wr) := (b2.c 2 (by decide)).1
    have f2 := (b2.c 2 (by decide)).2
    have HB2 : Hid (BoxN u2 q 3 (rdC R M wr)) := b2
    have z2 := b2.lt
    clear b1 b2
    go_wp2
    go_ret
    refine ⟨_, rfl, (by unfold i64n; first | decide | (unfold Lib.atoiSat; split <;> decide)), fun v h => (by rw [HN.out] at h; cases h), ?_, (s1.trans (Sav.of hu)).set⟩
    rw [HN.out]
    simpa [rdC] using HB2.out.set 2 (by decide) (.bool true)
  | range =>
    have HN : Hid (numL A = none) := by show _ = _; unfold numL; rw [hA]
    go_enter Tryd.func89, Tryd.ntmps89
    go_upto_region 2 with (go_at_call 75; refine hw.mono ?_; rintro e u1 ⟨rfl, b1, s1⟩)
    obtain ⟨ev, hv, hev⟩ := (HT.out u1 s1).rng
    have hc := Tryd.strconv_Atoi_range ⟨A.toArray⟩ (by omega) (by simpa using hA) ev u1 hv hev
    clear hv hev hA0 hAs hA
    have HB1 : Hid (BoxN u1 q 3 (rdC R M wr)) := b1
    go_upto_region 3 with (go_at_call 99; refine hc.mono ?_; rintro e u2 ⟨N, rfl, -, -, hu⟩)
    have b2 := HB1.out.below hu b1.lt
    have c2 : u2.cell? ⟨q, 2, none⟩ = some (.bool wr) := (b2.c 2 (by decide)).1
    have f2 := (b2.c 2 (by decide)).2
    have HB2 : Hid (BoxN u2 q 3 (rdC R M wr)) := b2
    have z2 := b2.lt
    clear b1 b2
    go_wp2
    go_ret
    refine ⟨_, rfl, (by unfold i64n; first | decide | (unfold Lib.atoiSat; split <;> decide)), fun v h => (by rw [HN.out] at h; cases h), ?_, (s1.trans (Sav.of hu)).set⟩
    rw [HN.out]
    simpa [rdC] using HB2.out.set 2 (by decide) (.bool true)
  | ok v =>
    obtain ⟨v1, v2⟩ := atoi_range hA
    have HV : Hid (i64n v) := ⟨v1, v2⟩
    have HN : Hid (numL A = if Lib.itoa v = A then some v else none) := by show _ = _; unfold numL; rw [hA]
    have hI : Hid (∀ U, Sav q u U → Calls Tryd.prog 46 #[.int .i64 v] U fun e w' => e = .returned (.string ⟨(Lib.itoa v).toArray⟩) ∧ Below U.heap.size U w') := fun U hU => by
      refine (Tryd.strconv_Itoa v v1 v2 U (HT.out U hU).tab).mono ?_
      rintro e w' ⟨rfl, k, os, rfl⟩
      exact ⟨rfl, grow_below U k os⟩
    go_enter Tryd.func89, Tryd.ntmps89
    go_upto_region 2 with (go_at_call 75; refine hw.mono ?_; rintro e u1 ⟨rfl, b1, s1⟩)
    have hc := Tryd.strconv_Atoi_ok ⟨A.toArray⟩ (by omega) v (by simpa using hA) u1
    clear hA0 hAs hA
    have HB1 : Hid (BoxN u1 q 3 (rdC R M wr)) := b1
    go_upto_region 3 with (go_at_call 99; refine hc.mono ?_; rintro e u2 ⟨rfl, hu'⟩; have hu : Below u1.heap.size u1 u2 := hu'.elim (fun h8 => by rw [h8]; exact Below.refl _ _) (fun ⟨t, h8⟩ => by rw [h8]; exact iface_bld _ _ _); clear hu')
    have b2 := HB1.out.below hu b1.lt
    have s2 := s1.trans (Sav.of hu)
    have hIu := hI.out u2 s2
    clear hc hI b1 v1 v2
    by_cases hE : Lib.itoa v = A
    · have hE2 : (Lib.itoa v == A) = true := by rw [hE]; simp
      have HN2 : Hid (numL A = some v) := by show _ = _; rw [HN.out, if_pos hE]
      have HB2 : Hid (BoxN u2 q 3 (rdC R M wr)) := b2
      have z2 := b2.lt
      clear HN hE b2 HB1
      go_wp2_with (go_at_call 46; refine hIu.mono ?_; rintro e z ⟨rfl, hz⟩)
      all_goals first | (exact absurd ‹¬ _› (by assumption)) | skip
      go_ret
      refine ⟨_, rfl, HV.out, fun x h => (by rw [HN2.out] at h; injection h), ?_, s2.trans (Sav.of hz)⟩
      rw [HN2.out]
      simpa [rdC] using HB2.out.below hz z2
    · have hE2 : (Lib.itoa v == A) = false := by simpa using hE
      have HN2 : Hid (numL A = none) := by show _ = _; rw [HN.out, if_neg hE]
      have HB2 : Hid (BoxN u2 q 3 (rdC R M wr)) := b2
      have z2 := b2.lt
      clear HN hE b2 HB1
      go_upto_region 4 with (go_at_call 46; refine hIu.mono ?_; rintro e z ⟨rfl, hz⟩)
      have b3 := HB2.out.below hz z2
      have c2 : z.cell? ⟨q, 2, none⟩ = some (.bool wr) := (b3.c 2 (by decide)).1
      have f2 := (b3.c 2 (by decide)).2
      have HB3 : Hid (BoxN z q 3 (rdC R M wr)) := b3
      have z3 := b3.lt
      clear b3
      go_wp2
      go_ret
      refine ⟨_, rfl, HV.out, fun x h => (by rw [HN2.out] at h; cases h), ?_, (s2.trans (Sav.of hz)).set⟩
      rw [HN2.out]
      simpa [rdC] using HB3.out.set 2 (by decide) (.bool true)
end Go.Proofs.YtlaagfnoepcnlaaDoor.Ln
