/- Texts of this claim, one behind the other. -/
import Derived.Test.YtlaagfnoepcnlaaDoorM20LinesBad
import Derived.Test.YtlaagfnoepcnlaaDoorM13LinesBad
import Derived.OwnWalk
import Derived.Lib.AtoiErrMem
import Derived.Deep.RegionHeld3
import Derived.Lib.SplitLaws
import Derived.Lib.AtoiAll
import Derived.Lib.ItoaMem
/- lines' reader: a box of three cells; what a call of it leaves; word. -/
namespace Go.Proofs.YtlaagfnoepcnlaaDoor.Ln
open Go.ChangeShapes Go.WideShapes Go.ChangeAt Go.RowKit
open Go.Proofs.YtlaagfnoepcnlaaDoor.St (BoxN boxn_new)
set_option linter.unusedVariables false

/-- All that lay there lies there still, but for one block. -/
structure Sav (q : Nat) (w w' : World) : Prop where
  os : w'.os = w.os
  tape : w'.tape = w.tape
  output : w'.output = w.output
  size : w.heap.size ≤ w'.heap.size
  block : ∀ k, k < w.heap.size → k ≠ q → w'.heap[k]? = w.heap[k]?
theorem Sav.refl (q : Nat) (w : World) : Sav q w w := ⟨rfl, rfl, rfl, Nat.le_refl _, fun _ _ _ => rfl⟩
theorem Sav.trans {q : Nat} {u v z : World} (h : Sav q u v) (k : Sav q v z) : Sav q u z :=
  ⟨k.os.trans h.os, k.tape.trans h.tape, k.output.trans h.output, Nat.le_trans h.size k.size, fun j hj hq => (k.block j (Nat.lt_of_lt_of_le hj h.size) hq).trans (h.block j hj hq)⟩
theorem Sav.of {q : Nat} {u v : World} (h : Below u.heap.size u v) : Sav q u v := ⟨h.os, h.tape, h.output, h.size, fun j hj _ => h.block j hj⟩
theorem Sav.below {q B : Nat} {u v : World} (h : Sav q u v) (hB : B ≤ q) (hu : B ≤ u.heap.size) : Below B u v := ⟨h.os, h.tape, h.output, h.size, fun j hj => h.block j (by omega) (by omega)⟩
theorem Sav.set {q k : Nat} {u v : World} {x : Value} (h : Sav q u v) : Sav q u (v.setCell ⟨q, k, none⟩ x) := by
  have b := (Below.refl q v).setCell (p := ⟨q, k, none⟩) (Nat.le_refl q) x
  exact ⟨b.os.trans h.os, b.tape.trans h.tape, b.output.trans h.output, Nat.le_trans h.size b.size, fun j hj hq => (Below.heap_setCell v _ _ j (fun e => hq e)).trans (h.block j hj hq)⟩
theorem Sav.box {q b n : Nat} {vs : List Value} {u v : World} (h : Sav q u v) (hb : BoxN u b n vs) (hq : b ≠ q) : BoxN v b n vs := by
  have e := h.block b hb.lt hq
  refine ⟨hb.len, Nat.lt_of_lt_of_le hb.lt h.size, fun i hi => ⟨?_, ?_⟩⟩
  · rw [World.cell?_of_block (a := ⟨b, i, none⟩) e]; exact (hb.c i hi).1
  · rw [World.frozen?_of_block (a := ⟨b, i, none⟩) e]; exact (hb.c i hi).2
theorem Sav.drew {q : Nat} {u v : World} (h : Sav q u v) : Sav q u v.drew := ⟨h.os, h.tape, h.output, h.size, h.block⟩

/-- A reader: what is left, that no word is left, that something was wrong. -/
def rdC (r : List UInt8) (en wr : Bool) : List Value := [.string ⟨r.toArray⟩, .bool en, .bool wr]
set_option maxRecDepth 100000 in
set_option maxHeartbeats 4000000 in
theorem word_any (q : Nat) (r : List UInt8) (en wr : Bool) (u : World) (bx : BoxN u q 3 (rdC r en wr)) (hs : r.length ≤ 9223372036854775807) :
    Calls Tryd.prog 75 #[.pointer (some ⟨q, 0, none⟩)] u fun e u' => e = .returned (.string ⟨(cutC 32 r).1.toArray⟩) ∧ BoxN u' q 3 (rdC (cutC 32 r).2.1 (!(cutC 32 r).2.2) wr) ∧ Sav q u u' := by
  have h := cut_any ⟨r.toArray⟩ 32 u (by show r.toArray.size ≤ _; simpa using hs)
  simp only at h
  have c0 : u.cell? ⟨q, 0, none⟩ = some (.string ⟨r.toArray⟩) := (bx.c 0 (by decide)).1
  have zq := bx.lt
  obtain ⟨A, eA⟩ : ∃ x, x = (cutC 32 r).1 := ⟨_, rfl⟩
  obtain ⟨R, eR⟩ : ∃ x, x = (cutC 32 r).2.1 := ⟨_, rfl⟩
  obtain ⟨M, eM⟩ : ∃ x, x = (cutC 32 r).2.2 := ⟨_, rfl⟩
  rw [← eA, ← eR, ← eM] at h ⊢
  have HB : Hid (BoxN u q 3 (rdC r en wr)) := bx
  clear bx eA eR eM
  go_enter Tryd.func75, Tryd.ntmps75
  go_upto_region 2 with (go_at_call 28; refine h.mono ?_; rintro e v ⟨rfl, hb⟩)
  have b1 := HB.out.below hb zq
  have c0 : v.cell? ⟨q, 0, none⟩ = some (.string ⟨r.toArray⟩) := (b1.c 0 (by decide)).1
  have c1 : v.cell? ⟨q, 1, none⟩ = some (.bool en) := (b1.c 1 (by decide)).1
  have f0 := (b1.c 0 (by decide)).2
  have f1 := (b1.c 1 (by decide)).2
  have zq2 := b1.lt
  have HB1 : Hid (BoxN v q 3 (rdC r en wr)) := b1
  clear b1
  go_wp2
  go_ret
  exact ⟨rfl, ((HB1.out.set 0 (by decide) (.string ⟨R.toArray⟩)).set 1 (by decide) (.bool !M)), ((Sav.of hb).set).set⟩
end Go.Proofs.YtlaagfnoepcnlaaDoor.Ln
/- lines' reader: number. -/
namespace Go.Proofs.YtlaagfnoepcnlaaDoor.Ln
open Go.ChangeShapes Go.WideShapes Go.ChangeAt Go.RowKit
open Go.Proofs.YtlaagfnoepcnlaaDoor.St (BoxN boxn_new)
set_option linter.unusedVariables false

/-- What lies in the library's variables, for the reader. -/
structure RdW (w : World) : Prop where
  tab : Lib.TabIs Tryd.prog w "internal/strconv.uint64pow10" .u64 Lib.pow10Tab
  syn : ∃ ev, w.cell? ⟨9, 0, none⟩ = some ev ∧ (ev = .nilIface ∨ ∃ te pe, ev = .iface te pe)
  rng : ∃ ev, w.cell? ⟨10, 0, none⟩ = some ev ∧ (ev = .nilIface ∨ ∃ te pe, ev = .iface te pe)
/-- The number that a word is written for. -/
def numL (l : List UInt8) : Option Int := match Lib.atoiAll l with
  | .ok v => if Lib.itoa v = l then some v else none
  | _ => none
theorem atoi_range {l : List UInt8} {v : Int} (h : Lib.atoiAll l = .ok v) : -9223372036854775808 ≤ v ∧ v ≤ 9223372036854775807 := by
  unfold Lib.atoiAll at h
  split at h
  · cases h
  · simp only at h
    split at h
    · cases h
    · cases h
    · split at h
      · cases h
      · split at h
        · cases h
        · injection h with h
          subst h
          split <;> omega
theorem cutC_len {c : UInt8} {r : List UInt8} : (cutC c r).1.length ≤ r.length ∧ (cutC c r).2.1.length ≤ r.length := by
  unfold cutC
  split
  · exact ⟨by simp; omega, by simp⟩
  · exact ⟨Nat.le_refl _, Nat.zero_le _⟩
theorem iface_bld (w : World) (e : TypeId) (s : ByteArray) : Below w.heap.size w (Lib.bytesWorld w e s) := Lib.bytesWorld_below w e s
theorem grow_below (w : World) (k : Nat) (os : Array Obj) : Below w.heap.size w (Go.Sort.grow (w.drewN k) os) := by
  refine ⟨rfl, rfl, rfl, ?_, fun j hj => ?_⟩
  · simp [Go.Sort.grow, World.drewN]
  · simp only [Go.Sort.grow, World.drewN]
    rw [Array.getElem?_append_left hj]
set_option maxRecDepth 100000 in
set_option maxHeartbeats 4000000 in
theorem number_any (q : Nat) (r : List UInt8) (en wr : Bool) (u : World) (bx : BoxN u q 3 (rdC r en wr)) (hs : r.length ≤ 140737488355328) (hT : ∀ U, Sav q u U → RdW U) :
    Calls Tryd.prog 89 #[.pointer (some ⟨q, 0, none⟩)] u fun e u' => ∃ n, e = .returned (.int .i64 n) ∧ i64n n ∧ (∀ v, numL (cutC 32 r).1 = some v → n = v) ∧ BoxN u' q 3 (rdC (cutC 32 r).2.1 (!(cutC 32 r).2.2) (wr || (numL (cutC 32 r).1).isNone)) ∧ Sav q u u' := by
  have hw := word_any q r en wr u bx (by omega)
  have hA0 := (cutC_len (c := 32) (r := r)).1
  have HT : Hid (∀ U, Sav q u U → RdW U) := hT
  obtain ⟨A, eA⟩ : ∃ x, x = (cutC 32 r).1 := ⟨_, rfl⟩
  obtain ⟨R, eR⟩ : ∃ x, x = (cutC 32 r).2.1 := ⟨_, rfl⟩
  obtain ⟨M, eM⟩ : ∃ x, x = !(cutC 32 r).2.2 := ⟨_, rfl⟩
  rw [← eA] at hA0
  rw [← eA, ← eR, ← eM] at hw ⊢
  have hAs : (⟨A.toArray⟩ : ByteArray).size ≤ 140737488355328 := by show A.toArray.size ≤ _; simp; omega
  clear bx eA eR eM hT
  cases hA : Lib.atoiAll A with
  | «syntax» =>
    have HN : Hid (numL A = none) := by show _ = _; unfold numL; rw [hA]
    go_enter Tryd.func89, Tryd.ntmps89
    go_upto_region 2 with (go_at_call 75; refine hw.mono ?_; rintro e u1 ⟨rfl, b1, s1⟩)
    obtain ⟨ev, hv, hev⟩ := (HT.out u1 s1).syn
    have hc := Tryd.strconv_Atoi_syntax ⟨A.toArray⟩ (by omega) (by simpa using hA) ev u1 hv hev
    clear hv hev hA0 hAs hA
    have HB1 : Hid (BoxN u1 q 3 (rdC R M wr)) := b1
    go_upto_region 3 with (go_at_call 99; refine hc.mono ?_; rintro e u2 ⟨N, rfl, -, -, hu⟩)
    have b2 := HB1.out.below hu b1.lt
    have c2 : u2.cell? ⟨q, 2, none⟩ = some (.bool wr) := (b2.c 2 (by decide)).1
    have f2 := (b2.c 2 (by decide)).2
    have HB2 : Hid (BoxN u2 q 3 (rdC R M wr)) := b2
    have z2 := b2.lt
    clear b1 b2
    go_wp2
    go_ret
    refine ⟨_, rfl, (by unfold i64n; first | decide | (unfold Lib.atoiSat; split <;> decide)), fun v h => (by rw [HN.out] at h; cases h), ?_, (s1.trans (Sav.of hu)).set⟩
    rw [HN.out]
    simpa [rdC] using HB2.out.set 2 (by decide) (.bool true)
  | range =>
    have HN : Hid (numL A = none) := by show _ = _; unfold numL; rw [hA]
    go_enter Tryd.func89, Tryd.ntmps89
    go_upto_region 2 with (go_at_call 75; refine hw.mono ?_; rintro e u1 ⟨rfl, b1, s1⟩)
    obtain ⟨ev, hv, hev⟩ := (HT.out u1 s1).rng
    have hc := Tryd.strconv_Atoi_range ⟨A.toArray⟩ (by omega) (by simpa using hA) ev u1 hv hev
    clear hv hev hA0 hAs hA
    have HB1 : Hid (BoxN u1 q 3 (rdC R M wr)) := b1
    go_upto_region 3 with (go_at_call 99; refine hc.mono ?_; rintro e u2 ⟨N, rfl, -, -, hu⟩)
    have b2 := HB1.out.below hu b1.lt
    have c2 : u2.cell? ⟨q, 2, none⟩ = some (.bool wr) := (b2.c 2 (by decide)).1
    have f2 := (b2.c 2 (by decide)).2
    have HB2 : Hid (BoxN u2 q 3 (rdC R M wr)) := b2
    have z2 := b2.lt
    clear b1 b2
    go_wp2
    go_ret
    refine ⟨_, rfl, (by unfold i64n; first | decide | (unfold Lib.atoiSat; split <;> decide)), fun v h => (by rw [HN.out] at h; cases h), ?_, (s1.trans (Sav.of hu)).set⟩
    rw [HN.out]
    simpa [rdC] using HB2.out.set 2 (by decide) (.bool true)
  | ok v =>
    obtain ⟨v1, v2⟩ := atoi_range hA
    have HV : Hid (i64n v) := ⟨v1, v2⟩
    have HN : Hid (numL A = if Lib.itoa v = A then some v else none) := by show _ = _; unfold numL; rw [hA]
    have hI : Hid (∀ U, Sav q u U → Calls Tryd.prog 46 #[.int .i64 v] U fun e w' => e = .returned (.string ⟨(Lib.itoa v).toArray⟩) ∧ Below U.heap.size U w') := fun U hU => by
      refine (Tryd.strconv_Itoa v v1 v2 U (HT.out U hU).tab).mono ?_
      rintro e w' ⟨rfl, k, os, rfl⟩
      exact ⟨rfl, grow_below U k os⟩
    go_enter Tryd.func89, Tryd.ntmps89
    go_upto_region 2 with (go_at_call 75; refine hw.mono ?_; rintro e u1 ⟨rfl, b1, s1⟩)
    have hc := Tryd.strconv_Atoi_ok ⟨A.toArray⟩ (by omega) v (by simpa using hA) u1
    clear hA0 hAs hA
    have HB1 : Hid (BoxN u1 q 3 (rdC R M wr)) := b1
    go_upto_region 3 with (go_at_call 99; refine hc.mono ?_; rintro e u2 ⟨rfl, hu'⟩; have hu : Below u1.heap.size u1 u2 := hu'.elim (fun h8 => by rw [h8]; exact Below.refl _ _) (fun ⟨t, h8⟩ => by rw [h8]; exact iface_bld _ _ _); clear hu')
    have b2 := HB1.out.below hu b1.lt
    have s2 := s1.trans (Sav.of hu)
    have hIu := hI.out u2 s2
    clear hc hI b1 v1 v2
    by_cases hE : Lib.itoa v = A
    · have hE2 : (Lib.itoa v == A) = true := by rw [hE]; simp
      have HN2 : Hid (numL A = some v) := by show _ = _; rw [HN.out, if_pos hE]
      have HB2 : Hid (BoxN u2 q 3 (rdC R M wr)) := b2
      have z2 := b2.lt
      clear HN hE b2 HB1
      go_wp2_with (go_at_call 46; refine hIu.mono ?_; rintro e z ⟨rfl, hz⟩)
      all_goals first | (exact absurd ‹¬ _› (by assumption)) | skip
      go_ret
      refine ⟨_, rfl, HV.out, fun x h => (by rw [HN2.out] at h; injection h), ?_, s2.trans (Sav.of hz)⟩
      rw [HN2.out]
      simpa [rdC] using HB2.out.below hz z2
    · have hE2 : (Lib.itoa v == A) = false := by simpa using hE
      have HN2 : Hid (numL A = none) := by show _ = _; rw [HN.out, if_neg hE]
      have HB2 : Hid (BoxN u2 q 3 (rdC R M wr)) := b2
      have z2 := b2.lt
      clear HN hE b2 HB1
      go_upto_region 4 with (go_at_call 46; refine hIu.mono ?_; rintro e z ⟨rfl, hz⟩)
      have b3 := HB2.out.below hz z2
      have c2 : z.cell? ⟨q, 2, none⟩ = some (.bool wr) := (b3.c 2 (by decide)).1
      have f2 := (b3.c 2 (by decide)).2
      have HB3 : Hid (BoxN z q 3 (rdC R M wr)) := b3
      have z3 := b3.lt
      clear b3
      go_wp2
      go_ret
      refine ⟨_, rfl, HV.out, fun x h => (by rw [HN2.out] at h; cases h), ?_, (s2.trans (Sav.of hz)).set⟩
      rw [HN2.out]
      simpa [rdC] using HB3.out.set 2 (by decide) (.bool true)
end Go.Proofs.YtlaagfnoepcnlaaDoor.Ln
/- What an operator types, on plain data: words parted by blanks, numbers as they are written. -/
namespace Go.Proofs.YtlaagfnoepcnlaaDoor.Cn
open Go
set_option linter.unusedVariables false

/-- Words, parted by single blanks. -/
def spl : List UInt8 → List (List UInt8)
  | [] => [[]]
  | c :: r => if c = 32 then [] :: spl r else match spl r with
    | [] => [[c]]
    | x :: xs => (c :: x) :: xs
theorem spl_ne (l : List UInt8) : spl l ≠ [] := by
  cases l with
  | nil => simp [spl]
  | cons c r =>
    rw [spl]
    split
    · simp
    · split <;> simp
theorem spl_none {l : List UInt8} (h : ∀ c ∈ l, c ≠ 32) : spl l = [l] := by
  induction l with
  | nil => rfl
  | cons c r ih =>
    rw [spl, if_neg (h c (by simp)), ih (fun x hx => h x (by simp [hx]))]
theorem spl_blank (a r : List UInt8) (h : ∀ c ∈ a, c ≠ 32) : spl (a ++ 32 :: r) = a :: spl r := by
  induction a with
  | nil => simp [spl]
  | cons c t ih =>
    rw [List.cons_append, spl, if_neg (h c (by simp)), ih (fun x hx => h x (by simp [hx]))]
theorem index_none {l : List UInt8} (h : ∀ c ∈ l, c ≠ 32) : Lib.index l [32] = -1 := by
  induction l with
  | nil => rfl
  | cons c r ih =>
    have hp : ([32] : List UInt8).isPrefixOf (c :: r) = false := by simp [List.isPrefixOf, Ne.symm (h c (by simp))]
    rw [Lib.index, hp, ih (fun x hx => h x (by simp [hx]))]
    rfl
theorem index_blank (a r : List UInt8) (h : ∀ c ∈ a, c ≠ 32) : Lib.index (a ++ 32 :: r) [32] = (a.length : Int) := by
  induction a with
  | nil =>
    rw [List.nil_append, Lib.index]
    simp [List.isPrefixOf]
  | cons c t ih =>
    have hp : ([32] : List UInt8).isPrefixOf (c :: (t ++ 32 :: r)) = false := by simp [List.isPrefixOf, Ne.symm (h c (by simp))]
    rw [List.cons_append, Lib.index, hp, ih (fun x hx => h x (by simp [hx]))]
    have : ¬ ((t.length : Int) == -1) = true := fun e => by have := beq_iff_eq.1 e; omega
    simp only [Bool.false_eq_true, if_false, if_neg this, List.length_cons]
    omega
theorem first_blank (l : List UInt8) : (∀ c ∈ l, c ≠ 32) ∨ ∃ a r, l = a ++ 32 :: r ∧ ∀ c ∈ a, c ≠ 32 := by
  induction l with
  | nil => exact Or.inl (by simp)
  | cons c t ih =>
    by_cases hc : c = 32
    · exact Or.inr ⟨[], t, by simp [hc], by simp⟩
    · rcases ih with h | ⟨a, r, rfl, h⟩
      · exact Or.inl fun x hx => by rcases List.mem_cons.1 hx with rfl | hx; exact hc; exact h x hx
      · exact Or.inr ⟨c :: a, r, by simp, fun x hx => by rcases List.mem_cons.1 hx with rfl | hx; exact hc; exact h x hx⟩
theorem split_spl : ∀ (n : Nat) (l : List UInt8), l.length ≤ n → Lib.splitK [32] 0 (Lib.count l [32]) l = spl l := by
  intro n
  induction n with
  | zero =>
    intro l hl
    cases l with
    | nil => rfl
    | cons c r => simp at hl
  | succ n ih =>
    intro l hl
    rcases first_blank l with h | ⟨a, r, rfl, h⟩
    · rw [Lib.count_miss (index_none h), spl_none h]
      rfl
    · have hi := index_blank a r h
      have hd : (a ++ 32 :: r).drop (a.length + ([32] : List UInt8).length) = r := by simp
      rw [Lib.count_hit (by simp) hi, hd, Nat.add_comm, Lib.splitK, hi]
      have hm : ¬ ((a.length : Int) == -1) = true := fun e => by have := beq_iff_eq.1 e; omega
      rw [if_neg hm, spl_blank a r h]
      simp only [Int.toNat_natCast, Nat.add_zero]
      rw [hd, ih r (by simp at hl; omega)]
      simp
/-- A number, as it is written, from 0 to most. -/
def numOf (l : List UInt8) (most : Int) : Option Int := match Lib.atoiAll l with
  | .ok v => if Lib.itoa v = l ∧ 0 ≤ v ∧ v ≤ most then some v else none
  | _ => none
structure Cmd where
  kind : Int
  label : Int
  site : Int
  num : Int
  yes : Bool
  deriving DecidableEq
def Cmd.nil : Cmd := ⟨0, 0, 0, 0, false⟩
def Cmd.val (c : Cmd) : Value := .agg #[.int .i64 c.kind, .int .i64 c.label, .int .i64 c.site, .int .i64 c.num, .bool c.yes]
def aboutOf (kind : Int) (yes : Bool) : List (List UInt8) → Option Cmd
  | [a, b, c] => match numOf a 5, numOf b 3, numOf c 1048576 with
    | some x, some y, some z => some ⟨kind, x, y, z, yes⟩
    | _, _, _ => none
  | _ => none
def wList : List UInt8 := [108, 105, 115, 116]
def wAudit : List UInt8 := [97, 117, 100, 105, 116]
def wStatus : List UInt8 := [115, 116, 97, 116, 117, 115]
def wForce : List UInt8 := [102, 111, 114, 99, 101]
def wCommit : List UInt8 := [99, 111, 109, 109, 105, 116]
def wAbort : List UInt8 := [97, 98, 111, 114, 116]
def forceOf : List (List UInt8) → Option Cmd
  | [a, b, c, d] => if d = wCommit then aboutOf 3 true [a, b, c] else if d = wAbort then aboutOf 3 false [a, b, c] else none
  | _ => none
def wordsOf : List (List UInt8) → Option Cmd
  | [] => none
  | name :: ws => if name = wList then (if ws = [] then some ⟨1, 0, 0, 0, false⟩ else none)
    else if name = wAudit then (if ws = [] then some ⟨4, 0, 0, 0, false⟩ else none)
    else if name = wStatus then aboutOf 2 false ws
    else if name = wForce then forceOf ws
    else none
/-- What a line means, and why it is refused. -/
def lineErr (l : List UInt8) : Int := if 60 < l.length then 1 else if (wordsOf (spl l)).isSome then 0 else 4
def lineCmd (l : List UInt8) : Cmd := if 60 < l.length then Cmd.nil else (wordsOf (spl l)).getD Cmd.nil
/-- A number's digits are read as that number. -/
theorem digit_ok (d : Nat) (h : d < 10) : 48 ≤ (UInt8.ofNat (48 + d)).toNat ∧ (UInt8.ofNat (48 + d)).toNat ≤ 57 ∧ (UInt8.ofNat (48 + d)).toNat - 48 = d := by
  have : (UInt8.ofNat (48 + d)).toNat = 48 + d := by simp; omega
  rw [this]
  omega
theorem parse_snoc (l : List UInt8) (c : UInt8) : ∀ (acc u : Nat), Lib.parseUint10 acc l = .ok u → Lib.parseUint10 acc (l ++ [c]) = Lib.parseUint10 u [c] := by
  induction l with
  | nil => intro acc u h; simp only [Lib.parseUint10] at h; injection h with h; subst h; rfl
  | cons x r ih =>
    intro acc u h
    rw [List.cons_append]
    simp only [Lib.parseUint10] at h ⊢
    split at h
    · split at h
      · cases h
      · split at h
        · cases h
        · rename_i h1 h2 h3
          rw [if_pos h1, if_neg h2, if_neg h3]
          have := ih _ _ h
          rw [this]
          simp only [Lib.parseUint10]
    · cases h
theorem parse_dec : ∀ (n u : Nat), u ≤ n → u < 18446744073709551616 → Lib.parseUint10 0 (Lib.decDigits u) = .ok u := by
  intro n
  induction n with
  | zero =>
    intro u hu _
    obtain rfl : u = 0 := by omega
    rw [Lib.decDigits, dif_pos (by omega)]
    rfl
  | succ n ih =>
    intro u hu h64
    by_cases h : u < 10
    · obtain ⟨a1, a2, a3⟩ := digit_ok u h
      rw [Lib.decDigits, dif_pos h]
      simp only [Lib.parseUint10]
      rw [if_pos ⟨a1, a2⟩, if_neg (by omega), if_neg (by omega)]
      simp only [a3]
      congr 1
      omega
    · obtain ⟨a1, a2, a3⟩ := digit_ok (u % 10) (by omega)
      rw [Lib.decDigits, dif_neg h, parse_snoc _ _ 0 (u / 10) (ih (u / 10) (by omega) (by omega))]
      simp only [Lib.parseUint10]
      rw [if_pos ⟨a1, a2⟩, if_neg (by omega), if_neg (by omega)]
      simp only [a3]
      congr 1
      omega
theorem dec_digit : ∀ (n u : Nat), u ≤ n → ∀ c ∈ Lib.decDigits u, 48 ≤ c.toNat ∧ c.toNat ≤ 57 := by
  intro n
  induction n with
  | zero =>
    intro u hu c hc
    obtain rfl : u = 0 := by omega
    rw [Lib.decDigits, dif_pos (by omega)] at hc
    simp at hc
    subst hc
    decide
  | succ n ih =>
    intro u hu c hc
    by_cases h : u < 10
    · rw [Lib.decDigits, dif_pos h] at hc
      simp only [List.mem_cons, List.not_mem_nil, or_false] at hc
      subst hc
      exact ⟨(digit_ok u h).1, (digit_ok u h).2.1⟩
    · rw [Lib.decDigits, dif_neg h] at hc
      rcases List.mem_append.1 hc with hc | hc
      · exact ih (u / 10) (by omega) c hc
      · simp only [List.mem_cons, List.not_mem_nil, or_false] at hc
        subst hc
        exact ⟨(digit_ok (u % 10) (by omega)).1, (digit_ok (u % 10) (by omega)).2.1⟩
theorem dec_ne (u : Nat) : Lib.decDigits u ≠ [] := fun h => by
  have := Lib.decDigits_length u
  rw [h] at this
  have := Lib.nDigits_pos u
  simp at *
  omega
theorem atoi_dec {u : Nat} (h : u < 9223372036854775808) : Lib.atoiAll (Lib.decDigits u) = .ok (u : Int) := by
  have hd := dec_digit u u (Nat.le_refl _)
  have hp := parse_dec u u (Nat.le_refl _) (by omega)
  have hne := dec_ne u
  revert hd hp hne
  generalize Lib.decDigits u = l
  intro hd hp hne
  cases l with
  | nil => exact absurd rfl hne
  | cons c r =>
    have hc := hd c (by simp)
    unfold Lib.atoiAll
    simp only
    rw [if_neg (by omega)]
    unfold Lib.parseMag
    rw [if_neg (by simp), hp]
    simp only
    rw [if_neg (by omega), if_neg (by omega), if_neg (by omega)]
theorem num_itoa {v most : Int} (h0 : 0 ≤ v) (h1 : v ≤ most) (h2 : most ≤ 9223372036854775807) : numOf (Lib.itoa v) most = some v := by
  obtain ⟨u, rfl⟩ : ∃ u : Nat, v = (u : Int) := ⟨v.toNat, by omega⟩
  have e : Lib.itoa (u : Int) = Lib.decDigits u := Lib.itoa_nonneg u
  unfold numOf
  rw [e, atoi_dec (by omega)]
  simp only
  rw [if_pos ⟨e, by omega, h1⟩]
theorem itoa_noblank {v : Int} (h0 : 0 ≤ v) : ∀ c ∈ Lib.itoa v, c ≠ 32 := by
  obtain ⟨u, rfl⟩ : ∃ u : Nat, v = (u : Int) := ⟨v.toNat, by omega⟩
  rw [Lib.itoa_nonneg u]
  intro c hc e
  have := dec_digit u u (Nat.le_refl _) c hc
  subst e
  simp at this
end Go.Proofs.YtlaagfnoepcnlaaDoor.Cn
