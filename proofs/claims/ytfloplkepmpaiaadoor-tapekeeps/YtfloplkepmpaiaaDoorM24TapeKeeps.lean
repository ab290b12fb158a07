/- Texts of this claim, one behind the other. -/
import Derived.Test.YtfloplkepmpaiaaDoorM23TapeKeeps
import Derived.Test.YtfloplkepmpaiaaDoorM16TapeKeeps
import Derived.Test.YtfloplkepmpaiaaDoorM22TapeKeeps
import Derived.Test.YtfloplkepmpaiaaDoorM20TapeKeeps
/- More of the records that are whole at a tape's beginning: of a tape that is not torn all; how far they go. -/
namespace Go.Proofs.YtfloplkepmpaiaaDoor
open Go.ChangeShapes Go.WideShapes Go.ChangeAt Go.RowKit
set_option linter.unusedVariables false

theorem tapeOf_app (a b : List RcV) : tapeOf (a ++ b) = tapeOf a ++ tapeOf b := by simp [tapeOf]
theorem tapeOf_take_le (ys : List RcV) (i j : Nat) (h : i ≤ j) : (tapeOf (ys.take i)).length ≤ (tapeOf (ys.take j)).length := by
  have e : ys.take j = ys.take i ++ (ys.take j).drop i := by
    have := (List.take_append_drop i (ys.take j)).symm
    rwa [List.take_take, Nat.min_eq_left h] at this
  rw [e, tapeOf_app]
  simp
theorem tapeOf_take_pre (ys : List RcV) (j : Nat) : (tapeOf ys).take (tapeOf (ys.take j)).length = tapeOf (ys.take j) := by
  have e : tapeOf ys = tapeOf (ys.take j) ++ tapeOf (ys.drop j) := by rw [← tapeOf_app, List.take_append_drop]
  rw [e]
  simp
theorem tapeOf_take_all (ys : List RcV) (j : Nat) : (tapeOf (ys.take j)).length ≤ (tapeOf ys).length := by
  have e : tapeOf ys = tapeOf (ys.take j) ++ tapeOf (ys.drop j) := by rw [← tapeOf_app, List.take_append_drop]
  rw [e]
  simp

/-- What is whole of a tape that is torn behind m bytes. -/
structure Torn (s : Int) (ls : List (Int × Int)) (p : Int) (ys : List RcV) (m j : Nat) : Prop where
  le : j ≤ ys.length
  recs : (wholeOf s ls p ((tapeOf ys).take m)).1 = (ys.take j).map RcV.pl
  num : (wholeOf s ls p ((tapeOf ys).take m)).2 = (tapeOf (ys.take j)).length
  bytes : ((tapeOf ys).take m).take (tapeOf (ys.take j)).length = tapeOf (ys.take j)
  at_most : (tapeOf (ys.take j)).length ≤ m
  least : ∀ k, (tapeOf (ys.take k)).length ≤ m → k ≤ ys.length → k ≤ j

theorem torn_any {s : Int} {ls : List (Int × Int)} {p : Int} (ys : List RcV) (hg : ∀ y ∈ ys, recFault s ls p y = 0 ∧ y.sites.length = y.sl) (m : Nat) (hm : m ≤ (tapeOf ys).length) : ∃ j, Torn s ls p ys m j := by
  obtain ⟨j, h1, h2, h3, h4⟩ := whole_torn ys hg m hm
  refine ⟨j, h1, by rw [h2], by rw [h2], ?_, h3, fun k hk hky => ?_⟩
  · rw [List.take_take, Nat.min_eq_left h3, tapeOf_take_pre]
  · apply Nat.le_of_not_lt
    intro hlt
    have := h4 (by omega)
    have := tapeOf_take_le ys (j + 1) k hlt
    omega

/-- Of a whole tape all. -/
theorem whole_full {s : Int} {ls : List (Int × Int)} {p : Int} (ys : List RcV) (hg : ∀ y ∈ ys, recFault s ls p y = 0 ∧ y.sites.length = y.sl) : wholeOf s ls p (tapeOf ys) = (ys.map RcV.pl, (tapeOf ys).length) := by
  obtain ⟨j, h⟩ := torn_any ys hg (tapeOf ys).length (Nat.le_refl _)
  have hj : ys.length ≤ j := h.least ys.length (by rw [List.take_length]; exact Nat.le_refl _) (Nat.le_refl _)
  have e1 := h.recs
  have e2 := h.num
  rw [List.take_of_length_le (i := j) hj, List.take_length] at e1 e2
  exact Prod.ext e1 e2
end Go.Proofs.YtfloplkepmpaiaaDoor
/- The contract of tape.whole: the records that are whole at a tape's beginning, in memory of their own, and how many bytes they are. -/
namespace Go.Proofs.YtfloplkepmpaiaaDoor
open Go.ChangeShapes Go.WideShapes Go.ChangeAt Go.RowKit
set_option linter.unusedVariables false

/-- What is still to come, where n bytes are done. -/
def Left (s : Int) (ls : List (Int × Int)) (p : Int) (bs : List Int) (ys : List RcV) (n : Nat) : Prop :=
  ∃ f, bs.length ≤ n + f ∧ (wholeOf s ls p bs).1.map RcV.pl = ys.map RcV.pl ++ (wholeF s ls p f (bs.drop n)).1.map RcV.pl ∧ (wholeOf s ls p bs).2 = n + (wholeF s ls p f (bs.drop n)).2
/-- All is done. -/
def AllOf (s : Int) (ls : List (Int × Int)) (p : Int) (bs : List Int) (ys : List RcV) (n : Nat) : Prop :=
  ys.map RcV.pl = (wholeOf s ls p bs).1.map RcV.pl ∧ (wholeOf s ls p bs).2 = n
theorem left_start (s : Int) (ls : List (Int × Int)) (p : Int) (bs : List Int) : Left s ls p bs [] 0 := ⟨bs.length, by omega, by simp [wholeOf], by simp [wholeOf]⟩
theorem left_end {s : Int} {ls : List (Int × Int)} {p : Int} {bs : List Int} {ys : List RcV} {n : Nat} (h : Left s ls p bs ys n) (hn : bs.length ≤ n) : AllOf s ls p bs ys n := by
  obtain ⟨f, _, h1, h2⟩ := h
  rw [List.drop_eq_nil_of_le hn] at h1 h2
  have e : wholeF s ls p f [] = ([], 0) := by cases f <;> rfl
  rw [e] at h1 h2
  exact ⟨by simpa using h1.symm, by simpa using h2⟩
theorem drop_byte {bs : List Int} {n : Nat} (h : n < bs.length) : bs.drop n = bs.getD n 0 :: bs.drop (n + 1) := by
  rw [List.drop_eq_getElem_cons h]; simp [List.getD, h]
theorem left_long {s : Int} {ls : List (Int × Int)} {p : Int} {bs : List Int} {ys : List RcV} {n : Nat} (h : Left s ls p bs ys n) (hn : n < bs.length) (hl : bs.length < n + 1 + (bs.getD n 0).toNat) : AllOf s ls p bs ys n := by
  obtain ⟨f, hf, h1, h2⟩ := h
  obtain ⟨f, rfl⟩ : ∃ f', f = f' + 1 := ⟨f - 1, by omega⟩
  have e : wholeF s ls p (f + 1) (bs.drop n) = ([], 0) := by
    rw [drop_byte hn, wholeF, if_pos (by rw [List.length_drop]; omega)]
  rw [e] at h1 h2
  exact ⟨by simpa using h1.symm, by simpa using h2⟩
theorem left_bad {s : Int} {ls : List (Int × Int)} {p : Int} {bs : List Int} {ys : List RcV} {n : Nat} (h : Left s ls p bs ys n) (hn : n < bs.length) (hl : ¬ bs.length < n + 1 + (bs.getD n 0).toNat)
    (hr : (recOf s ls p ((bs.drop (n + 1)).take (bs.getD n 0).toNat)).2 ≠ 0) : AllOf s ls p bs ys n := by
  obtain ⟨f, hf, h1, h2⟩ := h
  obtain ⟨f, rfl⟩ : ∃ f', f = f' + 1 := ⟨f - 1, by omega⟩
  have e : wholeF s ls p (f + 1) (bs.drop n) = ([], 0) := by
    rw [drop_byte hn, wholeF, if_neg (by rw [List.length_drop]; omega), if_pos hr]
  rw [e] at h1 h2
  exact ⟨by simpa using h1.symm, by simpa using h2⟩
theorem left_next {s : Int} {ls : List (Int × Int)} {p : Int} {bs : List Int} {ys : List RcV} {n : Nat} (h : Left s ls p bs ys n) (hn : n < bs.length) (hl : ¬ bs.length < n + 1 + (bs.getD n 0).toNat)
    (hr : (recOf s ls p ((bs.drop (n + 1)).take (bs.getD n 0).toNat)).2 = 0) {y : RcV} (hy : y.pl = (recOf s ls p ((bs.drop (n + 1)).take (bs.getD n 0).toNat)).1.pl) : Left s ls p bs (ys ++ [y]) (n + 1 + (bs.getD n 0).toNat) := by
  obtain ⟨f, hf, h1, h2⟩ := h
  obtain ⟨f, rfl⟩ : ∃ f', f = f' + 1 := ⟨f - 1, by omega⟩
  rw [drop_byte hn, wholeF, if_neg (by rw [List.length_drop]; omega), if_neg (fun hh => hh hr), List.drop_drop] at h1 h2
  refine ⟨f, by omega, ?_, ?_⟩
  · rw [h1]
    simp [hy]
  · rw [h2]
    simp only []
    omega
theorem IsB.piece {w : World} {b off bl bc : Nat} {bs : List Int} (h : IsB w (some ⟨b, off, none⟩) bl bc bs) (n k : Nat) (hk : n + k ≤ bl) : IsB w (some ⟨b, off + n, none⟩) k k ((bs.drop n).take k) := by
  obtain ⟨h1, h2, h3, hbd, hn, h4⟩ := h
  refine ⟨by simp; omega, Nat.le_refl _, by omega, (hbd.drop n).take k, fun e => by simp at e, fun hp => ?_⟩
  obtain ⟨b', off', e, hlt, hl⟩ := h4 (by omega)
  simp at e
  obtain ⟨rfl, rfl⟩ := e
  refine ⟨b, off + n, rfl, hlt, fun i hi => ?_⟩
  rw [Nat.add_assoc, hl (n + i) (by omega)]
  have : n + i < bs.length := by omega
  simp [List.getD, hi]
theorem isB_empty (w : World) (b off : Nat) : IsB w (some ⟨b, off, none⟩) 0 0 [] := ⟨rfl, Nat.le_refl _, Nat.zero_le _, fun x hx => by simp at hx, fun e => by simp at e, fun h => absurd h (by omega)⟩

theorem piece_of {W : World} {b off bl bc : Nat} {bs : List Int} (k x : Nat) (h : IsB W (some ⟨b, off, none⟩) bl bc bs) (zb : b < W.heap.size) (hk : k + 1 + x ≤ bl) :
    ∃ pa, IsB W pa x x ((bs.drop (k + 1)).take x) ∧ (∀ b' o', pa = some ⟨b', o', none⟩ → b' < W.heap.size) ∧
      (∀ U : World, (Instr.slice 29 (.slice (some ⟨b, off, none⟩) bl bc) (some (.int .i64 ((k : Int) + 1))) (some (.int .i64 ((k : Int) + 1 + (x : Int)))) (some (.int .i64 ((k : Int) + 1 + (x : Int))))).run Tryd.prog U = .ok (.slice pa x x) U) ∧ ∀ U : World, (Instr.sliceAt 29 (.slice (some ⟨b, off, none⟩) bl bc) (some (.int .i64 ((k : Int) + 1))) (some (.int .i64 ((k : Int) + 1 + (x : Int)))) (some (.int .i64 ((k : Int) + 1 + (x : Int))))).run Tryd.prog U = .ok (.slice pa x x) U := by
  have hc := h.2.1
  have e1 : ((k : Int) + 1).toNat = k + 1 := by omega
  have e2 : ((k : Int) + 1 + (x : Int)).toNat = k + 1 + x := by omega
  have hr : ∀ U : World, (Instr.slice 29 (.slice (some ⟨b, off, none⟩) bl bc) (some (.int .i64 ((k : Int) + 1))) (some (.int .i64 ((k : Int) + 1 + (x : Int)))) (some (.int .i64 ((k : Int) + 1 + (x : Int))))).run Tryd.prog U = .ok (sliced (some ⟨b, off, none⟩) (k + 1) (k + 1 + x) (k + 1 + x) 1) U := fun U => by
    rw [run_slice_lhm (P := Tryd.prog) (t := 29) (a := some ⟨b, off, none⟩) (len := bl) (cap := bc) (w := U) (by kernel_rfl) .i64 .i64 .i64 ((k : Int) + 1) ((k : Int) + 1 + (x : Int)) ((k : Int) + 1 + (x : Int)) (by omega) (by omega) (by omega) (by omega), e1, e2]
    have : (sizeOf (Tryd.prog.elem 29)).run Tryd.prog U = .ok 1 U := by kernel_rfl
    rw [this]
    rfl
  rcases Nat.eq_zero_or_pos x with rfl | hx
  · refine ⟨some ⟨b, off, none⟩, by simpa using isB_empty W b off, fun b' o' e => by simp at e; rw [← e.1]; exact zb, fun U => ?_, fun U => ?_⟩
    · rw [hr]
      simp [sliced]
    · refine (run_sliceAt_slice (P := Tryd.prog) (w := U) 29 (.slice (some ⟨b, off, none⟩) bl bc) (some (.int .i64 _)) (some (.int .i64 _)) (some (.int .i64 _)) (by kernel_rfl)).trans ?_
      rw [hr]
      simp [sliced]
  · refine ⟨some ⟨b, off + (k + 1), none⟩, h.piece (k + 1) x hk, fun b' o' e => by simp at e; rw [← e.1]; exact zb, fun U => ?_, fun U => ?_⟩
    · rw [hr]
      have h0 : ¬ (x = 0) := by omega
      simp [sliced, h0, adr_add]
    · refine (run_sliceAt_slice (P := Tryd.prog) (w := U) 29 (.slice (some ⟨b, off, none⟩) bl bc) (some (.int .i64 _)) (some (.int .i64 _)) (some (.int .i64 _)) (by kernel_rfl)).trans ?_
      rw [hr]
      have h0 : ¬ (x = 0) := by omega
      simp [sliced, h0, adr_add]

set_option maxHeartbeats 4000000 in
set_option maxRecDepth 100000 in
theorem whole_any (S P : Int) (ad : Option Addr) (n cp0 : Nat) (L : List (Int × Int)) (ba : Option Addr) (bl bc : Nat) (bs : List Int) (w : World) (h : IsLabs w ad n cp0 L) (hI : IsB w ba bl bc bs) (hl6 : bl ≤ 6000) (hm : HasAt w 2 rHas) (ht : TopsAt w) (hwd : WidsAt w) :
    Calls Tryd.prog 34 #[.agg #[.int .i64 S, .slice ad n cp0, .int .i64 P], .slice ba bl bc] w fun e w' => ∃ (ao : Option Addr) (cp : Nat) (ys : List RcV) (q : Nat),
      e = .returned (.tuple #[.slice ao ys.length cp, .int .i64 (q : Int)]) ∧ IsRecs w' ao ys.length cp ys ∧ AllOf S L P bs ys q ∧ q ≤ bl ∧ (∀ b off, ao = some ⟨b, off, none⟩ → w.heap.size ≤ b) ∧ (∀ y ∈ ys, ∀ b off, y.sa = some ⟨b, off, none⟩ → w.heap.size ≤ b) ∧ Below w.heap.size w w' := by
  obtain ⟨i0, hi, li0, li1, li2⟩ := info_parts recInfo
  have hgT : 3 < w.heap.size := World.block_lt_of_cell? w _ ht.1
  have hgM : 2 < w.heap.size := hm.lt (by decide)
  have hgW : 1 < w.heap.size := hwd.lt
  have hlen := hI.1
  have HL : Hid (bs.length = bl) := hlen
  clear hlen
  obtain ⟨W, hW⟩ : ∃ W : World, W = w.alloc (.cells #[.int .i64 S, .slice ad n cp0, .int .i64 P] 27) := ⟨_, rfl⟩
  have hA : Below w.heap.size w W := by rw [hW]; exact (Below.refl _ _).alloc (Nat.le_refl _) _
  have zW : w.heap.size < W.heap.size := by rw [hW]; simp
  have d0 : W.cell? ⟨w.heap.size, 0, none⟩ = some (.int .i64 S) := by rw [hW]; go_simp
  have d1 : W.cell? ⟨w.heap.size, 1, none⟩ = some (.slice ad n cp0) := by rw [hW]; go_simp
  have d2 : W.cell? ⟨w.heap.size, 2, none⟩ = some (.int .i64 P) := by rw [hW]; go_simp
  go_enter Tryd.func34, Tryd.ntmps34
  go_wp2
  rw [← hW]
  clear hW
  go_loopw [6, 7] (fun v i wr => ∃ (ao : Option Addr) (cp : Nat) (ys : List RcV) (k : Nat), v = .slice ao ys.length cp ∧ i = .int .i64 (k : Int) ∧ k ≤ bl ∧ ys.length ≤ k ∧ OwnRecs wr W.heap.size (.slice ao ys.length cp) ys ∧ Hid (Left S L P bs ys k) ∧ (∀ y ∈ ys, ∀ b off, y.sa = some ⟨b, off, none⟩ → W.heap.size ≤ b) ∧ Below W.heap.size W wr) (fun _ i _ => bl - (intOf i).toNat)
  case atStart => exact ⟨none, 0, [], 0, rfl, rfl, Nat.zero_le _, Nat.le_refl _, ownRecs_nil _ _, left_start _ _ _ _, by simp, Below.refl _ _⟩
  case round =>
    obtain ⟨ao, cp, ys, k, rfl, rfl, hk, hyk, hO, hleft, hsn, hb⟩ := hrel
    have hao : ∀ b off, ao = some ⟨b, off, none⟩ → w.heap.size ≤ b := fun b off e => by subst e; have := (hO.row.lt b rfl).1; omega
    have hsn' : ∀ y ∈ ys, ∀ b off, y.sa = some ⟨b, off, none⟩ → w.heap.size ≤ b := fun y hy b off e => by have := hsn y hy b off e; omega
    have hwr := hA.trans (hb.mono hA.size)
    by_cases hlt : k < bl
    · have hlt' : (k : Int) < (bl : Int) := by omega
      have hkl : k < bs.length := by have := HL.out; omega
      have hIr := hI.below hwr
      obtain ⟨b, off, rfl, zb0, hc0⟩ := hI.2.2.2.2.2 (by omega)
      have hcell := hc0 k hlt
      rw [← hwr.cell (p := ⟨b, off + k, none⟩) zb0] at hcell
      have hbd := hI.2.2.2.1 bs[k] (List.getElem_mem hkl)
      have hget : bs.getD k 0 = bs[k] := by simp [List.getD, hkl]
      rw [← hget] at hbd
      have HLong : Hid (bl < k + 1 + (bs.getD k 0).toNat → AllOf S L P bs ys k) := fun hh => left_long hleft.out hkl (by have := HL.out; omega)
      have HBad : Hid (¬ bl < k + 1 + (bs.getD k 0).toNat → (recOf S L P ((bs.drop (k + 1)).take (bs.getD k 0).toNat)).2 ≠ 0 → AllOf S L P bs ys k) := fun hh hr => left_bad hleft.out hkl (by have := HL.out; omega) hr
      have HNext : Hid (∀ y : RcV, ¬ bl < k + 1 + (bs.getD k 0).toNat → (recOf S L P ((bs.drop (k + 1)).take (bs.getD k 0).toNat)).2 = 0 → y.pl = (recOf S L P ((bs.drop (k + 1)).take (bs.getD k 0).toNat)).1.pl → Left S L P bs (ys ++ [y]) (k + 1 + (bs.getD k 0).toNat)) := fun y hh hr hy => left_next hleft.out hkl (by have := HL.out; omega) hr hy
      obtain ⟨x, ex⟩ : ∃ x : Nat, (x : Int) = bs.getD k 0 := ⟨(bs.getD k 0).toNat, by omega⟩
      rw [← ex] at hcell hbd HLong HBad HNext
      simp only [Int.toNat_natCast] at HLong HBad HNext
      clear ex hget hleft hc0
      have x256 : x < 256 := by omega
      have x256' : (x : Int) < 256 := by omega
      have k6 : (k : Int) < 6000 := by omega
      have zb : b < wr.heap.size := Nat.lt_of_lt_of_le zb0 hwr.size
      have xm : (x : Int) % 18446744073709551616 = (x : Int) := by omega
      have hwp : IntKind.i64.wrap ((k : Int) + 1) = (k : Int) + 1 := by simp [IntKind.wrap, IntKind.bits, IntKind.signed]; omega
      by_cases hlong : bl < k + 1 + x
      · have hlong' : (bl : Int) < (k : Int) + 1 + (x : Int) := by omega
        have hfin := HLong.out hlong
        have hR : IsRecs wr ao ys.length cp ys := hO.isRecs.2
        go_wp2
        go_ret2
        exact ⟨ao, cp, ys, k, rfl, hR, hfin, by omega, hao, hsn', hwr⟩
      · have hlong' : ¬ (bl : Int) < (k : Int) + 1 + (x : Int) := by omega
        obtain ⟨pa, hpa, hfb, hsl, hslA⟩ := piece_of (W := wr) (b := b) (off := off) (bl := bl) (bc := bc) (bs := bs) k x hIr zb (by omega)
        obtain ⟨D, eD⟩ : ∃ D, D = recOf S L P ((bs.drop (k + 1)).take x) := ⟨_, rfl⟩
        rw [← eD] at HBad HNext
        have hDec0 := fun U (hU : Below wr.heap.size wr U) => decodeRecord_any S P ad n cp0 L pa x x ((bs.drop (k + 1)).take x) U (h.below (hwr.trans (hU.mono hwr.size))) (hpa.below hU) (fun b' o' e => Nat.lt_of_lt_of_le (hfb b' o' e) hU.size) (hm.below (hwr.trans (hU.mono hwr.size)) hgM) (ht.below (hwr.trans (hU.mono hwr.size)) hgT) (hwd.below (hwr.trans (hU.mono hwr.size)) hgW)
        rw [← eD] at hDec0
        clear eD
        have HDec : Hid (∀ U, Below wr.heap.size wr U → Calls Tryd.prog 52 #[.agg #[.int .i64 S, .slice ad n cp0, .int .i64 P], .slice pa x x] U fun e w' => DecRPost U w' e D) := hDec0
        clear hDec0 hpa hfb
        obtain ⟨⟨kind, site, num, key, value, ask, yes, sa0, sl, sc0, sites⟩, err⟩ := D
        have x0 := (hb.cell (p := ⟨w.heap.size, 0, none⟩) zW).trans d0
        have x1 := (hb.cell (p := ⟨w.heap.size, 1, none⟩) zW).trans d1
        have x2 := (hb.cell (p := ⟨w.heap.size, 2, none⟩) zW).trans d2
        have zr : w.heap.size < wr.heap.size := Nat.lt_of_lt_of_le zW hb.size
        have KA : Hid (∀ U : World, Below wr.heap.size wr U → U.cell? ⟨w.heap.size, 0, none⟩ = some (.int .i64 S) ∧ U.cell? ⟨w.heap.size, 1, none⟩ = some (.slice ad n cp0) ∧ U.cell? ⟨w.heap.size, 2, none⟩ = some (.int .i64 P)) := fun U hU =>
          ⟨(hU.cell (p := ⟨w.heap.size, 0, none⟩) zr).trans x0, (hU.cell (p := ⟨w.heap.size, 1, none⟩) zr).trans x1, (hU.cell (p := ⟨w.heap.size, 2, none⟩) zr).trans x2⟩
        have hD : Below wr.heap.size wr wr.drew := (Below.refl _ _).drew
        go_upto_region 6 with (fail)
        go_cut [9, 10] (fun s9 s10 wc => ∃ (q : Nat) (sa : Option Addr) (sc : Nat), s9 = .pointer (some ⟨q, 0, none⟩) ∧ s10 = .int .i64 err ∧ BoxN wc q 8 (RcV.cells ⟨kind, site, num, key, value, ask, yes, sa, sl, sc, sites⟩) ∧ IsInts wc sa sl sc sites ∧ (∀ b off, sa = some ⟨b, off, none⟩ → wr.heap.size ≤ b ∧ b < wc.heap.size) ∧ Below wr.heap.size wr wc)
        case first =>
          clear HLong HBad HNext
          go_region_held3 (fun U => U.cell? ⟨w.heap.size, 0, none⟩ = some (.int .i64 S) ∧ U.cell? ⟨w.heap.size, 1, none⟩ = some (.slice ad n cp0) ∧ U.cell? ⟨w.heap.size, 2, none⟩ = some (.int .i64 P))
            (exact KA.out _ (by (with_reducible repeat (first | exact hu3 | exact hD | exact Below.refl _ _ | refine bD ?_ | refine bA ?_ _ | refine bS ?_ (by omega) _)); done))
            ((go_at_call 52; refine (HDec.out _ (by (with_reducible repeat (first | exact hD | exact Below.refl _ _ | refine bD ?_ | refine bA ?_ _ | refine bS ?_ (by omega) _)); done)).mono ?_; rintro e u3 ⟨sa, sc, rfl, hIs, hnew, hb3'⟩; simp only [RcV.val]; have hu3 : Below wr.heap.size wr u3 := bT (by (with_reducible repeat (first | exact hD | exact Below.refl _ _ | refine bD ?_ | refine bA ?_ _ | refine bS ?_ (by omega) _)); done) hb3'; have z3 : wr.heap.size ≤ u3.heap.size := hu3.size; (first | (have bx3 : BoxN u3 wr.heap.size 8 [.int .i64 0, .int .i64 0, .int .i64 0, .int .i64 0, .int .i64 0, .int .i64 0, .bool false, .slice none 0 0] := (boxn_new wr.drew #[.int .i64 0, .int .i64 0, .int .i64 0, .int .i64 0, .int .i64 0, .int .i64 0, .bool false, .slice none 0 0] 53 8 rfl).below hb3' (by simp); have hne3 : ∀ b off, sa = some ⟨b, off, none⟩ → wr.heap.size ≠ b := fun b off e => Nat.ne_of_lt (Nat.lt_of_lt_of_le (by simp) (hnew b off e).1); have s0 : _ = some (Value.int .i64 0) := (bx3.c 0 (by omega)).1; have g0 := (bx3.c 0 (by omega)).2; have s1 : _ = some (Value.int .i64 0) := (bx3.c 1 (by omega)).1; have g1 := (bx3.c 1 (by omega)).2; have s2 : _ = some (Value.int .i64 0) := (bx3.c 2 (by omega)).1; have g2 := (bx3.c 2 (by omega)).2; have s3 : _ = some (Value.int .i64 0) := (bx3.c 3 (by omega)).1; have g3 := (bx3.c 3 (by omega)).2; have s4 : _ = some (Value.int .i64 0) := (bx3.c 4 (by omega)).1; have g4 := (bx3.c 4 (by omega)).2; have s5 : _ = some (Value.int .i64 0) := (bx3.c 5 (by omega)).1; have g5 := (bx3.c 5 (by omega)).2; have s6 : _ = some (Value.bool false) := (bx3.c 6 (by omega)).1; have g6 := (bx3.c 6 (by omega)).2; have s7 : _ = some (Value.slice none 0 0) := (bx3.c 7 (by omega)).1; have g7 := (bx3.c 7 (by omega)).2) | (have bx3 : BoxN u3 wr.heap.size 8 [.int .i64 0, .int .i64 0, .int .i64 0, .int .i64 0, .int .i64 0, .int .i64 0, .bool false, .slice none 0 0] := (boxn_new wr #[.int .i64 0, .int .i64 0, .int .i64 0, .int .i64 0, .int .i64 0, .int .i64 0, .bool false, .slice none 0 0] 53 8 rfl).below hb3' (by simp); have hne3 : ∀ b off, sa = some ⟨b, off, none⟩ → wr.heap.size ≠ b := fun b off e => Nat.ne_of_lt (Nat.lt_of_lt_of_le (by simp) (hnew b off e).1); have s0 : _ = some (Value.int .i64 0) := (bx3.c 0 (by omega)).1; have g0 := (bx3.c 0 (by omega)).2; have s1 : _ = some (Value.int .i64 0) := (bx3.c 1 (by omega)).1; have g1 := (bx3.c 1 (by omega)).2; have s2 : _ = some (Value.int .i64 0) := (bx3.c 2 (by omega)).1; have g2 := (bx3.c 2 (by omega)).2; have s3 : _ = some (Value.int .i64 0) := (bx3.c 3 (by omega)).1; have g3 := (bx3.c 3 (by omega)).2; have s4 : _ = some (Value.int .i64 0) := (bx3.c 4 (by omega)).1; have g4 := (bx3.c 4 (by omega)).2; have s5 : _ = some (Value.int .i64 0) := (bx3.c 5 (by omega)).1; have g5 := (bx3.c 5 (by omega)).2; have s6 : _ = some (Value.bool false) := (bx3.c 6 (by omega)).1; have g6 := (bx3.c 6 (by omega)).2; have s7 : _ = some (Value.slice none 0 0) := (bx3.c 7 (by omega)).1; have g7 := (bx3.c 7 (by omega)).2) | skip)))
          all_goals
            simp only [] at hIs
            have hG3 : ∀ b off, sa = some ⟨b, off, none⟩ → wr.heap.size ≤ b ∧ b < u3.heap.size := fun b off e => ⟨Nat.le_trans (by first | exact Nat.le_refl _ | (simp; done) | (simp; omega)) (hnew b off e).1, (hnew b off e).2⟩
            first
              | (have bxF := ((((((((bx3.set 0 (by omega) (.int .i64 kind)).set 1 (by omega) (.int .i64 site)).set 2 (by omega) (.int .i64 num)).set 3 (by omega) (.int .i64 key)).set 4 (by omega) (.int .i64 value)).set 5 (by omega) (.int .i64 ask)).set 6 (by omega) (.bool yes)).set 7 (by omega) (.slice sa sl sc)))
              | (have bxF : BoxN _ u3.heap.size 8 [.int .i64 kind, .int .i64 site, .int .i64 num, .int .i64 key, .int .i64 value, .int .i64 ask, .bool yes, .slice sa sl sc] := boxn_new u3 #[.int .i64 kind, .int .i64 site, .int .i64 num, .int .i64 key, .int .i64 value, .int .i64 ask, .bool yes, .slice sa sl sc] 53 8 rfl)
            go_wp2_with fail
            go_meet
            case rel => exact ⟨_, sa, sc, rfl, rfl, bxF, (by (with_reducible repeat (first | exact hIs | exact hne3 | refine isI_far ?_ ?_ | refine isI_alloc ?_ _)); done), (fun b off e => ⟨(hG3 b off e).1, Nat.lt_of_lt_of_le (hG3 b off e).2 (by simp)⟩), (by (with_reducible repeat (first | exact hu3 | exact hD | exact Below.refl _ _ | refine bD ?_ | refine bA ?_ _ | refine bS ?_ (by omega) _)); done)⟩
        case rest =>
          obtain ⟨q, sa, sc, rfl, rfl, bxF, hIs, hnew, bF⟩ := hcut
          obtain ⟨X, eX⟩ : ∃ X, X = wc := ⟨_, rfl⟩
          rw [← eX] at bxF hIs hnew bF ⊢
          clear eX
          have hwX := hwr.trans (bF.mono hwr.size)
          by_cases herr : err = 0
          · subst herr
            have hNx := HNext.out ⟨kind, site, num, key, value, ask, yes, sa, sl, sc, sites⟩ hlong rfl rfl
            have HNx : Hid (Left S L P bs (ys ++ [⟨kind, site, num, key, value, ask, yes, sa, sl, sc, sites⟩]) (k + 1 + x)) := hNx
            clear hNx HNext HBad HLong
            have qlt := bxF.lt
            have m0 : X.cell? ⟨q, 0, none⟩ = some (.int .i64 kind) := (bxF.c 0 (by omega)).1
            have m1 : X.cell? ⟨q, 1, none⟩ = some (.int .i64 site) := (bxF.c 1 (by omega)).1
            have m2 : X.cell? ⟨q, 2, none⟩ = some (.int .i64 num) := (bxF.c 2 (by omega)).1
            have m3 : X.cell? ⟨q, 3, none⟩ = some (.int .i64 key) := (bxF.c 3 (by omega)).1
            have m4 : X.cell? ⟨q, 4, none⟩ = some (.int .i64 value) := (bxF.c 4 (by omega)).1
            have m5 : X.cell? ⟨q, 5, none⟩ = some (.int .i64 ask) := (bxF.c 5 (by omega)).1
            have m6 : X.cell? ⟨q, 6, none⟩ = some (.bool yes) := (bxF.c 6 (by omega)).1
            have m7 : X.cell? ⟨q, 7, none⟩ = some (.slice sa sl sc) := (bxF.c 7 (by omega)).1
            have hOx := hO.below bF
            have hne : ∀ m, (Value.slice ao ys.length cp).ownBlock = some m → W.heap.size ≤ m ∧ m < wr.heap.size := fun m hm => hO.row.lt m hm
            have zX : W.heap.size ≤ X.heap.size := Nat.le_trans hb.size bF.size
            go_upto_region 9 with (at_builtin; refine wpList_append_lies _ (by rfl) (.tmp 40) (.tmp 42) 43 (by rfl) W.heap.size 53 i0 (.agg #[.int .i64 0, .int .i64 0, .int .i64 0, .int .i64 0, .int .i64 0, .int .i64 0, .bool false, .slice none 0 0]) 8 80 Tryd.underlying43 hi li0 li1 li2 rfl (by decide) (.slice ao ys.length cp) ys.length (flatRecs ys) (by rfl) (hOx.row.alloc _) ⟨X.heap.size, 0, none⟩ 1 1 (RcV.cells ⟨kind, site, num, key, value, ask, yes, sa, sl, sc, sites⟩) (by rfl) rfl (news_rec #[.int .i64 kind, .int .i64 site, .int .i64 num, .int .i64 key, .int .i64 value, .int .i64 ask, .bool yes, .slice sa sl sc] _ rfl) (rcells_one _) (by omega) (by unfold maxLen; omega) (by omega) (by simp; omega) _ rfl ?_; intro g5 c5 w5 own5 gr5 at5 lt5)
            have hOp := hO.push (y := ⟨kind, site, num, key, value, ask, yes, sa, sl, sc, sites⟩) (w1 := X.alloc (.cells #[.int .i64 kind, .int .i64 site, .int .i64 num, .int .i64 key, .int .i64 value, .int .i64 ask, .bool yes, .slice sa sl sc] 53)) (bA bF _) (isI_alloc hIs _) (fun b off e => ⟨(hnew b off e).1, Nat.lt_of_lt_of_le (hnew b off e).2 (by simp)⟩) own5 gr5 at5
            have hb5 : Below W.heap.size W w5 := bG (bA (bT hb bF) _) gr5 (fun k hk => (hne k hk).1)
            have hsz : ∀ y ∈ ys ++ [(⟨kind, site, num, key, value, ask, yes, sa, sl, sc, sites⟩ : RcV)], ∀ b off, y.sa = some ⟨b, off, none⟩ → W.heap.size ≤ b := fun y hy b off e => by
              rcases List.mem_append.1 hy with hy | hy
              · exact hsn y hy b off e
              · simp at hy; subst hy; have := (hnew b off e).1; have := hb.size; omega
            obtain ⟨zs, ezs⟩ : ∃ zs, zs = ys ++ [(⟨kind, site, num, key, value, ask, yes, sa, sl, sc, sites⟩ : RcV)] := ⟨_, rfl⟩
            have elz : Hid (zs.length = ys.length + 1) := by rw [ezs]; show _ = _; simp
            rw [← ezs] at hOp HNx hsz
            clear ezs
            go_wp2
            go_roundw
            case rel =>
              refine ⟨some ⟨g5, 0, none⟩, c5, zs, k + 1 + x, ?_, by go_num, by omega, ?_, ?_, HNx, hsz, hb5⟩
              · rw [elz.out]
              · rw [elz.out]; omega
              · rw [elz.out]; exact hOp
            case measure => simp [intOf]; omega
          · have hfin := HBad.out hlong herr
            have hR : IsRecs X ao ys.length cp ys := (hO.below bF).isRecs.2
            clear HLong HBad HNext
            go_wp2
            go_ret2
            exact ⟨ao, cp, ys, k, rfl, hR, hfin, by omega, hao, hsn', hwX⟩
    · have hfin := left_end hleft.out (by have := HL.out; omega)
      have hlt' : ¬ (k : Int) < (bl : Int) := by omega
      have hR : IsRecs wr ao ys.length cp ys := hO.isRecs.2
      go_wp2
      go_ret2
      exact ⟨ao, cp, ys, k, rfl, hR, hfin, by omega, hao, hsn', hwr⟩
end Go.Proofs.YtfloplkepmpaiaaDoor
/- Contracts of tape.Recover: of a tape that may be, the records that are whole and the tape without what is behind them; of another one the fault. -/
namespace Go.Proofs.YtfloplkepmpaiaaDoor
open Go.ChangeShapes Go.WideShapes Go.ChangeAt Go.RowKit
set_option linter.unusedVariables false

theorem isRecs_set {w : World} {a : Option Addr} {len cap : Nat} {ys : List RcV} {c k : Nat} {v : Value} (h : IsRecs w a len cap ys) (ha : ∀ b off, a = some ⟨b, off, none⟩ → b ≠ c) (hs : ∀ y ∈ ys, ∀ b off, y.sa = some ⟨b, off, none⟩ → b ≠ c) : IsRecs (w.setCell ⟨c, k, none⟩ v) a len cap ys := by
  obtain ⟨h1, h2, h3, h4, h5⟩ := h
  refine ⟨h1, h2, h3, fun y hy => isI_far (h4 y hy) (fun b off e => (hs y hy b off e).symm), fun hp => ?_⟩
  obtain ⟨b, off, e, hl, hc⟩ := h5 hp
  refine ⟨b, off, e, by simpa using hl, fun i hi j hj => ?_⟩
  rw [World.cell?_of_block (a := ⟨b, off + i * 8 + j, none⟩) (Below.heap_setCell w ⟨c, k, none⟩ v b (ha b off e))]
  exact hc i hi j hj

set_option maxHeartbeats 4000000 in
set_option maxRecDepth 100000 in
theorem recover_ok (S P : Int) (ad : Option Addr) (n cp0 : Nat) (L : List (Int × Int)) (ta : Option Addr) (tl tc : Nat) (bs : List Int) (y : Int) (w : World) (h : IsLabs w ad n cp0 L) (hT : IsB w ta tl tc bs) (hmy : mayT tl y = true) (hcf : cfgFault S L P = 0) (hm : HasAt w 2 rHas) (ht : TopsAt w) (hwd : WidsAt w) :
    Calls Tryd.prog 18 #[.agg #[.int .i64 S, .slice ad n cp0, .int .i64 P], .agg #[.slice ta tl tc, .int .i64 y]] w fun e w' => ∃ (ao : Option Addr) (cp : Nat) (ys : List RcV) (q : Nat) (ua : Option Addr) (z : Int),
      e = .returned (.tuple #[.slice ao ys.length cp, .agg #[.slice ua q q, .int .i64 z], .int .i64 0]) ∧ IsRecs w' ao ys.length cp ys ∧ AllOf S L P bs ys q ∧ q ≤ tl ∧ IsB w' ua q q (bs.take q) ∧ z = (if (q : Int) < y then (q : Int) else y) ∧ (∀ b off, ua = some ⟨b, off, none⟩ → w.heap.size ≤ b) ∧ (∀ b off, ao = some ⟨b, off, none⟩ → w.heap.size ≤ b) ∧ (∀ y ∈ ys, ∀ b off, y.sa = some ⟨b, off, none⟩ → w.heap.size ≤ b) ∧ Below w.heap.size w w' := by
  have hgT : 3 < w.heap.size := World.block_lt_of_cell? w _ ht.1
  have hgM : 2 < w.heap.size := hm.lt (by decide)
  have hgW : 1 < w.heap.size := hwd.lt
  have hmm := mayT_of hmy
  have hl : tl ≤ 9223372036854775807 := by omega
  have hl6 : tl ≤ 6000 := by omega
  have hCk := fun w' h1 => check_any S P ad n cp0 L w' h1
  rw [hcf] at hCk
  have hWh := fun w' h1 h2 h3 h4 h5 => whole_any S P ad n cp0 L ta tl tc bs w' h1 h2 hl6 h3 h4 h5
  obtain ⟨W, hW⟩ : ∃ W : World, W = ((w.alloc (.cells #[.int .i64 S, .slice ad n cp0, .int .i64 P] 27)).alloc (.cells #[.slice ta tl tc, .int .i64 y] 46)).alloc (.cells #[.slice none 0 0, .int .i64 0] 46) := ⟨_, rfl⟩
  have hB : Below w.heap.size w W := by rw [hW]; exact (((Below.refl _ _).alloc (Nat.le_refl _) _).alloc (by simp) _).alloc (by simp; omega) _
  have zW : W.heap.size = w.heap.size + 3 := by rw [hW]; simp
  have d0 : W.cell? ⟨w.heap.size, 0, none⟩ = some (.int .i64 S) := by rw [hW]; go_simp
  have d1 : W.cell? ⟨w.heap.size, 1, none⟩ = some (.slice ad n cp0) := by rw [hW]; go_simp
  have d2 : W.cell? ⟨w.heap.size, 2, none⟩ = some (.int .i64 P) := by rw [hW]; go_simp
  have d3 : W.cell? ⟨w.heap.size + 1, 0, none⟩ = some (.slice ta tl tc) := by rw [hW]; go_simp
  have d4 : W.cell? ⟨w.heap.size + 1, 1, none⟩ = some (.int .i64 y) := by rw [hW]; go_simp
  have d5 : W.cell? ⟨w.heap.size + 2, 0, none⟩ = some (.slice none 0 0) := by rw [hW]; go_simp
  have d6 : W.cell? ⟨w.heap.size + 2, 1, none⟩ = some (.int .i64 0) := by rw [hW]; go_simp
  have f0 : W.frozen? ⟨w.heap.size + 2, 0, none⟩ = false := by rw [hW]; go_simp
  have f1 : W.frozen? ⟨w.heap.size + 2, 1, none⟩ = false := by rw [hW]; go_simp
  have z0 : w.heap.size < W.heap.size := by omega
  have z1 : w.heap.size + 1 < W.heap.size := by omega
  have z2 : w.heap.size + 2 < W.heap.size := by omega
  clear zW
  have KC : Hid (∀ V : World, Below W.heap.size W V → (V.cell? ⟨w.heap.size, 0, none⟩ = some (.int .i64 S) ∧ V.cell? ⟨w.heap.size, 1, none⟩ = some (.slice ad n cp0) ∧ V.cell? ⟨w.heap.size, 2, none⟩ = some (.int .i64 P) ∧ V.cell? ⟨w.heap.size + 1, 0, none⟩ = some (.slice ta tl tc) ∧ V.cell? ⟨w.heap.size + 1, 1, none⟩ = some (.int .i64 y) ∧ V.cell? ⟨w.heap.size + 2, 0, none⟩ = some (.slice none 0 0) ∧ V.cell? ⟨w.heap.size + 2, 1, none⟩ = some (.int .i64 0)) ∧ V.frozen? ⟨w.heap.size + 2, 0, none⟩ = false ∧ V.frozen? ⟨w.heap.size + 2, 1, none⟩ = false) := fun V hV =>
    ⟨⟨(hV.cell (p := ⟨w.heap.size, 0, none⟩) z0).trans d0, (hV.cell (p := ⟨w.heap.size, 1, none⟩) z0).trans d1, (hV.cell (p := ⟨w.heap.size, 2, none⟩) z0).trans d2, (hV.cell (p := ⟨w.heap.size + 1, 0, none⟩) z1).trans d3, (hV.cell (p := ⟨w.heap.size + 1, 1, none⟩) z1).trans d4, (hV.cell (p := ⟨w.heap.size + 2, 0, none⟩) z2).trans d5, (hV.cell (p := ⟨w.heap.size + 2, 1, none⟩) z2).trans d6⟩, (hV.frozen (p := ⟨w.heap.size + 2, 0, none⟩) z2).trans f0, (hV.frozen (p := ⟨w.heap.size + 2, 1, none⟩) z2).trans f1⟩
  have HS : Hid (∀ V : World, Below W.heap.size W V → IsLabs V ad n cp0 L ∧ IsB V ta tl tc bs ∧ HasAt V 2 rHas ∧ TopsAt V ∧ WidsAt V) := fun V hV => by
    have hv := hB.trans (hV.mono hB.size)
    exact ⟨h.below hv, hT.below hv, hm.below hv hgM, ht.below hv hgT, hwd.below hv hgW⟩
  clear hm ht hwd
  go_enter Tryd.func18, Tryd.ntmps18
  go_upto_region 1 with (fail)
  rw [← hW]
  clear hW
  go_upto_region 3 with (go_at_call 31; refine (mayBe_any _ _ _ _ _ hl).mono ?_; rintro e w1 ⟨rfl, hb1⟩; rw [hmy])
  clear d0 d1 d2 d3 d4 d5 d6 f0 f1
  obtain ⟨⟨d0, d1, d2, d3, d4, d5, d6⟩, f0, f1⟩ := KC.out _ hb1
  go_upto_region 6 with (go_at_call 28; refine (hCk _ (HS.out _ hb1).1).mono ?_; rintro e w2 ⟨rfl, hb2'⟩; have hb2 : Below W.heap.size W w2 := hb1.trans (hb2'.mono hb1.size))
  clear d0 d1 d2 d3 d4 d5 d6 f0 f1
  obtain ⟨⟨d0, d1, d2, d3, d4, d5, d6⟩, f0, f1⟩ := KC.out _ hb2
  obtain ⟨s1, s2, s3, s4, s5⟩ := HS.out _ hb2
  go_upto_region 7 with (go_at_call 34; refine (hWh _ s1 s2 s3 s4 s5).mono ?_; rintro e w3 ⟨ao, cp, ys, q, rfl, hR, hall, hq, hao, hsn, hb3'⟩; have hb3 : Below W.heap.size W w3 := hb2.trans (hb3'.mono hb2.size))
  clear d0 d1 d2 d3 d4 d5 d6 f0 f1
  obtain ⟨⟨d0, d1, d2, d3, d4, d5, d6⟩, f0, f1⟩ := KC.out _ hb3
  have hIB3 := (HS.out _ hb3).2.1
  have hD : Below w3.heap.size w3 w3.drew := (Below.refl _ _).drew
  have hD3 : Below W.heap.size W w3.drew := hb3.trans (hD.mono hb3.size)
  have hsz := hb3.size
  have hCut := fun U (hU : Below w3.heap.size w3 U) => cut_any ta tl tc bs q U (hIB3.below hU) (by omega) hq
  have HCut : Hid (∀ U, Below w3.heap.size w3 U → Calls Tryd.prog 32 #[.slice ta tl tc, .int .i64 q] U fun e w' => ∃ a', e = .returned (.slice a' q q) ∧ IsB w' a' q q (bs.take q) ∧ Below U.heap.size U w' ∧ (∀ b off, a' = some ⟨b, off, none⟩ → U.heap.size ≤ b)) := hCut
  clear hCut
  have hW2 : w.heap.size + 2 < w2.heap.size := Nat.lt_of_lt_of_le z2 hb2.size
  have hfinal : ∀ (w4 : World) (a' : Option Addr), Below w3.heap.size w3 w4 → IsB w4 a' q q (bs.take q) → (∀ b off, a' = some ⟨b, off, none⟩ → w3.heap.size ≤ b) → ∀ u v : Value, IsRecs ((w4.setCell ⟨w.heap.size + 2, 0, none⟩ u).setCell ⟨w.heap.size + 2, 1, none⟩ v) ao ys.length cp ys ∧ IsB ((w4.setCell ⟨w.heap.size + 2, 0, none⟩ u).setCell ⟨w.heap.size + 2, 1, none⟩ v) a' q q (bs.take q) ∧ Below w.heap.size w ((w4.setCell ⟨w.heap.size + 2, 0, none⟩ u).setCell ⟨w.heap.size + 2, 1, none⟩ v) := fun w4 a' h4 hb4 hge u v => by
    have hne : ∀ b off, a' = some ⟨b, off, none⟩ → b ≠ w.heap.size + 2 := fun b off e => by have := hge b off e; omega
    have hw4 := hB.trans ((hb3.trans (h4.mono hb3.size)).mono hB.size)
    have hR4 := hR.below h4
    exact ⟨isRecs_set (isRecs_set hR4 (fun b off e => by have := hao b off e; omega) (fun y hy b off e => by have := hsn y hy b off e; omega)) (fun b off e => by have := hao b off e; omega) (fun y hy b off e => by have := hsn y hy b off e; omega), (hb4.set _ _ hne).set _ _ hne, (hw4.setCell (by simp) _).setCell (by simp) _⟩
  have hq0 : (q : Int) ≤ 6000 := by omega
  by_cases hyq : (q : Int) < y
  · have hyq' : ¬ y ≤ (q : Int) := by omega
    have hyq2 : ¬ y < (q : Int) := by omega
    have hyq3 : (q : Int) ≤ y := by omega
    have eZ : (if (q : Int) < y then (q : Int) else y) = (q : Int) := if_pos hyq
    go_region_held3 (fun V => V.cell? ⟨w.heap.size + 1, 0, none⟩ = some (.slice ta tl tc) ∧ V.cell? ⟨w.heap.size + 1, 1, none⟩ = some (.int .i64 y))
      (first | (go_keep; done) | exact ⟨(KC.out _ hW4).1.2.2.2.1, (KC.out _ hW4).1.2.2.2.2.1⟩ | exact ⟨(KC.out _ hD3).1.2.2.2.1, (KC.out _ hD3).1.2.2.2.2.1⟩ | exact ⟨(KC.out _ hb3).1.2.2.2.1, (KC.out _ hb3).1.2.2.2.2.1⟩)
      ((go_at_call 32; refine (HCut.out _ hD).mono ?_; rintro e w4 ⟨a', rfl, hB4, hb4', hge⟩; have hb4 : Below w3.heap.size w3 w4 := hD.trans (hb4'.mono hD.size); have hW4 : Below W.heap.size W w4 := hb3.trans (hb4.mono hb3.size); obtain ⟨⟨e0, e1, e2, e3, e4, e5, e6⟩, g0, g1⟩ := KC.out _ hW4))
    all_goals
      have hge' : ∀ b off, a' = some ⟨b, off, none⟩ → w3.heap.size ≤ b := fun b off e => by have := hge b off e; simpa using this
      go_wp2
      (try simp only [if_pos hyq])
      refine bodyPost_ret (v := .tuple #[.slice ao ys.length cp, .agg #[.slice a' q q, .int .i64 ((q : Int))], .int .i64 0]) (by simp [results, Tryd.results18, go_sem, e5, e6]; first | done | rfl) rfl ⟨ao, cp, ys, q, a', (q : Int), rfl, (hfinal w4 a' hb4 hB4 hge' _ _).1, hall, hq, (hfinal w4 a' hb4 hB4 hge' _ _).2.1, eZ.symm, fun b off e => by have := hge' b off e; omega, fun b off e => by have := hao b off e; omega, fun y hy b off e => by have := hsn y hy b off e; omega, (hfinal w4 a' hb4 hB4 hge' _ _).2.2⟩
  · have hyq' : y ≤ (q : Int) := by omega
    have eZ : (if (q : Int) < y then (q : Int) else y) = y := if_neg hyq
    by_cases hyq2 : y < (q : Int)
    · have hyq3 : ¬ (q : Int) ≤ y := by omega
      go_region_held3 (fun V => V.cell? ⟨w.heap.size + 1, 0, none⟩ = some (.slice ta tl tc) ∧ V.cell? ⟨w.heap.size + 1, 1, none⟩ = some (.int .i64 y))
        (first | (go_keep; done) | exact ⟨(KC.out _ hW4).1.2.2.2.1, (KC.out _ hW4).1.2.2.2.2.1⟩ | exact ⟨(KC.out _ hD3).1.2.2.2.1, (KC.out _ hD3).1.2.2.2.2.1⟩ | exact ⟨(KC.out _ hb3).1.2.2.2.1, (KC.out _ hb3).1.2.2.2.2.1⟩)
        ((go_at_call 32; refine (HCut.out _ hD).mono ?_; rintro e w4 ⟨a', rfl, hB4, hb4', hge⟩; have hb4 : Below w3.heap.size w3 w4 := hD.trans (hb4'.mono hD.size); have hW4 : Below W.heap.size W w4 := hb3.trans (hb4.mono hb3.size); obtain ⟨⟨e0, e1, e2, e3, e4, e5, e6⟩, g0, g1⟩ := KC.out _ hW4))
      all_goals
        have hge' : ∀ b off, a' = some ⟨b, off, none⟩ → w3.heap.size ≤ b := fun b off e => by have := hge b off e; simpa using this
        go_wp2
        (try simp only [if_neg hyq])
        refine bodyPost_ret (v := .tuple #[.slice ao ys.length cp, .agg #[.slice a' q q, .int .i64 (y)], .int .i64 0]) (by simp [results, Tryd.results18, go_sem, e5, e6]; first | done | rfl) rfl ⟨ao, cp, ys, q, a', y, rfl, (hfinal w4 a' hb4 hB4 hge' _ _).1, hall, hq, (hfinal w4 a' hb4 hB4 hge' _ _).2.1, eZ.symm, fun b off e => by have := hge' b off e; omega, fun b off e => by have := hao b off e; omega, fun y hy b off e => by have := hsn y hy b off e; omega, (hfinal w4 a' hb4 hB4 hge' _ _).2.2⟩
    · have hyq3 : (q : Int) ≤ y := by omega
      go_region_held3 (fun V => V.cell? ⟨w.heap.size + 1, 0, none⟩ = some (.slice ta tl tc) ∧ V.cell? ⟨w.heap.size + 1, 1, none⟩ = some (.int .i64 y))
        (first | (go_keep; done) | exact ⟨(KC.out _ hW4).1.2.2.2.1, (KC.out _ hW4).1.2.2.2.2.1⟩ | exact ⟨(KC.out _ hD3).1.2.2.2.1, (KC.out _ hD3).1.2.2.2.2.1⟩ | exact ⟨(KC.out _ hb3).1.2.2.2.1, (KC.out _ hb3).1.2.2.2.2.1⟩)
        ((go_at_call 32; refine (HCut.out _ hD).mono ?_; rintro e w4 ⟨a', rfl, hB4, hb4', hge⟩; have hb4 : Below w3.heap.size w3 w4 := hD.trans (hb4'.mono hD.size); have hW4 : Below W.heap.size W w4 := hb3.trans (hb4.mono hb3.size); obtain ⟨⟨e0, e1, e2, e3, e4, e5, e6⟩, g0, g1⟩ := KC.out _ hW4))
      all_goals
        have hge' : ∀ b off, a' = some ⟨b, off, none⟩ → w3.heap.size ≤ b := fun b off e => by have := hge b off e; simpa using this
        go_wp2
        (try simp only [if_neg hyq])
        refine bodyPost_ret (v := .tuple #[.slice ao ys.length cp, .agg #[.slice a' q q, .int .i64 (y)], .int .i64 0]) (by simp [results, Tryd.results18, go_sem, e5, e6]; first | done | rfl) rfl ⟨ao, cp, ys, q, a', y, rfl, (hfinal w4 a' hb4 hB4 hge' _ _).1, hall, hq, (hfinal w4 a' hb4 hB4 hge' _ _).2.1, eZ.symm, fun b off e => by have := hge' b off e; omega, fun b off e => by have := hao b off e; omega, fun y hy b off e => by have := hsn y hy b off e; omega, (hfinal w4 a' hb4 hB4 hge' _ _).2.2⟩
end Go.Proofs.YtfloplkepmpaiaaDoor
