/- The contract of the document's MessageBytes: a message that may be as its bytes; else the fault that msgFault tells. -/
import Derived.Test.YtilhkonanncfiaaDoorWRefTxn
import Derived.Test.YtilhkonanncfiaaDoorWFaultM
import Derived.Test.YtilhkonanncfiaaDoorWEncM
namespace Go.Proofs.YtilhkonanncfiaaDoor
open Go.ChangeShapes Go.WideShapes Go.ChangeAt Go.RowKit
set_option linter.unusedVariables false

theorem mBs_2 (U : World) (q : Nat) (hq : q = U.heap.size) (a1 a2 : Option Addr) (l1 c1 l2 c2 : Nat) (b1 b2 : List Int) (t : TypeId) (h1 : IsB U a1 l1 c1 b1) (h2 : IsB U a2 l2 c2 b2) : IsBs (U.alloc (.cells #[.slice a1 l1 c1, .slice a2 l2 c2] t)) q 2 [⟨a1, l1, c1, b1⟩, ⟨a2, l2, c2, b2⟩] := by
  subst hq
  have hb : Below U.heap.size U (U.alloc (.cells #[.slice a1 l1 c1, .slice a2 l2 c2] t)) := (Below.refl _ _).alloc (Nat.le_refl _) _
  refine ⟨rfl, by simp, fun i hi => ?_⟩
  rcases (by omega : i = 0 ∨ i = 1) with rfl | rfl
  · exact ⟨by go_simp, h1.below hb⟩
  · exact ⟨by go_simp, h2.below hb⟩
theorem mBs_3 (U : World) (q : Nat) (hq : q = U.heap.size) (a1 a2 a3 : Option Addr) (l1 c1 l2 c2 l3 c3 : Nat) (b1 b2 b3 : List Int) (t : TypeId) (h1 : IsB U a1 l1 c1 b1) (h2 : IsB U a2 l2 c2 b2) (h3 : IsB U a3 l3 c3 b3) : IsBs (U.alloc (.cells #[.slice a1 l1 c1, .slice a2 l2 c2, .slice a3 l3 c3] t)) q 3 [⟨a1, l1, c1, b1⟩, ⟨a2, l2, c2, b2⟩, ⟨a3, l3, c3, b3⟩] := by
  subst hq
  have hb : Below U.heap.size U (U.alloc (.cells #[.slice a1 l1 c1, .slice a2 l2 c2, .slice a3 l3 c3] t)) := (Below.refl _ _).alloc (Nat.le_refl _) _
  refine ⟨rfl, by simp, fun i hi => ?_⟩
  rcases (by omega : i = 0 ∨ i = 1 ∨ i = 2) with rfl | rfl | rfl
  · exact ⟨by go_simp, h1.below hb⟩
  · exact ⟨by go_simp, h2.below hb⟩
  · exact ⟨by go_simp, h3.below hb⟩
theorem mBs_4 (U : World) (q : Nat) (hq : q = U.heap.size) (a1 a2 a3 a4 : Option Addr) (l1 c1 l2 c2 l3 c3 l4 c4 : Nat) (b1 b2 b3 b4 : List Int) (t : TypeId) (h1 : IsB U a1 l1 c1 b1) (h2 : IsB U a2 l2 c2 b2) (h3 : IsB U a3 l3 c3 b3) (h4 : IsB U a4 l4 c4 b4) : IsBs (U.alloc (.cells #[.slice a1 l1 c1, .slice a2 l2 c2, .slice a3 l3 c3, .slice a4 l4 c4] t)) q 4 [⟨a1, l1, c1, b1⟩, ⟨a2, l2, c2, b2⟩, ⟨a3, l3, c3, b3⟩, ⟨a4, l4, c4, b4⟩] := by
  subst hq
  have hb : Below U.heap.size U (U.alloc (.cells #[.slice a1 l1 c1, .slice a2 l2 c2, .slice a3 l3 c3, .slice a4 l4 c4] t)) := (Below.refl _ _).alloc (Nat.le_refl _) _
  refine ⟨rfl, by simp, fun i hi => ?_⟩
  rcases (by omega : i = 0 ∨ i = 1 ∨ i = 2 ∨ i = 3) with rfl | rfl | rfl | rfl
  · exact ⟨by go_simp, h1.below hb⟩
  · exact ⟨by go_simp, h2.below hb⟩
  · exact ⟨by go_simp, h3.below hb⟩
  · exact ⟨by go_simp, h4.below hb⟩
theorem mBs_6 (U : World) (q : Nat) (hq : q = U.heap.size) (a1 a2 a3 a4 a5 a6 : Option Addr) (l1 c1 l2 c2 l3 c3 l4 c4 l5 c5 l6 c6 : Nat) (b1 b2 b3 b4 b5 b6 : List Int) (t : TypeId) (h1 : IsB U a1 l1 c1 b1) (h2 : IsB U a2 l2 c2 b2) (h3 : IsB U a3 l3 c3 b3) (h4 : IsB U a4 l4 c4 b4) (h5 : IsB U a5 l5 c5 b5) (h6 : IsB U a6 l6 c6 b6) : IsBs (U.alloc (.cells #[.slice a1 l1 c1, .slice a2 l2 c2, .slice a3 l3 c3, .slice a4 l4 c4, .slice a5 l5 c5, .slice a6 l6 c6] t)) q 6 [⟨a1, l1, c1, b1⟩, ⟨a2, l2, c2, b2⟩, ⟨a3, l3, c3, b3⟩, ⟨a4, l4, c4, b4⟩, ⟨a5, l5, c5, b5⟩, ⟨a6, l6, c6, b6⟩] := by
  subst hq
  have hb : Below U.heap.size U (U.alloc (.cells #[.slice a1 l1 c1, .slice a2 l2 c2, .slice a3 l3 c3, .slice a4 l4 c4, .slice a5 l5 c5, .slice a6 l6 c6] t)) := (Below.refl _ _).alloc (Nat.le_refl _) _
  refine ⟨rfl, by simp, fun i hi => ?_⟩
  rcases (by omega : i = 0 ∨ i = 1 ∨ i = 2 ∨ i = 3 ∨ i = 4 ∨ i = 5) with rfl | rfl | rfl | rfl | rfl | rfl
  · exact ⟨by go_simp, h1.below hb⟩
  · exact ⟨by go_simp, h2.below hb⟩
  · exact ⟨by go_simp, h3.below hb⟩
  · exact ⟨by go_simp, h4.below hb⟩
  · exact ⟨by go_simp, h5.below hb⟩
  · exact ⟨by go_simp, h6.below hb⟩
theorem mLit (Z U : World) (q n : Nat) (xs : List Int) (cs : Array Value) (hcs : cs.toList = bytesV xs) (hn : xs.length = n) (h4 : n ≤ 4) (hx : Byt xs) (hb : Below (Z.alloc (.cells cs 5)).heap.size (Z.alloc (.cells cs 5)) U) (hq : q = Z.heap.size) : IsB U (some ⟨q, 0, none⟩) n n xs := by
  subst hq
  have hs : cs.size = n := by rw [← Array.length_toList, hcs]; simp [bytesV, hn]
  have own : (Z.alloc (.cells cs 5)).ownsRow Z.heap.size 5 1 (.slice (some ⟨Z.heap.size, 0, none⟩) n n) n (bytesV xs) :=
    ⟨by simp [bytesV, hn], .inr ⟨Z.heap.size, n, cs, rfl, Nat.le_refl _, heap_alloc_new Z _, Nat.le_refl _, by unfold maxLen; omega, by omega, by rw [← hcs]; exact List.take_of_length_le (by rw [Array.length_toList, hs]; omega)⟩⟩
  exact (isB_slice own hx).1.below hb
theorem may_msg4 {s : Int} {ls : List (Int × Int)} {p : Int} {m : MV} (h : msgFault s ls p m = 0) : (1 ≤ m.kind ∧ m.kind ≤ 9) ∧ (0 ≤ m.frm ∧ m.frm < 256) ∧ (0 ≤ m.dst ∧ m.dst < 256) ∧ (0 ≤ m.site ∧ m.site < 256) ∧ (0 ≤ m.num ∧ m.num < 16777216) ∧ (0 ≤ m.label ∧ m.label < 256) ∧ (0 ≤ m.key ∧ m.key < 256) ∧ (0 ≤ m.value ∧ m.value < 4294967296) ∧ (0 ≤ m.version ∧ m.version < 16777216) ∧ (0 ≤ m.ask ∧ m.ask < 16777216) ∧ (0 ≤ m.code ∧ m.code < 256) := by
  obtain ⟨hc, hk, hr, hf⟩ := may_msg h
  obtain ⟨s1, s4, n1, n6, _, _, _⟩ := cfg_zero hc
  have kb := inR_of hk
  simp only [msgRange, txnOK, partsOK, inTops, topL, MV.parts, Bool.and_eq_true] at hr
  obtain ⟨⟨⟨a1, a2⟩, a3, a4⟩, ⟨⟨b0, b1, b2, b3, b4, b5, b6, b7, _⟩, _⟩, _⟩ := hr
  have c1 := inR_of a1
  have c2 := inR_of a2
  have c3 := inR_of a3
  have c4 := inR_of a4
  have d0 := inR_of b0
  have d1 := inR_of b1
  have d2 := inR_of b2
  have d3 := inR_of b3
  have d4 := inR_of b4
  have d6 := inR_of b6
  exact ⟨by omega, by omega, by omega, by omega, by omega, by omega, by omega, by omega, by omega, by omega, by omega⟩
def outM (kind frm dst site num : Int) : List Int := [kind, frm, dst] ++ (be site 1 ++ be num 3)

theorem mb_1 {frm dst site num label key value version ask code : Int} {yes : Bool} (hs : 0 ≤ site ∧ site < 256) (hl : 0 ≤ label ∧ label < 256) (hk : 0 ≤ key ∧ key < 256) (hc : 0 ≤ code ∧ code < 256) : msgBytes ⟨1, frm, dst, site, num, label, key, value, version, ask, yes, code⟩ = outM 1 frm dst site num ++ [label, key] ++ be ask 3 := by
  unfold outM
  have e1 := be_one hs.1 hs.2
  have e2 := be_one hl.1 hl.2
  have e3 := be_one hk.1 hk.2
  have e4 := be_one hc.1 hc.2
  have e5 : be (bit yes) 1 = [if yes then 1 else 0] := by cases yes <;> rfl
  simp [msgBytes, mHasOf, mHas, widL, encParts, MV.parts, e1, e2, e3]

theorem mb_2 {frm dst site num label key value version ask code : Int} {yes : Bool} (hs : 0 ≤ site ∧ site < 256) (hl : 0 ≤ label ∧ label < 256) (hk : 0 ≤ key ∧ key < 256) (hc : 0 ≤ code ∧ code < 256) : msgBytes ⟨2, frm, dst, site, num, label, key, value, version, ask, yes, code⟩ = outM 2 frm dst site num ++ [key] ++ be value 4 ++ be ask 3 := by
  unfold outM
  have e1 := be_one hs.1 hs.2
  have e2 := be_one hl.1 hl.2
  have e3 := be_one hk.1 hk.2
  have e4 := be_one hc.1 hc.2
  have e5 : be (bit yes) 1 = [if yes then 1 else 0] := by cases yes <;> rfl
  simp [msgBytes, mHasOf, mHas, widL, encParts, MV.parts, e1, e3]

theorem mb_3 {frm dst site num label key value version ask code : Int} {yes : Bool} (hs : 0 ≤ site ∧ site < 256) (hl : 0 ≤ label ∧ label < 256) (hk : 0 ≤ key ∧ key < 256) (hc : 0 ≤ code ∧ code < 256) : msgBytes ⟨3, frm, dst, site, num, label, key, value, version, ask, yes, code⟩ = outM 3 frm dst site num ++ [label, key] ++ be version 3 := by
  unfold outM
  have e1 := be_one hs.1 hs.2
  have e2 := be_one hl.1 hl.2
  have e3 := be_one hk.1 hk.2
  have e4 := be_one hc.1 hc.2
  have e5 : be (bit yes) 1 = [if yes then 1 else 0] := by cases yes <;> rfl
  simp [msgBytes, mHasOf, mHas, widL, encParts, MV.parts, e1, e2, e3]

theorem mb_4 {frm dst site num label key value version ask code : Int} {yes : Bool} (hs : 0 ≤ site ∧ site < 256) (hl : 0 ≤ label ∧ label < 256) (hk : 0 ≤ key ∧ key < 256) (hc : 0 ≤ code ∧ code < 256) : msgBytes ⟨4, frm, dst, site, num, label, key, value, version, ask, yes, code⟩ = outM 4 frm dst site num ++ [if yes then 1 else 0] := by
  unfold outM
  have e1 := be_one hs.1 hs.2
  have e2 := be_one hl.1 hl.2
  have e3 := be_one hk.1 hk.2
  have e4 := be_one hc.1 hc.2
  have e5 : be (bit yes) 1 = [if yes then 1 else 0] := by cases yes <;> rfl
  simp [msgBytes, mHasOf, mHas, widL, encParts, MV.parts, e1, e5]

theorem mb_5 {frm dst site num label key value version ask code : Int} {yes : Bool} (hs : 0 ≤ site ∧ site < 256) (hl : 0 ≤ label ∧ label < 256) (hk : 0 ≤ key ∧ key < 256) (hc : 0 ≤ code ∧ code < 256) : msgBytes ⟨5, frm, dst, site, num, label, key, value, version, ask, yes, code⟩ = outM 5 frm dst site num ++ [label, key] ++ be value 4 ++ be version 3 ++ be ask 3 ++ [code] := by
  unfold outM
  have e1 := be_one hs.1 hs.2
  have e2 := be_one hl.1 hl.2
  have e3 := be_one hk.1 hk.2
  have e4 := be_one hc.1 hc.2
  have e5 : be (bit yes) 1 = [if yes then 1 else 0] := by cases yes <;> rfl
  simp [msgBytes, mHasOf, mHas, widL, encParts, MV.parts, e1, e2, e3, e4]

theorem mb_6 {frm dst site num label key value version ask code : Int} {yes : Bool} (hs : 0 ≤ site ∧ site < 256) (hl : 0 ≤ label ∧ label < 256) (hk : 0 ≤ key ∧ key < 256) (hc : 0 ≤ code ∧ code < 256) : msgBytes ⟨6, frm, dst, site, num, label, key, value, version, ask, yes, code⟩ = outM 6 frm dst site num ++ [key] ++ be ask 3 ++ [code] := by
  unfold outM
  have e1 := be_one hs.1 hs.2
  have e2 := be_one hl.1 hl.2
  have e3 := be_one hk.1 hk.2
  have e4 := be_one hc.1 hc.2
  have e5 : be (bit yes) 1 = [if yes then 1 else 0] := by cases yes <;> rfl
  simp [msgBytes, mHasOf, mHas, widL, encParts, MV.parts, e1, e3, e4]

theorem mb_7 {frm dst site num label key value version ask code : Int} {yes : Bool} (hs : 0 ≤ site ∧ site < 256) (hl : 0 ≤ label ∧ label < 256) (hk : 0 ≤ key ∧ key < 256) (hc : 0 ≤ code ∧ code < 256) : msgBytes ⟨7, frm, dst, site, num, label, key, value, version, ask, yes, code⟩ = outM 7 frm dst site num ++ [label, key] ++ be version 3 ++ [if yes then 1 else 0] := by
  unfold outM
  have e1 := be_one hs.1 hs.2
  have e2 := be_one hl.1 hl.2
  have e3 := be_one hk.1 hk.2
  have e4 := be_one hc.1 hc.2
  have e5 : be (bit yes) 1 = [if yes then 1 else 0] := by cases yes <;> rfl
  simp [msgBytes, mHasOf, mHas, widL, encParts, MV.parts, e1, e2, e3, e5]

theorem mb_89 {kind frm dst site num label key value version ask code : Int} {yes : Bool} (hk : kind = 8 ∨ kind = 9) (hs : 0 ≤ site ∧ site < 256) : msgBytes ⟨kind, frm, dst, site, num, label, key, value, version, ask, yes, code⟩ = outM kind frm dst site num := by
  unfold outM
  have e1 := be_one hs.1 hs.2
  rcases hk with rfl | rfl <;> simp [msgBytes, mHasOf, mHas, widL, encParts, MV.parts, e1]

end Go.Proofs.YtilhkonanncfiaaDoor
