/- The contract of the document's RecordBytes: a record that may be as its bytes; else the fault that recFault tells. -/
import Derived.Test.YtilhkonanncfiaaDoorWRefTxn
import Derived.Test.YtilhkonanncfiaaDoorWFaultR
import Derived.Test.YtilhkonanncfiaaDoorWEncR
namespace Go.Proofs.YtilhkonanncfiaaDoor
open Go.ChangeShapes Go.WideShapes Go.ChangeAt Go.RowKit
set_option linter.unusedVariables false

theorem isBs_twoAt (U : World) (q : Nat) (hq : q = U.heap.size) (a1 a2 : Option Addr) (l1 l2 c1 c2 : Nat) (b1 b2 : List Int) (t : TypeId) (h1 : IsB U a1 l1 c1 b1) (h2 : IsB U a2 l2 c2 b2) : IsBs (U.alloc (.cells #[.slice a1 l1 c1, .slice a2 l2 c2] t)) q 2 [⟨a1, l1, c1, b1⟩, ⟨a2, l2, c2, b2⟩] := by
  subst hq
  exact isBs_two U a1 a2 l1 l2 c1 c2 b1 b2 t h1 h2
theorem isBs_fourAt (U : World) (q : Nat) (hq : q = U.heap.size) (a1 a2 a3 a4 : Option Addr) (l1 l2 l3 l4 c1 c2 c3 c4 : Nat) (b1 b2 b3 b4 : List Int) (t : TypeId) (h1 : IsB U a1 l1 c1 b1) (h2 : IsB U a2 l2 c2 b2) (h3 : IsB U a3 l3 c3 b3) (h4 : IsB U a4 l4 c4 b4) : IsBs (U.alloc (.cells #[.slice a1 l1 c1, .slice a2 l2 c2, .slice a3 l3 c3, .slice a4 l4 c4] t)) q 4 [⟨a1, l1, c1, b1⟩, ⟨a2, l2, c2, b2⟩, ⟨a3, l3, c3, b3⟩, ⟨a4, l4, c4, b4⟩] := by
  subst hq
  exact isBs_four U a1 a2 a3 a4 l1 l2 l3 l4 c1 c2 c3 c4 b1 b2 b3 b4 t h1 h2 h3 h4
theorem isB_oneAt (Z U : World) (q : Nat) (x : Int) (h0 : 0 ≤ x) (h1 : x < 256) (hb : Below (Z.alloc (.cells #[.int .u8 x] 5)).heap.size (Z.alloc (.cells #[.int .u8 x] 5)) U) (hq : q = Z.heap.size) : IsB U (some ⟨q, 0, none⟩) 1 1 [x] := by
  subst hq
  exact (isB_one Z x h0 h1).below hb
theorem may_rec3 {s : Int} {ls : List (Int × Int)} {p : Int} {r : RcV} (h : recFault s ls p r = 0) : (1 ≤ r.kind ∧ r.kind ≤ 6) ∧ (0 ≤ r.site ∧ r.site < 256) ∧ (0 ≤ r.num ∧ r.num < 16777216) ∧ (0 ≤ r.key ∧ r.key < 256) ∧ (0 ≤ r.value ∧ r.value < 4294967296) ∧ (0 ≤ r.ask ∧ r.ask < 16777216) ∧ r.sl ≤ 4 ∧ (∀ z ∈ r.sites, 0 ≤ z ∧ z < 256) ∧ recForm r = true := by
  obtain ⟨hc, hk, hr, hf⟩ := may_rec h
  obtain ⟨s1, s4, n1, n6, _, _, _⟩ := cfg_zero hc
  have kb := inR_of hk
  simp only [recRange, txnOK, partsOK, inTops, topL, Bool.and_eq_true] at hr
  obtain ⟨⟨⟨a1, a2⟩, ⟨⟨a3, a4, a5, a6, a7, a8, a9, a10, _⟩, _⟩, _⟩, hri⟩ := hr
  have b1 := inR_of a1
  have b2 := inR_of a2
  have b4 := inR_of a4
  have b5 := inR_of a5
  have b7 := inR_of a7
  have b10 := inR_of a10
  exact ⟨by omega, by omega, by omega, by omega, by omega, by omega, by omega, fun z hz => by have := rising_mem r.sites 0 hri (by omega) z hz; omega, hf⟩
theorem rb_1 {site num key value ask : Int} {yes : Bool} {sa : Option Addr} {sl sc : Nat} {sites : List Int} (hf : recForm ⟨1, site, num, key, value, ask, yes, sa, sl, sc, sites⟩ = true) (hl : sites.length = sl) (hs : 0 ≤ site ∧ site < 256) (hk : 0 ≤ key ∧ key < 256) : recBytes ⟨1, site, num, key, value, ask, yes, sa, sl, sc, sites⟩ = ([1] ++ (be site 1 ++ be num 3)) ++ [key] ++ be value 4 ++ be ask 3 := by
  have h0 : sl = 0 ∧ yes = false := by
    cases yes <;> simp [recForm, rHasOf, rHas, hasAll, bit] at hf
    exact ⟨hf, rfl⟩
  obtain ⟨rfl, rfl⟩ := h0
  obtain rfl := List.length_eq_zero_iff.1 hl
  rw [be_one hs.1 hs.2, ← be_one hk.1 hk.2]
  simp [recBytes, rHasOf, rHas, widL, encParts, RcV.parts]
theorem rb_26 {kind site num key value ask : Int} {yes : Bool} {sa : Option Addr} {sl sc : Nat} {sites : List Int} (hkd : kind = 2 ∨ kind = 6) (hf : recForm ⟨kind, site, num, key, value, ask, yes, sa, sl, sc, sites⟩ = true) (hl : sites.length = sl) (hs : 0 ≤ site ∧ site < 256) : recBytes ⟨kind, site, num, key, value, ask, yes, sa, sl, sc, sites⟩ = ([kind] ++ (be site 1 ++ be num 3)) ++ [if yes then 1 else 0] := by
  rw [be_one hs.1 hs.2]
  rcases hkd with rfl | rfl
  · have h0 : sl = 0 := by simp [recForm, rHasOf, rHas, hasAll] at hf; omega
    subst h0
    obtain rfl := List.length_eq_zero_iff.1 hl
    cases yes <;> simp [recBytes, rHasOf, rHas, widL, encParts, RcV.parts, bit, be]
  · have h0 : sl = 0 := by simp [recForm, rHasOf, rHas, hasAll] at hf; omega
    subst h0
    obtain rfl := List.length_eq_zero_iff.1 hl
    cases yes <;> simp [recBytes, rHasOf, rHas, widL, encParts, RcV.parts, bit, be]
theorem rb_45 {kind site num key value ask : Int} {yes : Bool} {sa : Option Addr} {sl sc : Nat} {sites : List Int} (hkd : kind = 4 ∨ kind = 5) (hf : recForm ⟨kind, site, num, key, value, ask, yes, sa, sl, sc, sites⟩ = true) (hl : sites.length = sl) (hs : 0 ≤ site ∧ site < 256) : recBytes ⟨kind, site, num, key, value, ask, yes, sa, sl, sc, sites⟩ = ([kind] ++ (be site 1 ++ be num 3)) := by
  rw [be_one hs.1 hs.2]
  rcases hkd with rfl | rfl
  · have h0 : sl = 0 := by simp [recForm, rHasOf, rHas, hasAll] at hf; omega
    subst h0
    obtain rfl := List.length_eq_zero_iff.1 hl
    simp [recBytes, rHasOf, rHas, widL, encParts, RcV.parts]
  · have h0 : sl = 0 := by simp [recForm, rHasOf, rHas, hasAll] at hf; omega
    subst h0
    obtain rfl := List.length_eq_zero_iff.1 hl
    simp [recBytes, rHasOf, rHas, widL, encParts, RcV.parts]
theorem rb_3 {site num key value ask : Int} {yes : Bool} {sa : Option Addr} {sl sc : Nat} {sites : List Int} (hs : 0 ≤ site ∧ site < 256) (h4 : sl ≤ 4) : recBytes ⟨3, site, num, key, value, ask, yes, sa, sl, sc, sites⟩ = (([3] ++ (be site 1 ++ be num 3)) ++ [(sl : Int)]) ++ sites := by
  rw [be_one hs.1 hs.2, ← be_one (n := (sl : Int)) (by omega) (by omega)]
  simp [recBytes, rHasOf, rHas, widL, encParts, RcV.parts]

set_option maxRecDepth 100000 in
set_option maxHeartbeats 8000000 in
theorem recordBytes_any (s p : Int) (a : Option Addr) (len cap : Nat) (ls : List (Int × Int)) (r : RcV) (w : World) (h : IsLabs w a len cap ls) (hi : IsInts w r.sa r.sl r.sc r.sites) :
    Calls Tryd.prog 9 #[.agg #[.int .i64 s, .slice a len cap, .int .i64 p], r.val] w fun e w' => ∃ x n y, e = .returned (.tuple #[.slice x n y, .int .i64 (recFault s ls p r)]) ∧ IsB w' x n y (if recFault s ls p r = 0 then recBytes r else []) ∧ Below w.heap.size w w' := by
  have hFF := fun w' h1 h2 => recordFault_any s p a len cap ls r w' h1 h2
  have hmay := @may_rec3 s ls p r
  have hil := hi.1
  obtain ⟨RB, eRB⟩ : ∃ RB, RB = recBytes r := ⟨_, rfl⟩
  obtain ⟨FV, eFV⟩ : ∃ FV, FV = recFault s ls p r := ⟨_, rfl⟩
  rw [← eRB, ← eFV]
  rw [← eFV] at hFF hmay
  have HRB : Hid (RB = recBytes r) := eRB
  clear eRB eFV
  obtain ⟨kind, site, num, key, value, ask, yes, sa, sl, sc, sites⟩ := r
  simp only [RcV.val] at hFF hmay hil hi ⊢
  obtain ⟨W, hW⟩ : ∃ W : World, W = (w.alloc (.cells #[.int .i64 s, .slice a len cap, .int .i64 p] 24)).alloc (.cells #[.int .i64 kind, .int .i64 site, .int .i64 num, .int .i64 key, .int .i64 value, .int .i64 ask, .bool yes, .slice sa sl sc] 36) := ⟨_, rfl⟩
  have hB : Below w.heap.size w W := by rw [hW]; exact ((Below.refl _ _).alloc (Nat.le_refl _) _).alloc (by simp) _
  have z0 : w.heap.size < W.heap.size := by rw [hW]; simp; omega
  have z1 : w.heap.size + 1 < W.heap.size := by rw [hW]; simp
  have c0 : W.cell? ⟨w.heap.size, 0, none⟩ = some (.int .i64 s) := by rw [hW]; go_simp
  have c1 : W.cell? ⟨w.heap.size, 1, none⟩ = some (.slice a len cap) := by rw [hW]; go_simp
  have c2 : W.cell? ⟨w.heap.size, 2, none⟩ = some (.int .i64 p) := by rw [hW]; go_simp
  have d0 : W.cell? ⟨w.heap.size + 1, 0, none⟩ = some (.int .i64 kind) := by rw [hW]; go_simp
  have d1 : W.cell? ⟨w.heap.size + 1, 1, none⟩ = some (.int .i64 site) := by rw [hW]; go_simp
  have d2 : W.cell? ⟨w.heap.size + 1, 2, none⟩ = some (.int .i64 num) := by rw [hW]; go_simp
  have d3 : W.cell? ⟨w.heap.size + 1, 3, none⟩ = some (.int .i64 key) := by rw [hW]; go_simp
  have d4 : W.cell? ⟨w.heap.size + 1, 4, none⟩ = some (.int .i64 value) := by rw [hW]; go_simp
  have d5 : W.cell? ⟨w.heap.size + 1, 5, none⟩ = some (.int .i64 ask) := by rw [hW]; go_simp
  have d6 : W.cell? ⟨w.heap.size + 1, 6, none⟩ = some (.bool yes) := by rw [hW]; go_simp
  have d7 : W.cell? ⟨w.heap.size + 1, 7, none⟩ = some (.slice sa sl sc) := by rw [hW]; go_simp
  have KD : Hid (∀ U : World, Below W.heap.size W U → U.cell? ⟨w.heap.size + 1, 0, none⟩ = some (.int .i64 kind) ∧ U.cell? ⟨w.heap.size + 1, 1, none⟩ = some (.int .i64 site) ∧ U.cell? ⟨w.heap.size + 1, 2, none⟩ = some (.int .i64 num) ∧ U.cell? ⟨w.heap.size + 1, 3, none⟩ = some (.int .i64 key) ∧ U.cell? ⟨w.heap.size + 1, 4, none⟩ = some (.int .i64 value) ∧ U.cell? ⟨w.heap.size + 1, 5, none⟩ = some (.int .i64 ask) ∧ U.cell? ⟨w.heap.size + 1, 6, none⟩ = some (.bool yes) ∧ U.cell? ⟨w.heap.size + 1, 7, none⟩ = some (.slice sa sl sc)) := fun U hU =>
    ⟨(hU.cell (p := ⟨w.heap.size + 1, 0, none⟩) z1).trans d0, (hU.cell (p := ⟨w.heap.size + 1, 1, none⟩) z1).trans d1, (hU.cell (p := ⟨w.heap.size + 1, 2, none⟩) z1).trans d2, (hU.cell (p := ⟨w.heap.size + 1, 3, none⟩) z1).trans d3, (hU.cell (p := ⟨w.heap.size + 1, 4, none⟩) z1).trans d4, (hU.cell (p := ⟨w.heap.size + 1, 5, none⟩) z1).trans d5, (hU.cell (p := ⟨w.heap.size + 1, 6, none⟩) z1).trans d6, (hU.cell (p := ⟨w.heap.size + 1, 7, none⟩) z1).trans d7⟩
  have hLW := h.below hB
  have hIW := hi.below hB
  go_enter Tryd.func9, Tryd.ntmps9
  go_upto_region 1 with (fail)
  rw [← hW]
  clear hW
  by_cases hF0 : FV = 0
  · obtain ⟨hk, hs, hn, hky, hv, ha, h4, hz, hf⟩ := hmay hF0
    subst hF0
    have HFORM : Hid (recForm ⟨kind, site, num, key, value, ask, yes, sa, sl, sc, sites⟩ = true) := hf
    have HZ : Hid (∀ z ∈ sites, 0 ≤ z ∧ z < 256) := hz
    have HIL : Hid (sites.length = sl) := hil
    clear hf hz hil hmay
    have mk : kind % 256 = kind := by omega
    have mky : key % 256 = key := by omega
    have uk : IntKind.u8.wrap kind = kind := wrapU (by omega)
    have uky : IntKind.u8.wrap key = key := wrapU (by omega)
    have hT := fun w' => txnBytes_any site num w' hs (by omega)
    go_upto_region 4 with (go_at_call 25; refine (hFF _ hLW hIW).mono ?_; rintro e w1 ⟨rfl, hb1⟩)
    clear c0 c1 c2 d0 d1 d2 d3 d4 d5 d6 d7
    obtain ⟨d0, d1, d2, d3, d4, d5, d6, d7⟩ := KD.out _ hb1
    have KD1 : Hid (∀ U : World, Below w1.heap.size w1 U → _) := fun U hU => KD.out U (hb1.trans (hU.mono hb1.size))
    go_cut [7] (fun v wc => ∃ x y, v = .slice x 5 y ∧ wc.ownsRow W.heap.size 5 1 (.slice x 5 y) 5 (bytesV ([kind] ++ (be site 1 ++ be num 3))) ∧ Below w1.heap.size w1 wc)
    case first =>
      go_region_held3 (fun U => U.cell? ⟨w.heap.size + 1, 0, none⟩ = some (.int .i64 kind) ∧ U.cell? ⟨w.heap.size + 1, 1, none⟩ = some (.int .i64 site) ∧ U.cell? ⟨w.heap.size + 1, 2, none⟩ = some (.int .i64 num) ∧ U.cell? ⟨w.heap.size + 1, 3, none⟩ = some (.int .i64 key) ∧ U.cell? ⟨w.heap.size + 1, 4, none⟩ = some (.int .i64 value) ∧ U.cell? ⟨w.heap.size + 1, 5, none⟩ = some (.int .i64 ask) ∧ U.cell? ⟨w.heap.size + 1, 6, none⟩ = some (.bool yes) ∧ U.cell? ⟨w.heap.size + 1, 7, none⟩ = some (.slice sa sl sc))
        (exact KD1.out _ (by (with_reducible repeat (first | exact Below.refl _ _ | refine jD ?_ | refine jA ?_ _ | refine jT ?_ hb3' | refine jT ?_ hb1')); done))
        (first
          | (go_at_call 20; refine (hT _).mono ?_; rintro e u1 ⟨x1, y1, rfl, own1, hb1'⟩; have K1 : Hid (∀ U, Below u1.heap.size u1 U → IsB U x1 4 y1 (be site 1 ++ be num 3)) := fun U hU => (isB_slice own1 (fun b hb => by rcases List.mem_append.1 hb with hb | hb; exact be_byt _ _ b hb; exact be_byt _ _ b hb)).1.below hU)
          | (go_at_call 19; refine (joined_any _ 2 _ _ (isBs_twoAt _ _ (by simp) _ x1 1 4 1 y1 [kind] (be site 1 ++ be num 3) _ (by first | (refine isB_oneAt u1 _ _ kind (by omega) (by omega) ?_ (by simp; done); (with_reducible repeat (first | exact Below.refl _ _ | refine jD ?_ | refine jA ?_ _ | refine jT ?_ hb1')); done) | (refine isB_oneAt u1.drew _ _ kind (by omega) (by omega) ?_ (by simp; done); (with_reducible repeat (first | exact Below.refl _ _ | refine jD ?_ | refine jA ?_ _ | refine jT ?_ hb1')); done) | (refine isB_oneAt w1.drew _ _ kind (by omega) (by omega) ?_ (by simp; done); (with_reducible repeat (first | exact Below.refl _ _ | refine jD ?_ | refine jA ?_ _ | refine jT ?_ hb1')); done) | (refine isB_oneAt w1 _ _ kind (by omega) (by omega) ?_ (by simp; done); (with_reducible repeat (first | exact Below.refl _ _ | refine jD ?_ | refine jA ?_ _ | refine jT ?_ hb1')); done)) (K1.out _ (by (with_reducible repeat (first | exact Below.refl _ _ | refine jD ?_ | refine jA ?_ _ | refine jT ?_ hb1')); done))) (by omega) (by simp [catB, be_len])).mono ?_; rintro e u3 ⟨v3, rfl, own3, hb3'⟩; rw [show ∀ q, catB [⟨q, 1, 1, [kind]⟩, ⟨x1, 4, y1, be site 1 ++ be num 3⟩] = [kind] ++ (be site 1 ++ be num 3) from (fun q => by simp [catB]), show ([kind] ++ (be site 1 ++ be num 3)).length = 5 from (by simp [be_len])] at own3; replace own3 := jB own3 (Nat.le_trans hb1.size (Below.size (show Below w1.heap.size w1 _ from (by (with_reducible repeat (first | exact Below.refl _ _ | refine jD ?_ | refine jA ?_ _ | refine jT ?_ hb1')); done)))); obtain ⟨x3, y3, rfl⟩ := own_slice own3))
      all_goals
        go_wp2
        go_meet
        case rel => exact ⟨x3, y3, rfl, own3, (by (with_reducible repeat (first | exact Below.refl _ _ | refine jD ?_ | refine jA ?_ _ | refine jT ?_ hb3' | refine jT ?_ hb1')); done)⟩
    case rest =>
      obtain ⟨x, y, rfl, own7, hbc⟩ := hcut
      obtain ⟨X, eX⟩ : ∃ X, X = wc := ⟨_, rfl⟩
      rw [← eX] at own7 hbc ⊢
      clear eX d0 d1 d2 d3 d4 d5 d6 d7
      obtain ⟨d0, d1, d2, d3, d4, d5, d6, d7⟩ := KD1.out _ hbc
      have hWX : Below W.heap.size W X := hb1.trans (hbc.mono hb1.size)
      have hwX : Below w.heap.size w X := hB.trans (hWX.mono hB.size)
      have hbyt : Byt ([kind] ++ (be site 1 ++ be num 3)) := fun b hb => by
        simp only [List.mem_append, List.mem_singleton] at hb
        rcases hb with rfl | hb | hb
        · omega
        · exact be_byt _ _ b hb
        · exact be_byt _ _ b hb
      have hI7 := (isB_slice own7 hbyt).1
      have K7 : Hid (∀ U, Below X.heap.size X U → IsB U x 5 y ([kind] ++ (be site 1 ++ be num 3))) := fun U hU => hI7.below hU
      obtain ⟨OUT, eOUT⟩ : ∃ OUT, OUT = [kind] ++ (be site 1 ++ be num 3) := ⟨_, rfl⟩
      have HOUT : Hid (OUT = [kind] ++ (be site 1 ++ be num 3)) := eOUT
      have HOL : Hid (OUT.length = 5) := by show _ = _; rw [eOUT]; simp [be_len]
      rw [← eOUT] at own7 hI7 K7 hbyt
      clear eOUT
      have KX : Hid (∀ U : World, Below X.heap.size X U → U.cell? ⟨w.heap.size + 1, 0, none⟩ = some (.int .i64 kind) ∧ U.cell? ⟨w.heap.size + 1, 1, none⟩ = some (.int .i64 site) ∧ U.cell? ⟨w.heap.size + 1, 2, none⟩ = some (.int .i64 num) ∧ U.cell? ⟨w.heap.size + 1, 3, none⟩ = some (.int .i64 key) ∧ U.cell? ⟨w.heap.size + 1, 4, none⟩ = some (.int .i64 value) ∧ U.cell? ⟨w.heap.size + 1, 5, none⟩ = some (.int .i64 ask) ∧ U.cell? ⟨w.heap.size + 1, 6, none⟩ = some (.bool yes) ∧ U.cell? ⟨w.heap.size + 1, 7, none⟩ = some (.slice sa sl sc)) := fun U hU => KD1.out U (hbc.trans (hU.mono hbc.size))
      rcases (by omega : kind = 1 ∨ kind = 2 ∨ kind = 3 ∨ kind = 4 ∨ kind = 5 ∨ kind = 6) with hkd | hkd | hkd | hkd | hkd | hkd
      · subst hkd
        have HEQ : Hid (RB = OUT ++ [key] ++ be value 4 ++ be ask 3) := by show _ = _; rw [HRB.out, rb_1 HFORM.out HIL.out hs hky, HOUT.out]
        have hV := fun w' => bytesOf_any value 4 w' hv.1 (by omega) (by omega) (by omega)
        have hA := fun w' => bytesOf_any ask 3 w' ha.1 (by omega) (by omega) (by omega)
        go_upto_region 7 with (fail)
        go_region_held3 (fun U => U.cell? ⟨w.heap.size + 1, 0, none⟩ = some (.int .i64 1) ∧ U.cell? ⟨w.heap.size + 1, 1, none⟩ = some (.int .i64 site) ∧ U.cell? ⟨w.heap.size + 1, 2, none⟩ = some (.int .i64 num) ∧ U.cell? ⟨w.heap.size + 1, 3, none⟩ = some (.int .i64 key) ∧ U.cell? ⟨w.heap.size + 1, 4, none⟩ = some (.int .i64 value) ∧ U.cell? ⟨w.heap.size + 1, 5, none⟩ = some (.int .i64 ask) ∧ U.cell? ⟨w.heap.size + 1, 6, none⟩ = some (.bool yes) ∧ U.cell? ⟨w.heap.size + 1, 7, none⟩ = some (.slice sa sl sc))
            (exact KX.out _ (by (with_reducible repeat (first | exact Below.refl _ _ | refine jD ?_ | refine jA ?_ _ | refine jT ?_ hb3' | refine jT ?_ hb2' | refine jT ?_ hb1')); done))
            (first
              | (go_at_call_of 21 (Value.int .i64 value); refine (hV _).mono ?_; rintro e u1 ⟨x1, y1, rfl, own1, hb1'⟩; have K1 : Hid (∀ U, Below u1.heap.size u1 U → IsB U x1 4 y1 (be value 4)) := fun U hU => (isB_slice own1 (be_byt _ _)).1.below hU)
              | (go_at_call_of 21 (Value.int .i64 ask); refine (hA _).mono ?_; rintro e u2 ⟨x2, y2, rfl, own2, hb2'⟩; have K2 : Hid (∀ U, Below u2.heap.size u2 U → IsB U x2 3 y2 (be ask 3)) := fun U hU => (isB_slice own2 (be_byt _ _)).1.below hU)
              | (go_at_call 19; refine (joined_any _ 4 _ _ (isBs_fourAt _ _ (by simp) x _ x1 x2 5 1 4 3 y 1 y1 y2 OUT [key] (be value 4) (be ask 3) _ (K7.out _ (by (with_reducible repeat (first | exact Below.refl _ _ | refine jD ?_ | refine jA ?_ _ | refine jT ?_ hb2' | refine jT ?_ hb1')); done)) (by first | (refine isB_oneAt u1 _ _ key (by omega) (by omega) ?_ (by simp; done); (with_reducible repeat (first | exact Below.refl _ _ | refine jD ?_ | refine jA ?_ _ | refine jT ?_ hb2' | refine jT ?_ hb1')); done) | (refine isB_oneAt u2 _ _ key (by omega) (by omega) ?_ (by simp; done); (with_reducible repeat (first | exact Below.refl _ _ | refine jD ?_ | refine jA ?_ _ | refine jT ?_ hb2' | refine jT ?_ hb1')); done) | (refine isB_oneAt X.drew _ _ key (by omega) (by omega) ?_ (by simp; done); (with_reducible repeat (first | exact Below.refl _ _ | refine jD ?_ | refine jA ?_ _ | refine jT ?_ hb2' | refine jT ?_ hb1')); done) | (refine isB_oneAt X _ _ key (by omega) (by omega) ?_ (by simp; done); (with_reducible repeat (first | exact Below.refl _ _ | refine jD ?_ | refine jA ?_ _ | refine jT ?_ hb2' | refine jT ?_ hb1')); done) | (refine isB_oneAt u1.drew _ _ key (by omega) (by omega) ?_ (by simp; done); (with_reducible repeat (first | exact Below.refl _ _ | refine jD ?_ | refine jA ?_ _ | refine jT ?_ hb2' | refine jT ?_ hb1')); done) | (refine isB_oneAt u2.drew _ _ key (by omega) (by omega) ?_ (by simp; done); (with_reducible repeat (first | exact Below.refl _ _ | refine jD ?_ | refine jA ?_ _ | refine jT ?_ hb2' | refine jT ?_ hb1')); done)) (K1.out _ (by (with_reducible repeat (first | exact Below.refl _ _ | refine jD ?_ | refine jA ?_ _ | refine jT ?_ hb2' | refine jT ?_ hb1')); done)) (K2.out _ (by (with_reducible repeat (first | exact Below.refl _ _ | refine jD ?_ | refine jA ?_ _ | refine jT ?_ hb2' | refine jT ?_ hb1')); done))) (by omega) (by simp [catB, be_len]; have := HOL.out; omega)).mono ?_; rintro e u3 ⟨v3, rfl, own3, hb3'⟩; rw [show ∀ q, catB [⟨x, 5, y, OUT⟩, ⟨q, 1, 1, [key]⟩, ⟨x1, 4, y1, be value 4⟩, ⟨x2, 3, y2, be ask 3⟩] = RB from (fun q => by rw [HEQ.out]; simp [catB])] at own3; obtain ⟨x3, y3, rfl⟩ := own_slice own3))
        all_goals
          have hX3 : Below X.heap.size X u3 := by (with_reducible repeat (first | exact Below.refl _ _ | refine jD ?_ | refine jA ?_ _ | refine jT ?_ hb3' | refine jT ?_ hb2' | refine jT ?_ hb1')); done
          have hB8 := (isB_slice own3 (by rw [HEQ.out]; intro b hb; simp only [List.mem_append, List.mem_singleton] at hb; rcases hb with ((hb | hb) | hb) | hb; exact hbyt b hb; omega; exact be_byt _ _ b hb; exact be_byt _ _ b hb)).1
          go_wp2
          go_ret2
          exact ⟨x3, _, y3, rfl, hB8, hwX.trans (hX3.mono hwX.size)⟩
      · subst hkd
        have HEQ : Hid (RB = OUT ++ [if yes then 1 else 0]) := by show _ = _; rw [HRB.out, rb_26 (.inl rfl) HFORM.out HIL.out hs, HOUT.out]
        have hBb := fun w' => bitByte_any yes w'
        have hy01 : 0 ≤ (if yes then (1 : Int) else 0) ∧ (if yes then (1 : Int) else 0) < 256 := by cases yes <;> simp
        obtain ⟨yb, eyb⟩ : ∃ yb : Int, yb = if yes then 1 else 0 := ⟨_, rfl⟩
        rw [← eyb] at HEQ hBb hy01
        clear eyb
        go_wp2_with (first | (go_at_call 22; refine (hBb _).mono ?_; rintro e u1 ⟨x1, y1, rfl, own1, hb1'⟩; have K1 : Hid (∀ U, Below u1.heap.size u1 U → IsB U x1 1 y1 [yb]) := fun U hU => (isB_slice own1 (fun b hb => by simp at hb; omega)).1.below hU) | (go_at_call 19; refine (joined_any _ 2 _ _ (isBs_twoAt _ _ (by simp) x x1 5 1 y y1 OUT [yb] _ (K7.out _ (by (with_reducible repeat (first | exact Below.refl _ _ | refine jD ?_ | refine jA ?_ _ | refine jT ?_ hb1')); done)) (K1.out _ (Below.refl _ _))) (by omega) (by simp [catB]; have := HOL.out; omega)).mono ?_; rintro e u3 ⟨v3, rfl, own3, hb3'⟩; rw [show catB [⟨x, 5, y, OUT⟩, ⟨x1, 1, y1, [yb]⟩] = RB from (by rw [HEQ.out]; simp [catB])] at own3; obtain ⟨x3, y3, rfl⟩ := own_slice own3))
        have hX3 : Below X.heap.size X u3 := by (with_reducible repeat (first | exact Below.refl _ _ | refine jD ?_ | refine jA ?_ _ | refine jT ?_ hb3' | refine jT ?_ hb1')); done
        have hB8 := (isB_slice own3 (by rw [HEQ.out]; intro b hb; simp only [List.mem_append, List.mem_singleton] at hb; rcases hb with hb | hb; exact hbyt b hb; omega)).1
        go_ret2
        exact ⟨x3, _, y3, rfl, hB8, hwX.trans (hX3.mono hwX.size)⟩
      · subst hkd
        have HEQ : Hid (RB = (OUT ++ [(sl : Int)]) ++ sites) := by show _ = _; rw [HRB.out, rb_3 hs h4, HOUT.out]
        have ms : (sl : Int) % 256 = (sl : Int) := by omega
        have us : IntKind.u8.wrap (sl : Int) = (sl : Int) := wrapU (by omega)
        have hol := HOL.out
        have hzX := hWX.size
        have hone := isB_one X (sl : Int) (by omega) (by omega)
        clear hI7
        go_upto_region 13 with (at_builtin; go_loud (refine wpList_append_bytes (by rfl) _ _ (by rfl) W.heap.size (.slice x 5 y) 5 OUT (by rfl) (own7.alloc _) (some ⟨X.heap.size, 0, none⟩) 1 1 [(sl : Int)] (by rfl) hone (by omega) (by simp; omega) ?_; intro v' w6 own6 gr6 at6; obtain ⟨x6, y6, rfl⟩ := own_slice own6))
        have hW6 : Below W.heap.size W w6 := (hWX.alloc hWX.size _).grown gr6 (by simp; omega) (fun m hm => (own7.lt m hm).1)
        clear d0 d1 d2 d3 d4 d5 d6 d7 gr6 at6 hone hol
        go_wp2
        go_loopw [7, 8] (fun v i wr => ∃ (x8 : Option Addr) (y8 j : Nat) (cs : List Int), v = .slice x8 (6 + j) y8 ∧ i = .int .i64 (j : Int) ∧ j ≤ sl ∧ Hid (cs = (OUT ++ [(sl : Int)]) ++ sites.take j) ∧ wr.ownsRow W.heap.size 5 1 (.slice x8 (6 + j) y8) (6 + j) (bytesV cs) ∧ Below W.heap.size W wr) (fun _ i _ => sl - (intOf i).toNat)
        case atStart => exact ⟨x6, y6, 0, OUT ++ [(sl : Int)], rfl, rfl, Nat.zero_le _, (by show _ = _; simp), own6, hW6⟩
        case round =>
          obtain ⟨x8, y8, j, cs, rfl, rfl, hj, hcs, hown, hb⟩ := hrel
          obtain ⟨d0, d1, d2, d3, d4, d5, d6, d7⟩ := KD.out _ hb
          by_cases hjl : j < sl
          · have hjl' : (j : Int) < (sl : Int) := by omega
            obtain ⟨bi, oi, rfl, hbi, hci⟩ := (hIW.below hb).2.2.2.2 (by omega)
            have hcj := hci j hjl
            have hjs : j < sites.length := by rw [HIL.out]; exact hjl
            have hzj : 0 ≤ sites.getD j 0 ∧ sites.getD j 0 < 256 := HZ.out _ (by simp [List.getD, hjs])
            have HN : Hid ((OUT ++ [(sl : Int)]) ++ sites.take (j + 1) = cs ++ [sites.getD j 0]) := by
              show _ = _
              rw [hcs.out, List.take_succ_eq_append_getElem hjs]
              simp [List.getD, hjs]
            obtain ⟨z, ez⟩ : ∃ z, z = sites.getD j 0 := ⟨_, rfl⟩
            rw [← ez] at hcj hzj HN
            clear ez hci
            have mz : z % 256 = z := by omega
            have uz : IntKind.u8.wrap z = z := wrapU hzj
            have hz8 := hb.size
            have hone := isB_one wr z hzj.1 hzj.2
            go_wp2_with (at_builtin; go_loud (refine wpList_append_bytes (by rfl) _ _ (by rfl) W.heap.size (.slice x8 (6 + j) y8) (6 + j) cs (by rfl) (hown.alloc _) (some ⟨wr.heap.size, 0, none⟩) 1 1 [z] (by rfl) hone (by omega) (by simp; omega) ?_; intro v' w9 own9 gr9 at9; obtain ⟨x9, y9, rfl⟩ := own_slice own9))
            go_roundw
            case rel => exact ⟨x9, y9, j + 1, cs ++ [z], rfl, by go_num, by omega, HN.out.symm, own9, (hb.alloc hb.size _).grown gr9 (by simp; omega) (fun m hm => (hown.lt m hm).1)⟩
            case measure => simp [intOf]; omega
          · obtain rfl : j = sl := by omega
            have hfin : cs = RB := by rw [hcs.out, HEQ.out, List.take_of_length_le (by rw [HIL.out]; exact Nat.le_refl _)]
            rw [hfin] at hown
            have hB8 := (isB_slice hown (by rw [HEQ.out]; intro b hb; simp only [List.mem_append, List.mem_singleton] at hb; rcases hb with (hb | hb) | hb; exact hbyt b hb; omega; exact HZ.out b hb)).1
            clear hfin hcs
            go_wp2
            go_ret2
            exact ⟨x8, _, y8, rfl, hB8, hB.trans (hb.mono hB.size)⟩
      · subst hkd
        go_wp2
        go_ret2
        exact ⟨x, 5, y, rfl, by rw [HRB.out, rb_45 (.inl rfl) HFORM.out HIL.out hs, ← HOUT.out]; exact hI7, hwX⟩
      · subst hkd
        go_wp2
        go_ret2
        exact ⟨x, 5, y, rfl, by rw [HRB.out, rb_45 (.inr rfl) HFORM.out HIL.out hs, ← HOUT.out]; exact hI7, hwX⟩
      · subst hkd
        have HEQ : Hid (RB = OUT ++ [if yes then 1 else 0]) := by show _ = _; rw [HRB.out, rb_26 (.inr rfl) HFORM.out HIL.out hs, HOUT.out]
        have hBb := fun w' => bitByte_any yes w'
        have hy01 : 0 ≤ (if yes then (1 : Int) else 0) ∧ (if yes then (1 : Int) else 0) < 256 := by cases yes <;> simp
        obtain ⟨yb, eyb⟩ : ∃ yb : Int, yb = if yes then 1 else 0 := ⟨_, rfl⟩
        rw [← eyb] at HEQ hBb hy01
        clear eyb
        go_wp2_with (first | (go_at_call 22; refine (hBb _).mono ?_; rintro e u1 ⟨x1, y1, rfl, own1, hb1'⟩; have K1 : Hid (∀ U, Below u1.heap.size u1 U → IsB U x1 1 y1 [yb]) := fun U hU => (isB_slice own1 (fun b hb => by simp at hb; omega)).1.below hU) | (go_at_call 19; refine (joined_any _ 2 _ _ (isBs_twoAt _ _ (by simp) x x1 5 1 y y1 OUT [yb] _ (K7.out _ (by (with_reducible repeat (first | exact Below.refl _ _ | refine jD ?_ | refine jA ?_ _ | refine jT ?_ hb1')); done)) (K1.out _ (Below.refl _ _))) (by omega) (by simp [catB]; have := HOL.out; omega)).mono ?_; rintro e u3 ⟨v3, rfl, own3, hb3'⟩; rw [show catB [⟨x, 5, y, OUT⟩, ⟨x1, 1, y1, [yb]⟩] = RB from (by rw [HEQ.out]; simp [catB])] at own3; obtain ⟨x3, y3, rfl⟩ := own_slice own3))
        have hX3 : Below X.heap.size X u3 := by (with_reducible repeat (first | exact Below.refl _ _ | refine jD ?_ | refine jA ?_ _ | refine jT ?_ hb3' | refine jT ?_ hb1')); done
        have hB8 := (isB_slice own3 (by rw [HEQ.out]; intro b hb; simp only [List.mem_append, List.mem_singleton] at hb; rcases hb with hb | hb; exact hbyt b hb; omega)).1
        go_ret2
        exact ⟨x3, _, y3, rfl, hB8, hwX.trans (hX3.mono hwX.size)⟩
  · go_wp2_with (go_at_call 25; refine (hFF _ hLW hIW).mono ?_; rintro e w1 ⟨rfl, hb1⟩)
    go_ret2
    exact ⟨none, 0, 0, rfl, isB_nil _, hB.trans (hb1.mono hB.size)⟩
end Go.Proofs.YtilhkonanncfiaaDoor
