/- The contract of wire.EncodeMessage: a message that may be as its bytes, in new memory; else the fault that msgFault tells. -/
import Derived.Test.YtilhkonanncfiaaDoorWAppend
import Derived.Test.YtilhkonanncfiaaDoorWCheckM
import Derived.Test.YtilhkonanncfiaaDoorWMay
namespace Go.Proofs.YtilhkonanncfiaaDoor
open Go.ChangeShapes Go.WideShapes Go.ChangeAt Go.RowKit
set_option linter.unusedVariables false

/-- Bytes that are answered, and an error: they lie in new memory. -/
def BytesAns (w w' : World) (e : Ending) (bs : List Int) (err : Int) : Prop :=
  ∃ a len cap, e = .returned (.tuple #[.slice a len cap, .int .i64 err]) ∧ IsB w' a len cap bs ∧ (∀ b off, a = some ⟨b, off, none⟩ → w.heap.size ≤ b) ∧ Below w.heap.size w w'

theorem own_lit3 {w : World} {B : Nat} (x y z : Int) (hB : B ≤ w.heap.size) : (w.alloc (.cells #[.int .u8 x, .int .u8 y, .int .u8 z] 5)).ownsRow B 5 1 (.slice (some ⟨w.heap.size, 0, none⟩) 3 3) 3 (bytesV [x, y, z]) :=
  ⟨rfl, .inr ⟨w.heap.size, 3, _, rfl, hB, heap_alloc_new w _, Nat.le_refl _, by unfold maxLen; omega, rfl, rfl⟩⟩
theorem own_lit1 {w : World} {B : Nat} (x : Int) (hB : B ≤ w.heap.size) : (w.alloc (.cells #[.int .u8 x] 5)).ownsRow B 5 1 (.slice (some ⟨w.heap.size, 0, none⟩) 1 1) 1 (bytesV [x]) :=
  ⟨rfl, .inr ⟨w.heap.size, 1, _, rfl, hB, heap_alloc_new w _, Nat.le_refl _, by unfold maxLen; omega, rfl, rfl⟩⟩
theorem u8_id {n : Int} (h0 : 0 ≤ n) (h1 : n < 256) : IntKind.u8.wrap n = n := by simp [IntKind.wrap, IntKind.bits, IntKind.signed]; omega
theorem encParts_byt : ∀ (hs : List Bool) (ws : List Nat) (ps : List Int), Byt (encParts hs ws ps) := by
  intro hs
  induction hs with
  | nil => intro ws ps b hb; simp [encParts] at hb
  | cons h hs ih =>
    intro ws ps
    cases ws with
    | nil => intro b hb; simp [encParts] at hb
    | cons k ws =>
      cases ps with
      | nil => intro b hb; simp [encParts] at hb
      | cons q ps =>
        simp only [encParts]
        refine Byt.app ?_ (ih ws ps)
        cases h
        · intro b hb; simp at hb
        · exact be_byt q k
theorem below_row {B : Nat} {a b c : World} {v : Value} (h : Below B a b) (hg : b.grownBy c v.ownBlock) (hb : B ≤ b.heap.size) (hv : ∀ k, v.ownBlock = some k → B ≤ k) : Below B a c := h.grown hg hb hv

set_option maxRecDepth 100000 in
set_option maxHeartbeats 4000000 in
theorem encodeMessage_any (s p : Int) (a : Option Addr) (len cap : Nat) (ls : List (Int × Int)) (m : MV) (w : World) (h : IsLabs w a len cap ls) (hm : HasAt w 0 mHas) (ht : TopsAt w) (hwd : WidsAt w) :
    Calls Tryd.prog 6 #[.agg #[.int .i64 s, .slice a len cap, .int .i64 p], m.val] w fun e w' => BytesAns w w' e (if msgFault s ls p m = 0 then msgBytes m else []) (msgFault s ls p m) := by
  have hgT : 3 < w.heap.size := World.block_lt_of_cell? w _ ht.1
  have hgM : 0 < w.heap.size := hm.lt (by decide)
  have hgW : 2 < w.heap.size := hwd.lt
  have hPs := fun w' => messageParts_any m w'
  have hCk := fun w' h1 h2 h3 => checkMessage_any s p a len cap ls m w' h1 h2 h3
  have hMay := @may_msg s ls p m
  have EB : Hid (∀ (hs : List Bool), mHasOf m.kind = hs → msgBytes m = ([m.kind, m.frm, m.dst] ++ (m.site :: be m.num 3)) ++ encParts hs widL m.parts) := by
    show ∀ (hs : List Bool), mHasOf m.kind = hs → msgBytes m = ([m.kind, m.frm, m.dst] ++ (m.site :: be m.num 3)) ++ encParts hs widL m.parts
    intro hs e
    rw [← e]
    simp [msgBytes]
  obtain ⟨kind, frm, dst, site, num, label, key, value, version, ask, yes, code⟩ := m
  simp only [MV.val] at hPs hCk hMay EB ⊢
  obtain ⟨FV, eFV⟩ : ∃ FV, FV = msgFault s ls p ⟨kind, frm, dst, site, num, label, key, value, version, ask, yes, code⟩ := ⟨_, rfl⟩
  obtain ⟨MB, eMB⟩ : ∃ MB, MB = msgBytes ⟨kind, frm, dst, site, num, label, key, value, version, ask, yes, code⟩ := ⟨_, rfl⟩
  rw [← eFV] at hCk hMay ⊢
  rw [← eMB] at EB ⊢
  have EF : Hid (FV = msgFault s ls p ⟨kind, frm, dst, site, num, label, key, value, version, ask, yes, code⟩) := eFV
  clear eFV eMB
  obtain ⟨W, hW⟩ : ∃ W : World, W = (w.alloc (.cells #[.int .i64 s, .slice a len cap, .int .i64 p] 24)).alloc (.cells #[.int .i64 kind, .int .i64 frm, .int .i64 dst, .int .i64 site, .int .i64 num, .int .i64 label, .int .i64 key, .int .i64 value, .int .i64 version, .int .i64 ask, .bool yes, .int .i64 code] 29) := ⟨_, rfl⟩
  have hB : Below w.heap.size w W := by rw [hW]; exact ((Below.refl _ _).alloc (Nat.le_refl _) _).alloc (by simp) _
  have zW : W.heap.size = w.heap.size + 2 := by rw [hW]; simp
  have c0 : W.cell? ⟨w.heap.size, 0, none⟩ = some (.int .i64 s) := by rw [hW]; go_simp
  have c1 : W.cell? ⟨w.heap.size, 1, none⟩ = some (.slice a len cap) := by rw [hW]; go_simp
  have c2 : W.cell? ⟨w.heap.size, 2, none⟩ = some (.int .i64 p) := by rw [hW]; go_simp
  have d0 : W.cell? ⟨w.heap.size + 1, 0, none⟩ = some (.int .i64 kind) := by rw [hW]; go_simp
  have d1 : W.cell? ⟨w.heap.size + 1, 1, none⟩ = some (.int .i64 frm) := by rw [hW]; go_simp
  have d2 : W.cell? ⟨w.heap.size + 1, 2, none⟩ = some (.int .i64 dst) := by rw [hW]; go_simp
  have d3 : W.cell? ⟨w.heap.size + 1, 3, none⟩ = some (.int .i64 site) := by rw [hW]; go_simp
  have d4 : W.cell? ⟨w.heap.size + 1, 4, none⟩ = some (.int .i64 num) := by rw [hW]; go_simp
  have d5 : W.cell? ⟨w.heap.size + 1, 5, none⟩ = some (.int .i64 label) := by rw [hW]; go_simp
  have d6 : W.cell? ⟨w.heap.size + 1, 6, none⟩ = some (.int .i64 key) := by rw [hW]; go_simp
  have d7 : W.cell? ⟨w.heap.size + 1, 7, none⟩ = some (.int .i64 value) := by rw [hW]; go_simp
  have d8 : W.cell? ⟨w.heap.size + 1, 8, none⟩ = some (.int .i64 version) := by rw [hW]; go_simp
  have d9 : W.cell? ⟨w.heap.size + 1, 9, none⟩ = some (.int .i64 ask) := by rw [hW]; go_simp
  have d10 : W.cell? ⟨w.heap.size + 1, 10, none⟩ = some (.bool yes) := by rw [hW]; go_simp
  have d11 : W.cell? ⟨w.heap.size + 1, 11, none⟩ = some (.int .i64 code) := by rw [hW]; go_simp
  have hLW := h.below hB
  have tW : TopsAt W := ht.below hB (by omega)
  have mW : HasAt W 0 mHas := hm.below hB (by omega)
  have wW : WidsAt W := hwd.below hB (by omega)
  have z1 : w.heap.size + 1 < W.heap.size := by omega
  have z0 : w.heap.size < W.heap.size := by omega
  have zM : 0 < W.heap.size := by omega
  go_enter Tryd.func6, Tryd.ntmps6
  go_upto_region 1 with (fail)
  rw [← hW]
  clear hW
  go_upto_region 2 with (go_at_call 14; refine (hCk _ hLW mW tW).mono ?_; rintro e w1 ⟨rfl, hb1⟩)
  obtain ⟨hc, hf⟩ := bcell hb1
  by_cases hF : FV = 0
  · have hF0 := hF
    subst hF
    obtain ⟨hcf, hk, hr, hform⟩ := hMay rfl
    obtain ⟨s1, s4, n1, n6, _, _, _⟩ := cfg_zero hcf
    have kb := inR_of hk
    have hr' := hr
    simp only [msgRange, txnOK, Bool.and_eq_true] at hr'
    have b1 := inR_of hr'.1.1.1
    have b2 := inR_of hr'.1.1.2
    have b3 := inR_of hr'.1.2.1
    clear hr hr' hform hcf hk
    obtain ⟨k, rfl⟩ : ∃ k : Nat, kind = k := ⟨kind.toNat, by omega⟩
    have k10 : k < 10 := by omega
    have k9 : (k : Int) < 10 := by omega
    have u1 := u8_id (n := (k : Int)) (by omega) (by omega)
    have u2 := u8_id (n := frm) (by omega) (by omega)
    have u3 := u8_id (n := dst) (by omega) (by omega)
    go_upto_region 5 with (fail)
    obtain ⟨V, hV⟩ : ∃ V : World, V = w1.alloc (.cells #[.int .u8 (k : Int), .int .u8 frm, .int .u8 dst] 5) := ⟨_, rfl⟩
    have oV : V.ownsRow W.heap.size 5 1 (.slice (some ⟨w1.heap.size, 0, none⟩) 3 3) 3 (bytesV [(k : Int), frm, dst]) := by rw [hV]; exact own_lit3 _ _ _ hb1.size
    have hWV : Below W.heap.size W V := by rw [hV]; exact hb1.alloc hb1.size _
    have zV : V.heap.size = w1.heap.size + 1 := by rw [hV]; simp
    rw [← hV]
    clear hV hc hf
    obtain ⟨hc, hf⟩ := bcell hWV
    go_upto_region 6 with (go_at_call 15; refine (appendTxn_any W.heap.size _ 3 3 [(k : Int), frm, dst] site num _ (by omega) (by omega) hWV.size oV).mono ?_; rintro e w2 ⟨a2, v2, rfl, own2, gr2, by2⟩)
    have hW2 : Below W.heap.size W w2 := hWV.grown gr2 hWV.size (fun q hq => (oV.lt q hq).1)
    clear hc hf
    have EH : Hid (mHas.getD k [] = [(mHas.getD k []).getD 0 false, (mHas.getD k []).getD 1 false, (mHas.getD k []).getD 2 false, (mHas.getD k []).getD 3 false, (mHas.getD k []).getD 4 false, (mHas.getD k []).getD 5 false, (mHas.getD k []).getD 6 false, (mHas.getD k []).getD 7 false]) := mHas_eight k k10
    have f0 := mW k 0 k10 (by decide)
    have f1 := mW k 1 k10 (by decide)
    have f2 := mW k 2 k10 (by decide)
    have f3 := mW k 3 k10 (by decide)
    have f4 := mW k 4 k10 (by decide)
    have f5 := mW k 5 k10 (by decide)
    have f6 := mW k 6 k10 (by decide)
    have f7 := mW k 7 k10 (by decide)
    obtain ⟨h0, eh0⟩ : ∃ x, x = (mHas.getD k []).getD 0 false := ⟨_, rfl⟩
    obtain ⟨h1, eh1⟩ : ∃ x, x = (mHas.getD k []).getD 1 false := ⟨_, rfl⟩
    obtain ⟨h2, eh2⟩ : ∃ x, x = (mHas.getD k []).getD 2 false := ⟨_, rfl⟩
    obtain ⟨h3, eh3⟩ : ∃ x, x = (mHas.getD k []).getD 3 false := ⟨_, rfl⟩
    obtain ⟨h4, eh4⟩ : ∃ x, x = (mHas.getD k []).getD 4 false := ⟨_, rfl⟩
    obtain ⟨h5, eh5⟩ : ∃ x, x = (mHas.getD k []).getD 5 false := ⟨_, rfl⟩
    obtain ⟨h6, eh6⟩ : ∃ x, x = (mHas.getD k []).getD 6 false := ⟨_, rfl⟩
    obtain ⟨h7, eh7⟩ : ∃ x, x = (mHas.getD k []).getD 7 false := ⟨_, rfl⟩
    rw [← eh0, ← eh1, ← eh2, ← eh3, ← eh4, ← eh5, ← eh6, ← eh7] at EH
    rw [← eh0] at f0
    rw [← eh1] at f1
    rw [← eh2] at f2
    rw [← eh3] at f3
    rw [← eh4] at f4
    rw [← eh5] at f5
    rw [← eh6] at f6
    rw [← eh7] at f7
    clear eh0 eh1 eh2 eh3 eh4 eh5 eh6 eh7
    simp only [Nat.add_zero] at f0
    have EB2 : Hid (MB = ([(k : Int), frm, dst] ++ (site :: be num 3)) ++ encParts [h0, h1, h2, h3, h4, h5, h6, h7] widL [label, key, value, version, ask, bit yes, code, 0]) := EB.out _ (by simpa [mHasOf] using EH.out)
    clear EB EH
    have hD : Below w2.heap.size w2 w2.drew := (Below.refl _ _).drew
    have hWD : Below W.heap.size W w2.drew := hW2.trans (hD.mono hW2.size)
    have oD := own_bel own2 hD
    have KC : Hid (∀ V : World, Below W.heap.size W V → ∀ b o, b < W.heap.size → V.cell? ⟨b, o, none⟩ = W.cell? ⟨b, o, none⟩) := fun V hV b o hb => hV.cell (p := ⟨b, o, none⟩) hb
    have hc := KC.out _ hW2
    go_region_held3 (fun V => ∀ b o, b < W.heap.size → V.cell? ⟨b, o, none⟩ = W.cell? ⟨b, o, none⟩)
      (first | exact KC.out _ hW2 | exact KC.out _ hWD | exact KC.out _ hW3 | exact KC.out _ hW4)
      (first
        | ((go_at_call 17; refine (hPs _).mono ?_; rintro e w3 ⟨rfl, hb3⟩; have hW3 : Below W.heap.size W w3 := hWD.trans (hb3.mono hWD.size); have o3 := own_bel oD hb3; have wd3 := wW.below hW3 (by omega)))
        | ((go_at_call 16; refine (appendParts_any W.heap.size a2 v2 7 _ h0 h1 h2 h3 h4 h5 h6 h7 label key value version ask (bit yes) code 0 _ wd3 (by omega) hW3.size (by omega) o3).mono ?_; rintro e w4 ⟨a4, v4, cs, rfl, own4, ecs0, gr4, by4⟩; have ecs : Hid (cs = _) := ecs0; clear ecs0; have hW4 : Below W.heap.size W w4 := hW3.grown gr4 hW3.size (fun q hq => (o3.lt q hq).1))))
    all_goals
      have hbyt : Byt cs := by
        rw [ecs.out]
        refine Byt.app (Byt.app ?_ ?_) (encParts_byt _ _ _)
        · intro x hx; simp at hx; omega
        · intro x hx
          rcases List.mem_cons.1 hx with rfl | hx
          · omega
          · exact be_byt _ _ x hx
      obtain ⟨hI, hge⟩ := isB_slice own4 hbyt
      have hMB : MB = cs := by rw [EB2.out, ecs.out]
      have hwW4 := hB.trans (hW4.mono hB.size)
      clear hMay
      go_wp2
      go_ret2
      refine ⟨a4, cs.length, v4, rfl, ?_, fun b off e => by have := hge b off e; omega, hwW4⟩
      simpa [hMB] using hI
  · go_wp2
    go_ret2
    (try rw [if_neg hF])
    exact ⟨none, 0, 0, rfl, isB_nil _, fun b off e => by simp at e, hB.trans (hb1.mono hB.size)⟩
end Go.Proofs.YtilhkonanncfiaaDoor