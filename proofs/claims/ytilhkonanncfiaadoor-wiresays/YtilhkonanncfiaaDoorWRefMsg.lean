/- The contract of the document's MessageBytes: a message that may be as its bytes; else the fault that msgFault tells. -/
import Derived.Test.YtilhkonanncfiaaDoorWRefMsg5
namespace Go.Proofs.YtilhkonanncfiaaDoor
open Go.ChangeShapes Go.WideShapes Go.ChangeAt Go.RowKit
set_option linter.unusedVariables false

set_option maxRecDepth 100000 in
set_option maxHeartbeats 16000000 in
theorem messageBytes_any (s p : Int) (a : Option Addr) (len cap : Nat) (ls : List (Int × Int)) (m : MV) (w : World) (h : IsLabs w a len cap ls) :
    Calls Tryd.prog 7 #[.agg #[.int .i64 s, .slice a len cap, .int .i64 p], m.val] w fun e w' => ∃ x n y, e = .returned (.tuple #[.slice x n y, .int .i64 (msgFault s ls p m)]) ∧ IsB w' x n y (if msgFault s ls p m = 0 then msgBytes m else []) ∧ Below w.heap.size w w' := by
  by_cases h5 : m.kind = 5
  · exact messageBytes_five s p a len cap ls m w h h5
  have hFF := fun w' h1 => messageFault_any s p a len cap ls m w' h1
  have hmay := @may_msg4 s ls p m
  obtain ⟨RB, eRB⟩ : ∃ RB, RB = msgBytes m := ⟨_, rfl⟩
  obtain ⟨FV, eFV⟩ : ∃ FV, FV = msgFault s ls p m := ⟨_, rfl⟩
  rw [← eRB, ← eFV]
  rw [← eFV] at hFF hmay
  have HRB : Hid (RB = msgBytes m) := eRB
  clear eRB eFV
  obtain ⟨kind, frm, dst, site, num, label, key, value, version, ask, yes, code⟩ := m
  simp only [MV.val] at hFF hmay h5 ⊢
  obtain ⟨W, hW⟩ : ∃ W : World, W = (w.alloc (.cells #[.int .i64 s, .slice a len cap, .int .i64 p] 24)).alloc (.cells #[.int .i64 kind, .int .i64 frm, .int .i64 dst, .int .i64 site, .int .i64 num, .int .i64 label, .int .i64 key, .int .i64 value, .int .i64 version, .int .i64 ask, .bool yes, .int .i64 code] 29) := ⟨_, rfl⟩
  have hB : Below w.heap.size w W := by rw [hW]; exact ((Below.refl _ _).alloc (Nat.le_refl _) _).alloc (by simp) _
  have z1 : w.heap.size + 1 < W.heap.size := by rw [hW]; simp
  have c0 : W.cell? ⟨w.heap.size, 0, none⟩ = some (.int .i64 s) := by rw [hW]; go_simp
  have c1 : W.cell? ⟨w.heap.size, 1, none⟩ = some (.slice a len cap) := by rw [hW]; go_simp
  have c2 : W.cell? ⟨w.heap.size, 2, none⟩ = some (.int .i64 p) := by rw [hW]; go_simp
  have d0 : W.cell? ⟨w.heap.size + 1, 0, none⟩ = some (.int .i64 kind) := by rw [hW]; go_simp
  have d1 : W.cell? ⟨w.heap.size + 1, 1, none⟩ = some (.int .i64 frm) := by rw [hW]; go_simp
  have d2 : W.cell? ⟨w.heap.size + 1, 2, none⟩ = some (.int .i64 dst) := by rw [hW]; go_simp
  have d3 : W.cell? ⟨w.heap.size + 1, 3, none⟩ = some (.int .i64 site) := by rw [hW]; go_simp
  have d4 : W.cell? ⟨w.heap.size + 1, 4, none⟩ = some (.int .i64 num) := by rw [hW]; go_simp
  have d5 : W.cell? ⟨w.heap.size + 1, 5, none⟩ = some (.int .i64 label) := by rw [hW]; go_simp
  have d6 : W.cell? ⟨w.heap.size + 1, 6, none⟩ = some (.int .i64 key) := by rw [hW]; go_simp
  have d7 : W.cell? ⟨w.heap.size + 1, 7, none⟩ = some (.int .i64 value) := by rw [hW]; go_simp
  have d8 : W.cell? ⟨w.heap.size + 1, 8, none⟩ = some (.int .i64 version) := by rw [hW]; go_simp
  have d9 : W.cell? ⟨w.heap.size + 1, 9, none⟩ = some (.int .i64 ask) := by rw [hW]; go_simp
  have d10 : W.cell? ⟨w.heap.size + 1, 10, none⟩ = some (.bool yes) := by rw [hW]; go_simp
  have d11 : W.cell? ⟨w.heap.size + 1, 11, none⟩ = some (.int .i64 code) := by rw [hW]; go_simp
  have KD : Hid (∀ U : World, Below W.heap.size W U → U.cell? ⟨w.heap.size + 1, 0, none⟩ = some (.int .i64 kind) ∧ U.cell? ⟨w.heap.size + 1, 1, none⟩ = some (.int .i64 frm) ∧ U.cell? ⟨w.heap.size + 1, 2, none⟩ = some (.int .i64 dst) ∧ U.cell? ⟨w.heap.size + 1, 3, none⟩ = some (.int .i64 site) ∧ U.cell? ⟨w.heap.size + 1, 4, none⟩ = some (.int .i64 num) ∧ U.cell? ⟨w.heap.size + 1, 5, none⟩ = some (.int .i64 label) ∧ U.cell? ⟨w.heap.size + 1, 6, none⟩ = some (.int .i64 key) ∧ U.cell? ⟨w.heap.size + 1, 7, none⟩ = some (.int .i64 value) ∧ U.cell? ⟨w.heap.size + 1, 8, none⟩ = some (.int .i64 version) ∧ U.cell? ⟨w.heap.size + 1, 9, none⟩ = some (.int .i64 ask) ∧ U.cell? ⟨w.heap.size + 1, 10, none⟩ = some (.bool yes) ∧ U.cell? ⟨w.heap.size + 1, 11, none⟩ = some (.int .i64 code)) := fun U hU => ⟨(hU.cell (p := ⟨w.heap.size + 1, 0, none⟩) z1).trans d0, (hU.cell (p := ⟨w.heap.size + 1, 1, none⟩) z1).trans d1, (hU.cell (p := ⟨w.heap.size + 1, 2, none⟩) z1).trans d2, (hU.cell (p := ⟨w.heap.size + 1, 3, none⟩) z1).trans d3, (hU.cell (p := ⟨w.heap.size + 1, 4, none⟩) z1).trans d4, (hU.cell (p := ⟨w.heap.size + 1, 5, none⟩) z1).trans d5, (hU.cell (p := ⟨w.heap.size + 1, 6, none⟩) z1).trans d6, (hU.cell (p := ⟨w.heap.size + 1, 7, none⟩) z1).trans d7, (hU.cell (p := ⟨w.heap.size + 1, 8, none⟩) z1).trans d8, (hU.cell (p := ⟨w.heap.size + 1, 9, none⟩) z1).trans d9, (hU.cell (p := ⟨w.heap.size + 1, 10, none⟩) z1).trans d10, (hU.cell (p := ⟨w.heap.size + 1, 11, none⟩) z1).trans d11⟩
  have hLW := h.below hB
  go_enter Tryd.func7, Tryd.ntmps7
  go_upto_region 1 with (fail)
  rw [← hW]
  clear hW
  by_cases hF0 : FV = 0
  · obtain ⟨hk, hfr, hds, hs, hn, hlb, hky, hv, hve, ha, hco⟩ := hmay hF0
    subst hF0
    clear hmay
    have uk : IntKind.u8.wrap kind = kind := wrapU (by omega)
    have ufr : IntKind.u8.wrap frm = frm := wrapU hfr
    have uds : IntKind.u8.wrap dst = dst := wrapU hds
    have ulb : IntKind.u8.wrap label = label := wrapU hlb
    have uky : IntKind.u8.wrap key = key := wrapU hky
    have uco : IntKind.u8.wrap code = code := wrapU hco
    have h_txn := fun w' => txnBytes_any site num w' hs (by omega)
    have h_value := fun w' => bytesOf_any value 4 w' hv.1 (by omega) (by omega) (by omega)
    have h_version := fun w' => bytesOf_any version 3 w' hve.1 (by omega) (by omega) (by omega)
    have h_ask := fun w' => bytesOf_any ask 3 w' ha.1 (by omega) (by omega) (by omega)
    have h_bit := fun w' => bitByte_any yes w'
    obtain ⟨yb, eyb⟩ : ∃ yb : Int, yb = if yes then 1 else 0 := ⟨_, rfl⟩
    have hyb : 0 ≤ yb ∧ yb < 256 := by rw [eyb]; cases yes <;> simp
    rw [← eyb] at h_bit
    have HYB : Hid (yb = if yes then 1 else 0) := eyb
    clear eyb
    go_upto_region 4 with (go_at_call 18; refine (hFF _ hLW).mono ?_; rintro e w1 ⟨rfl, hb1⟩)
    clear c0 c1 c2 d0 d1 d2 d3 d4 d5 d6 d7 d8 d9 d10 d11
    obtain ⟨d0, d1, d2, d3, d4, d5, d6, d7, d8, d9, d10, d11⟩ := KD.out _ hb1
    have KD1 : Hid (∀ U : World, Below w1.heap.size w1 U → U.cell? ⟨w.heap.size + 1, 0, none⟩ = some (.int .i64 kind) ∧ U.cell? ⟨w.heap.size + 1, 1, none⟩ = some (.int .i64 frm) ∧ U.cell? ⟨w.heap.size + 1, 2, none⟩ = some (.int .i64 dst) ∧ U.cell? ⟨w.heap.size + 1, 3, none⟩ = some (.int .i64 site) ∧ U.cell? ⟨w.heap.size + 1, 4, none⟩ = some (.int .i64 num) ∧ U.cell? ⟨w.heap.size + 1, 5, none⟩ = some (.int .i64 label) ∧ U.cell? ⟨w.heap.size + 1, 6, none⟩ = some (.int .i64 key) ∧ U.cell? ⟨w.heap.size + 1, 7, none⟩ = some (.int .i64 value) ∧ U.cell? ⟨w.heap.size + 1, 8, none⟩ = some (.int .i64 version) ∧ U.cell? ⟨w.heap.size + 1, 9, none⟩ = some (.int .i64 ask) ∧ U.cell? ⟨w.heap.size + 1, 10, none⟩ = some (.bool yes) ∧ U.cell? ⟨w.heap.size + 1, 11, none⟩ = some (.int .i64 code)) := fun U hU => KD.out U (hb1.trans (hU.mono hb1.size))
    obtain ⟨RES, eRES⟩ : ∃ RES, RES = outM kind frm dst site num := ⟨_, rfl⟩
    have HEQ : Hid (RES = [kind, frm, dst] ++ (be site 1 ++ be num 3)) := eRES
    have HLEN : Hid (RES.length = 7) := by show _ = _; rw [eRES]; simp [outM, be_len]
    have HRES : Hid (RES = outM kind frm dst site num) := eRES
    clear eRES
    go_cut [7] (fun v wc => ∃ x y, v = .slice x 7 y ∧ wc.ownsRow W.heap.size 5 1 (.slice x 7 y) 7 (bytesV RES) ∧ Below w1.heap.size w1 wc)
    case first =>
      go_region_held3 (fun U => U.cell? ⟨w.heap.size + 1, 0, none⟩ = some (.int .i64 kind) ∧ U.cell? ⟨w.heap.size + 1, 1, none⟩ = some (.int .i64 frm) ∧ U.cell? ⟨w.heap.size + 1, 2, none⟩ = some (.int .i64 dst) ∧ U.cell? ⟨w.heap.size + 1, 3, none⟩ = some (.int .i64 site) ∧ U.cell? ⟨w.heap.size + 1, 4, none⟩ = some (.int .i64 num) ∧ U.cell? ⟨w.heap.size + 1, 5, none⟩ = some (.int .i64 label) ∧ U.cell? ⟨w.heap.size + 1, 6, none⟩ = some (.int .i64 key) ∧ U.cell? ⟨w.heap.size + 1, 7, none⟩ = some (.int .i64 value) ∧ U.cell? ⟨w.heap.size + 1, 8, none⟩ = some (.int .i64 version) ∧ U.cell? ⟨w.heap.size + 1, 9, none⟩ = some (.int .i64 ask) ∧ U.cell? ⟨w.heap.size + 1, 10, none⟩ = some (.bool yes) ∧ U.cell? ⟨w.heap.size + 1, 11, none⟩ = some (.int .i64 code))
        (exact KD1.out _ (by (with_reducible repeat (first | exact Below.refl _ _ | refine jD ?_ | refine jA ?_ _ | refine jT ?_ hb9' | refine jT ?_ hb2')); done))
        (first
          | (go_at_call 20; refine (h_txn _).mono ?_; rintro e u2 ⟨x2, y2, rfl, own2, hb2'⟩; have K2 : Hid (∀ U, Below u2.heap.size u2 U → IsB U x2 4 y2 (be site 1 ++ be num 3)) := fun U hU => (isB_slice own2 (fun b hb => by rcases List.mem_append.1 hb with hb | hb; exact be_byt _ _ b hb; exact be_byt _ _ b hb)).1.below hU)
          | (go_at_call 19; refine (joined_any _ 2 _ _ (mBs_2 _ _ (by simp) _ x2 3 3 4 y2 [kind, frm, dst] (be site 1 ++ be num 3) _ (by first | (refine mLit w1.drew _ _ 3 [kind, frm, dst] #[.int .u8 kind, .int .u8 frm, .int .u8 dst] rfl rfl (by omega) (by intro b hb; simp at hb; omega) ?_ (by simp; done); (with_reducible repeat (first | exact Below.refl _ _ | refine jD ?_ | refine jA ?_ _ | refine jT ?_ hb2')); done) | (refine mLit u2 _ _ 3 [kind, frm, dst] #[.int .u8 kind, .int .u8 frm, .int .u8 dst] rfl rfl (by omega) (by intro b hb; simp at hb; omega) ?_ (by simp; done); (with_reducible repeat (first | exact Below.refl _ _ | refine jD ?_ | refine jA ?_ _ | refine jT ?_ hb2')); done) | (refine mLit w1 _ _ 3 [kind, frm, dst] #[.int .u8 kind, .int .u8 frm, .int .u8 dst] rfl rfl (by omega) (by intro b hb; simp at hb; omega) ?_ (by simp; done); (with_reducible repeat (first | exact Below.refl _ _ | refine jD ?_ | refine jA ?_ _ | refine jT ?_ hb2')); done)) (K2.out _ (by (with_reducible repeat (first | exact Below.refl _ _ | refine jD ?_ | refine jA ?_ _ | refine jT ?_ hb2')); done))) (by omega) (by simp [catB, be_len]; try omega)).mono ?_; rintro e u9 ⟨v9, rfl, own9, hb9'⟩; rw [show ∀ (q1 : Option Addr), catB [⟨q1, 3, 3, [kind, frm, dst]⟩, ⟨x2, 4, y2, (be site 1 ++ be num 3)⟩] = RES from (fun q1 => (by rw [HEQ.out]; simp [catB])), HLEN.out] at own9; replace own9 := jB own9 (Nat.le_trans hb1.size (Below.size (show Below w1.heap.size w1 _ from (by (with_reducible repeat (first | exact Below.refl _ _ | refine jD ?_ | refine jA ?_ _ | refine jT ?_ hb2')); done)))); obtain ⟨x9, y9, rfl⟩ := own_slice own9))
      all_goals
        go_wp2
        go_meet
        case rel => exact ⟨x9, y9, rfl, own9, (by (with_reducible repeat (first | exact Below.refl _ _ | refine jD ?_ | refine jA ?_ _ | refine jT ?_ hb9' | refine jT ?_ hb2')); done)⟩
    case rest =>
      obtain ⟨x, y, rfl, own7, hbc⟩ := hcut
      obtain ⟨X, eX⟩ : ∃ X, X = wc := ⟨_, rfl⟩
      rw [← eX] at own7 hbc ⊢
      clear eX d0 d1 d2 d3 d4 d5 d6 d7 d8 d9 d10 d11
      obtain ⟨d0, d1, d2, d3, d4, d5, d6, d7, d8, d9, d10, d11⟩ := KD1.out _ hbc
      have hWX : Below W.heap.size W X := hb1.trans (hbc.mono hb1.size)
      have hwX : Below w.heap.size w X := hB.trans (hWX.mono hB.size)
      obtain ⟨OUT, eOUT⟩ : ∃ OUT, OUT = RES := ⟨_, rfl⟩
      have HOUT : Hid (OUT = outM kind frm dst site num) := by show _ = _; rw [eOUT, HRES.out]
      have HOL : Hid (OUT.length = 7) := by show _ = _; rw [eOUT]; exact HLEN.out
      have hbyt : Byt OUT := by
        rw [eOUT, HEQ.out]
        intro b hb
        simp only [List.mem_append, List.mem_cons, List.not_mem_nil, or_false] at hb
        rcases hb with (hb | hb | hb) | hb | hb
        · omega
        · omega
        · omega
        · exact be_byt _ _ b hb
        · exact be_byt _ _ b hb
      rw [← eOUT] at own7
      clear eOUT HEQ HLEN HRES RES
      have hI7 := (isB_slice own7 hbyt).1
      have K7 : Hid (∀ U, Below X.heap.size X U → IsB U x 7 y OUT) := fun U hU => hI7.below hU
      have KX : Hid (∀ U : World, Below X.heap.size X U → U.cell? ⟨w.heap.size + 1, 0, none⟩ = some (.int .i64 kind) ∧ U.cell? ⟨w.heap.size + 1, 1, none⟩ = some (.int .i64 frm) ∧ U.cell? ⟨w.heap.size + 1, 2, none⟩ = some (.int .i64 dst) ∧ U.cell? ⟨w.heap.size + 1, 3, none⟩ = some (.int .i64 site) ∧ U.cell? ⟨w.heap.size + 1, 4, none⟩ = some (.int .i64 num) ∧ U.cell? ⟨w.heap.size + 1, 5, none⟩ = some (.int .i64 label) ∧ U.cell? ⟨w.heap.size + 1, 6, none⟩ = some (.int .i64 key) ∧ U.cell? ⟨w.heap.size + 1, 7, none⟩ = some (.int .i64 value) ∧ U.cell? ⟨w.heap.size + 1, 8, none⟩ = some (.int .i64 version) ∧ U.cell? ⟨w.heap.size + 1, 9, none⟩ = some (.int .i64 ask) ∧ U.cell? ⟨w.heap.size + 1, 10, none⟩ = some (.bool yes) ∧ U.cell? ⟨w.heap.size + 1, 11, none⟩ = some (.int .i64 code)) := fun U hU => KD1.out U (hbc.trans (hU.mono hbc.size))
      have hol := HOL.out
      rcases (by omega : kind = 1 ∨ kind = 2 ∨ kind = 3 ∨ kind = 4 ∨ kind = 6 ∨ kind = 7 ∨ kind = 8 ∨ kind = 9) with hkd | hkd | hkd | hkd | hkd | hkd | hkd | hkd
      · subst hkd
        clear h5
        have HEQ : Hid (RB = OUT ++ [label, key] ++ be ask 3) := by show _ = _; rw [HRB.out, mb_1 hs hlb hky hco, HOUT.out]
        have HLEN : Hid (RB.length = 12) := by show _ = _; rw [HEQ.out]; simp [be_len, hol]
        have hbR : Byt RB := by
          rw [HEQ.out]
          intro b hb
          simp only [List.mem_append, List.mem_cons, List.not_mem_nil, or_false] at hb
          rcases hb with (hb | (hb | hb)) | hb
          all_goals first | exact hbyt b hb | exact be_byt _ _ b hb | omega
        go_upto_region 7 with (fail)
        go_region_held3 (fun U => U.cell? ⟨w.heap.size + 1, 0, none⟩ = some (.int .i64 1) ∧ U.cell? ⟨w.heap.size + 1, 1, none⟩ = some (.int .i64 frm) ∧ U.cell? ⟨w.heap.size + 1, 2, none⟩ = some (.int .i64 dst) ∧ U.cell? ⟨w.heap.size + 1, 3, none⟩ = some (.int .i64 site) ∧ U.cell? ⟨w.heap.size + 1, 4, none⟩ = some (.int .i64 num) ∧ U.cell? ⟨w.heap.size + 1, 5, none⟩ = some (.int .i64 label) ∧ U.cell? ⟨w.heap.size + 1, 6, none⟩ = some (.int .i64 key) ∧ U.cell? ⟨w.heap.size + 1, 7, none⟩ = some (.int .i64 value) ∧ U.cell? ⟨w.heap.size + 1, 8, none⟩ = some (.int .i64 version) ∧ U.cell? ⟨w.heap.size + 1, 9, none⟩ = some (.int .i64 ask) ∧ U.cell? ⟨w.heap.size + 1, 10, none⟩ = some (.bool yes) ∧ U.cell? ⟨w.heap.size + 1, 11, none⟩ = some (.int .i64 code))
          (exact KX.out _ (by (with_reducible repeat (first | exact Below.refl _ _ | refine jD ?_ | refine jA ?_ _ | refine jT ?_ hb9' | refine jT ?_ hb2')); done))
          (first
            | (go_at_call_of 21 (Value.int .i64 ask); refine (h_ask _).mono ?_; rintro e u2 ⟨x2, y2, rfl, own2, hb2'⟩; have K2 : Hid (∀ U, Below u2.heap.size u2 U → IsB U x2 3 y2 (be ask 3)) := fun U hU => (isB_slice own2 (be_byt _ _)).1.below hU)
            | (go_at_call 19; refine (joined_any _ 3 _ _ (mBs_3 _ _ (by simp) x _ x2 7 y 2 2 3 y2 OUT [label, key] (be ask 3) _ (K7.out _ (by (with_reducible repeat (first | exact Below.refl _ _ | refine jD ?_ | refine jA ?_ _ | refine jT ?_ hb2')); done)) (by first | (refine mLit X.drew _ _ 2 [label, key] #[.int .u8 label, .int .u8 key] rfl rfl (by omega) (by intro b hb; simp at hb; omega) ?_ (by simp; done); (with_reducible repeat (first | exact Below.refl _ _ | refine jD ?_ | refine jA ?_ _ | refine jT ?_ hb2')); done) | (refine mLit u2 _ _ 2 [label, key] #[.int .u8 label, .int .u8 key] rfl rfl (by omega) (by intro b hb; simp at hb; omega) ?_ (by simp; done); (with_reducible repeat (first | exact Below.refl _ _ | refine jD ?_ | refine jA ?_ _ | refine jT ?_ hb2')); done) | (refine mLit X _ _ 2 [label, key] #[.int .u8 label, .int .u8 key] rfl rfl (by omega) (by intro b hb; simp at hb; omega) ?_ (by simp; done); (with_reducible repeat (first | exact Below.refl _ _ | refine jD ?_ | refine jA ?_ _ | refine jT ?_ hb2')); done)) (K2.out _ (by (with_reducible repeat (first | exact Below.refl _ _ | refine jD ?_ | refine jA ?_ _ | refine jT ?_ hb2')); done))) (by omega) (by simp [catB, be_len]; try omega)).mono ?_; rintro e u9 ⟨v9, rfl, own9, hb9'⟩; rw [show ∀ (q1 : Option Addr), catB [⟨x, 7, y, OUT⟩, ⟨q1, 2, 2, [label, key]⟩, ⟨x2, 3, y2, (be ask 3)⟩] = RB from (fun q1 => (by rw [HEQ.out]; simp [catB])), HLEN.out] at own9; replace own9 := jB own9 (Nat.le_trans hWX.size (Below.size (show Below X.heap.size X _ from (by (with_reducible repeat (first | exact Below.refl _ _ | refine jD ?_ | refine jA ?_ _ | refine jT ?_ hb2')); done)))); obtain ⟨x9, y9, rfl⟩ := own_slice own9))
        all_goals
          have hX3 : Below X.heap.size X u9 := by (with_reducible repeat (first | exact Below.refl _ _ | refine jD ?_ | refine jA ?_ _ | refine jT ?_ hb9' | refine jT ?_ hb2')); done
          have hB8 := (isB_slice own9 hbR).1
          go_wp2
          go_ret2
          exact ⟨x9, _, y9, rfl, hB8, hwX.trans (hX3.mono hwX.size)⟩
      · subst hkd
        clear h5
        have HEQ : Hid (RB = OUT ++ [key] ++ be value 4 ++ be ask 3) := by show _ = _; rw [HRB.out, mb_2 hs hlb hky hco, HOUT.out]
        have HLEN : Hid (RB.length = 15) := by show _ = _; rw [HEQ.out]; simp [be_len, hol]
        have hbR : Byt RB := by
          rw [HEQ.out]
          intro b hb
          simp only [List.mem_append, List.mem_cons, List.not_mem_nil, or_false] at hb
          rcases hb with ((hb | hb) | hb) | hb
          all_goals first | exact hbyt b hb | exact be_byt _ _ b hb | omega
        go_upto_region 9 with (fail)
        go_region_held3 (fun U => U.cell? ⟨w.heap.size + 1, 0, none⟩ = some (.int .i64 2) ∧ U.cell? ⟨w.heap.size + 1, 1, none⟩ = some (.int .i64 frm) ∧ U.cell? ⟨w.heap.size + 1, 2, none⟩ = some (.int .i64 dst) ∧ U.cell? ⟨w.heap.size + 1, 3, none⟩ = some (.int .i64 site) ∧ U.cell? ⟨w.heap.size + 1, 4, none⟩ = some (.int .i64 num) ∧ U.cell? ⟨w.heap.size + 1, 5, none⟩ = some (.int .i64 label) ∧ U.cell? ⟨w.heap.size + 1, 6, none⟩ = some (.int .i64 key) ∧ U.cell? ⟨w.heap.size + 1, 7, none⟩ = some (.int .i64 value) ∧ U.cell? ⟨w.heap.size + 1, 8, none⟩ = some (.int .i64 version) ∧ U.cell? ⟨w.heap.size + 1, 9, none⟩ = some (.int .i64 ask) ∧ U.cell? ⟨w.heap.size + 1, 10, none⟩ = some (.bool yes) ∧ U.cell? ⟨w.heap.size + 1, 11, none⟩ = some (.int .i64 code))
          (exact KX.out _ (by (with_reducible repeat (first | exact Below.refl _ _ | refine jD ?_ | refine jA ?_ _ | refine jT ?_ hb9' | refine jT ?_ hb2' | refine jT ?_ hb3')); done))
          (first
            | (go_at_call_of 21 (Value.int .i64 value); refine (h_value _).mono ?_; rintro e u2 ⟨x2, y2, rfl, own2, hb2'⟩; have K2 : Hid (∀ U, Below u2.heap.size u2 U → IsB U x2 4 y2 (be value 4)) := fun U hU => (isB_slice own2 (be_byt _ _)).1.below hU)
            | (go_at_call_of 21 (Value.int .i64 ask); refine (h_ask _).mono ?_; rintro e u3 ⟨x3, y3, rfl, own3, hb3'⟩; have K3 : Hid (∀ U, Below u3.heap.size u3 U → IsB U x3 3 y3 (be ask 3)) := fun U hU => (isB_slice own3 (be_byt _ _)).1.below hU)
            | (go_at_call 19; refine (joined_any _ 4 _ _ (mBs_4 _ _ (by simp) x _ x2 x3 7 y 1 1 4 y2 3 y3 OUT [key] (be value 4) (be ask 3) _ (K7.out _ (by (with_reducible repeat (first | exact Below.refl _ _ | refine jD ?_ | refine jA ?_ _ | refine jT ?_ hb2' | refine jT ?_ hb3')); done)) (by first | (refine mLit X.drew _ _ 1 [key] #[.int .u8 key] rfl rfl (by omega) (by intro b hb; simp at hb; omega) ?_ (by simp; done); (with_reducible repeat (first | exact Below.refl _ _ | refine jD ?_ | refine jA ?_ _ | refine jT ?_ hb2' | refine jT ?_ hb3')); done) | (refine mLit u2 _ _ 1 [key] #[.int .u8 key] rfl rfl (by omega) (by intro b hb; simp at hb; omega) ?_ (by simp; done); (with_reducible repeat (first | exact Below.refl _ _ | refine jD ?_ | refine jA ?_ _ | refine jT ?_ hb2' | refine jT ?_ hb3')); done) | (refine mLit u3 _ _ 1 [key] #[.int .u8 key] rfl rfl (by omega) (by intro b hb; simp at hb; omega) ?_ (by simp; done); (with_reducible repeat (first | exact Below.refl _ _ | refine jD ?_ | refine jA ?_ _ | refine jT ?_ hb2' | refine jT ?_ hb3')); done) | (refine mLit X _ _ 1 [key] #[.int .u8 key] rfl rfl (by omega) (by intro b hb; simp at hb; omega) ?_ (by simp; done); (with_reducible repeat (first | exact Below.refl _ _ | refine jD ?_ | refine jA ?_ _ | refine jT ?_ hb2' | refine jT ?_ hb3')); done)) (K2.out _ (by (with_reducible repeat (first | exact Below.refl _ _ | refine jD ?_ | refine jA ?_ _ | refine jT ?_ hb2' | refine jT ?_ hb3')); done)) (K3.out _ (by (with_reducible repeat (first | exact Below.refl _ _ | refine jD ?_ | refine jA ?_ _ | refine jT ?_ hb2' | refine jT ?_ hb3')); done))) (by omega) (by simp [catB, be_len]; try omega)).mono ?_; rintro e u9 ⟨v9, rfl, own9, hb9'⟩; rw [show ∀ (q1 : Option Addr), catB [⟨x, 7, y, OUT⟩, ⟨q1, 1, 1, [key]⟩, ⟨x2, 4, y2, (be value 4)⟩, ⟨x3, 3, y3, (be ask 3)⟩] = RB from (fun q1 => (by rw [HEQ.out]; simp [catB])), HLEN.out] at own9; replace own9 := jB own9 (Nat.le_trans hWX.size (Below.size (show Below X.heap.size X _ from (by (with_reducible repeat (first | exact Below.refl _ _ | refine jD ?_ | refine jA ?_ _ | refine jT ?_ hb2' | refine jT ?_ hb3')); done)))); obtain ⟨x9, y9, rfl⟩ := own_slice own9))
        all_goals
          have hX3 : Below X.heap.size X u9 := by (with_reducible repeat (first | exact Below.refl _ _ | refine jD ?_ | refine jA ?_ _ | refine jT ?_ hb9' | refine jT ?_ hb2' | refine jT ?_ hb3')); done
          have hB8 := (isB_slice own9 hbR).1
          go_wp2
          go_ret2
          exact ⟨x9, _, y9, rfl, hB8, hwX.trans (hX3.mono hwX.size)⟩
      · subst hkd
        clear h5
        have HEQ : Hid (RB = OUT ++ [label, key] ++ be version 3) := by show _ = _; rw [HRB.out, mb_3 hs hlb hky hco, HOUT.out]
        have HLEN : Hid (RB.length = 12) := by show _ = _; rw [HEQ.out]; simp [be_len, hol]
        have hbR : Byt RB := by
          rw [HEQ.out]
          intro b hb
          simp only [List.mem_append, List.mem_cons, List.not_mem_nil, or_false] at hb
          rcases hb with (hb | (hb | hb)) | hb
          all_goals first | exact hbyt b hb | exact be_byt _ _ b hb | omega
        go_upto_region 13 with (fail)
        go_region_held3 (fun U => U.cell? ⟨w.heap.size + 1, 0, none⟩ = some (.int .i64 3) ∧ U.cell? ⟨w.heap.size + 1, 1, none⟩ = some (.int .i64 frm) ∧ U.cell? ⟨w.heap.size + 1, 2, none⟩ = some (.int .i64 dst) ∧ U.cell? ⟨w.heap.size + 1, 3, none⟩ = some (.int .i64 site) ∧ U.cell? ⟨w.heap.size + 1, 4, none⟩ = some (.int .i64 num) ∧ U.cell? ⟨w.heap.size + 1, 5, none⟩ = some (.int .i64 label) ∧ U.cell? ⟨w.heap.size + 1, 6, none⟩ = some (.int .i64 key) ∧ U.cell? ⟨w.heap.size + 1, 7, none⟩ = some (.int .i64 value) ∧ U.cell? ⟨w.heap.size + 1, 8, none⟩ = some (.int .i64 version) ∧ U.cell? ⟨w.heap.size + 1, 9, none⟩ = some (.int .i64 ask) ∧ U.cell? ⟨w.heap.size + 1, 10, none⟩ = some (.bool yes) ∧ U.cell? ⟨w.heap.size + 1, 11, none⟩ = some (.int .i64 code))
          (exact KX.out _ (by (with_reducible repeat (first | exact Below.refl _ _ | refine jD ?_ | refine jA ?_ _ | refine jT ?_ hb9' | refine jT ?_ hb2')); done))
          (first
            | (go_at_call_of 21 (Value.int .i64 version); refine (h_version _).mono ?_; rintro e u2 ⟨x2, y2, rfl, own2, hb2'⟩; have K2 : Hid (∀ U, Below u2.heap.size u2 U → IsB U x2 3 y2 (be version 3)) := fun U hU => (isB_slice own2 (be_byt _ _)).1.below hU)
            | (go_at_call 19; refine (joined_any _ 3 _ _ (mBs_3 _ _ (by simp) x _ x2 7 y 2 2 3 y2 OUT [label, key] (be version 3) _ (K7.out _ (by (with_reducible repeat (first | exact Below.refl _ _ | refine jD ?_ | refine jA ?_ _ | refine jT ?_ hb2')); done)) (by first | (refine mLit X.drew _ _ 2 [label, key] #[.int .u8 label, .int .u8 key] rfl rfl (by omega) (by intro b hb; simp at hb; omega) ?_ (by simp; done); (with_reducible repeat (first | exact Below.refl _ _ | refine jD ?_ | refine jA ?_ _ | refine jT ?_ hb2')); done) | (refine mLit u2 _ _ 2 [label, key] #[.int .u8 label, .int .u8 key] rfl rfl (by omega) (by intro b hb; simp at hb; omega) ?_ (by simp; done); (with_reducible repeat (first | exact Below.refl _ _ | refine jD ?_ | refine jA ?_ _ | refine jT ?_ hb2')); done) | (refine mLit X _ _ 2 [label, key] #[.int .u8 label, .int .u8 key] rfl rfl (by omega) (by intro b hb; simp at hb; omega) ?_ (by simp; done); (with_reducible repeat (first | exact Below.refl _ _ | refine jD ?_ | refine jA ?_ _ | refine jT ?_ hb2')); done)) (K2.out _ (by (with_reducible repeat (first | exact Below.refl _ _ | refine jD ?_ | refine jA ?_ _ | refine jT ?_ hb2')); done))) (by omega) (by simp [catB, be_len]; try omega)).mono ?_; rintro e u9 ⟨v9, rfl, own9, hb9'⟩; rw [show ∀ (q1 : Option Addr), catB [⟨x, 7, y, OUT⟩, ⟨q1, 2, 2, [label, key]⟩, ⟨x2, 3, y2, (be version 3)⟩] = RB from (fun q1 => (by rw [HEQ.out]; simp [catB])), HLEN.out] at own9; replace own9 := jB own9 (Nat.le_trans hWX.size (Below.size (show Below X.heap.size X _ from (by (with_reducible repeat (first | exact Below.refl _ _ | refine jD ?_ | refine jA ?_ _ | refine jT ?_ hb2')); done)))); obtain ⟨x9, y9, rfl⟩ := own_slice own9))
        all_goals
          have hX3 : Below X.heap.size X u9 := by (with_reducible repeat (first | exact Below.refl _ _ | refine jD ?_ | refine jA ?_ _ | refine jT ?_ hb9' | refine jT ?_ hb2')); done
          have hB8 := (isB_slice own9 hbR).1
          go_wp2
          go_ret2
          exact ⟨x9, _, y9, rfl, hB8, hwX.trans (hX3.mono hwX.size)⟩
      · subst hkd
        clear h5
        have HEQ : Hid (RB = OUT ++ [yb]) := by show _ = _; rw [HRB.out, mb_4 hs hlb hky hco, HOUT.out, HYB.out]
        have HLEN : Hid (RB.length = 8) := by show _ = _; rw [HEQ.out]; simp [hol]
        have hbR : Byt RB := by
          rw [HEQ.out]
          intro b hb
          simp only [List.mem_append, List.mem_cons, List.not_mem_nil, or_false] at hb
          rcases hb with hb | hb
          all_goals first | exact hbyt b hb | exact be_byt _ _ b hb | omega
        go_wp2_with (first
          | (go_at_call 22; refine (h_bit _).mono ?_; rintro e u1 ⟨x1, y1, rfl, own1, hb1'⟩; have K1 : Hid (∀ U, Below u1.heap.size u1 U → IsB U x1 1 y1 [yb]) := fun U hU => (isB_slice own1 (fun b hb => by simp at hb; omega)).1.below hU)
          | (go_at_call 19; refine (joined_any _ 2 _ _ (mBs_2 _ _ (by simp) x x1 7 y 1 y1 OUT [yb] _ (K7.out _ (by (with_reducible repeat (first | exact Below.refl _ _ | refine jD ?_ | refine jA ?_ _ | refine jT ?_ hb1')); done)) (K1.out _ (by (with_reducible repeat (first | exact Below.refl _ _ | refine jD ?_ | refine jA ?_ _ | refine jT ?_ hb1')); done))) (by omega) (by simp [catB]; try omega)).mono ?_; rintro e u9 ⟨v9, rfl, own9, hb9'⟩; rw [show catB [⟨x, 7, y, OUT⟩, ⟨x1, 1, y1, [yb]⟩] = RB from (by rw [HEQ.out]; simp [catB]), HLEN.out] at own9; replace own9 := jB own9 (Nat.le_trans hWX.size (Below.size (show Below X.heap.size X _ from (by (with_reducible repeat (first | exact Below.refl _ _ | refine jD ?_ | refine jA ?_ _ | refine jT ?_ hb1')); done)))); obtain ⟨x9, y9, rfl⟩ := own_slice own9))
        have hX3 : Below X.heap.size X u9 := by (with_reducible repeat (first | exact Below.refl _ _ | refine jD ?_ | refine jA ?_ _ | refine jT ?_ hb9' | refine jT ?_ hb1')); done
        have hB8 := (isB_slice own9 hbR).1
        go_ret2
        exact ⟨x9, _, y9, rfl, hB8, hwX.trans (hX3.mono hwX.size)⟩
      · subst hkd
        clear h5
        have HEQ : Hid (RB = OUT ++ [key] ++ be ask 3 ++ [code]) := by show _ = _; rw [HRB.out, mb_6 hs hlb hky hco, HOUT.out]
        have HLEN : Hid (RB.length = 12) := by show _ = _; rw [HEQ.out]; simp [be_len, hol]
        have hbR : Byt RB := by
          rw [HEQ.out]
          intro b hb
          simp only [List.mem_append, List.mem_cons, List.not_mem_nil, or_false] at hb
          rcases hb with ((hb | hb) | hb) | hb
          all_goals first | exact hbyt b hb | exact be_byt _ _ b hb | omega
        go_upto_region 19 with (fail)
        go_region_held3 (fun U => U.cell? ⟨w.heap.size + 1, 0, none⟩ = some (.int .i64 6) ∧ U.cell? ⟨w.heap.size + 1, 1, none⟩ = some (.int .i64 frm) ∧ U.cell? ⟨w.heap.size + 1, 2, none⟩ = some (.int .i64 dst) ∧ U.cell? ⟨w.heap.size + 1, 3, none⟩ = some (.int .i64 site) ∧ U.cell? ⟨w.heap.size + 1, 4, none⟩ = some (.int .i64 num) ∧ U.cell? ⟨w.heap.size + 1, 5, none⟩ = some (.int .i64 label) ∧ U.cell? ⟨w.heap.size + 1, 6, none⟩ = some (.int .i64 key) ∧ U.cell? ⟨w.heap.size + 1, 7, none⟩ = some (.int .i64 value) ∧ U.cell? ⟨w.heap.size + 1, 8, none⟩ = some (.int .i64 version) ∧ U.cell? ⟨w.heap.size + 1, 9, none⟩ = some (.int .i64 ask) ∧ U.cell? ⟨w.heap.size + 1, 10, none⟩ = some (.bool yes) ∧ U.cell? ⟨w.heap.size + 1, 11, none⟩ = some (.int .i64 code))
          (exact KX.out _ (by (with_reducible repeat (first | exact Below.refl _ _ | refine jD ?_ | refine jA ?_ _ | refine jT ?_ hb9' | refine jT ?_ hb2')); done))
          (first
            | (go_at_call_of 21 (Value.int .i64 ask); refine (h_ask _).mono ?_; rintro e u2 ⟨x2, y2, rfl, own2, hb2'⟩; have K2 : Hid (∀ U, Below u2.heap.size u2 U → IsB U x2 3 y2 (be ask 3)) := fun U hU => (isB_slice own2 (be_byt _ _)).1.below hU)
            | (go_at_call 19; refine (joined_any _ 4 _ _ (mBs_4 _ _ (by simp) x _ x2 _ 7 y 1 1 3 y2 1 1 OUT [key] (be ask 3) [code] _ (K7.out _ (by (with_reducible repeat (first | exact Below.refl _ _ | refine jD ?_ | refine jA ?_ _ | refine jT ?_ hb2')); done)) (by first | (refine mLit X.drew _ _ 1 [key] #[.int .u8 key] rfl rfl (by omega) (by intro b hb; simp at hb; omega) ?_ (by simp; done); (with_reducible repeat (first | exact Below.refl _ _ | refine jD ?_ | refine jA ?_ _ | refine jT ?_ hb2')); done) | (refine mLit u2 _ _ 1 [key] #[.int .u8 key] rfl rfl (by omega) (by intro b hb; simp at hb; omega) ?_ (by simp; done); (with_reducible repeat (first | exact Below.refl _ _ | refine jD ?_ | refine jA ?_ _ | refine jT ?_ hb2')); done) | (refine mLit X _ _ 1 [key] #[.int .u8 key] rfl rfl (by omega) (by intro b hb; simp at hb; omega) ?_ (by simp; done); (with_reducible repeat (first | exact Below.refl _ _ | refine jD ?_ | refine jA ?_ _ | refine jT ?_ hb2')); done) | (refine mLit (X.drew.alloc (.cells #[.int .u8 code] 5)) _ _ 1 [key] #[.int .u8 key] rfl rfl (by omega) (by intro b hb; simp at hb; omega) ?_ (by simp; done); (with_reducible repeat (first | exact Below.refl _ _ | refine jD ?_ | refine jA ?_ _ | refine jT ?_ hb2')); done) | (refine mLit (u2.alloc (.cells #[.int .u8 code] 5)) _ _ 1 [key] #[.int .u8 key] rfl rfl (by omega) (by intro b hb; simp at hb; omega) ?_ (by simp; done); (with_reducible repeat (first | exact Below.refl _ _ | refine jD ?_ | refine jA ?_ _ | refine jT ?_ hb2')); done) | (refine mLit (X.alloc (.cells #[.int .u8 code] 5)) _ _ 1 [key] #[.int .u8 key] rfl rfl (by omega) (by intro b hb; simp at hb; omega) ?_ (by simp; done); (with_reducible repeat (first | exact Below.refl _ _ | refine jD ?_ | refine jA ?_ _ | refine jT ?_ hb2')); done)) (K2.out _ (by (with_reducible repeat (first | exact Below.refl _ _ | refine jD ?_ | refine jA ?_ _ | refine jT ?_ hb2')); done)) (by first | (refine mLit X.drew _ _ 1 [code] #[.int .u8 code] rfl rfl (by omega) (by intro b hb; simp at hb; omega) ?_ (by simp; done); (with_reducible repeat (first | exact Below.refl _ _ | refine jD ?_ | refine jA ?_ _ | refine jT ?_ hb2')); done) | (refine mLit u2 _ _ 1 [code] #[.int .u8 code] rfl rfl (by omega) (by intro b hb; simp at hb; omega) ?_ (by simp; done); (with_reducible repeat (first | exact Below.refl _ _ | refine jD ?_ | refine jA ?_ _ | refine jT ?_ hb2')); done) | (refine mLit X _ _ 1 [code] #[.int .u8 code] rfl rfl (by omega) (by intro b hb; simp at hb; omega) ?_ (by simp; done); (with_reducible repeat (first | exact Below.refl _ _ | refine jD ?_ | refine jA ?_ _ | refine jT ?_ hb2')); done) | (refine mLit (X.drew.alloc (.cells #[.int .u8 key] 5)) _ _ 1 [code] #[.int .u8 code] rfl rfl (by omega) (by intro b hb; simp at hb; omega) ?_ (by simp; done); (with_reducible repeat (first | exact Below.refl _ _ | refine jD ?_ | refine jA ?_ _ | refine jT ?_ hb2')); done) | (refine mLit (u2.alloc (.cells #[.int .u8 key] 5)) _ _ 1 [code] #[.int .u8 code] rfl rfl (by omega) (by intro b hb; simp at hb; omega) ?_ (by simp; done); (with_reducible repeat (first | exact Below.refl _ _ | refine jD ?_ | refine jA ?_ _ | refine jT ?_ hb2')); done) | (refine mLit (X.alloc (.cells #[.int .u8 key] 5)) _ _ 1 [code] #[.int .u8 code] rfl rfl (by omega) (by intro b hb; simp at hb; omega) ?_ (by simp; done); (with_reducible repeat (first | exact Below.refl _ _ | refine jD ?_ | refine jA ?_ _ | refine jT ?_ hb2')); done))) (by omega) (by simp [catB, be_len]; try omega)).mono ?_; rintro e u9 ⟨v9, rfl, own9, hb9'⟩; rw [show ∀ (q1 q3 : Option Addr), catB [⟨x, 7, y, OUT⟩, ⟨q1, 1, 1, [key]⟩, ⟨x2, 3, y2, (be ask 3)⟩, ⟨q3, 1, 1, [code]⟩] = RB from (fun q1 q3 => (by rw [HEQ.out]; simp [catB])), HLEN.out] at own9; replace own9 := jB own9 (Nat.le_trans hWX.size (Below.size (show Below X.heap.size X _ from (by (with_reducible repeat (first | exact Below.refl _ _ | refine jD ?_ | refine jA ?_ _ | refine jT ?_ hb2')); done)))); obtain ⟨x9, y9, rfl⟩ := own_slice own9))
        all_goals
          have hX3 : Below X.heap.size X u9 := by (with_reducible repeat (first | exact Below.refl _ _ | refine jD ?_ | refine jA ?_ _ | refine jT ?_ hb9' | refine jT ?_ hb2')); done
          have hB8 := (isB_slice own9 hbR).1
          go_wp2
          go_ret2
          exact ⟨x9, _, y9, rfl, hB8, hwX.trans (hX3.mono hwX.size)⟩
      · subst hkd
        clear h5
        have HEQ : Hid (RB = OUT ++ [label, key] ++ be version 3 ++ [yb]) := by show _ = _; rw [HRB.out, mb_7 hs hlb hky hco, HOUT.out, HYB.out]
        have HLEN : Hid (RB.length = 13) := by show _ = _; rw [HEQ.out]; simp [be_len, hol]
        have hbR : Byt RB := by
          rw [HEQ.out]
          intro b hb
          simp only [List.mem_append, List.mem_cons, List.not_mem_nil, or_false] at hb
          rcases hb with ((hb | (hb | hb)) | hb) | hb
          all_goals first | exact hbyt b hb | exact be_byt _ _ b hb | omega
        go_upto_region 15 with (fail)
        go_region_held3 (fun U => U.cell? ⟨w.heap.size + 1, 0, none⟩ = some (.int .i64 7) ∧ U.cell? ⟨w.heap.size + 1, 1, none⟩ = some (.int .i64 frm) ∧ U.cell? ⟨w.heap.size + 1, 2, none⟩ = some (.int .i64 dst) ∧ U.cell? ⟨w.heap.size + 1, 3, none⟩ = some (.int .i64 site) ∧ U.cell? ⟨w.heap.size + 1, 4, none⟩ = some (.int .i64 num) ∧ U.cell? ⟨w.heap.size + 1, 5, none⟩ = some (.int .i64 label) ∧ U.cell? ⟨w.heap.size + 1, 6, none⟩ = some (.int .i64 key) ∧ U.cell? ⟨w.heap.size + 1, 7, none⟩ = some (.int .i64 value) ∧ U.cell? ⟨w.heap.size + 1, 8, none⟩ = some (.int .i64 version) ∧ U.cell? ⟨w.heap.size + 1, 9, none⟩ = some (.int .i64 ask) ∧ U.cell? ⟨w.heap.size + 1, 10, none⟩ = some (.bool yes) ∧ U.cell? ⟨w.heap.size + 1, 11, none⟩ = some (.int .i64 code))
          (exact KX.out _ (by (with_reducible repeat (first | exact Below.refl _ _ | refine jD ?_ | refine jA ?_ _ | refine jT ?_ hb9' | refine jT ?_ hb2' | refine jT ?_ hb3')); done))
          (first
            | (go_at_call_of 21 (Value.int .i64 version); refine (h_version _).mono ?_; rintro e u2 ⟨x2, y2, rfl, own2, hb2'⟩; have K2 : Hid (∀ U, Below u2.heap.size u2 U → IsB U x2 3 y2 (be version 3)) := fun U hU => (isB_slice own2 (be_byt _ _)).1.below hU)
            | (go_at_call 22; refine (h_bit _).mono ?_; rintro e u3 ⟨x3, y3, rfl, own3, hb3'⟩; have K3 : Hid (∀ U, Below u3.heap.size u3 U → IsB U x3 1 y3 [yb]) := fun U hU => (isB_slice own3 (fun b hb => by simp at hb; omega)).1.below hU)
            | (go_at_call 19; refine (joined_any _ 4 _ _ (mBs_4 _ _ (by simp) x _ x2 x3 7 y 2 2 3 y2 1 y3 OUT [label, key] (be version 3) [yb] _ (K7.out _ (by (with_reducible repeat (first | exact Below.refl _ _ | refine jD ?_ | refine jA ?_ _ | refine jT ?_ hb2' | refine jT ?_ hb3')); done)) (by first | (refine mLit X.drew _ _ 2 [label, key] #[.int .u8 label, .int .u8 key] rfl rfl (by omega) (by intro b hb; simp at hb; omega) ?_ (by simp; done); (with_reducible repeat (first | exact Below.refl _ _ | refine jD ?_ | refine jA ?_ _ | refine jT ?_ hb2' | refine jT ?_ hb3')); done) | (refine mLit u2 _ _ 2 [label, key] #[.int .u8 label, .int .u8 key] rfl rfl (by omega) (by intro b hb; simp at hb; omega) ?_ (by simp; done); (with_reducible repeat (first | exact Below.refl _ _ | refine jD ?_ | refine jA ?_ _ | refine jT ?_ hb2' | refine jT ?_ hb3')); done) | (refine mLit u3 _ _ 2 [label, key] #[.int .u8 label, .int .u8 key] rfl rfl (by omega) (by intro b hb; simp at hb; omega) ?_ (by simp; done); (with_reducible repeat (first | exact Below.refl _ _ | refine jD ?_ | refine jA ?_ _ | refine jT ?_ hb2' | refine jT ?_ hb3')); done) | (refine mLit X _ _ 2 [label, key] #[.int .u8 label, .int .u8 key] rfl rfl (by omega) (by intro b hb; simp at hb; omega) ?_ (by simp; done); (with_reducible repeat (first | exact Below.refl _ _ | refine jD ?_ | refine jA ?_ _ | refine jT ?_ hb2' | refine jT ?_ hb3')); done)) (K2.out _ (by (with_reducible repeat (first | exact Below.refl _ _ | refine jD ?_ | refine jA ?_ _ | refine jT ?_ hb2' | refine jT ?_ hb3')); done)) (K3.out _ (by (with_reducible repeat (first | exact Below.refl _ _ | refine jD ?_ | refine jA ?_ _ | refine jT ?_ hb2' | refine jT ?_ hb3')); done))) (by omega) (by simp [catB, be_len]; try omega)).mono ?_; rintro e u9 ⟨v9, rfl, own9, hb9'⟩; rw [show ∀ (q1 : Option Addr), catB [⟨x, 7, y, OUT⟩, ⟨q1, 2, 2, [label, key]⟩, ⟨x2, 3, y2, (be version 3)⟩, ⟨x3, 1, y3, [yb]⟩] = RB from (fun q1 => (by rw [HEQ.out]; simp [catB])), HLEN.out] at own9; replace own9 := jB own9 (Nat.le_trans hWX.size (Below.size (show Below X.heap.size X _ from (by (with_reducible repeat (first | exact Below.refl _ _ | refine jD ?_ | refine jA ?_ _ | refine jT ?_ hb2' | refine jT ?_ hb3')); done)))); obtain ⟨x9, y9, rfl⟩ := own_slice own9))
        all_goals
          have hX3 : Below X.heap.size X u9 := by (with_reducible repeat (first | exact Below.refl _ _ | refine jD ?_ | refine jA ?_ _ | refine jT ?_ hb9' | refine jT ?_ hb2' | refine jT ?_ hb3')); done
          have hB8 := (isB_slice own9 hbR).1
          go_wp2
          go_ret2
          exact ⟨x9, _, y9, rfl, hB8, hwX.trans (hX3.mono hwX.size)⟩
      · subst hkd
        clear h5
        go_wp2
        go_ret2
        exact ⟨x, 7, y, rfl, by rw [HRB.out, mb_89 (.inl rfl) hs, ← HOUT.out]; exact hI7, hwX⟩
      · subst hkd
        clear h5
        go_wp2
        go_ret2
        exact ⟨x, 7, y, rfl, by rw [HRB.out, mb_89 (.inr rfl) hs, ← HOUT.out]; exact hI7, hwX⟩
  · go_wp2_with (go_at_call 18; refine (hFF _ hLW).mono ?_; rintro e w1 ⟨rfl, hb1⟩)
    go_ret2
    exact ⟨none, 0, 0, rfl, isB_nil _, hB.trans (hb1.mono hB.size)⟩
end Go.Proofs.YtilhkonanncfiaaDoor
