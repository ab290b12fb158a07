/- The contract of the document's MessageBytes at a message of the kind Got. -/
import Derived.Test.YtilhkonanncfiaaDoorWRefMsg0
namespace Go.Proofs.YtilhkonanncfiaaDoor
open Go.ChangeShapes Go.WideShapes Go.ChangeAt Go.RowKit
set_option linter.unusedVariables false

set_option maxRecDepth 100000 in
set_option maxHeartbeats 16000000 in
theorem messageBytes_five (s p : Int) (a : Option Addr) (len cap : Nat) (ls : List (Int × Int)) (m : MV) (w : World) (h : IsLabs w a len cap ls) (h5 : m.kind = 5) :
    Calls Tryd.prog 7 #[.agg #[.int .i64 s, .slice a len cap, .int .i64 p], m.val] w fun e w' => ∃ x n y, e = .returned (.tuple #[.slice x n y, .int .i64 (msgFault s ls p m)]) ∧ IsB w' x n y (if msgFault s ls p m = 0 then msgBytes m else []) ∧ Below w.heap.size w w' := by
  have hFF := fun w' h1 => messageFault_any s p a len cap ls m w' h1
  have hmay := @may_msg4 s ls p m
  obtain ⟨RB, eRB⟩ : ∃ RB, RB = msgBytes m := ⟨_, rfl⟩
  obtain ⟨FV, eFV⟩ : ∃ FV, FV = msgFault s ls p m := ⟨_, rfl⟩
  rw [← eRB, ← eFV]
  rw [← eFV] at hFF hmay
  have HRB : Hid (RB = msgBytes m) := eRB
  clear eRB eFV
  obtain ⟨kind, frm, dst, site, num, label, key, value, version, ask, yes, code⟩ := m
  simp only [MV.val] at hFF hmay h5 ⊢
  subst h5
  obtain ⟨W, hW⟩ : ∃ W : World, W = (w.alloc (.cells #[.int .i64 s, .slice a len cap, .int .i64 p] 24)).alloc (.cells #[.int .i64 5, .int .i64 frm, .int .i64 dst, .int .i64 site, .int .i64 num, .int .i64 label, .int .i64 key, .int .i64 value, .int .i64 version, .int .i64 ask, .bool yes, .int .i64 code] 29) := ⟨_, rfl⟩
  have hB : Below w.heap.size w W := by rw [hW]; exact ((Below.refl _ _).alloc (Nat.le_refl _) _).alloc (by simp) _
  have z1 : w.heap.size + 1 < W.heap.size := by rw [hW]; simp
  have c0 : W.cell? ⟨w.heap.size, 0, none⟩ = some (.int .i64 s) := by rw [hW]; go_simp
  have c1 : W.cell? ⟨w.heap.size, 1, none⟩ = some (.slice a len cap) := by rw [hW]; go_simp
  have c2 : W.cell? ⟨w.heap.size, 2, none⟩ = some (.int .i64 p) := by rw [hW]; go_simp
  have d0 : W.cell? ⟨w.heap.size + 1, 0, none⟩ = some (.int .i64 5) := by rw [hW]; go_simp
  have d1 : W.cell? ⟨w.heap.size + 1, 1, none⟩ = some (.int .i64 frm) := by rw [hW]; go_simp
  have d2 : W.cell? ⟨w.heap.size + 1, 2, none⟩ = some (.int .i64 dst) := by rw [hW]; go_simp
  have d3 : W.cell? ⟨w.heap.size + 1, 3, none⟩ = some (.int .i64 site) := by rw [hW]; go_simp
  have d4 : W.cell? ⟨w.heap.size + 1, 4, none⟩ = some (.int .i64 num) := by rw [hW]; go_simp
  have d5 : W.cell? ⟨w.heap.size + 1, 5, none⟩ = some (.int .i64 label) := by rw [hW]; go_simp
  have d6 : W.cell? ⟨w.heap.size + 1, 6, none⟩ = some (.int .i64 key) := by rw [hW]; go_simp
  have d7 : W.cell? ⟨w.heap.size + 1, 7, none⟩ = some (.int .i64 value) := by rw [hW]; go_simp
  have d8 : W.cell? ⟨w.heap.size + 1, 8, none⟩ = some (.int .i64 version) := by rw [hW]; go_simp
  have d9 : W.cell? ⟨w.heap.size + 1, 9, none⟩ = some (.int .i64 ask) := by rw [hW]; go_simp
  have d10 : W.cell? ⟨w.heap.size + 1, 10, none⟩ = some (.bool yes) := by rw [hW]; go_simp
  have d11 : W.cell? ⟨w.heap.size + 1, 11, none⟩ = some (.int .i64 code) := by rw [hW]; go_simp
  have KD : Hid (∀ U : World, Below W.heap.size W U → U.cell? ⟨w.heap.size + 1, 0, none⟩ = some (.int .i64 5) ∧ U.cell? ⟨w.heap.size + 1, 1, none⟩ = some (.int .i64 frm) ∧ U.cell? ⟨w.heap.size + 1, 2, none⟩ = some (.int .i64 dst) ∧ U.cell? ⟨w.heap.size + 1, 3, none⟩ = some (.int .i64 site) ∧ U.cell? ⟨w.heap.size + 1, 4, none⟩ = some (.int .i64 num) ∧ U.cell? ⟨w.heap.size + 1, 5, none⟩ = some (.int .i64 label) ∧ U.cell? ⟨w.heap.size + 1, 6, none⟩ = some (.int .i64 key) ∧ U.cell? ⟨w.heap.size + 1, 7, none⟩ = some (.int .i64 value) ∧ U.cell? ⟨w.heap.size + 1, 8, none⟩ = some (.int .i64 version) ∧ U.cell? ⟨w.heap.size + 1, 9, none⟩ = some (.int .i64 ask) ∧ U.cell? ⟨w.heap.size + 1, 10, none⟩ = some (.bool yes) ∧ U.cell? ⟨w.heap.size + 1, 11, none⟩ = some (.int .i64 code)) := fun U hU => ⟨(hU.cell (p := ⟨w.heap.size + 1, 0, none⟩) z1).trans d0, (hU.cell (p := ⟨w.heap.size + 1, 1, none⟩) z1).trans d1, (hU.cell (p := ⟨w.heap.size + 1, 2, none⟩) z1).trans d2, (hU.cell (p := ⟨w.heap.size + 1, 3, none⟩) z1).trans d3, (hU.cell (p := ⟨w.heap.size + 1, 4, none⟩) z1).trans d4, (hU.cell (p := ⟨w.heap.size + 1, 5, none⟩) z1).trans d5, (hU.cell (p := ⟨w.heap.size + 1, 6, none⟩) z1).trans d6, (hU.cell (p := ⟨w.heap.size + 1, 7, none⟩) z1).trans d7, (hU.cell (p := ⟨w.heap.size + 1, 8, none⟩) z1).trans d8, (hU.cell (p := ⟨w.heap.size + 1, 9, none⟩) z1).trans d9, (hU.cell (p := ⟨w.heap.size + 1, 10, none⟩) z1).trans d10, (hU.cell (p := ⟨w.heap.size + 1, 11, none⟩) z1).trans d11⟩
  have hLW := h.below hB
  go_enter Tryd.func7, Tryd.ntmps7
  go_upto_region 1 with (fail)
  rw [← hW]
  clear hW
  by_cases hF0 : FV = 0
  · obtain ⟨hk, hfr, hds, hs, hn, hlb, hky, hv, hve, ha, hco⟩ := hmay hF0
    subst hF0
    clear hmay
    have uk : IntKind.u8.wrap 5 = 5 := wrapU (by omega)
    have ufr : IntKind.u8.wrap frm = frm := wrapU hfr
    have uds : IntKind.u8.wrap dst = dst := wrapU hds
    have ulb : IntKind.u8.wrap label = label := wrapU hlb
    have uky : IntKind.u8.wrap key = key := wrapU hky
    have uco : IntKind.u8.wrap code = code := wrapU hco
    have h_txn := fun w' => txnBytes_any site num w' hs (by omega)
    have h_value := fun w' => bytesOf_any value 4 w' hv.1 (by omega) (by omega) (by omega)
    have h_version := fun w' => bytesOf_any version 3 w' hve.1 (by omega) (by omega) (by omega)
    have h_ask := fun w' => bytesOf_any ask 3 w' ha.1 (by omega) (by omega) (by omega)
    have h_bit := fun w' => bitByte_any yes w'
    obtain ⟨yb, eyb⟩ : ∃ yb : Int, yb = if yes then 1 else 0 := ⟨_, rfl⟩
    have hyb : 0 ≤ yb ∧ yb < 256 := by rw [eyb]; cases yes <;> simp
    rw [← eyb] at h_bit
    have HYB : Hid (yb = if yes then 1 else 0) := eyb
    clear eyb
    go_upto_region 4 with (go_at_call 18; refine (hFF _ hLW).mono ?_; rintro e w1 ⟨rfl, hb1⟩)
    clear c0 c1 c2 d0 d1 d2 d3 d4 d5 d6 d7 d8 d9 d10 d11
    obtain ⟨d0, d1, d2, d3, d4, d5, d6, d7, d8, d9, d10, d11⟩ := KD.out _ hb1
    have KD1 : Hid (∀ U : World, Below w1.heap.size w1 U → U.cell? ⟨w.heap.size + 1, 0, none⟩ = some (.int .i64 5) ∧ U.cell? ⟨w.heap.size + 1, 1, none⟩ = some (.int .i64 frm) ∧ U.cell? ⟨w.heap.size + 1, 2, none⟩ = some (.int .i64 dst) ∧ U.cell? ⟨w.heap.size + 1, 3, none⟩ = some (.int .i64 site) ∧ U.cell? ⟨w.heap.size + 1, 4, none⟩ = some (.int .i64 num) ∧ U.cell? ⟨w.heap.size + 1, 5, none⟩ = some (.int .i64 label) ∧ U.cell? ⟨w.heap.size + 1, 6, none⟩ = some (.int .i64 key) ∧ U.cell? ⟨w.heap.size + 1, 7, none⟩ = some (.int .i64 value) ∧ U.cell? ⟨w.heap.size + 1, 8, none⟩ = some (.int .i64 version) ∧ U.cell? ⟨w.heap.size + 1, 9, none⟩ = some (.int .i64 ask) ∧ U.cell? ⟨w.heap.size + 1, 10, none⟩ = some (.bool yes) ∧ U.cell? ⟨w.heap.size + 1, 11, none⟩ = some (.int .i64 code)) := fun U hU => KD.out U (hb1.trans (hU.mono hb1.size))
    obtain ⟨RES, eRES⟩ : ∃ RES, RES = outM 5 frm dst site num := ⟨_, rfl⟩
    have HEQ : Hid (RES = [5, frm, dst] ++ (be site 1 ++ be num 3)) := eRES
    have HLEN : Hid (RES.length = 7) := by show _ = _; rw [eRES]; simp [outM, be_len]
    have HRES : Hid (RES = outM 5 frm dst site num) := eRES
    clear eRES
    go_cut [7] (fun v wc => ∃ x y, v = .slice x 7 y ∧ wc.ownsRow W.heap.size 5 1 (.slice x 7 y) 7 (bytesV RES) ∧ Below w1.heap.size w1 wc)
    case first =>
      go_region_held3 (fun U => U.cell? ⟨w.heap.size + 1, 0, none⟩ = some (.int .i64 5) ∧ U.cell? ⟨w.heap.size + 1, 1, none⟩ = some (.int .i64 frm) ∧ U.cell? ⟨w.heap.size + 1, 2, none⟩ = some (.int .i64 dst) ∧ U.cell? ⟨w.heap.size + 1, 3, none⟩ = some (.int .i64 site) ∧ U.cell? ⟨w.heap.size + 1, 4, none⟩ = some (.int .i64 num) ∧ U.cell? ⟨w.heap.size + 1, 5, none⟩ = some (.int .i64 label) ∧ U.cell? ⟨w.heap.size + 1, 6, none⟩ = some (.int .i64 key) ∧ U.cell? ⟨w.heap.size + 1, 7, none⟩ = some (.int .i64 value) ∧ U.cell? ⟨w.heap.size + 1, 8, none⟩ = some (.int .i64 version) ∧ U.cell? ⟨w.heap.size + 1, 9, none⟩ = some (.int .i64 ask) ∧ U.cell? ⟨w.heap.size + 1, 10, none⟩ = some (.bool yes) ∧ U.cell? ⟨w.heap.size + 1, 11, none⟩ = some (.int .i64 code))
        (exact KD1.out _ (by (with_reducible repeat (first | exact Below.refl _ _ | refine jD ?_ | refine jA ?_ _ | refine jT ?_ hb9' | refine jT ?_ hb2')); done))
        (first
          | (go_at_call 20; refine (h_txn _).mono ?_; rintro e u2 ⟨x2, y2, rfl, own2, hb2'⟩; have K2 : Hid (∀ U, Below u2.heap.size u2 U → IsB U x2 4 y2 (be site 1 ++ be num 3)) := fun U hU => (isB_slice own2 (fun b hb => by rcases List.mem_append.1 hb with hb | hb; exact be_byt _ _ b hb; exact be_byt _ _ b hb)).1.below hU)
          | (go_at_call 19; refine (joined_any _ 2 _ _ (mBs_2 _ _ (by simp) _ x2 3 3 4 y2 [5, frm, dst] (be site 1 ++ be num 3) _ (by first | (refine mLit w1.drew _ _ 3 [5, frm, dst] #[.int .u8 5, .int .u8 frm, .int .u8 dst] rfl rfl (by omega) (by intro b hb; simp at hb; omega) ?_ (by simp; done); (with_reducible repeat (first | exact Below.refl _ _ | refine jD ?_ | refine jA ?_ _ | refine jT ?_ hb2')); done) | (refine mLit u2 _ _ 3 [5, frm, dst] #[.int .u8 5, .int .u8 frm, .int .u8 dst] rfl rfl (by omega) (by intro b hb; simp at hb; omega) ?_ (by simp; done); (with_reducible repeat (first | exact Below.refl _ _ | refine jD ?_ | refine jA ?_ _ | refine jT ?_ hb2')); done) | (refine mLit w1 _ _ 3 [5, frm, dst] #[.int .u8 5, .int .u8 frm, .int .u8 dst] rfl rfl (by omega) (by intro b hb; simp at hb; omega) ?_ (by simp; done); (with_reducible repeat (first | exact Below.refl _ _ | refine jD ?_ | refine jA ?_ _ | refine jT ?_ hb2')); done)) (K2.out _ (by (with_reducible repeat (first | exact Below.refl _ _ | refine jD ?_ | refine jA ?_ _ | refine jT ?_ hb2')); done))) (by omega) (by simp [catB, be_len]; try omega)).mono ?_; rintro e u9 ⟨v9, rfl, own9, hb9'⟩; rw [show ∀ (q1 : Option Addr), catB [⟨q1, 3, 3, [5, frm, dst]⟩, ⟨x2, 4, y2, (be site 1 ++ be num 3)⟩] = RES from (fun q1 => (by rw [HEQ.out]; simp [catB])), HLEN.out] at own9; replace own9 := jB own9 (Nat.le_trans hb1.size (Below.size (show Below w1.heap.size w1 _ from (by (with_reducible repeat (first | exact Below.refl _ _ | refine jD ?_ | refine jA ?_ _ | refine jT ?_ hb2')); done)))); obtain ⟨x9, y9, rfl⟩ := own_slice own9))
      all_goals
        go_wp2
        go_meet
        case rel => exact ⟨x9, y9, rfl, own9, (by (with_reducible repeat (first | exact Below.refl _ _ | refine jD ?_ | refine jA ?_ _ | refine jT ?_ hb9' | refine jT ?_ hb2')); done)⟩
    case rest =>
      obtain ⟨x, y, rfl, own7, hbc⟩ := hcut
      obtain ⟨X, eX⟩ : ∃ X, X = wc := ⟨_, rfl⟩
      rw [← eX] at own7 hbc ⊢
      clear eX d0 d1 d2 d3 d4 d5 d6 d7 d8 d9 d10 d11
      obtain ⟨d0, d1, d2, d3, d4, d5, d6, d7, d8, d9, d10, d11⟩ := KD1.out _ hbc
      have hWX : Below W.heap.size W X := hb1.trans (hbc.mono hb1.size)
      have hwX : Below w.heap.size w X := hB.trans (hWX.mono hB.size)
      obtain ⟨OUT, eOUT⟩ : ∃ OUT, OUT = RES := ⟨_, rfl⟩
      have HOUT : Hid (OUT = outM 5 frm dst site num) := by show _ = _; rw [eOUT, HRES.out]
      have HOL : Hid (OUT.length = 7) := by show _ = _; rw [eOUT]; exact HLEN.out
      have hbyt : Byt OUT := by
        rw [eOUT, HEQ.out]
        intro b hb
        simp only [List.mem_append, List.mem_cons, List.not_mem_nil, or_false] at hb
        rcases hb with (hb | hb | hb) | hb | hb
        · omega
        · omega
        · omega
        · exact be_byt _ _ b hb
        · exact be_byt _ _ b hb
      rw [← eOUT] at own7
      clear eOUT HEQ HLEN HRES RES
      have hI7 := (isB_slice own7 hbyt).1
      have K7 : Hid (∀ U, Below X.heap.size X U → IsB U x 7 y OUT) := fun U hU => hI7.below hU
      have KX : Hid (∀ U : World, Below X.heap.size X U → U.cell? ⟨w.heap.size + 1, 0, none⟩ = some (.int .i64 5) ∧ U.cell? ⟨w.heap.size + 1, 1, none⟩ = some (.int .i64 frm) ∧ U.cell? ⟨w.heap.size + 1, 2, none⟩ = some (.int .i64 dst) ∧ U.cell? ⟨w.heap.size + 1, 3, none⟩ = some (.int .i64 site) ∧ U.cell? ⟨w.heap.size + 1, 4, none⟩ = some (.int .i64 num) ∧ U.cell? ⟨w.heap.size + 1, 5, none⟩ = some (.int .i64 label) ∧ U.cell? ⟨w.heap.size + 1, 6, none⟩ = some (.int .i64 key) ∧ U.cell? ⟨w.heap.size + 1, 7, none⟩ = some (.int .i64 value) ∧ U.cell? ⟨w.heap.size + 1, 8, none⟩ = some (.int .i64 version) ∧ U.cell? ⟨w.heap.size + 1, 9, none⟩ = some (.int .i64 ask) ∧ U.cell? ⟨w.heap.size + 1, 10, none⟩ = some (.bool yes) ∧ U.cell? ⟨w.heap.size + 1, 11, none⟩ = some (.int .i64 code)) := fun U hU => KD1.out U (hbc.trans (hU.mono hbc.size))
      have hol := HOL.out
      have HEQ : Hid (RB = OUT ++ [label, key] ++ be value 4 ++ be version 3 ++ be ask 3 ++ [code]) := by show _ = _; rw [HRB.out, mb_5 hs hlb hky hco, HOUT.out]
      have HLEN : Hid (RB.length = 20) := by show _ = _; rw [HEQ.out]; simp [be_len, hol]
      have hbR : Byt RB := by
        rw [HEQ.out]
        intro b hb
        simp only [List.mem_append, List.mem_cons, List.not_mem_nil, or_false] at hb
        rcases hb with ((((hb | (hb | hb)) | hb) | hb) | hb) | hb
        all_goals first | exact hbyt b hb | exact be_byt _ _ b hb | omega
      have KX6 : Hid (∀ U : World, Below X.heap.size X U → U.cell? ⟨w.heap.size + 1, 5, none⟩ = some (.int .i64 label) ∧ U.cell? ⟨w.heap.size + 1, 6, none⟩ = some (.int .i64 key) ∧ U.cell? ⟨w.heap.size + 1, 7, none⟩ = some (.int .i64 value) ∧ U.cell? ⟨w.heap.size + 1, 8, none⟩ = some (.int .i64 version) ∧ U.cell? ⟨w.heap.size + 1, 9, none⟩ = some (.int .i64 ask) ∧ U.cell? ⟨w.heap.size + 1, 11, none⟩ = some (.int .i64 code)) := fun U hU => by obtain ⟨_, _, _, _, _, g5, g6, g7, g8, g9, _, g11⟩ := KX.out U hU; exact ⟨g5, g6, g7, g8, g9, g11⟩
      go_upto_region 17 with (fail)
      clear KX KD1 KD h_txn h_bit uk ufr uds hFF hLW d0 d1 d2 d3 d4 d10 hfr hds hn own7 hI7
      go_region_held3 (fun U => U.cell? ⟨w.heap.size + 1, 5, none⟩ = some (.int .i64 label) ∧ U.cell? ⟨w.heap.size + 1, 6, none⟩ = some (.int .i64 key) ∧ U.cell? ⟨w.heap.size + 1, 7, none⟩ = some (.int .i64 value) ∧ U.cell? ⟨w.heap.size + 1, 8, none⟩ = some (.int .i64 version) ∧ U.cell? ⟨w.heap.size + 1, 9, none⟩ = some (.int .i64 ask) ∧ U.cell? ⟨w.heap.size + 1, 11, none⟩ = some (.int .i64 code))
        (exact KX6.out _ (by (with_reducible repeat (first | exact Below.refl _ _ | refine jD ?_ | refine jA ?_ _ | refine jT ?_ hb9' | refine jT ?_ hb2' | refine jT ?_ hb3' | refine jT ?_ hb4')); done))
        (first
          | (go_at_call_of 21 (Value.int .i64 value); refine (h_value _).mono ?_; rintro e u2 ⟨x2, y2, rfl, own2, hb2'⟩; have K2 : Hid (∀ U, Below u2.heap.size u2 U → IsB U x2 4 y2 (be value 4)) := fun U hU => (isB_slice own2 (be_byt _ _)).1.below hU)
          | (go_at_call_of 21 (Value.int .i64 version); refine (h_version _).mono ?_; rintro e u3 ⟨x3, y3, rfl, own3, hb3'⟩; have K3 : Hid (∀ U, Below u3.heap.size u3 U → IsB U x3 3 y3 (be version 3)) := fun U hU => (isB_slice own3 (be_byt _ _)).1.below hU)
          | (go_at_call_of 21 (Value.int .i64 ask); refine (h_ask _).mono ?_; rintro e u4 ⟨x4, y4, rfl, own4, hb4'⟩; have K4 : Hid (∀ U, Below u4.heap.size u4 U → IsB U x4 3 y4 (be ask 3)) := fun U hU => (isB_slice own4 (be_byt _ _)).1.below hU)
          | (go_at_call 19; refine (joined_any _ 6 _ _ (mBs_6 _ _ (by simp) x _ x2 x3 x4 _ 7 y 2 2 4 y2 3 y3 3 y4 1 1 OUT [label, key] (be value 4) (be version 3) (be ask 3) [code] _ (K7.out _ (by (with_reducible repeat (first | exact Below.refl _ _ | refine jD ?_ | refine jA ?_ _ | refine jT ?_ hb2' | refine jT ?_ hb3' | refine jT ?_ hb4')); done)) (by first | (refine mLit X.drew _ _ 2 [label, key] #[.int .u8 label, .int .u8 key] rfl rfl (by omega) (by intro b hb; simp at hb; omega) ?_ (by simp; done); (with_reducible repeat (first | exact Below.refl _ _ | refine jD ?_ | refine jA ?_ _ | refine jT ?_ hb2' | refine jT ?_ hb3' | refine jT ?_ hb4')); done) | (refine mLit u2 _ _ 2 [label, key] #[.int .u8 label, .int .u8 key] rfl rfl (by omega) (by intro b hb; simp at hb; omega) ?_ (by simp; done); (with_reducible repeat (first | exact Below.refl _ _ | refine jD ?_ | refine jA ?_ _ | refine jT ?_ hb2' | refine jT ?_ hb3' | refine jT ?_ hb4')); done) | (refine mLit u3 _ _ 2 [label, key] #[.int .u8 label, .int .u8 key] rfl rfl (by omega) (by intro b hb; simp at hb; omega) ?_ (by simp; done); (with_reducible repeat (first | exact Below.refl _ _ | refine jD ?_ | refine jA ?_ _ | refine jT ?_ hb2' | refine jT ?_ hb3' | refine jT ?_ hb4')); done) | (refine mLit u4 _ _ 2 [label, key] #[.int .u8 label, .int .u8 key] rfl rfl (by omega) (by intro b hb; simp at hb; omega) ?_ (by simp; done); (with_reducible repeat (first | exact Below.refl _ _ | refine jD ?_ | refine jA ?_ _ | refine jT ?_ hb2' | refine jT ?_ hb3' | refine jT ?_ hb4')); done) | (refine mLit X _ _ 2 [label, key] #[.int .u8 label, .int .u8 key] rfl rfl (by omega) (by intro b hb; simp at hb; omega) ?_ (by simp; done); (with_reducible repeat (first | exact Below.refl _ _ | refine jD ?_ | refine jA ?_ _ | refine jT ?_ hb2' | refine jT ?_ hb3' | refine jT ?_ hb4')); done) | (refine mLit (X.drew.alloc (.cells #[.int .u8 code] 5)) _ _ 2 [label, key] #[.int .u8 label, .int .u8 key] rfl rfl (by omega) (by intro b hb; simp at hb; omega) ?_ (by simp; done); (with_reducible repeat (first | exact Below.refl _ _ | refine jD ?_ | refine jA ?_ _ | refine jT ?_ hb2' | refine jT ?_ hb3' | refine jT ?_ hb4')); done) | (refine mLit (u2.alloc (.cells #[.int .u8 code] 5)) _ _ 2 [label, key] #[.int .u8 label, .int .u8 key] rfl rfl (by omega) (by intro b hb; simp at hb; omega) ?_ (by simp; done); (with_reducible repeat (first | exact Below.refl _ _ | refine jD ?_ | refine jA ?_ _ | refine jT ?_ hb2' | refine jT ?_ hb3' | refine jT ?_ hb4')); done) | (refine mLit (u3.alloc (.cells #[.int .u8 code] 5)) _ _ 2 [label, key] #[.int .u8 label, .int .u8 key] rfl rfl (by omega) (by intro b hb; simp at hb; omega) ?_ (by simp; done); (with_reducible repeat (first | exact Below.refl _ _ | refine jD ?_ | refine jA ?_ _ | refine jT ?_ hb2' | refine jT ?_ hb3' | refine jT ?_ hb4')); done) | (refine mLit (u4.alloc (.cells #[.int .u8 code] 5)) _ _ 2 [label, key] #[.int .u8 label, .int .u8 key] rfl rfl (by omega) (by intro b hb; simp at hb; omega) ?_ (by simp; done); (with_reducible repeat (first | exact Below.refl _ _ | refine jD ?_ | refine jA ?_ _ | refine jT ?_ hb2' | refine jT ?_ hb3' | refine jT ?_ hb4')); done) | (refine mLit (X.alloc (.cells #[.int .u8 code] 5)) _ _ 2 [label, key] #[.int .u8 label, .int .u8 key] rfl rfl (by omega) (by intro b hb; simp at hb; omega) ?_ (by simp; done); (with_reducible repeat (first | exact Below.refl _ _ | refine jD ?_ | refine jA ?_ _ | refine jT ?_ hb2' | refine jT ?_ hb3' | refine jT ?_ hb4')); done)) (K2.out _ (by (with_reducible repeat (first | exact Below.refl _ _ | refine jD ?_ | refine jA ?_ _ | refine jT ?_ hb2' | refine jT ?_ hb3' | refine jT ?_ hb4')); done)) (K3.out _ (by (with_reducible repeat (first | exact Below.refl _ _ | refine jD ?_ | refine jA ?_ _ | refine jT ?_ hb2' | refine jT ?_ hb3' | refine jT ?_ hb4')); done)) (K4.out _ (by (with_reducible repeat (first | exact Below.refl _ _ | refine jD ?_ | refine jA ?_ _ | refine jT ?_ hb2' | refine jT ?_ hb3' | refine jT ?_ hb4')); done)) (by first | (refine mLit X.drew _ _ 1 [code] #[.int .u8 code] rfl rfl (by omega) (by intro b hb; simp at hb; omega) ?_ (by simp; done); (with_reducible repeat (first | exact Below.refl _ _ | refine jD ?_ | refine jA ?_ _ | refine jT ?_ hb2' | refine jT ?_ hb3' | refine jT ?_ hb4')); done) | (refine mLit u2 _ _ 1 [code] #[.int .u8 code] rfl rfl (by omega) (by intro b hb; simp at hb; omega) ?_ (by simp; done); (with_reducible repeat (first | exact Below.refl _ _ | refine jD ?_ | refine jA ?_ _ | refine jT ?_ hb2' | refine jT ?_ hb3' | refine jT ?_ hb4')); done) | (refine mLit u3 _ _ 1 [code] #[.int .u8 code] rfl rfl (by omega) (by intro b hb; simp at hb; omega) ?_ (by simp; done); (with_reducible repeat (first | exact Below.refl _ _ | refine jD ?_ | refine jA ?_ _ | refine jT ?_ hb2' | refine jT ?_ hb3' | refine jT ?_ hb4')); done) | (refine mLit u4 _ _ 1 [code] #[.int .u8 code] rfl rfl (by omega) (by intro b hb; simp at hb; omega) ?_ (by simp; done); (with_reducible repeat (first | exact Below.refl _ _ | refine jD ?_ | refine jA ?_ _ | refine jT ?_ hb2' | refine jT ?_ hb3' | refine jT ?_ hb4')); done) | (refine mLit X _ _ 1 [code] #[.int .u8 code] rfl rfl (by omega) (by intro b hb; simp at hb; omega) ?_ (by simp; done); (with_reducible repeat (first | exact Below.refl _ _ | refine jD ?_ | refine jA ?_ _ | refine jT ?_ hb2' | refine jT ?_ hb3' | refine jT ?_ hb4')); done) | (refine mLit (X.drew.alloc (.cells #[.int .u8 label, .int .u8 key] 5)) _ _ 1 [code] #[.int .u8 code] rfl rfl (by omega) (by intro b hb; simp at hb; omega) ?_ (by simp; done); (with_reducible repeat (first | exact Below.refl _ _ | refine jD ?_ | refine jA ?_ _ | refine jT ?_ hb2' | refine jT ?_ hb3' | refine jT ?_ hb4')); done) | (refine mLit (u2.alloc (.cells #[.int .u8 label, .int .u8 key] 5)) _ _ 1 [code] #[.int .u8 code] rfl rfl (by omega) (by intro b hb; simp at hb; omega) ?_ (by simp; done); (with_reducible repeat (first | exact Below.refl _ _ | refine jD ?_ | refine jA ?_ _ | refine jT ?_ hb2' | refine jT ?_ hb3' | refine jT ?_ hb4')); done) | (refine mLit (u3.alloc (.cells #[.int .u8 label, .int .u8 key] 5)) _ _ 1 [code] #[.int .u8 code] rfl rfl (by omega) (by intro b hb; simp at hb; omega) ?_ (by simp; done); (with_reducible repeat (first | exact Below.refl _ _ | refine jD ?_ | refine jA ?_ _ | refine jT ?_ hb2' | refine jT ?_ hb3' | refine jT ?_ hb4')); done) | (refine mLit (u4.alloc (.cells #[.int .u8 label, .int .u8 key] 5)) _ _ 1 [code] #[.int .u8 code] rfl rfl (by omega) (by intro b hb; simp at hb; omega) ?_ (by simp; done); (with_reducible repeat (first | exact Below.refl _ _ | refine jD ?_ | refine jA ?_ _ | refine jT ?_ hb2' | refine jT ?_ hb3' | refine jT ?_ hb4')); done) | (refine mLit (X.alloc (.cells #[.int .u8 label, .int .u8 key] 5)) _ _ 1 [code] #[.int .u8 code] rfl rfl (by omega) (by intro b hb; simp at hb; omega) ?_ (by simp; done); (with_reducible repeat (first | exact Below.refl _ _ | refine jD ?_ | refine jA ?_ _ | refine jT ?_ hb2' | refine jT ?_ hb3' | refine jT ?_ hb4')); done))) (by omega) (by simp [catB, be_len]; try omega)).mono ?_; rintro e u9 ⟨v9, rfl, own9, hb9'⟩; rw [show ∀ (q1 q5 : Option Addr), catB [⟨x, 7, y, OUT⟩, ⟨q1, 2, 2, [label, key]⟩, ⟨x2, 4, y2, (be value 4)⟩, ⟨x3, 3, y3, (be version 3)⟩, ⟨x4, 3, y4, (be ask 3)⟩, ⟨q5, 1, 1, [code]⟩] = RB from (fun q1 q5 => (by rw [HEQ.out]; simp [catB])), HLEN.out] at own9; replace own9 := jB own9 (Nat.le_trans hWX.size (Below.size (show Below X.heap.size X _ from (by (with_reducible repeat (first | exact Below.refl _ _ | refine jD ?_ | refine jA ?_ _ | refine jT ?_ hb2' | refine jT ?_ hb3' | refine jT ?_ hb4')); done)))); obtain ⟨x9, y9, rfl⟩ := own_slice own9))
      all_goals
        have hX3 : Below X.heap.size X u9 := by (with_reducible repeat (first | exact Below.refl _ _ | refine jD ?_ | refine jA ?_ _ | refine jT ?_ hb9' | refine jT ?_ hb2' | refine jT ?_ hb3' | refine jT ?_ hb4')); done
        have hB8 := (isB_slice own9 hbR).1
        go_wp2
        go_ret2
        exact ⟨x9, _, y9, rfl, hB8, hwX.trans (hX3.mono hwX.size)⟩
  · go_wp2_with (go_at_call 18; refine (hFF _ hLW).mono ?_; rintro e w1 ⟨rfl, hb1⟩)
    go_ret2
    exact ⟨none, 0, 0, rfl, isB_nil _, hB.trans (hb1.mono hB.size)⟩
end Go.Proofs.YtilhkonanncfiaaDoor
