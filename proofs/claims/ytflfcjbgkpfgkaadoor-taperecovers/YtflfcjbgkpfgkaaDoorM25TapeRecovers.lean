/- Texts of this claim, one behind the other. -/
import Derived.Test.YtflfcjbgkpfgkaaDoorM24TapeRecovers
import Derived.Test.YtflfcjbgkpfgkaaDoorM20TapeRecovers
import Derived.Test.YtflfcjbgkpfgkaaDoorM21TapeRecovers
import Derived.Test.YtflfcjbgkpfgkaaDoorM22TapeRecovers
import Derived.Deep.CutBlock
import Derived.Test.YtflfcjbgkpfgkaaDoorM8TapeRecovers
import Derived.Test.YtflfcjbgkpfgkaaDoorM12TapeRecovers
import Derived.Test.YtflfcjbgkpfgkaaDoorM15TapeRecovers
import Derived.LoopTactic
import Derived.Deep.QuietTactic
import Derived.BigQuiet
/- The contract of the document's RecordOf: what recOf tells, its sites in new memory. -/
namespace Go.Proofs.YtflfcjbgkpfgkaaDoor
open Go.ChangeShapes Go.WideShapes Go.ChangeAt Go.RowKit
set_option linter.unusedVariables false

set_option maxRecDepth 100000 in
set_option maxHeartbeats 8000000 in
theorem recordOf_any (s q : Int) (a : Option Addr) (len cap : Nat) (ls : List (Int × Int)) (ba : Option Addr) (bl bc : Nat) (bs : List Int) (w : World) (h : IsLabs w a len cap ls) (hI : IsB w ba bl bc bs) (hbig : bl ≤ 140737488355328)
    (hMF : ∀ (m : RcV) (w' : World), IsLabs w' a len cap ls → IsInts w' m.sa m.sl m.sc m.sites → Calls Tryd.prog 62 #[.agg #[.int .i64 s, .slice a len cap, .int .i64 q], m.val] w' fun e w'' => e = .returned (.int .i64 (recFault s ls q m)) ∧ Below w'.heap.size w' w'') :
    Calls Tryd.prog 37 #[.agg #[.int .i64 s, .slice a len cap, .int .i64 q], .slice ba bl bc] w fun e w' => DecRPost w w' e (recOf s ls q bs) := by
  have hbyt := hI.2.2.2.1
  obtain ⟨i0, hi, li0, li1, li2⟩ := info_parts intInfoS
  have hfb : ∀ b off, 0 < bl → ba = some ⟨b, off, none⟩ → b < w.heap.size := isB_lt hI
  have EO : Hid (recOf s ls q bs = if cfgFault s ls q ≠ 0 then (RcV.zero, cfgFault s ls q) else if (decRecRS ⟨bs, 0⟩).2.fin.wrong ≠ 0 then (RcV.zero, (decRecRS ⟨bs, 0⟩).2.fin.wrong) else if recFault s ls q (decRecRS ⟨bs, 0⟩).1 ≠ 0 then (RcV.zero, recFault s ls q (decRecRS ⟨bs, 0⟩).1) else ((decRecRS ⟨bs, 0⟩).1, 0)) := rfl
  obtain ⟨MO, eMO⟩ : ∃ x, x = recOf s ls q bs := ⟨_, rfl⟩
  rw [← eMO] at EO ⊢
  clear eMO
  have hLc := fun w' hh => fault_any s q a len cap ls w' hh
  obtain ⟨FC, eFC⟩ : ∃ x, x = cfgFault s ls q := ⟨_, rfl⟩
  rw [← eFC] at EO hLc
  clear eFC
  obtain ⟨W, hW⟩ : ∃ W : World, W = (w.alloc (.cells #[.int .i64 s, .slice a len cap, .int .i64 q] 24)).alloc (.cells #[.int .i64 0, .int .i64 0, .int .i64 0, .int .i64 0, .int .i64 0, .int .i64 0, .bool false, .slice none 0 0] 56) := ⟨_, rfl⟩
  have hB : Below w.heap.size w W := by rw [hW]; exact ((Below.refl _ _).alloc (Nat.le_refl _) _).alloc (by simp) _
  have zW : w.heap.size + 2 ≤ W.heap.size := by rw [hW]; simp
  have cbW : BoxN W w.heap.size 3 [.int .i64 s, .slice a len cap, .int .i64 q] := by
    rw [hW]
    exact (boxn_new w #[.int .i64 s, .slice a len cap, .int .i64 q] 24 3 rfl).below ((Below.refl _ _).alloc (Nat.le_refl _) _) (by simp)
  have rbW : BoxN W (w.heap.size + 1) 8 [.int .i64 0, .int .i64 0, .int .i64 0, .int .i64 0, .int .i64 0, .int .i64 0, .bool false, .slice none 0 0] := by
    have := boxn_new (w.alloc (.cells #[.int .i64 s, .slice a len cap, .int .i64 q] 24)) #[.int .i64 0, .int .i64 0, .int .i64 0, .int .i64 0, .int .i64 0, .int .i64 0, .bool false, .slice none 0 0] 56 8 rfl
    rw [hW]
    simpa using this
  have hLW := h.below hB
  have c0 := (cbW.c 0 (by decide)).1
  have c1 := (cbW.c 1 (by decide)).1
  have c2 := (cbW.c 2 (by decide)).1
  simp only [List.getD_cons_zero, List.getD_cons_succ] at c0 c1 c2
  go_enter Tryd.func37, Tryd.ntmps37
  go_upto_region 1 with (fail)
  rw [← hW]
  clear hW
  go_upto_region 2 with (go_at_call 27; refine (hLc _ hLW).mono ?_; rintro e w1 ⟨rfl, hb1⟩)
  clear c0 c1 c2
  have hw1 := hB.trans (hb1.mono hB.size)
  have cb1 := cbW.below hb1 cbW.lt
  have rb1 := rbW.below hb1 rbW.lt
  clear cbW rbW
  have zw1 : w.heap.size + 2 ≤ w1.heap.size := by have := hb1.size; omega
  by_cases hF : FC = 0
  · subst hF
    go_upto_region 5 with (fail)
    obtain ⟨V, hV⟩ : ∃ V : World, V = w1.alloc (.cells #[.slice ba bl bc, .int .i64 0, .int .i64 0] 70) := ⟨_, rfl⟩
    have hEV : EyeTo V w1.heap.size w.heap.size bs ⟨bs, 0⟩ := by rw [hV]; exact eye_new (hI.below hw1) hw1.size hfb hbig
    have hb2 : Below w1.heap.size w1 V := by rw [hV]; exact (Below.refl _ _).alloc (Nat.le_refl _) _
    have zV : w1.heap.size < V.heap.size := by rw [hV]; simp
    have hwV := hw1.trans (hb2.mono hw1.size)
    have cbV := cb1.below hb2 cb1.lt
    have rbV := rb1.below hb2 rb1.lt
    rw [← hV]
    clear hV cb1 rb1
    obtain ⟨R, eR⟩ : ∃ x, x = w1.heap.size := ⟨_, rfl⟩
    rw [← eR] at hEV zV zw1 ⊢
    have hwR : w.heap.size ≤ R := by omega
    go_upto_region 6 with (fail)
    obtain ⟨V2, hV2⟩ : ∃ X : World, X = (V.alloc (.cells #[.int .i64 0, .int .i64 0, .int .i64 0, .int .i64 0, .int .i64 0, .int .i64 0, .bool false, .slice none 0 0] 56)) := ⟨_, rfl⟩
    have mb : BoxN V2 V.heap.size 8 [.int .i64 0, .int .i64 0, .int .i64 0, .int .i64 0, .int .i64 0, .int .i64 0, .bool false, .slice none 0 0] := by rw [hV2]; exact (boxn_new V #[.int .i64 0, .int .i64 0, .int .i64 0, .int .i64 0, .int .i64 0, .int .i64 0, .bool false, .slice none 0 0] 56 8 rfl)
    have hb3 : Below V.heap.size V V2 := by
      rw [hV2]; exact (Below.refl _ _).alloc (Nat.le_refl _) _
    rw [← hV2]
    clear hV2
    obtain ⟨M, eM⟩ : ∃ x, x = V.heap.size := ⟨_, rfl⟩
    have hE : ER w V2 R M (w.heap.size + 1) w.heap.size w.heap.size bs [.int .i64 0, .int .i64 0, .int .i64 0, .int .i64 0, .int .i64 0, .int .i64 0, .bool false, .slice none 0 0] [.int .i64 s, .slice a len cap, .int .i64 q] ⟨bs, 0⟩ :=
      ⟨hEV.below hb3, by rw [eM]; exact mb, rbV.below hb3 rbV.lt, cbV.below hb3 cbV.lt, hwV.trans (hb3.mono hwV.size), by omega, by omega⟩
    rw [← eM]
    have hLV := h.below hE.bel
    clear hEV mb rbV cbV hb3 hb2 hwV zV eM eR
    clear zw1 hw1 hb1 hB hLW zW
    have hn0 : 0 ≤ (RS.num ⟨bs, 0⟩ 1).1 := by
      by_cases hk : 1 ≤ bs.length
      · rw [num_ok rfl hk]
        exact (bval_bd 1 (bs.take 1) (by simp; omega) (hbyt.take 1)).1
      · rw [num_short rfl (by simp only; omega)]; exact Int.le_refl _
    have HK : Hid (∃ kk : Nat, kk ≤ 6 ∧ (if (RS.kind ⟨bs, 0⟩ 7).2.wrong = 0 then (RS.kind ⟨bs, 0⟩ 7).1 else 0) = (kk : Int) ∧ (kk = 0 → (RS.kind ⟨bs, 0⟩ 7).2.wrong ≠ 0) ∧ (kk ≠ 0 → (RS.num ⟨bs, 0⟩ 1).1 = kk ∧ (RS.num ⟨bs, 0⟩ 1).2.wrong = 0 ∧ (RS.kind ⟨bs, 0⟩ 7).2 = (RS.num ⟨bs, 0⟩ 1).2)) := by
      show ∃ kk : Nat, _
      by_cases hx : (RS.num ⟨bs, 0⟩ 1).1 = 0 ∨ 7 ≤ (RS.num ⟨bs, 0⟩ 1).1
      · have e : RS.kind ⟨bs, 0⟩ 7 = (0, (RS.num ⟨bs, 0⟩ 1).2.refuse 3) := by unfold RS.kind; rw [if_pos hx]
        have hw : ((RS.num ⟨bs, 0⟩ 1).2.refuse 3).wrong ≠ 0 := by
          unfold RS.refuse
          split
          · simp
          · assumption
        refine ⟨0, by omega, ?_, fun _ => by rw [e]; exact hw, fun h => absurd rfl h⟩
        rw [e]; simp
      · have e : RS.kind ⟨bs, 0⟩ 7 = RS.num ⟨bs, 0⟩ 1 := by unfold RS.kind; rw [if_neg hx]
        have hw : (RS.num ⟨bs, 0⟩ 1).2.wrong = 0 := by
          by_cases hk : 1 ≤ bs.length
          · rw [num_ok rfl hk]
          · rw [num_short rfl (by simp only; omega)] at hx; exact absurd (Or.inl rfl) hx
        refine ⟨(RS.num ⟨bs, 0⟩ 1).1.toNat, by omega, ?_, fun h => by omega, fun _ => ⟨by omega, hw, by rw [e]⟩⟩
        rw [e, if_pos hw]; omega
    have hFi := fun w' hh => eyeFirst_any R w.heap.size bs ⟨bs, 0⟩ 6 w' hh hn0
    simp only [show (6 : Int) + 1 = 7 from rfl] at hFi
    have HD : Hid ((RS.kind ⟨bs, 0⟩ 7).2.wrong ≠ 0 → (decRecRS ⟨bs, 0⟩).2 = (RS.kind ⟨bs, 0⟩ 7).2) := fun hh => decR_nothing hh rfl
    have H1 := fun n1 n2 n3 n4 n5 r' => @chR_1 ⟨bs, 0⟩ r' n1 n2 n3 n4 n5
    have H3 := fun n1 n2 n zs k S r' => @chR_3 ⟨bs, 0⟩ S r' n1 n2 n zs k
    have HN := fun n1 n2 k r' => @chR_n ⟨bs, 0⟩ r' k n1 n2
    have HY := fun n1 n2 n k r' => @chR_y ⟨bs, 0⟩ r' k n1 n2 n
    obtain ⟨D, eD⟩ : ∃ D, D = decRecRS ⟨bs, 0⟩ := ⟨_, rfl⟩
    rw [← eD] at HD H1 H3 HN HY EO
    clear eD
    obtain ⟨Dm, Dr⟩ := D
    simp only [] at HD H1 H3 HN HY EO
    obtain ⟨S1, eS1⟩ : ∃ x, x = (RS.kind ⟨bs, 0⟩ 7).2 := ⟨_, rfl⟩
    obtain ⟨T1, eT1⟩ : ∃ x, x = RS.num ⟨bs, 0⟩ 1 := ⟨_, rfl⟩
    rw [← eS1] at HK hFi HD
    rw [← eT1] at HK H1 H3 HN HY
    replace H1 : Hid (∀ (n1 n2 n3 n4 n5 : Int) (r' : RS), T1.1 = ((1 : Nat) : Int) → Ch [1, 3, 1, 4, 3] T1.2 [n1, n2, n3, n4, n5] r' → r' = Dr ∧ (r'.wrong = 0 → Dm = rMake 1 n1 n2 n3 n4 n5 false [])) := H1
    replace H3 : Hid (∀ (n1 n2 n : Int) (zs : List Int) (k : Nat) (S r' : RS), T1.1 = ((3 : Nat) : Int) → Ch [1, 3, 1] T1.2 [n1, n2, n] S → Ch (List.replicate k 1) S zs r' → (k : Int) ≤ n → r'.wrong ≠ 0 ∨ (k : Int) = n → r' = Dr ∧ (r'.wrong = 0 → Dm = rMake 3 n1 n2 0 0 0 false zs)) := H3
    replace HN : Hid (∀ (n1 n2 : Int) (k : Nat) (r' : RS), k = 4 ∨ k = 5 → T1.1 = (k : Int) → Ch [1, 3] T1.2 [n1, n2] r' → r' = Dr ∧ (r'.wrong = 0 → Dm = rMake k n1 n2 0 0 0 false [])) := HN
    replace HY : Hid (∀ (n1 n2 n : Int) (k : Nat) (r' : RS), k = 2 ∨ k = 6 → T1.1 = (k : Int) → Ch [1, 3, 1] T1.2 [n1, n2, n] r' → (if 1 < n then r'.refuse 4 else r') = Dr ∧ ((if 1 < n then r'.refuse 4 else r').wrong = 0 → Dm = rMake k n1 n2 0 0 0 (n == 1) [])) := HY
    obtain ⟨kk, hk9, hke, hk0, hk1⟩ := HK.out
    rw [hke] at hFi
    have HK0 : Hid (kk = 0 → S1.wrong ≠ 0) := hk0
    have HK1 : Hid (kk ≠ 0 → T1.1 = kk ∧ T1.2.wrong = 0 ∧ S1 = T1.2) := hk1
    clear HK hke hk0 hk1 eS1 eT1 hn0
    go_upto_region 7 with (go_at_call 28; refine (hFi _ hE.eye).mono ?_; rintro e u3a ⟨rfl, he, hg⟩; replace hE := hE.call hg he; clear hg he; have zM := hE.msg.lt; have c0 := (hE.msg.c 0 (by decide)).1; have f0 := (hE.msg.c 0 (by decide)).2; simp only [List.getD_cons_zero] at c0)
    obtain ⟨V3, eV3⟩ : ∃ X, X = (u3a.setCell ⟨M, 0, none⟩ (.int .i64 (kk : Int))) := ⟨_, rfl⟩
    replace hE : ER w V3 R M (w.heap.size + 1) w.heap.size w.heap.size bs [.int .i64 (kk : Int), .int .i64 0, .int .i64 0, .int .i64 0, .int .i64 0, .int .i64 0, .bool false, .slice none 0 0] [.int .i64 s, .slice a len cap, .int .i64 q] S1 := by rw [eV3]; exact (hE.set 0 (by decide) (.int .i64 (kk : Int)))
    rw [← eV3]
    clear eV3 zM c0 f0
    go_upto_region 8 with (go_at_call 30; refine ((fun w' hh => eyeWho_any R w.heap.size bs S1 w' hh) _ hE.eye).mono ?_; rintro e u4a ⟨n1, n2, rfl, h3, h4, he, hg⟩; have Nn1 : Hid ((S1.num 1).2.wrong = 0 → n1 = (S1.num 1).1) := h3; have Nn2 : Hid (((S1.num 1).2.num 3).2.wrong = 0 → n2 = ((S1.num 1).2.num 3).1) := h4; clear h3 h4; replace hE := hE.call hg he; clear hg he; have zM := hE.msg.lt; have c1 := (hE.msg.c 1 (by decide)).1; have f1 := (hE.msg.c 1 (by decide)).2; simp only [List.getD_cons_zero, List.getD_cons_succ] at c1; have c2 := (hE.msg.c 2 (by decide)).1; have f2 := (hE.msg.c 2 (by decide)).2; simp only [List.getD_cons_zero, List.getD_cons_succ] at c2)
    obtain ⟨V4, eV4⟩ : ∃ X, X = ((u4a.setCell ⟨M, 1, none⟩ (.int .i64 n1)).setCell ⟨M, 2, none⟩ (.int .i64 n2)) := ⟨_, rfl⟩
    replace hE : ER w V4 R M (w.heap.size + 1) w.heap.size w.heap.size bs [.int .i64 (kk : Int), .int .i64 n1, .int .i64 n2, .int .i64 0, .int .i64 0, .int .i64 0, .bool false, .slice none 0 0] [.int .i64 s, .slice a len cap, .int .i64 q] ((S1.num 1).2.num 3).2 := by rw [eV4]; exact ((hE.set 1 (by decide) (.int .i64 n1)).set 2 (by decide) (.int .i64 n2))
    rw [← eV4]
    clear eV4 zM c1 f1 c2 f2
    obtain ⟨S4, eS4⟩ : ∃ x, x = ((S1.num 1).2.num 3).2 := ⟨_, rfl⟩
    rw [← eS4] at hE
    have ES4 : Hid (S4 = ((S1.num 1).2.num 3).2) := eS4
    clear eS4
    have kc := (hE.msg.c 0 (by decide)).1
    simp only [List.getD_cons_zero] at kc
    have zM := hE.msg.lt
    go_upto_block 0 with (fail)
    clear kc zM
    go_cut [] (fun wc => ∃ sa sc vs, ER w wc R M (w.heap.size + 1) w.heap.size w.heap.size bs vs [.int .i64 s, .slice a len cap, .int .i64 q] Dr ∧ (Dr.wrong = 0 → vs = RcV.cs { Dm with sa := sa, sc := sc } ∧ IsInts wc sa Dm.sl sc Dm.sites ∧ (∀ b off, sa = some ⟨b, off, none⟩ → w.heap.size ≤ b ∧ b < wc.heap.size ∧ b ≠ R ∧ b ≠ M ∧ b ≠ w.heap.size + 1)))
    case first =>
      have Hhead : Hid (∀ (ks : List Nat) (ns : List Int) (r' : RS), Ch ks S4 ns r' → Ch (1 :: 3 :: ks) S1 (n1 :: n2 :: ns) r') := fun ks ns r' hh => by
        refine ⟨Nn1.out, Nn2.out, ?_⟩
        rw [← ES4.out]; exact hh
      clear Nn1 Nn2 ES4
      rcases (by omega : kk = 0 ∨ kk = 1 ∨ kk = 2 ∨ kk = 3 ∨ kk = 4 ∨ kk = 5 ∨ kk = 6) with rfl | rfl | rfl | rfl | rfl | rfl | rfl
      · have kc := (hE.msg.c 0 (by decide)).1
        simp only [List.getD_cons_zero, Int.cast_ofNat_Int] at kc
        have zM := hE.msg.lt
        clear H1 H3 HN HY EO
        have hz := HK0.out rfl
        have h4 := (Hhead.out [] [] S4 rfl).stays hz
        have hDr : Dr = S4 := by rw [h4]; exact HD.out hz
        have HZ : Hid (Dr = S4 ∧ Dr.wrong ≠ 0) := ⟨hDr, by rw [hDr, h4]; exact hz⟩
        clear hz h4 hDr
        go_wp2_with (fail)
        go_meet
        case rel => exact ⟨none, 0, _, by rw [HZ.out.1]; exact hE, fun hh => absurd hh HZ.out.2⟩
      · have kc := (hE.msg.c 0 (by decide)).1
        simp only [List.getD_cons_zero, Int.cast_ofNat_Int] at kc
        have zM := hE.msg.lt
        go_upto_region 10 with (fail)
        clear kc zM
        go_upto_region 11 with (go_at_call 29; refine ((fun w' hh => eyeNum_any R w.heap.size bs S4 1 w' hh (by omega)) _ hE.eye).mono ?_; rintro e u25a ⟨m1x0, rfl, _, hn, he, hg⟩; have Nm1x0 : Hid ((S4.num 1).2.wrong = 0 → m1x0 = (S4.num 1).1) := hn; clear hn; replace hE := hE.call hg he; clear hg he; have zM := hE.msg.lt; have c3 := (hE.msg.c 3 (by decide)).1; have f3 := (hE.msg.c 3 (by decide)).2; simp only [List.getD_cons_zero, List.getD_cons_succ] at c3)
        obtain ⟨V25, eV25⟩ : ∃ X, X = (u25a.setCell ⟨M, 3, none⟩ (.int .i64 m1x0)) := ⟨_, rfl⟩
        replace hE : ER w V25 R M (w.heap.size + 1) w.heap.size w.heap.size bs [.int .i64 ((1 : Nat) : Int), .int .i64 n1, .int .i64 n2, .int .i64 m1x0, .int .i64 0, .int .i64 0, .bool false, .slice none 0 0] [.int .i64 s, .slice a len cap, .int .i64 q] (S4.num 1).2 := by rw [eV25]; exact (hE.set 3 (by decide) (.int .i64 m1x0))
        rw [← eV25]
        clear eV25 zM c3 f3
        obtain ⟨Q1x0, eQ1x0⟩ : ∃ x, x = (S4.num 1).2 := ⟨_, rfl⟩
        rw [← eQ1x0] at hE
        have EQ1x0 : Hid (Q1x0 = (S4.num 1).2) := eQ1x0
        clear eQ1x0
        go_upto_region 12 with (go_at_call 29; refine ((fun w' hh => eyeNum_any R w.heap.size bs Q1x0 4 w' hh (by omega)) _ hE.eye).mono ?_; rintro e u26a ⟨m1x1, rfl, _, hn, he, hg⟩; have Nm1x1 : Hid ((Q1x0.num 4).2.wrong = 0 → m1x1 = (Q1x0.num 4).1) := hn; clear hn; replace hE := hE.call hg he; clear hg he; have zM := hE.msg.lt; have c4 := (hE.msg.c 4 (by decide)).1; have f4 := (hE.msg.c 4 (by decide)).2; simp only [List.getD_cons_zero, List.getD_cons_succ] at c4)
        obtain ⟨V26, eV26⟩ : ∃ X, X = (u26a.setCell ⟨M, 4, none⟩ (.int .i64 m1x1)) := ⟨_, rfl⟩
        replace hE : ER w V26 R M (w.heap.size + 1) w.heap.size w.heap.size bs [.int .i64 ((1 : Nat) : Int), .int .i64 n1, .int .i64 n2, .int .i64 m1x0, .int .i64 m1x1, .int .i64 0, .bool false, .slice none 0 0] [.int .i64 s, .slice a len cap, .int .i64 q] (Q1x0.num 4).2 := by rw [eV26]; exact (hE.set 4 (by decide) (.int .i64 m1x1))
        rw [← eV26]
        clear eV26 zM c4 f4
        obtain ⟨Q1x1, eQ1x1⟩ : ∃ x, x = (Q1x0.num 4).2 := ⟨_, rfl⟩
        rw [← eQ1x1] at hE
        have EQ1x1 : Hid (Q1x1 = (Q1x0.num 4).2) := eQ1x1
        clear eQ1x1
        go_wp2_with (go_at_call 29; refine ((fun w' hh => eyeNum_any R w.heap.size bs Q1x1 3 w' hh (by omega)) _ hE.eye).mono ?_; rintro e u27a ⟨m1x2, rfl, _, hn, he, hg⟩; have Nm1x2 : Hid ((Q1x1.num 3).2.wrong = 0 → m1x2 = (Q1x1.num 3).1) := hn; clear hn; replace hE := hE.call hg he; clear hg he; have zM := hE.msg.lt; have c5 := (hE.msg.c 5 (by decide)).1; have f5 := (hE.msg.c 5 (by decide)).2; simp only [List.getD_cons_zero, List.getD_cons_succ] at c5)
        go_meet
        case rel =>
          have hE2 := (hE.set 5 (by decide) (.int .i64 m1x2))
          obtain ⟨a1', a2', a3'⟩ := HK1.out (by decide)
          have hc : Ch [1, 4, 3] S4 [m1x0, m1x1, m1x2] (Q1x1.num 3).2 := by
            refine ⟨?_, ?_, ?_, ?_⟩
            · exact Nm1x0.out
            · rw [← EQ1x0.out]; exact Nm1x1.out
            · rw [← EQ1x0.out, ← EQ1x1.out]; exact Nm1x2.out
            · rw [← EQ1x0.out, ← EQ1x1.out]; exact rfl
          have hc2 := H1.out n1 n2 m1x0 m1x1 m1x2 _ a1' (by rw [← a3']; exact Hhead.out _ _ _ hc)
          refine ⟨none, 0, _, by rw [← hc2.1]; exact hE2, fun hw => ?_⟩
          rw [← hc2.1] at hw
          rw [hc2.2 hw]
          exact ⟨rfl, isI_nilR _, fun b off e => by cases e⟩
      · have kc := (hE.msg.c 0 (by decide)).1
        simp only [List.getD_cons_zero, Int.cast_ofNat_Int] at kc
        have zM := hE.msg.lt
        go_upto_region 15 with (fail)
        clear kc zM
        go_wp2_with (go_at_call 31; refine ((fun w' hh => eyeYes_any R w.heap.size bs S4 w' hh) _ hE.eye).mono ?_; rintro e u45a ⟨m2x0, rfl, hn, he, hg⟩; have Nm2x0 : Hid ((S4.num 1).2.wrong = 0 → m2x0 = (S4.num 1).1) := hn; clear hn; replace hE := hE.call hg he; clear hg he; have zM := hE.msg.lt; have c6 := (hE.msg.c 6 (by decide)).1; have f6 := (hE.msg.c 6 (by decide)).2; simp only [List.getD_cons_zero, List.getD_cons_succ] at c6)
        go_meet
        case rel =>
          have hE2 := (hE.set 6 (by decide) (.bool (m2x0 == 1)))
          obtain ⟨a1', a2', a3'⟩ := HK1.out (by decide)
          have hc : Ch [1] S4 [m2x0] (S4.num 1).2 := by
            refine ⟨?_, ?_⟩
            · exact Nm2x0.out
            · exact rfl
          have hc2 := HY.out n1 n2 m2x0 2 _ (by decide) a1' (by rw [← a3']; exact Hhead.out _ _ _ hc)
          refine ⟨none, 0, _, by rw [← hc2.1]; exact hE2, fun hw => ?_⟩
          rw [← hc2.1] at hw
          rw [hc2.2 hw]
          exact ⟨rfl, isI_nilR _, fun b off e => by cases e⟩
      · have kc := (hE.msg.c 0 (by decide)).1
        simp only [List.getD_cons_zero, Int.cast_ofNat_Int] at kc
        have zM := hE.msg.lt
        go_upto_region 17 with (fail)
        clear kc zM
        go_upto_region 18 with (go_at_call 29; refine ((fun w' hh => eyeNum_any R w.heap.size bs S4 1 w' hh (by omega)) _ hE.eye).mono ?_; rintro e u65a ⟨n, rfl, ⟨nb0, nb1⟩, hn, he, hg⟩; have Nn : Hid ((S4.num 1).2.wrong = 0 → n = (S4.num 1).1) := hn; clear hn; replace hE := hE.call hg he; clear hg he; have zM := hE.msg.lt)
        clear zM
        obtain ⟨S5, eS5⟩ : ∃ x, x = (S4.num 1).2 := ⟨_, rfl⟩
        rw [← eS5] at hE
        have ES5 : Hid (S5 = (S4.num 1).2) := eS5
        clear eS5
        obtain ⟨a1', a2', a3'⟩ := HK1.out (by decide)
        have H5 : Hid (∀ zs k r', Ch (List.replicate k 1) S5 zs r' → (k : Int) ≤ n → r'.wrong ≠ 0 ∨ (k : Int) = n → r' = Dr ∧ (r'.wrong = 0 → Dm = rMake 3 n1 n2 0 0 0 false zs)) := fun zs k r' g1 g2 g3 => H3.out n1 n2 n zs k S5 r' a1' (by rw [← a3']; exact Hhead.out _ _ _ ⟨Nn.out, ES5.out⟩) g1 g2 g3
        clear a1' a2' a3' H1 H3 HN HY HD HK0 HK1 Hhead Nn ES5 EO hFi hMF hLc hk9
        obtain ⟨N, rfl⟩ : ∃ N : Nat, n = N := ⟨n.toNat, by omega⟩
        obtain ⟨U, eU⟩ : ∃ U, U = u65a := ⟨_, rfl⟩
        rw [← eU] at hE ⊢
        clear eU
        have hle := hE.le
        have hne := hE.ne
        have zR0 := hE.eye.lt
        have zM0 := hE.msg.lt
        have zQ0 := hE.res.lt
        have zC0 := hE.cfg.lt
        have zB0 := hE.bel.size
        have hN32 : N < 4294967296 := by omega
        go_wp2
        go_loopw [10, 11] (fun s10 s11 wr => ∃ (k : Nat) (a1 : Option Addr) (c1 : Nat) (zs : List Int) (sk : RS), k ≤ N ∧ s10 = .int .i64 (k : Int) ∧ ER w wr R M (w.heap.size + 1) w.heap.size w.heap.size bs [.int .i64 ((3 : Nat) : Int), .int .i64 n1, .int .i64 n2, .int .i64 0, .int .i64 0, .int .i64 0, .bool false, .slice a1 k c1] [.int .i64 s, .slice a len cap, .int .i64 q] sk ∧ wr.ownsRow U.heap.size 3 1 (.slice a1 k c1) k (intsS zs) ∧ U.heap.size ≤ wr.heap.size ∧ Hid (∀ z ∈ zs, 0 ≤ z ∧ z < 4294967296) ∧ Hid (Ch (List.replicate k 1) S5 zs sk)) (fun s10 _ _ => N - (intOf s10).toNat)
        case atStart => exact ⟨0, none, 0, [], S5, by omega, rfl, hE, World.ownsRow_nil _ _ _ _, Nat.le_refl _, (fun z hz => by simp at hz), rfl⟩
        case round =>
          obtain ⟨k, a1, c1, zs, sk, hk, rfl, hE1, own, hU, hzs, hch⟩ := hrel
          clear hE
          obtain ⟨aa, la, ca, pa, hY⟩ := id hE1.eye
          have e2 := hY.c2
          have zR := hY.lt
          clear hY
          have hex : ∀ sc' : Int, (sk.wrong ≠ 0 ∨ (k : Int) = N) → ∃ sa sc vs, ER w wr R M (w.heap.size + 1) w.heap.size w.heap.size bs vs [.int .i64 s, .slice a len cap, .int .i64 q] Dr ∧ (Dr.wrong = 0 → vs = RcV.cs { Dm with sa := sa, sc := sc } ∧ IsInts wr sa Dm.sl sc Dm.sites ∧ (∀ b off, sa = some ⟨b, off, none⟩ → w.heap.size ≤ b ∧ b < wr.heap.size ∧ b ≠ R ∧ b ≠ M ∧ b ≠ w.heap.size + 1)) := fun _ hend => by
            obtain ⟨g1, g2⟩ := H5.out zs k sk hch.out (by omega) hend
            obtain ⟨hII, hfar⟩ := isI_ownE own hzs.out
            have hl : zs.length = k := hII.1
            refine ⟨a1, c1, _, by rw [← g1]; exact hE1, fun hw => ?_⟩
            rw [← g1] at hw
            rw [g2 hw]
            refine ⟨by simp [RcV.cs, rMake, hl], by simpa [rMake, hl] using hII, fun b off e => ?_⟩
            have := hfar b off e
            omega
          have HEX : Hid ((sk.wrong ≠ 0 ∨ (k : Int) = N) → ∃ sa sc vs, ER w wr R M (w.heap.size + 1) w.heap.size w.heap.size bs vs [.int .i64 s, .slice a len cap, .int .i64 q] Dr ∧ (Dr.wrong = 0 → vs = RcV.cs { Dm with sa := sa, sc := sc } ∧ IsInts wr sa Dm.sl sc Dm.sites ∧ (∀ b off, sa = some ⟨b, off, none⟩ → w.heap.size ≤ b ∧ b < wr.heap.size ∧ b ≠ R ∧ b ≠ M ∧ b ≠ w.heap.size + 1))) := hex 0
          clear hex
          by_cases hlt : k < N
          · have hlt' : (k : Int) < (N : Int) := by omega
            by_cases hw : sk.wrong = 0
            · rw [hw] at e2
              clear HEX
              have hnum := fun w' hh => eyeNum_any R w.heap.size bs sk 1 w' hh (by omega)
              have hnR : (Value.slice a1 k c1).ownBlock = none ∨ (Value.slice a1 k c1).ownBlock ≠ some R := by
                right
                intro e
                have := (own.lt R e).1
                omega
              have HR : Hid (∀ k', (Value.slice a1 k c1).ownBlock = some k' → w.heap.size ≤ k' ∧ k' ≠ R ∧ k' ≠ M ∧ k' ≠ w.heap.size + 1 ∧ k' ≠ w.heap.size) := fun k' e => by
                have := (own.lt k' e).1
                omega
              go_upto_region 22 with (go_at_call 29; refine (hnum _ hE1.eye).mono ?_; rintro e w1 ⟨x, rfl, ⟨xb0, xb1⟩, hx, he, hg1⟩)
              have hE2 := hE1.call hg1 he
              have own1 := own.kept hg1 hnR
              have hX : Hid ((sk.num 1).2.wrong = 0 → x = (sk.num 1).1) := hx
              clear hx
              have z1 := hg1.size
              have d7 := (hE2.msg.c 7 (by decide)).1
              simp only [List.getD_cons_zero, List.getD_cons_succ] at d7
              have zM := hE2.msg.lt
              have hal := World.grownBy_alloc w1 (.cells #[.int .i64 x] 3) none
              have hE3 := hE2.row hal (fun k hk => by cases hk)
              clear e2 zR
              go_wp2_with (at_builtin; refine wpList_append_lies _ (by rfl) (.tmp 66) (.tmp 68) 44 (by rfl) U.heap.size 3 i0 (.int .i64 0) 1 8 Tryd.underlying44 hi li0 li1 li2 rfl (by decide) (.slice a1 k c1) k (intsS zs) (by rfl) (own1.alloc _) ⟨w1.heap.size, 0, none⟩ 1 1 [.int .i64 x] (by rfl) rfl (cell_one_new w1 _ _) (by intro u hu; simp at hu; subst hu; rfl) (by omega) (by unfold maxLen; omega) (by omega) (by simp; omega) _ rfl ?_; intro g5 c5 w5 own5 gr5 at5 lt5; have hE5 := hE3.row gr5 HR.out; have q7 := (hE5.msg.c 7 (by decide)).1; have f7 := (hE5.msg.c 7 (by decide)).2; simp only [List.getD_cons_zero, List.getD_cons_succ] at q7; have zM5 := hE5.msg.lt; have z5 := gr5.size)
              have eV : intsS zs ++ [Value.int .i64 x] = intsS (zs ++ [x]) := by simp [intsS]
              rw [eV] at own5
              have own6 := own5.kept (grown_set (grownR_refl _ _) : w5.grownBy (w5.setCell ⟨M, 7, none⟩ (.slice (some ⟨g5, 0, none⟩) (k + 1) c5)) (some M)) (by right; intro e; have := (own5.lt M e).1; omega)
              have hE6 := hE5.set 7 (by decide) (.slice (some ⟨g5, 0, none⟩) (k + 1) c5)
              have hzs' : Hid (∀ z ∈ zs ++ [x], 0 ≤ z ∧ z < 4294967296) := fun z hz => by
                rcases List.mem_append.1 hz with hz | hz
                · exact hzs.out z hz
                · simp at hz; omega
              have hch' : Hid (Ch (List.replicate (k + 1) 1) S5 (zs ++ [x]) (sk.num 1).2) := by
                show Ch _ _ _ _
                rw [List.replicate_succ']
                exact hch.out.snoc hX.out
              go_roundw
              case rel => exact ⟨k + 1, some ⟨g5, 0, none⟩, c5, zs ++ [x], (sk.num 1).2, by omega, by go_num, hE6, own6, by simp at z5 ⊢; omega, hzs', hch'⟩
              case measure => simp [intOf]; omega
            · have hex2 : Hid (∃ sa sc vs, ER w wr R M (w.heap.size + 1) w.heap.size w.heap.size bs vs [.int .i64 s, .slice a len cap, .int .i64 q] Dr ∧ (Dr.wrong = 0 → vs = RcV.cs { Dm with sa := sa, sc := sc } ∧ IsInts wr sa Dm.sl sc Dm.sites ∧ (∀ b off, sa = some ⟨b, off, none⟩ → w.heap.size ≤ b ∧ b < wr.heap.size ∧ b ≠ R ∧ b ≠ M ∧ b ≠ w.heap.size + 1))) := HEX.out (.inl hw)
              clear HEX H5 hE1 own hzs hch
              obtain ⟨DW, eDW⟩ : ∃ x, x = sk.wrong := ⟨_, rfl⟩
              rw [← eDW] at e2 hw
              clear eDW
              have hw2 : (DW == 0) = false := by simp [hw]
              go_wp2_with (fail)
              go_meet
              case rel => exact hex2.out
          · have hex2 : Hid (∃ sa sc vs, ER w wr R M (w.heap.size + 1) w.heap.size w.heap.size bs vs [.int .i64 s, .slice a len cap, .int .i64 q] Dr ∧ (Dr.wrong = 0 → vs = RcV.cs { Dm with sa := sa, sc := sc } ∧ IsInts wr sa Dm.sl sc Dm.sites ∧ (∀ b off, sa = some ⟨b, off, none⟩ → w.heap.size ≤ b ∧ b < wr.heap.size ∧ b ≠ R ∧ b ≠ M ∧ b ≠ w.heap.size + 1))) := HEX.out (.inr (by omega))
            clear HEX H5 hE1 own hzs hch e2 zR
            have hke : k = N := by omega
            subst hke
            go_wp2_with (fail)
            go_meet
            case rel => exact hex2.out
      · have kc := (hE.msg.c 0 (by decide)).1
        simp only [List.getD_cons_zero, Int.cast_ofNat_Int] at kc
        have zM := hE.msg.lt
        go_wp2_with (fail)
        go_meet
        case rel =>
          have hE2 := hE
          obtain ⟨a1', a2', a3'⟩ := HK1.out (by decide)
          have hc : Ch [] S4 [] S4 := by
            exact rfl
          have hc2 := HN.out n1 n2 4 _ (by decide) a1' (by rw [← a3']; exact Hhead.out _ _ _ hc)
          refine ⟨none, 0, _, by rw [← hc2.1]; exact hE2, fun hw => ?_⟩
          rw [← hc2.1] at hw
          rw [hc2.2 hw]
          exact ⟨rfl, isI_nilR _, fun b off e => by cases e⟩
      · have kc := (hE.msg.c 0 (by decide)).1
        simp only [List.getD_cons_zero, Int.cast_ofNat_Int] at kc
        have zM := hE.msg.lt
        go_wp2_with (fail)
        go_meet
        case rel =>
          have hE2 := hE
          obtain ⟨a1', a2', a3'⟩ := HK1.out (by decide)
          have hc : Ch [] S4 [] S4 := by
            exact rfl
          have hc2 := HN.out n1 n2 5 _ (by decide) a1' (by rw [← a3']; exact Hhead.out _ _ _ hc)
          refine ⟨none, 0, _, by rw [← hc2.1]; exact hE2, fun hw => ?_⟩
          rw [← hc2.1] at hw
          rw [hc2.2 hw]
          exact ⟨rfl, isI_nilR _, fun b off e => by cases e⟩
      · have kc := (hE.msg.c 0 (by decide)).1
        simp only [List.getD_cons_zero, Int.cast_ofNat_Int] at kc
        have zM := hE.msg.lt
        go_upto_region 15 with (fail)
        clear kc zM
        go_wp2_with (go_at_call 31; refine ((fun w' hh => eyeYes_any R w.heap.size bs S4 w' hh) _ hE.eye).mono ?_; rintro e u125a ⟨m6x0, rfl, hn, he, hg⟩; have Nm6x0 : Hid ((S4.num 1).2.wrong = 0 → m6x0 = (S4.num 1).1) := hn; clear hn; replace hE := hE.call hg he; clear hg he; have zM := hE.msg.lt; have c6 := (hE.msg.c 6 (by decide)).1; have f6 := (hE.msg.c 6 (by decide)).2; simp only [List.getD_cons_zero, List.getD_cons_succ] at c6)
        go_meet
        case rel =>
          have hE2 := (hE.set 6 (by decide) (.bool (m6x0 == 1)))
          obtain ⟨a1', a2', a3'⟩ := HK1.out (by decide)
          have hc : Ch [1] S4 [m6x0] (S4.num 1).2 := by
            refine ⟨?_, ?_⟩
            · exact Nm6x0.out
            · exact rfl
          have hc2 := HY.out n1 n2 m6x0 6 _ (by decide) a1' (by rw [← a3']; exact Hhead.out _ _ _ hc)
          refine ⟨none, 0, _, by rw [← hc2.1]; exact hE2, fun hw => ?_⟩
          rw [← hc2.1] at hw
          rw [hc2.2 hw]
          exact ⟨rfl, isI_nilR _, fun b off e => by cases e⟩
    case rest =>
      obtain ⟨sa, sc, vs, hE, hvs⟩ := hcut
      clear HD H1 H3 HN HY HK0 HK1 Nn1 Nn2 ES4
      obtain ⟨Y, eY⟩ : ∃ Y, Y = wc := ⟨_, rfl⟩
      rw [← eY] at hE hvs ⊢
      clear eY
      obtain ⟨aa, la, ca, pa, hY⟩ := id hE.eye
      have hla : bl = la := by have := hY.isb.1; have := hI.1; omega
      have hpl := hY.hat
      have e1 := hY.c1
      have e2 := hY.c2
      have f2 := hY.f2
      have zR := hY.lt
      have rb := hE.res
      have zQ := rb.lt
      have hbel := hE.bel
      have hrel := hY.rel
      have cb := hE.cfg
      have mb := hE.msg
      have hne := hE.ne
      have hne1 : R ≠ w.heap.size + 1 := hne.2.1
      have hne2 : w.heap.size + 1 ≠ R := fun h => hne1 h.symm
      have hne3 : R ≠ M := hne.1
      have hne4 : M ≠ R := fun h => hne3 h.symm
      have hne5 : w.heap.size + 1 ≠ M := fun h => hne.2.2.2.1 h.symm
      have hne6 : M ≠ w.heap.size + 1 := hne.2.2.2.1
      have hLY := h.below hbel
      clear hE hY hne
      subst hla
      by_cases hw : Dr.wrong = 0
      · obtain ⟨hvm, hII, hsb⟩ := hvs hw
        have hrest := hrel hw
        rw [hw] at e2
        clear hvs hrel
        have hbl := hI.1
        subst hvm
        by_cases hp : pa < bl
        · have hfin : Dr.fin.wrong = 4 := by
            have : 0 < Dr.rest.length := by rw [hrest]; simp; omega
            unfold RS.fin; rw [if_pos this]; simp [RS.refuse, hw]
          have HM : Hid (MO = (RcV.zero, 4)) := by show _ = _; rw [EO.out, if_neg (by simp), if_pos (by rw [hfin]; decide), hfin]
          clear EO hfin hrest hw hbl hII hsb
          have hp2 : (pa : Int) < (bl : Int) := by omega
          go_upto_region 25 with (fail)
          obtain ⟨X, eX⟩ : ∃ X, X = Y.setCell ⟨R, 2, none⟩ (.int .i64 4) := ⟨_, rfl⟩
          have x2 : X.cell? ⟨R, 2, none⟩ = some (.int .i64 4) := by rw [eX]; go_simp
          have rbX : BoxN X (w.heap.size + 1) 8 [.int .i64 0, .int .i64 0, .int .i64 0, .int .i64 0, .int .i64 0, .int .i64 0, .bool false, .slice none 0 0] := by rw [eX]; exact rb.far hne2
          have hbX : Below w.heap.size w X := by rw [eX]; exact hbel.setCell (p := ⟨R, 2, none⟩) hwR _
          have zX : R < X.heap.size := by rw [eX]; simpa using zR
          rw [← eX]
          clear eX e1 e2 f2 zR hbel rb zQ mb cb
          have hbel := hbX
          have rb := rbX
          have zQ := rb.lt
          have s0 := (rb.c 0 (by decide)).1
          have g0 := (rb.c 0 (by decide)).2
          have s1 := (rb.c 1 (by decide)).1
          have g1 := (rb.c 1 (by decide)).2
          have s2 := (rb.c 2 (by decide)).1
          have g2 := (rb.c 2 (by decide)).2
          have s3 := (rb.c 3 (by decide)).1
          have g3 := (rb.c 3 (by decide)).2
          have s4 := (rb.c 4 (by decide)).1
          have g4 := (rb.c 4 (by decide)).2
          have s5 := (rb.c 5 (by decide)).1
          have g5 := (rb.c 5 (by decide)).2
          have s6 := (rb.c 6 (by decide)).1
          have g6 := (rb.c 6 (by decide)).2
          have s7 := (rb.c 7 (by decide)).1
          have g7 := (rb.c 7 (by decide)).2
          simp only [List.getD_cons_zero, List.getD_cons_succ] at s0 s1 s2 s3 s4 s5 s6 s7
          go_upto_region 28 with (fail)
          go_region
          go_wp2_with fail
          refine bodyPost_ret (v := .tuple #[.agg #[.int .i64 0, .int .i64 0, .int .i64 0, .int .i64 0, .int .i64 0, .int .i64 0, .bool false, .slice none 0 0], .int .i64 4]) (by simp [results, Tryd.results37, go_sem, s0, s1, s2, s3, s4, s5, s6, s7]) rfl ?_
          exact ⟨none, 0, by rw [HM.out]; rfl, by rw [HM.out]; exact isI_nilR _, (fun b off e => by cases e), (by (with_reducible repeat (first | exact hbel | refine eD ?_ | refine eS ?_ (by simp) _)); done)⟩
        · have hfin : Dr.fin = Dr := by
            have : ¬ 0 < Dr.rest.length := by rw [hrest]; simp; omega
            unfold RS.fin; rw [if_neg this]
          have HM : Hid (MO = if recFault s ls q Dm ≠ 0 then (RcV.zero, recFault s ls q Dm) else (Dm, 0)) := by show _ = _; rw [EO.out, if_neg (by simp), hfin, if_neg (by rw [hw]; decide)]
          have hpe : (pa : Int) = (bl : Int) := by omega
          obtain rfl : pa = bl := by omega
          clear EO hfin hrest hw hbl hpe hp
          have hMm := fun w' hh h2 => hMF { Dm with sa := sa, sc := sc } w' hh h2
          have eff : recFault s ls q { Dm with sa := sa, sc := sc } = recFault s ls q Dm := rfl
          rw [eff] at hMm
          clear eff
          obtain ⟨FM, eFM⟩ : ∃ x, x = recFault s ls q Dm := ⟨_, rfl⟩
          rw [← eFM] at HM hMm
          clear eFM
          obtain ⟨kind, site, num, key, value, ask, yes, sa0, sl, sc0, sites⟩ := Dm
          simp only [RcV.val, RcV.cs] at hMm mb hII
          have m0 := (mb.c 0 (by decide)).1
          have m1 := (mb.c 1 (by decide)).1
          have m2 := (mb.c 2 (by decide)).1
          have m3 := (mb.c 3 (by decide)).1
          have m4 := (mb.c 4 (by decide)).1
          have m5 := (mb.c 5 (by decide)).1
          have m6 := (mb.c 6 (by decide)).1
          have m7 := (mb.c 7 (by decide)).1
          have c0 := (cb.c 0 (by decide)).1
          have c1 := (cb.c 1 (by decide)).1
          have c2 := (cb.c 2 (by decide)).1
          simp only [List.getD_cons_zero, List.getD_cons_succ] at m0 m1 m2 m3 m4 m5 m6 m7 c0 c1 c2
          have zM := mb.lt
          have zC := cb.lt
          have KR : Hid (∀ U, Below Y.heap.size Y U → U.cell? ⟨R, 2, none⟩ = some (.int .i64 0) ∧ U.frozen? ⟨R, 2, none⟩ = false ∧ R < U.heap.size) := fun U hU => ⟨(hU.cell (p := ⟨R, 2, none⟩) zR).trans e2, (hU.frozen (p := ⟨R, 2, none⟩) zR).trans f2, Nat.lt_of_lt_of_le zR hU.size⟩
          go_upto_region 27 with (go_at_call 62; refine (hMm _ hLY hII).mono ?_; rintro e y1 ⟨rfl, hb⟩; clear e1 e2 f2 zR; obtain ⟨e2, f2, zR⟩ := KR.out _ hb)
          have mb1 := mb.below hb mb.lt
          have rb1 := rb.below hb rb.lt
          have hI1 := hII.below hb
          have hsz := hb.size
          have hbel1 := hbel.trans (hb.mono hbel.size)
          clear m0 m1 m2 m3 m4 m5 m6 m7 c0 c1 c2 zM zC zQ KR
          obtain ⟨X, eX⟩ : ∃ X, X = y1.setCell ⟨R, 2, none⟩ (.int .i64 FM) := ⟨_, rfl⟩
          have x2 : X.cell? ⟨R, 2, none⟩ = some (.int .i64 FM) := by rw [eX]; go_simp
          have rbX : BoxN X (w.heap.size + 1) 8 [.int .i64 0, .int .i64 0, .int .i64 0, .int .i64 0, .int .i64 0, .int .i64 0, .bool false, .slice none 0 0] := by rw [eX]; exact rb1.far hne2
          have mbX := mb1.far (k := 2) (v := .int .i64 FM) hne4
          rw [← eX] at mbX
          have gX : y1.grownBy X (some R) := by rw [eX]; exact grown_set (grownR_refl _ _)
          have hIX := isI_grownE hI1 gX (fun b off e e' => by have := hsb b off e; simp at e'; omega)
          have hbX : Below w.heap.size w X := by rw [eX]; exact hbel1.setCell (p := ⟨R, 2, none⟩) hwR _
          have zX : R < X.heap.size := by rw [eX]; simpa using zR
          have zyX : y1.heap.size ≤ X.heap.size := by rw [eX]; simp
          rw [← eX]
          clear eX e2 f2 zR hbel rb mb cb hb rb1 mb1 hbel1
          have hbel := hbX
          have rb := rbX
          have mb := mbX
          have zQ := rb.lt
          have zM := mb.lt
          have s0 := (rb.c 0 (by decide)).1
          have g0 := (rb.c 0 (by decide)).2
          have s1 := (rb.c 1 (by decide)).1
          have g1 := (rb.c 1 (by decide)).2
          have s2 := (rb.c 2 (by decide)).1
          have g2 := (rb.c 2 (by decide)).2
          have s3 := (rb.c 3 (by decide)).1
          have g3 := (rb.c 3 (by decide)).2
          have s4 := (rb.c 4 (by decide)).1
          have g4 := (rb.c 4 (by decide)).2
          have s5 := (rb.c 5 (by decide)).1
          have g5 := (rb.c 5 (by decide)).2
          have s6 := (rb.c 6 (by decide)).1
          have g6 := (rb.c 6 (by decide)).2
          have s7 := (rb.c 7 (by decide)).1
          have g7 := (rb.c 7 (by decide)).2
          simp only [List.getD_cons_zero, List.getD_cons_succ] at s0 s1 s2 s3 s4 s5 s6 s7
          by_cases hF : FM = 0
          · subst hF
            have m0 := (mb.c 0 (by decide)).1
            have m1 := (mb.c 1 (by decide)).1
            have m2 := (mb.c 2 (by decide)).1
            have m3 := (mb.c 3 (by decide)).1
            have m4 := (mb.c 4 (by decide)).1
            have m5 := (mb.c 5 (by decide)).1
            have m6 := (mb.c 6 (by decide)).1
            have m7 := (mb.c 7 (by decide)).1
            simp only [List.getD_cons_zero, List.getD_cons_succ] at m0 m1 m2 m3 m4 m5 m6 m7
            go_wp2
            have gF : X.grownBy ((((((((X.setCell ⟨w.heap.size + 1, 0, none⟩ (.int .i64 kind)).setCell ⟨w.heap.size + 1, 1, none⟩ (.int .i64 site)).setCell ⟨w.heap.size + 1, 2, none⟩ (.int .i64 num)).setCell ⟨w.heap.size + 1, 3, none⟩ (.int .i64 key)).setCell ⟨w.heap.size + 1, 4, none⟩ (.int .i64 value)).setCell ⟨w.heap.size + 1, 5, none⟩ (.int .i64 ask)).setCell ⟨w.heap.size + 1, 6, none⟩ (.bool yes)).setCell ⟨w.heap.size + 1, 7, none⟩ (.slice sa sl sc)) (some (w.heap.size + 1)) := grown_set (grown_set (grown_set (grown_set (grown_set (grown_set (grown_set (grown_set (grownR_refl _ _))))))))
            have hIF := isI_grownE hIX gF (fun b off e e' => by have := hsb b off e; simp at e'; omega)
            have zF := gF.size
            refine bodyPost_ret (v := .tuple #[.agg #[.int .i64 kind, .int .i64 site, .int .i64 num, .int .i64 key, .int .i64 value, .int .i64 ask, .bool yes, .slice sa sl sc], .int .i64 0]) (by simp [results, Tryd.results37, go_sem, s0, s1, s2, s3, s4, s5, s6, s7]) rfl ?_
            exact ⟨sa, sc, by rw [HM.out, if_neg (by simp)]; rfl, by rw [HM.out, if_neg (by simp)]; exact hIF, (fun b off e => by have := hsb b off e; omega), (by (with_reducible repeat (first | exact hbel | refine eD ?_ | refine eS ?_ (by simp) _)); done)⟩
          · have hF2 : (FM == 0) = false := by simp [hF]
            go_upto_region 28 with (fail)
            go_region
            go_wp2_with fail
            refine bodyPost_ret (v := .tuple #[.agg #[.int .i64 0, .int .i64 0, .int .i64 0, .int .i64 0, .int .i64 0, .int .i64 0, .bool false, .slice none 0 0], .int .i64 FM]) (by simp [results, Tryd.results37, go_sem, s0, s1, s2, s3, s4, s5, s6, s7]) rfl ?_
            exact ⟨none, 0, by rw [HM.out, if_pos hF]; rfl, by rw [HM.out, if_pos hF]; exact isI_nilR _, (fun b off e => by cases e), (by (with_reducible repeat (first | exact hbel | refine eD ?_ | refine eS ?_ (by simp) _)); done)⟩
      · have hfin : Dr.fin = Dr := fin_wrong hw
        have HM : Hid (MO = (RcV.zero, Dr.wrong)) := by show _ = _; rw [EO.out, if_neg (by simp), hfin, if_pos hw]
        obtain ⟨DW, eDW⟩ : ∃ x, x = Dr.wrong := ⟨_, rfl⟩
        rw [← eDW] at HM hw e2
        clear EO hfin hvs hrel eDW mb cb
        have hw2 : (DW == 0) = false := by simp [hw]
        have s0 := (rb.c 0 (by decide)).1
        have g0 := (rb.c 0 (by decide)).2
        have s1 := (rb.c 1 (by decide)).1
        have g1 := (rb.c 1 (by decide)).2
        have s2 := (rb.c 2 (by decide)).1
        have g2 := (rb.c 2 (by decide)).2
        have s3 := (rb.c 3 (by decide)).1
        have g3 := (rb.c 3 (by decide)).2
        have s4 := (rb.c 4 (by decide)).1
        have g4 := (rb.c 4 (by decide)).2
        have s5 := (rb.c 5 (by decide)).1
        have g5 := (rb.c 5 (by decide)).2
        have s6 := (rb.c 6 (by decide)).1
        have g6 := (rb.c 6 (by decide)).2
        have s7 := (rb.c 7 (by decide)).1
        have g7 := (rb.c 7 (by decide)).2
        simp only [List.getD_cons_zero, List.getD_cons_succ] at s0 s1 s2 s3 s4 s5 s6 s7
        go_upto_region 28 with (fail)
        go_region
        go_wp2_with fail
        refine bodyPost_ret (v := .tuple #[.agg #[.int .i64 0, .int .i64 0, .int .i64 0, .int .i64 0, .int .i64 0, .int .i64 0, .bool false, .slice none 0 0], .int .i64 DW]) (by simp [results, Tryd.results37, go_sem, s0, s1, s2, s3, s4, s5, s6, s7]) rfl ?_
        exact ⟨none, 0, by rw [HM.out]; rfl, by rw [HM.out]; exact isI_nilR _, (fun b off e => by cases e), (by (with_reducible repeat (first | exact hbel | refine eD ?_ | refine eS ?_ (by simp) _)); done)⟩
  · have HM : Hid (MO = (RcV.zero, FC)) := by show _ = _; rw [EO.out, if_pos hF]
    have rb := rb1
    have hbel := hw1
    clear EO
    have s0 := (rb.c 0 (by decide)).1
    have g0 := (rb.c 0 (by decide)).2
    have s1 := (rb.c 1 (by decide)).1
    have g1 := (rb.c 1 (by decide)).2
    have s2 := (rb.c 2 (by decide)).1
    have g2 := (rb.c 2 (by decide)).2
    have s3 := (rb.c 3 (by decide)).1
    have g3 := (rb.c 3 (by decide)).2
    have s4 := (rb.c 4 (by decide)).1
    have g4 := (rb.c 4 (by decide)).2
    have s5 := (rb.c 5 (by decide)).1
    have g5 := (rb.c 5 (by decide)).2
    have s6 := (rb.c 6 (by decide)).1
    have g6 := (rb.c 6 (by decide)).2
    have s7 := (rb.c 7 (by decide)).1
    have g7 := (rb.c 7 (by decide)).2
    simp only [List.getD_cons_zero, List.getD_cons_succ] at s0 s1 s2 s3 s4 s5 s6 s7
    go_wp2
    refine bodyPost_ret (v := .tuple #[.agg #[.int .i64 0, .int .i64 0, .int .i64 0, .int .i64 0, .int .i64 0, .int .i64 0, .bool false, .slice none 0 0], .int .i64 FC]) (by simp [results, Tryd.results37, go_sem, s0, s1, s2, s3, s4, s5, s6, s7]) rfl ?_
    exact ⟨none, 0, by rw [HM.out]; rfl, by rw [HM.out]; exact isI_nilR _, (fun b off e => by cases e), (by (with_reducible repeat (first | exact hbel | refine eD ?_ | refine eS ?_ (by simp) _)); done)⟩
end Go.Proofs.YtflfcjbgkpfgkaaDoor
/- The contract of the document's TapeRecovered: the records that are whole, and the tape without what is behind them. -/
namespace Go.Proofs.YtflfcjbgkpfgkaaDoor
open Go.ChangeShapes Go.WideShapes Go.ChangeAt Go.RowKit
set_option linter.unusedVariables false

theorem IsB.piece2 {w : World} {b off bl bc : Nat} {bs : List Int} (h : IsB w (some ⟨b, off, none⟩) bl bc bs) (n k c : Nat) (hk : n + k ≤ bl) (hc : k ≤ c) (hc2 : c ≤ bc) : IsB w (some ⟨b, off + n, none⟩) k c ((bs.drop n).take k) := by
  obtain ⟨h1, h2, h3, hbd, hn, h4⟩ := h
  refine ⟨by simp; omega, hc, by omega, (hbd.drop n).take k, fun e => by simp at e, fun hp => ?_⟩
  obtain ⟨b', off', e, hlt, hl⟩ := h4 (by omega)
  simp at e
  obtain ⟨rfl, rfl⟩ := e
  refine ⟨b, off + n, rfl, hlt, fun i hi => ?_⟩
  rw [Nat.add_assoc, hl (n + i) (by omega)]
  have : n + i < bs.length := by omega
  simp [List.getD, hi]
theorem piece2_of {W : World} {b off bl bc : Nat} {bs : List Int} (k x : Nat) (h : IsB W (some ⟨b, off, none⟩) bl bc bs) (hk : k + 1 + x ≤ bl) :
    ∃ pa pc, IsB W pa x pc ((bs.drop (k + 1)).take x) ∧
      (∀ U : World, (Instr.slice 25 (.slice (some ⟨b, off, none⟩) bl bc) (some (.int .i64 ((k : Int) + 1))) (some (.int .i64 ((k : Int) + 1 + (x : Int)))) none).run Tryd.prog U = .ok (.slice pa x pc) U) ∧ ∀ U : World, (Instr.sliceAt 25 (.slice (some ⟨b, off, none⟩) bl bc) (some (.int .i64 ((k : Int) + 1))) (some (.int .i64 ((k : Int) + 1 + (x : Int)))) none).run Tryd.prog U = .ok (.slice pa x pc) U := by
  have hc := h.2.1
  have e1 : ((k : Int) + 1).toNat = k + 1 := by omega
  have e2 : ((k : Int) + 1 + (x : Int)).toNat = k + 1 + x := by omega
  have hr : ∀ U : World, (Instr.slice 25 (.slice (some ⟨b, off, none⟩) bl bc) (some (.int .i64 ((k : Int) + 1))) (some (.int .i64 ((k : Int) + 1 + (x : Int)))) none).run Tryd.prog U = .ok (sliced (some ⟨b, off, none⟩) (k + 1) (k + 1 + x) bc 1) U := fun U => by
    rw [run_slice_lh (P := Tryd.prog) (t := 25) (a := some ⟨b, off, none⟩) (len := bl) (cap := bc) (w := U) (by kernel_rfl) .i64 .i64 ((k : Int) + 1) ((k : Int) + 1 + (x : Int)) (by omega) (by omega) (by omega), e1, e2]
    have : (sizeOf (Tryd.prog.elem 25)).run Tryd.prog U = .ok 1 U := by kernel_rfl
    rw [this]
    rfl
  have hat : ∀ U : World, (Instr.sliceAt 25 (.slice (some ⟨b, off, none⟩) bl bc) (some (.int .i64 ((k : Int) + 1))) (some (.int .i64 ((k : Int) + 1 + (x : Int)))) none).run Tryd.prog U = .ok (sliced (some ⟨b, off, none⟩) (k + 1) (k + 1 + x) bc 1) U := fun U =>
    (run_sliceAt_slice (P := Tryd.prog) (w := U) 25 (.slice (some ⟨b, off, none⟩) bl bc) (some (.int .i64 _)) (some (.int .i64 _)) none (by kernel_rfl)).trans (hr U)
  rcases Nat.eq_zero_or_pos (bc - (k + 1)) with h0 | h0
  · obtain rfl : x = 0 := by omega
    have h1 : bc = k + 1 := by omega
    refine ⟨some ⟨b, off, none⟩, 0, by simpa using isB_empty W b off, fun U => ?_, fun U => ?_⟩
    · rw [hr]
      simp [sliced, h1]
    · rw [hat]
      simp [sliced, h1]
  · have h0' : ¬ (bc = k + 1) := by omega
    refine ⟨some ⟨b, off + (k + 1), none⟩, bc - (k + 1), h.piece2 (k + 1) x _ hk (by omega) (by omega), fun U => ?_, fun U => ?_⟩
    · rw [hr]
      simp [sliced, h0', adr_add]
    · rw [hat]
      simp [sliced, h0', adr_add]

theorem isRecs_set2 {w : World} {a : Option Addr} {len cap : Nat} {ys : List RcV} {c k : Nat} {v : Value} (h : IsRecs w a len cap ys) (ha : ∀ b off, a = some ⟨b, off, none⟩ → b ≠ c) (hs : ∀ y ∈ ys, ∀ b off, y.sa = some ⟨b, off, none⟩ → b ≠ c) : IsRecs (w.setCell ⟨c, k, none⟩ v) a len cap ys := by
  obtain ⟨h1, h2, h3, h4, h5⟩ := h
  refine ⟨h1, h2, h3, fun y hy => isI_far (h4 y hy) (fun b off e => (hs y hy b off e).symm), fun hp => ?_⟩
  obtain ⟨b, off, e, hl, hc⟩ := h5 hp
  refine ⟨b, off, e, by simpa using hl, fun i hi j hj => ?_⟩
  rw [World.cell?_of_block (a := ⟨b, off + i * 8 + j, none⟩) (Below.heap_setCell w ⟨c, k, none⟩ v b (ha b off e))]
  exact hc i hi j hj
def RecRPost (w w' : World) (e : Ending) (S : Int) (L : List (Int × Int)) (P : Int) (tl : Nat) (bs : List Int) (y : Int) : Prop :=
  ∃ (ao : Option Addr) (cp : Nat) (ys : List RcV) (q : Nat) (ua : Option Addr) (uc : Nat) (z : Int),
      e = .returned (.tuple #[.slice ao ys.length cp, .agg #[.slice ua q uc, .int .i64 z], .int .i64 0]) ∧ IsRecs w' ao ys.length cp ys ∧ AllOf S L P bs ys q ∧ q ≤ tl ∧ IsB w' ua q uc (bs.take q) ∧ z = (if (q : Int) < y then (q : Int) else y) ∧ Below w.heap.size w w'

set_option maxHeartbeats 8000000 in
set_option maxRecDepth 100000 in
theorem tapeRecovered_any (S P : Int) (ad : Option Addr) (n cp0 : Nat) (L : List (Int × Int)) (ta : Option Addr) (tl tc : Nat) (bs : List Int) (y : Int) (w : World) (h : IsLabs w ad n cp0 L) (hI : IsB w ta tl tc bs) (hmy : mayT tl y = true) (hcf : cfgFault S L P = 0)
    (hRO : ∀ (ba : Option Addr) (bl bc : Nat) (bs : List Int) (w' : World), IsLabs w' ad n cp0 L → IsB w' ba bl bc bs → bl ≤ 140737488355328 → Calls Tryd.prog 37 #[.agg #[.int .i64 S, .slice ad n cp0, .int .i64 P], .slice ba bl bc] w' fun e w'' => DecRPost w' w'' e (recOf S L P bs)) :
    Calls Tryd.prog 11 #[.agg #[.int .i64 S, .slice ad n cp0, .int .i64 P], .agg #[.slice ta tl tc, .int .i64 y]] w fun e w' => RecRPost w w' e S L P tl bs y := by
  obtain ⟨i0, hi, li0, li1, li2⟩ := info_parts recInfo
  have hmm := mayT_of hmy
  have hl : tl ≤ 9223372036854775807 := by omega
  have hl6 : tl ≤ 6000 := by omega
  have hlen := hI.1
  have HL : Hid (bs.length = tl) := hlen
  clear hlen
  have hCk := fun w' h1 => fault_any S P ad n cp0 L w' h1
  rw [hcf] at hCk
  clear hcf
  obtain ⟨W, hW⟩ : ∃ W : World, W = ((w.alloc (.cells #[.int .i64 S, .slice ad n cp0, .int .i64 P] 24)).alloc (.cells #[.slice ta tl tc, .int .i64 y] 36)).alloc (.cells #[.slice none 0 0, .int .i64 0] 36) := ⟨_, rfl⟩
  have hA : Below w.heap.size w W := by rw [hW]; exact (((Below.refl _ _).alloc (Nat.le_refl _) _).alloc (by simp) _).alloc (by simp; omega) _
  have zW : W.heap.size = w.heap.size + 3 := by rw [hW]; simp
  have d0 : W.cell? ⟨w.heap.size, 0, none⟩ = some (.int .i64 S) := by rw [hW]; go_simp
  have d1 : W.cell? ⟨w.heap.size, 1, none⟩ = some (.slice ad n cp0) := by rw [hW]; go_simp
  have d2 : W.cell? ⟨w.heap.size, 2, none⟩ = some (.int .i64 P) := by rw [hW]; go_simp
  have d3 : W.cell? ⟨w.heap.size + 1, 0, none⟩ = some (.slice ta tl tc) := by rw [hW]; go_simp
  have d4 : W.cell? ⟨w.heap.size + 1, 1, none⟩ = some (.int .i64 y) := by rw [hW]; go_simp
  have d5 : W.cell? ⟨w.heap.size + 2, 0, none⟩ = some (.slice none 0 0) := by rw [hW]; go_simp
  have d6 : W.cell? ⟨w.heap.size + 2, 1, none⟩ = some (.int .i64 0) := by rw [hW]; go_simp
  have f5 : W.frozen? ⟨w.heap.size + 2, 0, none⟩ = false := by rw [hW]; go_simp
  have f6 : W.frozen? ⟨w.heap.size + 2, 1, none⟩ = false := by rw [hW]; go_simp
  have z0 : w.heap.size < W.heap.size := by omega
  have z1 : w.heap.size + 1 < W.heap.size := by omega
  have z2 : w.heap.size + 2 < W.heap.size := by omega
  clear zW
  have KC : Hid (∀ V : World, Below W.heap.size W V → (V.cell? ⟨w.heap.size, 0, none⟩ = some (.int .i64 S) ∧ V.cell? ⟨w.heap.size, 1, none⟩ = some (.slice ad n cp0) ∧ V.cell? ⟨w.heap.size, 2, none⟩ = some (.int .i64 P) ∧ V.cell? ⟨w.heap.size + 1, 0, none⟩ = some (.slice ta tl tc) ∧ V.cell? ⟨w.heap.size + 1, 1, none⟩ = some (.int .i64 y) ∧ V.cell? ⟨w.heap.size + 2, 0, none⟩ = some (.slice none 0 0) ∧ V.cell? ⟨w.heap.size + 2, 1, none⟩ = some (.int .i64 0)) ∧ V.frozen? ⟨w.heap.size + 2, 0, none⟩ = false ∧ V.frozen? ⟨w.heap.size + 2, 1, none⟩ = false) := fun V hV =>
    ⟨⟨(hV.cell (p := ⟨w.heap.size, 0, none⟩) z0).trans d0, (hV.cell (p := ⟨w.heap.size, 1, none⟩) z0).trans d1, (hV.cell (p := ⟨w.heap.size, 2, none⟩) z0).trans d2, (hV.cell (p := ⟨w.heap.size + 1, 0, none⟩) z1).trans d3, (hV.cell (p := ⟨w.heap.size + 1, 1, none⟩) z1).trans d4, (hV.cell (p := ⟨w.heap.size + 2, 0, none⟩) z2).trans d5, (hV.cell (p := ⟨w.heap.size + 2, 1, none⟩) z2).trans d6⟩, (hV.frozen (p := ⟨w.heap.size + 2, 0, none⟩) z2).trans f5, (hV.frozen (p := ⟨w.heap.size + 2, 1, none⟩) z2).trans f6⟩
  have HS : Hid (∀ V : World, Below W.heap.size W V → IsLabs V ad n cp0 L ∧ IsB V ta tl tc bs ∧ Below w.heap.size w V) := fun V hV => by
    have hv := hA.trans (hV.mono hA.size)
    exact ⟨h.below hv, hI.below hv, hv⟩
  go_enter Tryd.func11, Tryd.ntmps11
  go_upto_region 1 with (fail)
  rw [← hW]
  clear hW
  go_upto_region 3 with (go_at_call 36; refine (tapeMay_any _ _ _ _ _ hl).mono ?_; rintro e w1 ⟨rfl, hb1⟩; rw [hmy])
  clear d0 d1 d2 d3 d4 d5 d6 f5 f6
  obtain ⟨⟨d0, d1, d2, d3, d4, d5, d6⟩, f5, f6⟩ := KC.out _ hb1
  go_upto_region 6 with (go_at_call 27; refine (hCk _ (HS.out _ hb1).1).mono ?_; rintro e w2 ⟨rfl, hb2'⟩; have hb2 : Below W.heap.size W w2 := hb1.trans (hb2'.mono hb1.size))
  clear d0 d1 d2 d3 d4 d5 d6 f5 f6
  obtain ⟨⟨d0, d1, d2, d3, d4, d5, d6⟩, f5, f6⟩ := KC.out _ hb2
  go_upto_block 0 with (fail)
  go_cut [8, 9] (fun s8 s9 wc => ∃ (ao : Option Addr) (cp : Nat) (ys : List RcV) (k : Nat), s8 = .slice ao ys.length cp ∧ s9 = .int .i64 (k : Int) ∧ k ≤ tl ∧ IsRecs wc ao ys.length cp ys ∧ AllOf S L P bs ys k ∧ (∀ b off, ao = some ⟨b, off, none⟩ → W.heap.size ≤ b) ∧ (∀ y ∈ ys, ∀ b off, y.sa = some ⟨b, off, none⟩ → W.heap.size ≤ b) ∧ Below W.heap.size W wc)
  case first =>
    go_wp2_with fail
    go_loopw [8, 9, 10, 11, 12] (fun v i _ _ _ wr => ∃ (ao : Option Addr) (cp : Nat) (ys : List RcV) (k : Nat), v = .slice ao ys.length cp ∧ i = .int .i64 (k : Int) ∧ k ≤ tl ∧ ys.length ≤ k ∧ OwnRecs wr W.heap.size (.slice ao ys.length cp) ys ∧ Hid (Left S L P bs ys k) ∧ (∀ y ∈ ys, ∀ b off, y.sa = some ⟨b, off, none⟩ → W.heap.size ≤ b) ∧ Below W.heap.size W wr) (fun _ i _ _ _ _ => tl - (intOf i).toNat)
    case atStart => exact ⟨none, 0, [], 0, rfl, rfl, Nat.zero_le _, Nat.le_refl _, ownRecs_nil _ _, left_start _ _ _ _, by simp, hb2⟩
    case round =>
      obtain ⟨ao, cp, ys, k, rfl, rfl, hk, hyk, hO, hleft, hsn, hb⟩ := hrel
      have hao : ∀ b off, ao = some ⟨b, off, none⟩ → W.heap.size ≤ b := fun b off e => by subst e; exact (hO.row.lt b rfl).1
      clear d0 d1 d2 d3 d4 d5 d6 f5 f6 hb2' hb1 hb2
      obtain ⟨⟨d0, d1, d2, d3, d4, d5, d6⟩, f5, f6⟩ := KC.out _ hb
      obtain ⟨hLr, hIr, hwr⟩ := HS.out _ hb
      have zr0 : w.heap.size < wr.heap.size := Nat.lt_of_lt_of_le z0 hb.size
      have zr1 : w.heap.size + 1 < wr.heap.size := Nat.lt_of_lt_of_le z1 hb.size
      have HEX : Hid (∀ X, Below wr.heap.size wr X → AllOf S L P bs ys k → ∃ (ao' : Option Addr) (cp' : Nat) (ys' : List RcV) (k' : Nat), Value.slice ao ys.length cp = .slice ao' ys'.length cp' ∧ Value.int .i64 (k : Int) = .int .i64 (k' : Int) ∧ k' ≤ tl ∧ IsRecs X ao' ys'.length cp' ys' ∧ AllOf S L P bs ys' k' ∧ (∀ b off, ao' = some ⟨b, off, none⟩ → W.heap.size ≤ b) ∧ (∀ y ∈ ys', ∀ b off, y.sa = some ⟨b, off, none⟩ → W.heap.size ≤ b) ∧ Below W.heap.size W X) := fun X hX ha => ⟨ao, cp, ys, k, rfl, rfl, hk, (hO.below hX).isRecs.2, ha, hao, hsn, hb.trans (hX.mono hb.size)⟩
      by_cases hlt : k < tl
      · have hlt' : (k : Int) < (tl : Int) := by omega
        have hkl : k < bs.length := by have := HL.out; omega
        obtain ⟨b, off, rfl, zb, hc0⟩ := hIr.2.2.2.2.2 (by omega)
        have hcell := hc0 k hlt
        have hbd := hI.2.2.2.1 bs[k] (List.getElem_mem hkl)
        have hget : bs.getD k 0 = bs[k] := by simp [List.getD, hkl]
        rw [← hget] at hbd
        have HLong : Hid (tl < k + 1 + (bs.getD k 0).toNat → AllOf S L P bs ys k) := fun hh => left_long hleft.out hkl (by have := HL.out; omega)
        have HBad : Hid (¬ tl < k + 1 + (bs.getD k 0).toNat → (recOf S L P ((bs.drop (k + 1)).take (bs.getD k 0).toNat)).2 ≠ 0 → AllOf S L P bs ys k) := fun hh hr => left_bad hleft.out hkl (by have := HL.out; omega) hr
        have HNext : Hid (∀ y : RcV, ¬ tl < k + 1 + (bs.getD k 0).toNat → (recOf S L P ((bs.drop (k + 1)).take (bs.getD k 0).toNat)).2 = 0 → y.pl = (recOf S L P ((bs.drop (k + 1)).take (bs.getD k 0).toNat)).1.pl → Left S L P bs (ys ++ [y]) (k + 1 + (bs.getD k 0).toNat)) := fun y hh hr hy => left_next hleft.out hkl (by have := HL.out; omega) hr hy
        obtain ⟨x, ex⟩ : ∃ x : Nat, (x : Int) = bs.getD k 0 := ⟨(bs.getD k 0).toNat, by omega⟩
        rw [← ex] at hcell hbd HLong HBad HNext
        simp only [Int.toNat_natCast] at HLong HBad HNext
        clear ex hget hleft hc0
        have x256 : x < 256 := by omega
        have x256' : (x : Int) < 256 := by omega
        have k6 : (k : Int) < 6000 := by omega
        have xm : (x : Int) % 18446744073709551616 = (x : Int) := by omega
        have hwp : IntKind.i64.wrap ((k : Int) + 1) = (k : Int) + 1 := by simp [IntKind.wrap, IntKind.bits, IntKind.signed]; omega
        by_cases hlong : tl < k + 1 + x
        · have hlong' : (tl : Int) < (k : Int) + 1 + (x : Int) := by omega
          have hfin : Hid (AllOf S L P bs ys k) := HLong.out hlong
          clear HLong HBad HNext
          go_wp2
          go_meet
          case rel => exact HEX.out _ (Below.refl _ _) hfin.out
        · have hlong' : ¬ (tl : Int) < (k : Int) + 1 + (x : Int) := by omega
          obtain ⟨pa, pc, hpa, hsl, hslA⟩ := piece2_of (W := wr) (b := b) (off := off) (bl := tl) (bc := tc) (bs := bs) k x hIr (by omega)
          obtain ⟨D, eD⟩ : ∃ D, D = recOf S L P ((bs.drop (k + 1)).take x) := ⟨_, rfl⟩
          rw [← eD] at HBad HNext
          have hDec0 := fun U (hU : Below wr.heap.size wr U) => hRO pa x pc ((bs.drop (k + 1)).take x) U (hLr.below hU) (hpa.below hU) (by omega)
          rw [← eD] at hDec0
          clear eD
          have HDec : Hid (∀ U, Below wr.heap.size wr U → Calls Tryd.prog 37 #[.agg #[.int .i64 S, .slice ad n cp0, .int .i64 P], .slice pa x pc] U fun e w' => DecRPost U w' e D) := hDec0
          clear hDec0 hpa
          obtain ⟨⟨kind, site, num, key, value, ask, yes, sa0, sl, sc0, sites⟩, err⟩ := D
          have KA : Hid (∀ U : World, Below wr.heap.size wr U → U.cell? ⟨w.heap.size, 0, none⟩ = some (.int .i64 S) ∧ U.cell? ⟨w.heap.size, 1, none⟩ = some (.slice ad n cp0) ∧ U.cell? ⟨w.heap.size, 2, none⟩ = some (.int .i64 P) ∧ U.cell? ⟨w.heap.size + 1, 0, none⟩ = some (.slice (some ⟨b, off, none⟩) tl tc)) := fun U hU =>
            ⟨(hU.cell (p := ⟨w.heap.size, 0, none⟩) zr0).trans d0, (hU.cell (p := ⟨w.heap.size, 1, none⟩) zr0).trans d1, (hU.cell (p := ⟨w.heap.size, 2, none⟩) zr0).trans d2, (hU.cell (p := ⟨w.heap.size + 1, 0, none⟩) zr1).trans d3⟩
          have hD : Below wr.heap.size wr wr.drew := (Below.refl _ _).drew
          go_upto_region 11 with (fail)
          go_cut [11, 12] (fun s9 s10 wc => ∃ (q : Nat) (sa : Option Addr) (sc : Nat), s9 = .pointer (some ⟨q, 0, none⟩) ∧ s10 = .int .i64 err ∧ BoxN wc q 8 (RcV.cells ⟨kind, site, num, key, value, ask, yes, sa, sl, sc, sites⟩) ∧ IsInts wc sa sl sc sites ∧ (∀ b off, sa = some ⟨b, off, none⟩ → wr.heap.size ≤ b ∧ b < wc.heap.size) ∧ Below wr.heap.size wr wc)
          case first =>
            clear HLong HBad HNext HEX
            go_region_held3 (fun U => U.cell? ⟨w.heap.size, 0, none⟩ = some (.int .i64 S) ∧ U.cell? ⟨w.heap.size, 1, none⟩ = some (.slice ad n cp0) ∧ U.cell? ⟨w.heap.size, 2, none⟩ = some (.int .i64 P) ∧ U.cell? ⟨w.heap.size + 1, 0, none⟩ = some (.slice (some ⟨b, off, none⟩) tl tc))
              (exact KA.out _ (by (with_reducible repeat (first | exact hu3 | exact hD | exact Below.refl _ _ | refine bD ?_ | refine bA ?_ _ | refine bS ?_ (by omega) _)); done))
              ((go_at_call 37; refine (HDec.out _ (by (with_reducible repeat (first | exact hD | exact Below.refl _ _ | refine bD ?_ | refine bA ?_ _ | refine bS ?_ (by omega) _)); done)).mono ?_; rintro e u3 ⟨sa, sc, rfl, hIs, hnew, hb3'⟩; simp only [RcV.val]; have hu3 : Below wr.heap.size wr u3 := bT (by (with_reducible repeat (first | exact hD | exact Below.refl _ _ | refine bD ?_ | refine bA ?_ _ | refine bS ?_ (by omega) _)); done) hb3'; have z3 : wr.heap.size ≤ u3.heap.size := hu3.size; (first | (have bx3 : BoxN u3 wr.heap.size 8 [.int .i64 0, .int .i64 0, .int .i64 0, .int .i64 0, .int .i64 0, .int .i64 0, .bool false, .slice none 0 0] := (boxn_new wr.drew #[.int .i64 0, .int .i64 0, .int .i64 0, .int .i64 0, .int .i64 0, .int .i64 0, .bool false, .slice none 0 0] 56 8 rfl).below hb3' (by simp); have hne3 : ∀ b off, sa = some ⟨b, off, none⟩ → wr.heap.size ≠ b := fun b off e => Nat.ne_of_lt (Nat.lt_of_lt_of_le (by simp) (hnew b off e).1); have s0 : _ = some (Value.int .i64 0) := (bx3.c 0 (by omega)).1; have g0 := (bx3.c 0 (by omega)).2; have s1 : _ = some (Value.int .i64 0) := (bx3.c 1 (by omega)).1; have g1 := (bx3.c 1 (by omega)).2; have s2 : _ = some (Value.int .i64 0) := (bx3.c 2 (by omega)).1; have g2 := (bx3.c 2 (by omega)).2; have s3 : _ = some (Value.int .i64 0) := (bx3.c 3 (by omega)).1; have g3 := (bx3.c 3 (by omega)).2; have s4 : _ = some (Value.int .i64 0) := (bx3.c 4 (by omega)).1; have g4 := (bx3.c 4 (by omega)).2; have s5 : _ = some (Value.int .i64 0) := (bx3.c 5 (by omega)).1; have g5 := (bx3.c 5 (by omega)).2; have s6 : _ = some (Value.bool false) := (bx3.c 6 (by omega)).1; have g6 := (bx3.c 6 (by omega)).2; have s7 : _ = some (Value.slice none 0 0) := (bx3.c 7 (by omega)).1; have g7 := (bx3.c 7 (by omega)).2) | (have bx3 : BoxN u3 wr.heap.size 8 [.int .i64 0, .int .i64 0, .int .i64 0, .int .i64 0, .int .i64 0, .int .i64 0, .bool false, .slice none 0 0] := (boxn_new wr #[.int .i64 0, .int .i64 0, .int .i64 0, .int .i64 0, .int .i64 0, .int .i64 0, .bool false, .slice none 0 0] 56 8 rfl).below hb3' (by simp); have hne3 : ∀ b off, sa = some ⟨b, off, none⟩ → wr.heap.size ≠ b := fun b off e => Nat.ne_of_lt (Nat.lt_of_lt_of_le (by simp) (hnew b off e).1); have s0 : _ = some (Value.int .i64 0) := (bx3.c 0 (by omega)).1; have g0 := (bx3.c 0 (by omega)).2; have s1 : _ = some (Value.int .i64 0) := (bx3.c 1 (by omega)).1; have g1 := (bx3.c 1 (by omega)).2; have s2 : _ = some (Value.int .i64 0) := (bx3.c 2 (by omega)).1; have g2 := (bx3.c 2 (by omega)).2; have s3 : _ = some (Value.int .i64 0) := (bx3.c 3 (by omega)).1; have g3 := (bx3.c 3 (by omega)).2; have s4 : _ = some (Value.int .i64 0) := (bx3.c 4 (by omega)).1; have g4 := (bx3.c 4 (by omega)).2; have s5 : _ = some (Value.int .i64 0) := (bx3.c 5 (by omega)).1; have g5 := (bx3.c 5 (by omega)).2; have s6 : _ = some (Value.bool false) := (bx3.c 6 (by omega)).1; have g6 := (bx3.c 6 (by omega)).2; have s7 : _ = some (Value.slice none 0 0) := (bx3.c 7 (by omega)).1; have g7 := (bx3.c 7 (by omega)).2) | skip)))
            all_goals
              simp only [] at hIs
              have hG3 : ∀ b off, sa = some ⟨b, off, none⟩ → wr.heap.size ≤ b ∧ b < u3.heap.size := fun b off e => ⟨Nat.le_trans (by first | exact Nat.le_refl _ | (simp; done) | (simp; omega)) (hnew b off e).1, (hnew b off e).2⟩
              first
                | (have bxF := ((((((((bx3.set 0 (by omega) (.int .i64 kind)).set 1 (by omega) (.int .i64 site)).set 2 (by omega) (.int .i64 num)).set 3 (by omega) (.int .i64 key)).set 4 (by omega) (.int .i64 value)).set 5 (by omega) (.int .i64 ask)).set 6 (by omega) (.bool yes)).set 7 (by omega) (.slice sa sl sc)))
                | (have bxF : BoxN _ u3.heap.size 8 [.int .i64 kind, .int .i64 site, .int .i64 num, .int .i64 key, .int .i64 value, .int .i64 ask, .bool yes, .slice sa sl sc] := boxn_new u3 #[.int .i64 kind, .int .i64 site, .int .i64 num, .int .i64 key, .int .i64 value, .int .i64 ask, .bool yes, .slice sa sl sc] 56 8 rfl)
              go_wp2_with fail
              go_meet
              case rel => exact ⟨_, sa, sc, rfl, rfl, bxF, (by (with_reducible repeat (first | exact hIs | exact hne3 | refine isI_far ?_ ?_ | refine isI_alloc ?_ _)); done), (fun b off e => ⟨(hG3 b off e).1, Nat.lt_of_lt_of_le (hG3 b off e).2 (by simp)⟩), (by (with_reducible repeat (first | exact hu3 | exact hD | exact Below.refl _ _ | refine bD ?_ | refine bA ?_ _ | refine bS ?_ (by omega) _)); done)⟩
          case rest =>
            obtain ⟨q, sa, sc, rfl, rfl, bxF, hIs, hnew, bF⟩ := hcut
            obtain ⟨X, eX⟩ : ∃ X, X = wc := ⟨_, rfl⟩
            rw [← eX] at bxF hIs hnew bF ⊢
            clear eX
            have hwX := hwr.trans (bF.mono hwr.size)
            by_cases herr : err = 0
            · subst herr
              have hNx := HNext.out ⟨kind, site, num, key, value, ask, yes, sa, sl, sc, sites⟩ hlong rfl rfl
              have HNx : Hid (Left S L P bs (ys ++ [⟨kind, site, num, key, value, ask, yes, sa, sl, sc, sites⟩]) (k + 1 + x)) := hNx
              clear hNx HNext HBad HLong HEX
              have qlt := bxF.lt
              have m0 : X.cell? ⟨q, 0, none⟩ = some (.int .i64 kind) := (bxF.c 0 (by omega)).1
              have m1 : X.cell? ⟨q, 1, none⟩ = some (.int .i64 site) := (bxF.c 1 (by omega)).1
              have m2 : X.cell? ⟨q, 2, none⟩ = some (.int .i64 num) := (bxF.c 2 (by omega)).1
              have m3 : X.cell? ⟨q, 3, none⟩ = some (.int .i64 key) := (bxF.c 3 (by omega)).1
              have m4 : X.cell? ⟨q, 4, none⟩ = some (.int .i64 value) := (bxF.c 4 (by omega)).1
              have m5 : X.cell? ⟨q, 5, none⟩ = some (.int .i64 ask) := (bxF.c 5 (by omega)).1
              have m6 : X.cell? ⟨q, 6, none⟩ = some (.bool yes) := (bxF.c 6 (by omega)).1
              have m7 : X.cell? ⟨q, 7, none⟩ = some (.slice sa sl sc) := (bxF.c 7 (by omega)).1
              have hOx := hO.below bF
              have hne : ∀ m, (Value.slice ao ys.length cp).ownBlock = some m → W.heap.size ≤ m ∧ m < wr.heap.size := fun m hm => hO.row.lt m hm
              have zX : W.heap.size ≤ X.heap.size := Nat.le_trans hb.size bF.size
              go_upto_region 14 with (at_builtin; refine wpList_append_lies _ (by rfl) (.tmp 56) (.tmp 58) 38 (by rfl) W.heap.size 56 i0 (.agg #[.int .i64 0, .int .i64 0, .int .i64 0, .int .i64 0, .int .i64 0, .int .i64 0, .bool false, .slice none 0 0]) 8 80 Tryd.underlying38 hi li0 li1 li2 rfl (by decide) (.slice ao ys.length cp) ys.length (flatRecs ys) (by rfl) (hOx.row.alloc _) ⟨X.heap.size, 0, none⟩ 1 1 (RcV.cells ⟨kind, site, num, key, value, ask, yes, sa, sl, sc, sites⟩) (by rfl) rfl (news_rec #[.int .i64 kind, .int .i64 site, .int .i64 num, .int .i64 key, .int .i64 value, .int .i64 ask, .bool yes, .slice sa sl sc] _ rfl) (rcells_one _) (by omega) (by unfold maxLen; omega) (by omega) (by simp; omega) _ rfl ?_; intro g5 c5 w5 own5 gr5 at5 lt5)
              have hOp := hO.push (y := ⟨kind, site, num, key, value, ask, yes, sa, sl, sc, sites⟩) (w1 := X.alloc (.cells #[.int .i64 kind, .int .i64 site, .int .i64 num, .int .i64 key, .int .i64 value, .int .i64 ask, .bool yes, .slice sa sl sc] 56)) (bA bF _) (isI_alloc hIs _) (fun b off e => ⟨(hnew b off e).1, Nat.lt_of_lt_of_le (hnew b off e).2 (by simp)⟩) own5 gr5 at5
              have hb5 : Below W.heap.size W w5 := bG (bA (bT hb bF) _) gr5 (fun k hk => (hne k hk).1)
              have hsz : ∀ y ∈ ys ++ [(⟨kind, site, num, key, value, ask, yes, sa, sl, sc, sites⟩ : RcV)], ∀ b off, y.sa = some ⟨b, off, none⟩ → W.heap.size ≤ b := fun y hy b off e => by
                rcases List.mem_append.1 hy with hy | hy
                · exact hsn y hy b off e
                · simp at hy; subst hy; have := (hnew b off e).1; have := hb.size; omega
              obtain ⟨zs, ezs⟩ : ∃ zs, zs = ys ++ [(⟨kind, site, num, key, value, ask, yes, sa, sl, sc, sites⟩ : RcV)] := ⟨_, rfl⟩
              have elz : Hid (zs.length = ys.length + 1) := by rw [ezs]; show _ = _; simp
              rw [← ezs] at hOp HNx hsz
              clear ezs
              go_wp2
              go_roundw
              case rel =>
                refine ⟨some ⟨g5, 0, none⟩, c5, zs, k + 1 + x, ?_, by go_num, by omega, ?_, ?_, HNx, hsz, hb5⟩
                · rw [elz.out]
                · rw [elz.out]; omega
                · rw [elz.out]; exact hOp
              case measure => simp [intOf]; omega
            · have hfin : Hid (AllOf S L P bs ys k) := HBad.out hlong herr
              clear HLong HBad HNext
              go_wp2
              go_meet
              case rel => exact HEX.out _ bF hfin.out
      · have hfin : Hid (AllOf S L P bs ys k) := left_end hleft.out (by have := HL.out; omega)
        have hlt' : ¬ (k : Int) < (tl : Int) := by omega
        go_wp2
        go_meet
        case rel => exact HEX.out _ (Below.refl _ _) hfin.out
  case rest =>
    obtain ⟨ao, cp, ys, q, rfl, rfl, hq, hR, hall, hao, hsn, hb3⟩ := hcut
    obtain ⟨X, eX⟩ : ∃ X, X = wc := ⟨_, rfl⟩
    rw [← eX] at hR hb3 ⊢
    clear eX d0 d1 d2 d3 d4 d5 d6 f5 f6
    obtain ⟨⟨d0, d1, d2, d3, d4, d5, d6⟩, f5, f6⟩ := KC.out _ hb3
    obtain ⟨_, hIX, hwX⟩ := HS.out _ hb3
    have HALL : Hid (AllOf S L P bs ys q) := hall
    have HSN : Hid (∀ y ∈ ys, ∀ b off, y.sa = some ⟨b, off, none⟩ → W.heap.size ≤ b) := hsn
    clear hall hsn
    have hsz := hb3.size
    have zx0 : w.heap.size + 1 < X.heap.size := Nat.lt_of_lt_of_le z1 hsz
    have zx2 : w.heap.size + 2 < X.heap.size := Nat.lt_of_lt_of_le z2 hsz
    have hq6 : (q : Int) ≤ 6000 := by omega
    have htc := hI.2.1
    have htcm := hI.2.2.1
    have hqc' : (q : Int) ≤ tc := by omega
    have htk := hIX.take q tc hq (by omega) (Nat.le_refl _)
    have hone := isBs_one X ta q tc (bs.take q) htk
    have hAA : Below X.heap.size X (X.alloc (.cells #[.slice ta q tc] 25)) := (Below.refl _ _).alloc (Nat.le_refl _) _
    have hlenT : (bs.take q).length = q := htk.1
    have hcat : (catB [⟨ta, q, tc, bs.take q⟩]).length ≤ 140737488355328 := by simp [catB]; omega
    have e2 : Hid (catB [⟨ta, q, tc, bs.take q⟩] = bs.take q) := by show _ = _; simp [catB]
    have e3 : Hid ((catB [⟨ta, q, tc, bs.take q⟩]).length = q) := by show _ = _; rw [e2.out]; exact hlenT
    have hJ := joined_any X.heap.size 1 [⟨ta, q, tc, bs.take q⟩] _ hone (by omega) hcat
    rw [e3.out, e2.out] at hJ
    have hfinal : ∀ (w4 : World) (a' : Option Addr) (c' : Nat), Below X.heap.size X w4 → IsB w4 a' q c' (bs.take q) → (∀ b off, a' = some ⟨b, off, none⟩ → X.heap.size ≤ b) → ∀ u v : Value, IsRecs ((w4.setCell ⟨w.heap.size + 2, 0, none⟩ u).setCell ⟨w.heap.size + 2, 1, none⟩ v) ao ys.length cp ys ∧ IsB ((w4.setCell ⟨w.heap.size + 2, 0, none⟩ u).setCell ⟨w.heap.size + 2, 1, none⟩ v) a' q c' (bs.take q) ∧ Below w.heap.size w ((w4.setCell ⟨w.heap.size + 2, 0, none⟩ u).setCell ⟨w.heap.size + 2, 1, none⟩ v) := fun w4 a' c' h4 hb4 hge u v => by
      have hne : ∀ b off, a' = some ⟨b, off, none⟩ → b ≠ w.heap.size + 2 := fun b off e => by have := hge b off e; omega
      have hw4 := hwX.trans (h4.mono hwX.size)
      have hR4 := hR.below h4
      exact ⟨isRecs_set2 (isRecs_set2 hR4 (fun b off e => by have := hao b off e; omega) (fun y hy b off e => by have := HSN.out y hy b off e; omega)) (fun b off e => by have := hao b off e; omega) (fun y hy b off e => by have := HSN.out y hy b off e; omega), (hb4.set _ _ hne).set _ _ hne, (hw4.setCell (by simp) _).setCell (by simp) _⟩
    have HFin : Hid (∀ (w4 : World) (a' : Option Addr) (c' : Nat), Below X.heap.size X w4 → IsB w4 a' q c' (bs.take q) → (∀ b off, a' = some ⟨b, off, none⟩ → X.heap.size ≤ b) → ∀ u v : Value, IsRecs ((w4.setCell ⟨w.heap.size + 2, 0, none⟩ u).setCell ⟨w.heap.size + 2, 1, none⟩ v) ao ys.length cp ys ∧ IsB ((w4.setCell ⟨w.heap.size + 2, 0, none⟩ u).setCell ⟨w.heap.size + 2, 1, none⟩ v) a' q c' (bs.take q) ∧ Below w.heap.size w ((w4.setCell ⟨w.heap.size + 2, 0, none⟩ u).setCell ⟨w.heap.size + 2, 1, none⟩ v)) := hfinal
    clear hfinal hao hR htk hone hlenT hcat
    have hbt := hI.2.2.2.1.take q
    have HJ : Hid (Calls Tryd.prog 38 #[.slice (some ⟨X.heap.size, 0, none⟩) 1 1] (X.alloc (.cells #[.slice ta q tc] 25)) fun e w' => ∃ a' cap', e = .returned (.slice a' q cap') ∧ IsB w' a' q cap' (bs.take q) ∧ (∀ b off, a' = some ⟨b, off, none⟩ → X.heap.size ≤ b) ∧ Below X.heap.size X w') := by
      refine hJ.mono ?_
      rintro e w2 ⟨v', rfl, hown, hb2⟩
      obtain ⟨a', cap', rfl, hB2, hge, _⟩ := isB_own hown hbt
      exact ⟨a', cap', rfl, hB2, fun b off e => by have := hge b off e; simp at this; omega, hAA.trans (hb2.mono hAA.size)⟩
    clear hJ hAA hbt e2 e3
    by_cases hyq : (q : Int) < y
    · have eZ : (if (q : Int) < y then (q : Int) else y) = (q : Int) := if_pos hyq
      go_wp2_with (go_at_call 38; refine HJ.out.mono ?_; rintro e w4 ⟨a', c', rfl, hB4, hge, hb4⟩; clear d0 d1 d2 d3 d4 d5 d6 f5 f6; obtain ⟨⟨d0, d1, d2, d3, d4, d5, d6⟩, f5, f6⟩ := KC.out _ (hb3.trans (hb4.mono hb3.size)); have zz2 : w.heap.size + 2 < w4.heap.size := Nat.lt_of_lt_of_le zx2 hb4.size)
      refine bodyPost_ret (v := .tuple #[.slice ao ys.length cp, .agg #[.slice a' q c', .int .i64 (q : Int)], .int .i64 0]) (by simp [results, Tryd.results11, go_sem, d5, d6]) rfl ⟨ao, cp, ys, q, a', c', (q : Int), rfl, (HFin.out w4 a' c' hb4 hB4 hge _ _).1, HALL.out, hq, (HFin.out w4 a' c' hb4 hB4 hge _ _).2.1, eZ.symm, (HFin.out w4 a' c' hb4 hB4 hge _ _).2.2⟩
    · have eZ : (if (q : Int) < y then (q : Int) else y) = y := if_neg hyq
      have hyq' : y ≤ (q : Int) := by omega
      go_wp2_with (go_at_call 38; refine HJ.out.mono ?_; rintro e w4 ⟨a', c', rfl, hB4, hge, hb4⟩; clear d0 d1 d2 d3 d4 d5 d6 f5 f6; obtain ⟨⟨d0, d1, d2, d3, d4, d5, d6⟩, f5, f6⟩ := KC.out _ (hb3.trans (hb4.mono hb3.size)); have zz2 : w.heap.size + 2 < w4.heap.size := Nat.lt_of_lt_of_le zx2 hb4.size)
      refine bodyPost_ret (v := .tuple #[.slice ao ys.length cp, .agg #[.slice a' q c', .int .i64 y], .int .i64 0]) (by simp [results, Tryd.results11, go_sem, d5, d6]) rfl ⟨ao, cp, ys, q, a', c', y, rfl, (HFin.out w4 a' c' hb4 hB4 hge _ _).1, HALL.out, hq, (HFin.out w4 a' c' hb4 hB4 hge _ _).2.1, eZ.symm, (HFin.out w4 a' c' hb4 hB4 hge _ _).2.2⟩
end Go.Proofs.YtflfcjbgkpfgkaaDoor
/- Contracts of sameInts and sameRecord: at the same numbers, at the same record, they return true and leave what was in memory. -/
namespace Go.Proofs.YtflfcjbgkpfgkaaDoor
open Go.ChangeShapes Go.WideShapes Go.ChangeAt Go.RowKit
set_option linter.unusedVariables false

set_option maxHeartbeats 1000000 in
theorem sameInts_rec (a b : Option Addr) (n cap cap' : Nat) (zs : List Int) (w : World) (h : IsInts w a n cap zs) (h' : IsInts w b n cap' zs) :
    Calls Tryd.prog 63 #[.slice a n cap, .slice b n cap'] w fun e w' => e = .returned (.bool true) ∧ Below w.heap.size w w' := by
  have hmx : n ≤ maxLen := Nat.le_trans h.2.1 h.2.2.1
  unfold maxLen at hmx
  go_enter Tryd.func63, Tryd.ntmps63
  go_wp2
  go_loopw [5] (fun i wr => ∃ k : Nat, k ≤ n ∧ i = .int .i64 k ∧ Below w.heap.size w wr) (fun i _ => n - (intOf i).toNat)
  case atStart => exact ⟨0, Nat.zero_le _, rfl, Below.refl _ _⟩
  case round =>
    obtain ⟨k, hk, rfl, hb⟩ := hrel
    by_cases hlt : k < n
    · have hlt' : (k : Int) < (n : Int) := by omega
      obtain ⟨b1, o1, rfl, _, c1⟩ := (h.below hb).2.2.2.2 (by omega)
      obtain ⟨b2, o2, rfl, _, c2⟩ := (h'.below hb).2.2.2.2 (by omega)
      have e1 := c1 k hlt
      have e2 := c2 k hlt
      obtain ⟨z, hz⟩ : ∃ z, z = zs.getD k 0 := ⟨_, rfl⟩
      rw [← hz] at e1 e2
      clear hz c1 c2
      go_wp2
      go_quiet (fail)
      go_wp2
      go_roundw
      case rel => exact ⟨k + 1, by omega, by go_num, below_drewN hb nq⟩
      case measure => simp [intOf]; omega
    · go_wp2
      go_ret
      exact ⟨rfl, hb⟩

set_option maxRecDepth 100000 in
set_option maxHeartbeats 4000000 in
theorem sameRecord_any (kind site num key value ask : Int) (yes : Bool) (sa sa' : Option Addr) (sl sc sc' : Nat) (zs : List Int) (w : World) (h : IsInts w sa sl sc zs) (h' : IsInts w sa' sl sc' zs) :
    Calls Tryd.prog 39 #[.agg #[.int .i64 kind, .int .i64 site, .int .i64 num, .int .i64 key, .int .i64 value, .int .i64 ask, .bool yes, .slice sa sl sc], .agg #[.int .i64 kind, .int .i64 site, .int .i64 num, .int .i64 key, .int .i64 value, .int .i64 ask, .bool yes, .slice sa' sl sc']] w fun e w' => e = .returned (.bool true) ∧ Below w.heap.size w w' := by
  obtain ⟨W, hW⟩ : ∃ W : World, W = (w.alloc (.cells #[.int .i64 kind, .int .i64 site, .int .i64 num, .int .i64 key, .int .i64 value, .int .i64 ask, .bool yes, .slice sa sl sc] 56)).alloc (.cells #[.int .i64 kind, .int .i64 site, .int .i64 num, .int .i64 key, .int .i64 value, .int .i64 ask, .bool yes, .slice sa' sl sc'] 56) := ⟨_, rfl⟩
  have hB : Below w.heap.size w W := by rw [hW]; exact ((Below.refl _ _).alloc (Nat.le_refl _) _).alloc (by simp) _
  have bx1 : BoxN W w.heap.size 8 [.int .i64 kind, .int .i64 site, .int .i64 num, .int .i64 key, .int .i64 value, .int .i64 ask, .bool yes, .slice sa sl sc] := by
    rw [hW]
    exact (boxn_new w #[.int .i64 kind, .int .i64 site, .int .i64 num, .int .i64 key, .int .i64 value, .int .i64 ask, .bool yes, .slice sa sl sc] 56 8 rfl).below ((Below.refl _ _).alloc (Nat.le_refl _) _) (by simp)
  have bx2 : BoxN W (w.heap.size + 1) 8 [.int .i64 kind, .int .i64 site, .int .i64 num, .int .i64 key, .int .i64 value, .int .i64 ask, .bool yes, .slice sa' sl sc'] := by
    rw [hW]
    simpa using boxn_new (w.alloc (.cells #[.int .i64 kind, .int .i64 site, .int .i64 num, .int .i64 key, .int .i64 value, .int .i64 ask, .bool yes, .slice sa sl sc] 56)) #[.int .i64 kind, .int .i64 site, .int .i64 num, .int .i64 key, .int .i64 value, .int .i64 ask, .bool yes, .slice sa' sl sc'] 56 8 rfl
  have hS := sameInts_rec sa sa' sl sc sc' zs W (h.below hB) (h'.below hB)
  have a0 : W.cell? ⟨w.heap.size, 0, none⟩ = some (.int .i64 kind) := (bx1.c 0 (by omega)).1
  have a1 : W.cell? ⟨w.heap.size, 1, none⟩ = some (.int .i64 site) := (bx1.c 1 (by omega)).1
  have a2 : W.cell? ⟨w.heap.size, 2, none⟩ = some (.int .i64 num) := (bx1.c 2 (by omega)).1
  have a3 : W.cell? ⟨w.heap.size, 3, none⟩ = some (.int .i64 key) := (bx1.c 3 (by omega)).1
  have a4 : W.cell? ⟨w.heap.size, 4, none⟩ = some (.int .i64 value) := (bx1.c 4 (by omega)).1
  have a5 : W.cell? ⟨w.heap.size, 5, none⟩ = some (.int .i64 ask) := (bx1.c 5 (by omega)).1
  have a6 : W.cell? ⟨w.heap.size, 6, none⟩ = some (.bool yes) := (bx1.c 6 (by omega)).1
  have a7 : W.cell? ⟨w.heap.size, 7, none⟩ = some (.slice sa sl sc) := (bx1.c 7 (by omega)).1
  have b0 : W.cell? ⟨w.heap.size + 1, 0, none⟩ = some (.int .i64 kind) := (bx2.c 0 (by omega)).1
  have b1 : W.cell? ⟨w.heap.size + 1, 1, none⟩ = some (.int .i64 site) := (bx2.c 1 (by omega)).1
  have b2 : W.cell? ⟨w.heap.size + 1, 2, none⟩ = some (.int .i64 num) := (bx2.c 2 (by omega)).1
  have b3 : W.cell? ⟨w.heap.size + 1, 3, none⟩ = some (.int .i64 key) := (bx2.c 3 (by omega)).1
  have b4 : W.cell? ⟨w.heap.size + 1, 4, none⟩ = some (.int .i64 value) := (bx2.c 4 (by omega)).1
  have b5 : W.cell? ⟨w.heap.size + 1, 5, none⟩ = some (.int .i64 ask) := (bx2.c 5 (by omega)).1
  have b6 : W.cell? ⟨w.heap.size + 1, 6, none⟩ = some (.bool yes) := (bx2.c 6 (by omega)).1
  have b7 : W.cell? ⟨w.heap.size + 1, 7, none⟩ = some (.slice sa' sl sc') := (bx2.c 7 (by omega)).1
  clear bx1 bx2
  go_enter Tryd.func39, Tryd.ntmps39
  go_upto_region 1 with (fail)
  rw [← hW]
  clear hW
  go_wp2_with (go_at_call 63; refine hS.mono ?_; rintro e u ⟨rfl, hbu⟩)
  go_ret
  exact ⟨rfl, hB.trans (hbu.mono hB.size)⟩
end Go.Proofs.YtflfcjbgkpfgkaaDoor
