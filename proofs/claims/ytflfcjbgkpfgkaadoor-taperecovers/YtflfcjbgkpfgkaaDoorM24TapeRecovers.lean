/- Texts of this claim, one behind the other. -/
import Derived.Test.YtflfcjbgkpfgkaaDoorM23TapeRecovers
import Derived.Test.YtflfcjbgkpfgkaaDoorM18TapeRecovers
import Derived.Test.YtflfcjbgkpfgkaaDoorM15TapeRecovers
import Derived.Test.YtflfcjbgkpfgkaaDoorM20TapeRecovers
import Derived.Test.YtflfcjbgkpfgkaaDoorM19TapeRecovers
/- The contract of the document's MessageOf: what msgOf tells. -/
namespace Go.Proofs.YtflfcjbgkpfgkaaDoor
open Go.ChangeShapes Go.WideShapes Go.ChangeAt Go.RowKit
set_option linter.unusedVariables false

theorem eD {W V : World} (h : Below W.heap.size W V) : Below W.heap.size W V.drew := h.drew
theorem eS {W V : World} (h : Below W.heap.size W V) {b i : Nat} (hb : W.heap.size ≤ b) (v : Value) : Below W.heap.size W (V.setCell ⟨b, i, none⟩ v) := h.setCell (p := ⟨b, i, none⟩) hb v
/-- What the eye is when it begins. -/
theorem eye_new {u : World} {L : Nat} {a : Option Addr} {len cap : Nat} {bs : List Int} (h : IsB u a len cap bs) (hL : L ≤ u.heap.size) (hf : ∀ b off, 0 < len → a = some ⟨b, off, none⟩ → b < L) (hbig : len ≤ 140737488355328) :
    EyeTo (u.alloc (.cells #[.slice a len cap, .int .i64 0, .int .i64 0] 70)) u.heap.size L bs ⟨bs, 0⟩ :=
  ⟨a, len, cap, 0, by go_simp, by go_simp, by go_simp, by go_simp, by go_simp, h.below ((Below.refl _ _).alloc (Nat.le_refl _) _), by omega, fun _ => by simp, hf, hL, by simp, hbig⟩

set_option maxRecDepth 100000 in
set_option maxHeartbeats 8000000 in
theorem messageOf_any (s q : Int) (a : Option Addr) (len cap : Nat) (ls : List (Int × Int)) (ba : Option Addr) (bl bc : Nat) (bs : List Int) (w : World) (h : IsLabs w a len cap ls) (hI : IsB w ba bl bc bs) (hbig : bl ≤ 140737488355328)
    (hMF : ∀ (m : MV) (w' : World), IsLabs w' a len cap ls → Calls Tryd.prog 32 #[.agg #[.int .i64 s, .slice a len cap, .int .i64 q], m.val] w' fun e w'' => e = .returned (.int .i64 (msgFault s ls q m)) ∧ Below w'.heap.size w' w'') :
    Calls Tryd.prog 8 #[.agg #[.int .i64 s, .slice a len cap, .int .i64 q], .slice ba bl bc] w fun e w' => e = .returned (.tuple #[(msgOf s ls q bs).1.val, .int .i64 (msgOf s ls q bs).2]) ∧ Below w.heap.size w w' := by
  have hbyt := hI.2.2.2.1
  have hfb : ∀ b off, 0 < bl → ba = some ⟨b, off, none⟩ → b < w.heap.size := isB_lt hI
  have EO : Hid (msgOf s ls q bs = if cfgFault s ls q ≠ 0 then (MV.zero, cfgFault s ls q) else if (decMsgRS ⟨bs, 0⟩).2.fin.wrong ≠ 0 then (MV.zero, (decMsgRS ⟨bs, 0⟩).2.fin.wrong) else if msgFault s ls q (decMsgRS ⟨bs, 0⟩).1 ≠ 0 then (MV.zero, msgFault s ls q (decMsgRS ⟨bs, 0⟩).1) else ((decMsgRS ⟨bs, 0⟩).1, 0)) := rfl
  obtain ⟨MO, eMO⟩ : ∃ x, x = msgOf s ls q bs := ⟨_, rfl⟩
  rw [← eMO] at EO ⊢
  clear eMO
  have hLc := fun w' hh => fault_any s q a len cap ls w' hh
  obtain ⟨FC, eFC⟩ : ∃ x, x = cfgFault s ls q := ⟨_, rfl⟩
  rw [← eFC] at EO hLc
  clear eFC
  obtain ⟨W, hW⟩ : ∃ W : World, W = (w.alloc (.cells #[.int .i64 s, .slice a len cap, .int .i64 q] 24)).alloc (.cells #[.int .i64 0, .int .i64 0, .int .i64 0, .int .i64 0, .int .i64 0, .int .i64 0, .int .i64 0, .int .i64 0, .int .i64 0, .int .i64 0, .bool false, .int .i64 0] 30) := ⟨_, rfl⟩
  have hB : Below w.heap.size w W := by rw [hW]; exact ((Below.refl _ _).alloc (Nat.le_refl _) _).alloc (by simp) _
  have zW : w.heap.size + 2 ≤ W.heap.size := by rw [hW]; simp
  have cbW : BoxN W w.heap.size 3 [.int .i64 s, .slice a len cap, .int .i64 q] := by
    rw [hW]
    exact (boxn_new w #[.int .i64 s, .slice a len cap, .int .i64 q] 24 3 rfl).below ((Below.refl _ _).alloc (Nat.le_refl _) _) (by simp)
  have rbW : BoxN W (w.heap.size + 1) 12 [.int .i64 0, .int .i64 0, .int .i64 0, .int .i64 0, .int .i64 0, .int .i64 0, .int .i64 0, .int .i64 0, .int .i64 0, .int .i64 0, .bool false, .int .i64 0] := by
    have := boxn_new (w.alloc (.cells #[.int .i64 s, .slice a len cap, .int .i64 q] 24)) #[.int .i64 0, .int .i64 0, .int .i64 0, .int .i64 0, .int .i64 0, .int .i64 0, .int .i64 0, .int .i64 0, .int .i64 0, .int .i64 0, .bool false, .int .i64 0] 30 12 rfl
    rw [hW]
    simpa using this
  have hLW := h.below hB
  have c0 := (cbW.c 0 (by decide)).1
  have c1 := (cbW.c 1 (by decide)).1
  have c2 := (cbW.c 2 (by decide)).1
  simp only [List.getD_cons_zero, List.getD_cons_succ] at c0 c1 c2
  go_enter Tryd.func8, Tryd.ntmps8
  go_upto_region 1 with (fail)
  rw [← hW]
  clear hW
  go_upto_region 2 with (go_at_call 27; refine (hLc _ hLW).mono ?_; rintro e w1 ⟨rfl, hb1⟩)
  clear c0 c1 c2
  have hw1 := hB.trans (hb1.mono hB.size)
  have cb1 := cbW.below hb1 cbW.lt
  have rb1 := rbW.below hb1 rbW.lt
  clear cbW rbW
  have zw1 : w.heap.size + 2 ≤ w1.heap.size := by have := hb1.size; omega
  by_cases hF : FC = 0
  · subst hF
    go_upto_region 5 with (fail)
    obtain ⟨V, hV⟩ : ∃ V : World, V = w1.alloc (.cells #[.slice ba bl bc, .int .i64 0, .int .i64 0] 70) := ⟨_, rfl⟩
    have hEV : EyeTo V w1.heap.size w.heap.size bs ⟨bs, 0⟩ := by rw [hV]; exact eye_new (hI.below hw1) hw1.size hfb hbig
    have hb2 : Below w1.heap.size w1 V := by rw [hV]; exact (Below.refl _ _).alloc (Nat.le_refl _) _
    have zV : w1.heap.size < V.heap.size := by rw [hV]; simp
    have hwV := hw1.trans (hb2.mono hw1.size)
    have cbV := cb1.below hb2 cb1.lt
    have rbV := rb1.below hb2 rb1.lt
    rw [← hV]
    clear hV cb1 rb1
    obtain ⟨R, eR⟩ : ∃ x, x = w1.heap.size := ⟨_, rfl⟩
    rw [← eR] at hEV zV zw1 ⊢
    have hwR : w.heap.size ≤ R := by omega
    go_upto_region 6 with (fail)
    obtain ⟨V2, hV2⟩ : ∃ X : World, X = (V.alloc (.cells #[.int .i64 0, .int .i64 0, .int .i64 0, .int .i64 0, .int .i64 0, .int .i64 0, .int .i64 0, .int .i64 0, .int .i64 0, .int .i64 0, .bool false, .int .i64 0] 30)) := ⟨_, rfl⟩
    have mb : BoxN V2 V.heap.size 12 [.int .i64 0, .int .i64 0, .int .i64 0, .int .i64 0, .int .i64 0, .int .i64 0, .int .i64 0, .int .i64 0, .int .i64 0, .int .i64 0, .bool false, .int .i64 0] := by rw [hV2]; exact (boxn_new V #[.int .i64 0, .int .i64 0, .int .i64 0, .int .i64 0, .int .i64 0, .int .i64 0, .int .i64 0, .int .i64 0, .int .i64 0, .int .i64 0, .bool false, .int .i64 0] 30 12 rfl)
    have hb3 : Below V.heap.size V V2 := by
      rw [hV2]; exact (Below.refl _ _).alloc (Nat.le_refl _) _
    rw [← hV2]
    clear hV2
    obtain ⟨M, eM⟩ : ∃ x, x = V.heap.size := ⟨_, rfl⟩
    have hE : EM w V2 R M (w.heap.size + 1) w.heap.size w.heap.size bs [.int .i64 0, .int .i64 0, .int .i64 0, .int .i64 0, .int .i64 0, .int .i64 0, .int .i64 0, .int .i64 0, .int .i64 0, .int .i64 0, .bool false, .int .i64 0] [.int .i64 s, .slice a len cap, .int .i64 q] ⟨bs, 0⟩ :=
      ⟨hEV.below hb3, by rw [eM]; exact mb, rbV.below hb3 rbV.lt, cbV.below hb3 cbV.lt, hwV.trans (hb3.mono hwV.size), by omega, by omega⟩
    rw [← eM]
    have hLV := h.below hE.bel
    clear hEV mb rbV cbV hb3 hb2 hwV zV eM eR
    clear zw1 hw1 hb1 hB hLW zW
    have hn0 : 0 ≤ (RS.num ⟨bs, 0⟩ 1).1 := by
      by_cases hk : 1 ≤ bs.length
      · rw [num_ok rfl hk]
        exact (bval_bd 1 (bs.take 1) (by simp; omega) (hbyt.take 1)).1
      · rw [num_short rfl (by simp only; omega)]; exact Int.le_refl _
    have HK : Hid (∃ kk : Nat, kk ≤ 9 ∧ (if (RS.kind ⟨bs, 0⟩ 10).2.wrong = 0 then (RS.kind ⟨bs, 0⟩ 10).1 else 0) = (kk : Int) ∧ (kk = 0 → (RS.kind ⟨bs, 0⟩ 10).2.wrong ≠ 0) ∧ (kk ≠ 0 → (RS.num ⟨bs, 0⟩ 1).1 = kk ∧ (RS.num ⟨bs, 0⟩ 1).2.wrong = 0 ∧ (RS.kind ⟨bs, 0⟩ 10).2 = (RS.num ⟨bs, 0⟩ 1).2)) := by
      show ∃ kk : Nat, _
      by_cases hx : (RS.num ⟨bs, 0⟩ 1).1 = 0 ∨ 10 ≤ (RS.num ⟨bs, 0⟩ 1).1
      · have e : RS.kind ⟨bs, 0⟩ 10 = (0, (RS.num ⟨bs, 0⟩ 1).2.refuse 3) := by unfold RS.kind; rw [if_pos hx]
        have hw : ((RS.num ⟨bs, 0⟩ 1).2.refuse 3).wrong ≠ 0 := by
          unfold RS.refuse
          split
          · simp
          · assumption
        refine ⟨0, by omega, ?_, fun _ => by rw [e]; exact hw, fun h => absurd rfl h⟩
        rw [e]; simp
      · have e : RS.kind ⟨bs, 0⟩ 10 = RS.num ⟨bs, 0⟩ 1 := by unfold RS.kind; rw [if_neg hx]
        have hw : (RS.num ⟨bs, 0⟩ 1).2.wrong = 0 := by
          by_cases hk : 1 ≤ bs.length
          · rw [num_ok rfl hk]
          · rw [num_short rfl (by simp only; omega)] at hx; exact absurd (Or.inl rfl) hx
        refine ⟨(RS.num ⟨bs, 0⟩ 1).1.toNat, by omega, ?_, fun h => by omega, fun _ => ⟨by omega, hw, by rw [e]⟩⟩
        rw [e, if_pos hw]; omega
    have hFi := fun w' hh => eyeFirst_any R w.heap.size bs ⟨bs, 0⟩ 9 w' hh hn0
    simp only [show (9 : Int) + 1 = 10 from rfl] at hFi
    have HD : Hid ((RS.kind ⟨bs, 0⟩ 10).2.wrong ≠ 0 → (decMsgRS ⟨bs, 0⟩).2 = (RS.kind ⟨bs, 0⟩ 10).2) := fun hh => dec_nothing hh rfl
    have HC : Hid (∀ (k : Nat) (ns : List Int) (r' : RS), 1 ≤ k ∧ k ≤ 9 → (RS.num ⟨bs, 0⟩ 1).1 = k → (RS.num ⟨bs, 0⟩ 1).2.wrong = 0 → Ch ((mWid k).drop 1) (RS.num ⟨bs, 0⟩ 1).2 ns r' → k ≠ 4 ∧ k ≠ 7 → r' = (decMsgRS ⟨bs, 0⟩).2 ∧ (r'.wrong = 0 → (decMsgRS ⟨bs, 0⟩).1 = mMake k ((k : Int) :: ns))) := fun k ns r' h1 h2 h3 h4 h5 => ch_msg h1 h2 h3 h4 h5
    have HY : Hid (∀ (k : Nat) (ns : List Int) (n : Int) (r' : RS), k = 4 ∨ k = 7 → (RS.num ⟨bs, 0⟩ 1).1 = k → (RS.num ⟨bs, 0⟩ 1).2.wrong = 0 → Ch ((mWid k).drop 1) (RS.num ⟨bs, 0⟩ 1).2 (ns ++ [n]) r' → (ns.length = if k = 4 then 4 else 7) → (if 1 < n then r'.refuse 4 else r') = (decMsgRS ⟨bs, 0⟩).2 ∧ ((if 1 < n then r'.refuse 4 else r').wrong = 0 → (decMsgRS ⟨bs, 0⟩).1 = mMake k ((k : Int) :: (ns ++ [n])))) := fun k ns n r' h1 h2 h3 h4 h5 => ch_yes h1 h2 h3 h4 h5
    obtain ⟨D, eD⟩ : ∃ D, D = decMsgRS ⟨bs, 0⟩ := ⟨_, rfl⟩
    rw [← eD] at HD HC HY EO
    clear eD
    obtain ⟨Dm, Dr⟩ := D
    simp only [] at HD HC HY EO
    obtain ⟨S1, eS1⟩ : ∃ x, x = (RS.kind ⟨bs, 0⟩ 10).2 := ⟨_, rfl⟩
    obtain ⟨T1, eT1⟩ : ∃ x, x = RS.num ⟨bs, 0⟩ 1 := ⟨_, rfl⟩
    rw [← eS1] at HK hFi HD
    rw [← eT1] at HK HC HY
    obtain ⟨kk, hk9, hke, hk0, hk1⟩ := HK.out
    rw [hke] at hFi
    have HK0 : Hid (kk = 0 → S1.wrong ≠ 0) := hk0
    have HK1 : Hid (kk ≠ 0 → T1.1 = kk ∧ T1.2.wrong = 0 ∧ S1 = T1.2) := hk1
    clear HK hke hk0 hk1 eS1 eT1 hn0
    go_upto_region 7 with (go_at_call 28; refine (hFi _ hE.eye).mono ?_; rintro e u3a ⟨rfl, he, hg⟩; replace hE := hE.call hg he; clear hg he; have zM := hE.msg.lt; have c0 := (hE.msg.c 0 (by decide)).1; have f0 := (hE.msg.c 0 (by decide)).2; simp only [List.getD_cons_zero] at c0)
    obtain ⟨V3, eV3⟩ : ∃ X, X = (u3a.setCell ⟨M, 0, none⟩ (.int .i64 (kk : Int))) := ⟨_, rfl⟩
    replace hE : EM w V3 R M (w.heap.size + 1) w.heap.size w.heap.size bs [.int .i64 (kk : Int), .int .i64 0, .int .i64 0, .int .i64 0, .int .i64 0, .int .i64 0, .int .i64 0, .int .i64 0, .int .i64 0, .int .i64 0, .bool false, .int .i64 0] [.int .i64 s, .slice a len cap, .int .i64 q] S1 := by rw [eV3]; exact (hE.set 0 (by decide) (.int .i64 (kk : Int)))
    rw [← eV3]
    clear eV3 zM c0 f0
    go_upto_region 8 with (go_at_call 29; refine ((fun w' hh => eyeNum_any R w.heap.size bs S1 1 w' hh (by omega)) _ hE.eye).mono ?_; rintro e u4a ⟨n1, rfl, _, hn, he, hg⟩; have Nn1 : Hid ((S1.num 1).2.wrong = 0 → n1 = (S1.num 1).1) := hn; clear hn; replace hE := hE.call hg he; clear hg he; have zM := hE.msg.lt; have c1 := (hE.msg.c 1 (by decide)).1; have f1 := (hE.msg.c 1 (by decide)).2; simp only [List.getD_cons_zero, List.getD_cons_succ] at c1)
    obtain ⟨V4, eV4⟩ : ∃ X, X = (u4a.setCell ⟨M, 1, none⟩ (.int .i64 n1)) := ⟨_, rfl⟩
    replace hE : EM w V4 R M (w.heap.size + 1) w.heap.size w.heap.size bs [.int .i64 (kk : Int), .int .i64 n1, .int .i64 0, .int .i64 0, .int .i64 0, .int .i64 0, .int .i64 0, .int .i64 0, .int .i64 0, .int .i64 0, .bool false, .int .i64 0] [.int .i64 s, .slice a len cap, .int .i64 q] (S1.num 1).2 := by rw [eV4]; exact (hE.set 1 (by decide) (.int .i64 n1))
    rw [← eV4]
    clear eV4 zM c1 f1
    obtain ⟨S2, eS2⟩ : ∃ x, x = (S1.num 1).2 := ⟨_, rfl⟩
    rw [← eS2] at hE
    have ES2 : Hid (S2 = (S1.num 1).2) := eS2
    clear eS2
    go_upto_region 9 with (go_at_call 29; refine ((fun w' hh => eyeNum_any R w.heap.size bs S2 1 w' hh (by omega)) _ hE.eye).mono ?_; rintro e u5a ⟨n2, rfl, _, hn, he, hg⟩; have Nn2 : Hid ((S2.num 1).2.wrong = 0 → n2 = (S2.num 1).1) := hn; clear hn; replace hE := hE.call hg he; clear hg he; have zM := hE.msg.lt; have c2 := (hE.msg.c 2 (by decide)).1; have f2 := (hE.msg.c 2 (by decide)).2; simp only [List.getD_cons_zero, List.getD_cons_succ] at c2)
    obtain ⟨V5, eV5⟩ : ∃ X, X = (u5a.setCell ⟨M, 2, none⟩ (.int .i64 n2)) := ⟨_, rfl⟩
    replace hE : EM w V5 R M (w.heap.size + 1) w.heap.size w.heap.size bs [.int .i64 (kk : Int), .int .i64 n1, .int .i64 n2, .int .i64 0, .int .i64 0, .int .i64 0, .int .i64 0, .int .i64 0, .int .i64 0, .int .i64 0, .bool false, .int .i64 0] [.int .i64 s, .slice a len cap, .int .i64 q] (S2.num 1).2 := by rw [eV5]; exact (hE.set 2 (by decide) (.int .i64 n2))
    rw [← eV5]
    clear eV5 zM c2 f2
    obtain ⟨S3, eS3⟩ : ∃ x, x = (S2.num 1).2 := ⟨_, rfl⟩
    rw [← eS3] at hE
    have ES3 : Hid (S3 = (S2.num 1).2) := eS3
    clear eS3
    go_upto_region 10 with (go_at_call 30; refine ((fun w' hh => eyeWho_any R w.heap.size bs S3 w' hh) _ hE.eye).mono ?_; rintro e u6a ⟨n3, n4, rfl, h3, h4, he, hg⟩; have Nn3 : Hid ((S3.num 1).2.wrong = 0 → n3 = (S3.num 1).1) := h3; have Nn4 : Hid (((S3.num 1).2.num 3).2.wrong = 0 → n4 = ((S3.num 1).2.num 3).1) := h4; clear h3 h4; replace hE := hE.call hg he; clear hg he; have zM := hE.msg.lt; have c3 := (hE.msg.c 3 (by decide)).1; have f3 := (hE.msg.c 3 (by decide)).2; simp only [List.getD_cons_zero, List.getD_cons_succ] at c3; have c4 := (hE.msg.c 4 (by decide)).1; have f4 := (hE.msg.c 4 (by decide)).2; simp only [List.getD_cons_zero, List.getD_cons_succ] at c4)
    obtain ⟨V6, eV6⟩ : ∃ X, X = ((u6a.setCell ⟨M, 3, none⟩ (.int .i64 n3)).setCell ⟨M, 4, none⟩ (.int .i64 n4)) := ⟨_, rfl⟩
    replace hE : EM w V6 R M (w.heap.size + 1) w.heap.size w.heap.size bs [.int .i64 (kk : Int), .int .i64 n1, .int .i64 n2, .int .i64 n3, .int .i64 n4, .int .i64 0, .int .i64 0, .int .i64 0, .int .i64 0, .int .i64 0, .bool false, .int .i64 0] [.int .i64 s, .slice a len cap, .int .i64 q] ((S3.num 1).2.num 3).2 := by rw [eV6]; exact ((hE.set 3 (by decide) (.int .i64 n3)).set 4 (by decide) (.int .i64 n4))
    rw [← eV6]
    clear eV6 zM c3 f3 c4 f4
    obtain ⟨S4, eS4⟩ : ∃ x, x = ((S3.num 1).2.num 3).2 := ⟨_, rfl⟩
    rw [← eS4] at hE
    have ES4 : Hid (S4 = ((S3.num 1).2.num 3).2) := eS4
    clear eS4
    have kc := (hE.msg.c 0 (by decide)).1
    simp only [List.getD_cons_zero] at kc
    have zM := hE.msg.lt
    go_upto_block 0 with (fail)
    clear kc zM
    go_cut [] (fun wc => ∃ vs, EM w wc R M (w.heap.size + 1) w.heap.size w.heap.size bs vs [.int .i64 s, .slice a len cap, .int .i64 q] Dr ∧ (Dr.wrong = 0 → vs = Dm.cs))
    case first =>
      have Hhead : Hid (∀ (ks : List Nat) (ns : List Int) (r' : RS), Ch ks S4 ns r' → Ch (1 :: 1 :: 1 :: 3 :: ks) S1 (n1 :: n2 :: n3 :: n4 :: ns) r') := fun ks ns r' hh => by
        refine ⟨Nn1.out, ?_, ?_, ?_, ?_⟩
        · rw [← ES2.out]; exact Nn2.out
        · rw [← ES2.out, ← ES3.out]; exact Nn3.out
        · rw [← ES2.out, ← ES3.out]; exact Nn4.out
        · rw [← ES2.out, ← ES3.out, ← ES4.out]; exact hh
      clear Nn1 Nn2 Nn3 Nn4 ES2 ES3 ES4
      rcases (by omega : kk = 0 ∨ kk = 1 ∨ kk = 2 ∨ kk = 3 ∨ kk = 4 ∨ kk = 5 ∨ kk = 6 ∨ kk = 7 ∨ kk = 8 ∨ kk = 9) with rfl | rfl | rfl | rfl | rfl | rfl | rfl | rfl | rfl | rfl
      · have kc := (hE.msg.c 0 (by decide)).1
        simp only [List.getD_cons_zero, Int.cast_ofNat_Int] at kc
        have zM := hE.msg.lt
        clear HY HC EO
        have hz := HK0.out rfl
        have h4 := (Hhead.out [] [] S4 rfl).stays hz
        have hDr : Dr = S4 := by rw [h4]; exact HD.out hz
        have HZ : Hid (Dr = S4 ∧ Dr.wrong ≠ 0) := ⟨hDr, by rw [hDr, h4]; exact hz⟩
        clear hz h4 hDr
        go_wp2_with (fail)
        go_meet
        case rel => exact ⟨_, by rw [HZ.out.1]; exact hE, fun hh => absurd hh HZ.out.2⟩
      · have kc := (hE.msg.c 0 (by decide)).1
        simp only [List.getD_cons_zero, Int.cast_ofNat_Int] at kc
        have zM := hE.msg.lt
        go_upto_region 12 with (fail)
        clear kc zM
        go_upto_region 13 with (go_at_call 29; refine ((fun w' hh => eyeNum_any R w.heap.size bs S4 1 w' hh (by omega)) _ hE.eye).mono ?_; rintro e u27a ⟨m1x0, rfl, _, hn, he, hg⟩; have Nm1x0 : Hid ((S4.num 1).2.wrong = 0 → m1x0 = (S4.num 1).1) := hn; clear hn; replace hE := hE.call hg he; clear hg he; have zM := hE.msg.lt; have c5 := (hE.msg.c 5 (by decide)).1; have f5 := (hE.msg.c 5 (by decide)).2; simp only [List.getD_cons_zero, List.getD_cons_succ] at c5)
        obtain ⟨V27, eV27⟩ : ∃ X, X = (u27a.setCell ⟨M, 5, none⟩ (.int .i64 m1x0)) := ⟨_, rfl⟩
        replace hE : EM w V27 R M (w.heap.size + 1) w.heap.size w.heap.size bs [.int .i64 ((1 : Nat) : Int), .int .i64 n1, .int .i64 n2, .int .i64 n3, .int .i64 n4, .int .i64 m1x0, .int .i64 0, .int .i64 0, .int .i64 0, .int .i64 0, .bool false, .int .i64 0] [.int .i64 s, .slice a len cap, .int .i64 q] (S4.num 1).2 := by rw [eV27]; exact (hE.set 5 (by decide) (.int .i64 m1x0))
        rw [← eV27]
        clear eV27 zM c5 f5
        obtain ⟨Q1x0, eQ1x0⟩ : ∃ x, x = (S4.num 1).2 := ⟨_, rfl⟩
        rw [← eQ1x0] at hE
        have EQ1x0 : Hid (Q1x0 = (S4.num 1).2) := eQ1x0
        clear eQ1x0
        go_upto_region 14 with (go_at_call 29; refine ((fun w' hh => eyeNum_any R w.heap.size bs Q1x0 1 w' hh (by omega)) _ hE.eye).mono ?_; rintro e u28a ⟨m1x1, rfl, _, hn, he, hg⟩; have Nm1x1 : Hid ((Q1x0.num 1).2.wrong = 0 → m1x1 = (Q1x0.num 1).1) := hn; clear hn; replace hE := hE.call hg he; clear hg he; have zM := hE.msg.lt; have c6 := (hE.msg.c 6 (by decide)).1; have f6 := (hE.msg.c 6 (by decide)).2; simp only [List.getD_cons_zero, List.getD_cons_succ] at c6)
        obtain ⟨V28, eV28⟩ : ∃ X, X = (u28a.setCell ⟨M, 6, none⟩ (.int .i64 m1x1)) := ⟨_, rfl⟩
        replace hE : EM w V28 R M (w.heap.size + 1) w.heap.size w.heap.size bs [.int .i64 ((1 : Nat) : Int), .int .i64 n1, .int .i64 n2, .int .i64 n3, .int .i64 n4, .int .i64 m1x0, .int .i64 m1x1, .int .i64 0, .int .i64 0, .int .i64 0, .bool false, .int .i64 0] [.int .i64 s, .slice a len cap, .int .i64 q] (Q1x0.num 1).2 := by rw [eV28]; exact (hE.set 6 (by decide) (.int .i64 m1x1))
        rw [← eV28]
        clear eV28 zM c6 f6
        obtain ⟨Q1x1, eQ1x1⟩ : ∃ x, x = (Q1x0.num 1).2 := ⟨_, rfl⟩
        rw [← eQ1x1] at hE
        have EQ1x1 : Hid (Q1x1 = (Q1x0.num 1).2) := eQ1x1
        clear eQ1x1
        go_wp2_with (go_at_call 29; refine ((fun w' hh => eyeNum_any R w.heap.size bs Q1x1 3 w' hh (by omega)) _ hE.eye).mono ?_; rintro e u29a ⟨m1x2, rfl, _, hn, he, hg⟩; have Nm1x2 : Hid ((Q1x1.num 3).2.wrong = 0 → m1x2 = (Q1x1.num 3).1) := hn; clear hn; replace hE := hE.call hg he; clear hg he; have zM := hE.msg.lt; have c9 := (hE.msg.c 9 (by decide)).1; have f9 := (hE.msg.c 9 (by decide)).2; simp only [List.getD_cons_zero, List.getD_cons_succ] at c9)
        go_meet
        case rel =>
          have hE2 := (hE.set 9 (by decide) (.int .i64 m1x2))
          obtain ⟨a1, a2, a3⟩ := HK1.out (by decide)
          have hc : Ch [1, 1, 3] S4 [m1x0, m1x1, m1x2] (Q1x1.num 3).2 := by
            refine ⟨?_, ?_, ?_, ?_⟩
            · exact Nm1x0.out
            · rw [← EQ1x0.out]; exact Nm1x1.out
            · rw [← EQ1x0.out, ← EQ1x1.out]; exact Nm1x2.out
            · rw [← EQ1x0.out, ← EQ1x1.out]; exact rfl
          have hc2 := HC.out 1 _ _ (by decide) a1 a2 (by rw [← a3]; exact Hhead.out _ _ _ hc) (by decide)
          refine ⟨_, by rw [← hc2.1]; exact hE2, fun hw => ?_⟩
          rw [← hc2.1] at hw
          rw [hc2.2 hw]
          first | rfl | simp [mMake, MV.cs, List.getD]
      · have kc := (hE.msg.c 0 (by decide)).1
        simp only [List.getD_cons_zero, Int.cast_ofNat_Int] at kc
        have zM := hE.msg.lt
        go_upto_region 16 with (fail)
        clear kc zM
        go_upto_region 17 with (go_at_call 29; refine ((fun w' hh => eyeNum_any R w.heap.size bs S4 1 w' hh (by omega)) _ hE.eye).mono ?_; rintro e u47a ⟨m2x0, rfl, _, hn, he, hg⟩; have Nm2x0 : Hid ((S4.num 1).2.wrong = 0 → m2x0 = (S4.num 1).1) := hn; clear hn; replace hE := hE.call hg he; clear hg he; have zM := hE.msg.lt; have c6 := (hE.msg.c 6 (by decide)).1; have f6 := (hE.msg.c 6 (by decide)).2; simp only [List.getD_cons_zero, List.getD_cons_succ] at c6)
        obtain ⟨V47, eV47⟩ : ∃ X, X = (u47a.setCell ⟨M, 6, none⟩ (.int .i64 m2x0)) := ⟨_, rfl⟩
        replace hE : EM w V47 R M (w.heap.size + 1) w.heap.size w.heap.size bs [.int .i64 ((2 : Nat) : Int), .int .i64 n1, .int .i64 n2, .int .i64 n3, .int .i64 n4, .int .i64 0, .int .i64 m2x0, .int .i64 0, .int .i64 0, .int .i64 0, .bool false, .int .i64 0] [.int .i64 s, .slice a len cap, .int .i64 q] (S4.num 1).2 := by rw [eV47]; exact (hE.set 6 (by decide) (.int .i64 m2x0))
        rw [← eV47]
        clear eV47 zM c6 f6
        obtain ⟨Q2x0, eQ2x0⟩ : ∃ x, x = (S4.num 1).2 := ⟨_, rfl⟩
        rw [← eQ2x0] at hE
        have EQ2x0 : Hid (Q2x0 = (S4.num 1).2) := eQ2x0
        clear eQ2x0
        go_upto_region 18 with (go_at_call 29; refine ((fun w' hh => eyeNum_any R w.heap.size bs Q2x0 4 w' hh (by omega)) _ hE.eye).mono ?_; rintro e u48a ⟨m2x1, rfl, _, hn, he, hg⟩; have Nm2x1 : Hid ((Q2x0.num 4).2.wrong = 0 → m2x1 = (Q2x0.num 4).1) := hn; clear hn; replace hE := hE.call hg he; clear hg he; have zM := hE.msg.lt; have c7 := (hE.msg.c 7 (by decide)).1; have f7 := (hE.msg.c 7 (by decide)).2; simp only [List.getD_cons_zero, List.getD_cons_succ] at c7)
        obtain ⟨V48, eV48⟩ : ∃ X, X = (u48a.setCell ⟨M, 7, none⟩ (.int .i64 m2x1)) := ⟨_, rfl⟩
        replace hE : EM w V48 R M (w.heap.size + 1) w.heap.size w.heap.size bs [.int .i64 ((2 : Nat) : Int), .int .i64 n1, .int .i64 n2, .int .i64 n3, .int .i64 n4, .int .i64 0, .int .i64 m2x0, .int .i64 m2x1, .int .i64 0, .int .i64 0, .bool false, .int .i64 0] [.int .i64 s, .slice a len cap, .int .i64 q] (Q2x0.num 4).2 := by rw [eV48]; exact (hE.set 7 (by decide) (.int .i64 m2x1))
        rw [← eV48]
        clear eV48 zM c7 f7
        obtain ⟨Q2x1, eQ2x1⟩ : ∃ x, x = (Q2x0.num 4).2 := ⟨_, rfl⟩
        rw [← eQ2x1] at hE
        have EQ2x1 : Hid (Q2x1 = (Q2x0.num 4).2) := eQ2x1
        clear eQ2x1
        go_wp2_with (go_at_call 29; refine ((fun w' hh => eyeNum_any R w.heap.size bs Q2x1 3 w' hh (by omega)) _ hE.eye).mono ?_; rintro e u49a ⟨m2x2, rfl, _, hn, he, hg⟩; have Nm2x2 : Hid ((Q2x1.num 3).2.wrong = 0 → m2x2 = (Q2x1.num 3).1) := hn; clear hn; replace hE := hE.call hg he; clear hg he; have zM := hE.msg.lt; have c9 := (hE.msg.c 9 (by decide)).1; have f9 := (hE.msg.c 9 (by decide)).2; simp only [List.getD_cons_zero, List.getD_cons_succ] at c9)
        go_meet
        case rel =>
          have hE2 := (hE.set 9 (by decide) (.int .i64 m2x2))
          obtain ⟨a1, a2, a3⟩ := HK1.out (by decide)
          have hc : Ch [1, 4, 3] S4 [m2x0, m2x1, m2x2] (Q2x1.num 3).2 := by
            refine ⟨?_, ?_, ?_, ?_⟩
            · exact Nm2x0.out
            · rw [← EQ2x0.out]; exact Nm2x1.out
            · rw [← EQ2x0.out, ← EQ2x1.out]; exact Nm2x2.out
            · rw [← EQ2x0.out, ← EQ2x1.out]; exact rfl
          have hc2 := HC.out 2 _ _ (by decide) a1 a2 (by rw [← a3]; exact Hhead.out _ _ _ hc) (by decide)
          refine ⟨_, by rw [← hc2.1]; exact hE2, fun hw => ?_⟩
          rw [← hc2.1] at hw
          rw [hc2.2 hw]
          first | rfl | simp [mMake, MV.cs, List.getD]
      · have kc := (hE.msg.c 0 (by decide)).1
        simp only [List.getD_cons_zero, Int.cast_ofNat_Int] at kc
        have zM := hE.msg.lt
        go_upto_region 22 with (fail)
        clear kc zM
        go_upto_region 23 with (go_at_call 29; refine ((fun w' hh => eyeNum_any R w.heap.size bs S4 1 w' hh (by omega)) _ hE.eye).mono ?_; rintro e u67a ⟨m3x0, rfl, _, hn, he, hg⟩; have Nm3x0 : Hid ((S4.num 1).2.wrong = 0 → m3x0 = (S4.num 1).1) := hn; clear hn; replace hE := hE.call hg he; clear hg he; have zM := hE.msg.lt; have c5 := (hE.msg.c 5 (by decide)).1; have f5 := (hE.msg.c 5 (by decide)).2; simp only [List.getD_cons_zero, List.getD_cons_succ] at c5)
        obtain ⟨V67, eV67⟩ : ∃ X, X = (u67a.setCell ⟨M, 5, none⟩ (.int .i64 m3x0)) := ⟨_, rfl⟩
        replace hE : EM w V67 R M (w.heap.size + 1) w.heap.size w.heap.size bs [.int .i64 ((3 : Nat) : Int), .int .i64 n1, .int .i64 n2, .int .i64 n3, .int .i64 n4, .int .i64 m3x0, .int .i64 0, .int .i64 0, .int .i64 0, .int .i64 0, .bool false, .int .i64 0] [.int .i64 s, .slice a len cap, .int .i64 q] (S4.num 1).2 := by rw [eV67]; exact (hE.set 5 (by decide) (.int .i64 m3x0))
        rw [← eV67]
        clear eV67 zM c5 f5
        obtain ⟨Q3x0, eQ3x0⟩ : ∃ x, x = (S4.num 1).2 := ⟨_, rfl⟩
        rw [← eQ3x0] at hE
        have EQ3x0 : Hid (Q3x0 = (S4.num 1).2) := eQ3x0
        clear eQ3x0
        go_upto_region 24 with (go_at_call 29; refine ((fun w' hh => eyeNum_any R w.heap.size bs Q3x0 1 w' hh (by omega)) _ hE.eye).mono ?_; rintro e u68a ⟨m3x1, rfl, _, hn, he, hg⟩; have Nm3x1 : Hid ((Q3x0.num 1).2.wrong = 0 → m3x1 = (Q3x0.num 1).1) := hn; clear hn; replace hE := hE.call hg he; clear hg he; have zM := hE.msg.lt; have c6 := (hE.msg.c 6 (by decide)).1; have f6 := (hE.msg.c 6 (by decide)).2; simp only [List.getD_cons_zero, List.getD_cons_succ] at c6)
        obtain ⟨V68, eV68⟩ : ∃ X, X = (u68a.setCell ⟨M, 6, none⟩ (.int .i64 m3x1)) := ⟨_, rfl⟩
        replace hE : EM w V68 R M (w.heap.size + 1) w.heap.size w.heap.size bs [.int .i64 ((3 : Nat) : Int), .int .i64 n1, .int .i64 n2, .int .i64 n3, .int .i64 n4, .int .i64 m3x0, .int .i64 m3x1, .int .i64 0, .int .i64 0, .int .i64 0, .bool false, .int .i64 0] [.int .i64 s, .slice a len cap, .int .i64 q] (Q3x0.num 1).2 := by rw [eV68]; exact (hE.set 6 (by decide) (.int .i64 m3x1))
        rw [← eV68]
        clear eV68 zM c6 f6
        obtain ⟨Q3x1, eQ3x1⟩ : ∃ x, x = (Q3x0.num 1).2 := ⟨_, rfl⟩
        rw [← eQ3x1] at hE
        have EQ3x1 : Hid (Q3x1 = (Q3x0.num 1).2) := eQ3x1
        clear eQ3x1
        go_wp2_with (go_at_call 29; refine ((fun w' hh => eyeNum_any R w.heap.size bs Q3x1 3 w' hh (by omega)) _ hE.eye).mono ?_; rintro e u69a ⟨m3x2, rfl, _, hn, he, hg⟩; have Nm3x2 : Hid ((Q3x1.num 3).2.wrong = 0 → m3x2 = (Q3x1.num 3).1) := hn; clear hn; replace hE := hE.call hg he; clear hg he; have zM := hE.msg.lt; have c8 := (hE.msg.c 8 (by decide)).1; have f8 := (hE.msg.c 8 (by decide)).2; simp only [List.getD_cons_zero, List.getD_cons_succ] at c8)
        go_meet
        case rel =>
          have hE2 := (hE.set 8 (by decide) (.int .i64 m3x2))
          obtain ⟨a1, a2, a3⟩ := HK1.out (by decide)
          have hc : Ch [1, 1, 3] S4 [m3x0, m3x1, m3x2] (Q3x1.num 3).2 := by
            refine ⟨?_, ?_, ?_, ?_⟩
            · exact Nm3x0.out
            · rw [← EQ3x0.out]; exact Nm3x1.out
            · rw [← EQ3x0.out, ← EQ3x1.out]; exact Nm3x2.out
            · rw [← EQ3x0.out, ← EQ3x1.out]; exact rfl
          have hc2 := HC.out 3 _ _ (by decide) a1 a2 (by rw [← a3]; exact Hhead.out _ _ _ hc) (by decide)
          refine ⟨_, by rw [← hc2.1]; exact hE2, fun hw => ?_⟩
          rw [← hc2.1] at hw
          rw [hc2.2 hw]
          first | rfl | simp [mMake, MV.cs, List.getD]
      · have kc := (hE.msg.c 0 (by decide)).1
        simp only [List.getD_cons_zero, Int.cast_ofNat_Int] at kc
        have zM := hE.msg.lt
        go_upto_region 20 with (fail)
        clear kc zM
        go_wp2_with (go_at_call 31; refine ((fun w' hh => eyeYes_any R w.heap.size bs S4 w' hh) _ hE.eye).mono ?_; rintro e u87a ⟨m4x0, rfl, hn, he, hg⟩; have Nm4x0 : Hid ((S4.num 1).2.wrong = 0 → m4x0 = (S4.num 1).1) := hn; clear hn; replace hE := hE.call hg he; clear hg he; have zM := hE.msg.lt; have c10 := (hE.msg.c 10 (by decide)).1; have f10 := (hE.msg.c 10 (by decide)).2; simp only [List.getD_cons_zero, List.getD_cons_succ] at c10)
        go_meet
        case rel =>
          have hE2 := (hE.set 10 (by decide) (.bool (m4x0 == 1)))
          obtain ⟨a1, a2, a3⟩ := HK1.out (by decide)
          have hc : Ch [1] S4 [m4x0] (S4.num 1).2 := by
            refine ⟨?_, ?_⟩
            · exact Nm4x0.out
            · exact rfl
          have hc2 := HY.out 4 (n1 :: n2 :: n3 :: n4 :: []) m4x0 _ (by decide) a1 a2 (by rw [← a3]; exact Hhead.out _ _ _ hc) rfl
          refine ⟨_, by rw [← hc2.1]; exact hE2, fun hw => ?_⟩
          rw [← hc2.1] at hw
          rw [hc2.2 hw]
          have eb : (m4x0 == 1) = decide (m4x0 = 1) := by by_cases hh : m4x0 = 1 <;> simp [hh]
          rw [eb]
          rfl
      · have kc := (hE.msg.c 0 (by decide)).1
        simp only [List.getD_cons_zero, Int.cast_ofNat_Int] at kc
        have zM := hE.msg.lt
        go_upto_region 31 with (fail)
        clear kc zM
        go_upto_region 32 with (go_at_call 29; refine ((fun w' hh => eyeNum_any R w.heap.size bs S4 1 w' hh (by omega)) _ hE.eye).mono ?_; rintro e u107a ⟨m5x0, rfl, _, hn, he, hg⟩; have Nm5x0 : Hid ((S4.num 1).2.wrong = 0 → m5x0 = (S4.num 1).1) := hn; clear hn; replace hE := hE.call hg he; clear hg he; have zM := hE.msg.lt; have c5 := (hE.msg.c 5 (by decide)).1; have f5 := (hE.msg.c 5 (by decide)).2; simp only [List.getD_cons_zero, List.getD_cons_succ] at c5)
        obtain ⟨V107, eV107⟩ : ∃ X, X = (u107a.setCell ⟨M, 5, none⟩ (.int .i64 m5x0)) := ⟨_, rfl⟩
        replace hE : EM w V107 R M (w.heap.size + 1) w.heap.size w.heap.size bs [.int .i64 ((5 : Nat) : Int), .int .i64 n1, .int .i64 n2, .int .i64 n3, .int .i64 n4, .int .i64 m5x0, .int .i64 0, .int .i64 0, .int .i64 0, .int .i64 0, .bool false, .int .i64 0] [.int .i64 s, .slice a len cap, .int .i64 q] (S4.num 1).2 := by rw [eV107]; exact (hE.set 5 (by decide) (.int .i64 m5x0))
        rw [← eV107]
        clear eV107 zM c5 f5
        obtain ⟨Q5x0, eQ5x0⟩ : ∃ x, x = (S4.num 1).2 := ⟨_, rfl⟩
        rw [← eQ5x0] at hE
        have EQ5x0 : Hid (Q5x0 = (S4.num 1).2) := eQ5x0
        clear eQ5x0
        go_upto_region 33 with (go_at_call 29; refine ((fun w' hh => eyeNum_any R w.heap.size bs Q5x0 1 w' hh (by omega)) _ hE.eye).mono ?_; rintro e u108a ⟨m5x1, rfl, _, hn, he, hg⟩; have Nm5x1 : Hid ((Q5x0.num 1).2.wrong = 0 → m5x1 = (Q5x0.num 1).1) := hn; clear hn; replace hE := hE.call hg he; clear hg he; have zM := hE.msg.lt; have c6 := (hE.msg.c 6 (by decide)).1; have f6 := (hE.msg.c 6 (by decide)).2; simp only [List.getD_cons_zero, List.getD_cons_succ] at c6)
        obtain ⟨V108, eV108⟩ : ∃ X, X = (u108a.setCell ⟨M, 6, none⟩ (.int .i64 m5x1)) := ⟨_, rfl⟩
        replace hE : EM w V108 R M (w.heap.size + 1) w.heap.size w.heap.size bs [.int .i64 ((5 : Nat) : Int), .int .i64 n1, .int .i64 n2, .int .i64 n3, .int .i64 n4, .int .i64 m5x0, .int .i64 m5x1, .int .i64 0, .int .i64 0, .int .i64 0, .bool false, .int .i64 0] [.int .i64 s, .slice a len cap, .int .i64 q] (Q5x0.num 1).2 := by rw [eV108]; exact (hE.set 6 (by decide) (.int .i64 m5x1))
        rw [← eV108]
        clear eV108 zM c6 f6
        obtain ⟨Q5x1, eQ5x1⟩ : ∃ x, x = (Q5x0.num 1).2 := ⟨_, rfl⟩
        rw [← eQ5x1] at hE
        have EQ5x1 : Hid (Q5x1 = (Q5x0.num 1).2) := eQ5x1
        clear eQ5x1
        go_upto_region 34 with (go_at_call 29; refine ((fun w' hh => eyeNum_any R w.heap.size bs Q5x1 4 w' hh (by omega)) _ hE.eye).mono ?_; rintro e u109a ⟨m5x2, rfl, _, hn, he, hg⟩; have Nm5x2 : Hid ((Q5x1.num 4).2.wrong = 0 → m5x2 = (Q5x1.num 4).1) := hn; clear hn; replace hE := hE.call hg he; clear hg he; have zM := hE.msg.lt; have c7 := (hE.msg.c 7 (by decide)).1; have f7 := (hE.msg.c 7 (by decide)).2; simp only [List.getD_cons_zero, List.getD_cons_succ] at c7)
        obtain ⟨V109, eV109⟩ : ∃ X, X = (u109a.setCell ⟨M, 7, none⟩ (.int .i64 m5x2)) := ⟨_, rfl⟩
        replace hE : EM w V109 R M (w.heap.size + 1) w.heap.size w.heap.size bs [.int .i64 ((5 : Nat) : Int), .int .i64 n1, .int .i64 n2, .int .i64 n3, .int .i64 n4, .int .i64 m5x0, .int .i64 m5x1, .int .i64 m5x2, .int .i64 0, .int .i64 0, .bool false, .int .i64 0] [.int .i64 s, .slice a len cap, .int .i64 q] (Q5x1.num 4).2 := by rw [eV109]; exact (hE.set 7 (by decide) (.int .i64 m5x2))
        rw [← eV109]
        clear eV109 zM c7 f7
        obtain ⟨Q5x2, eQ5x2⟩ : ∃ x, x = (Q5x1.num 4).2 := ⟨_, rfl⟩
        rw [← eQ5x2] at hE
        have EQ5x2 : Hid (Q5x2 = (Q5x1.num 4).2) := eQ5x2
        clear eQ5x2
        go_upto_region 35 with (go_at_call 29; refine ((fun w' hh => eyeNum_any R w.heap.size bs Q5x2 3 w' hh (by omega)) _ hE.eye).mono ?_; rintro e u110a ⟨m5x3, rfl, _, hn, he, hg⟩; have Nm5x3 : Hid ((Q5x2.num 3).2.wrong = 0 → m5x3 = (Q5x2.num 3).1) := hn; clear hn; replace hE := hE.call hg he; clear hg he; have zM := hE.msg.lt; have c8 := (hE.msg.c 8 (by decide)).1; have f8 := (hE.msg.c 8 (by decide)).2; simp only [List.getD_cons_zero, List.getD_cons_succ] at c8)
        obtain ⟨V110, eV110⟩ : ∃ X, X = (u110a.setCell ⟨M, 8, none⟩ (.int .i64 m5x3)) := ⟨_, rfl⟩
        replace hE : EM w V110 R M (w.heap.size + 1) w.heap.size w.heap.size bs [.int .i64 ((5 : Nat) : Int), .int .i64 n1, .int .i64 n2, .int .i64 n3, .int .i64 n4, .int .i64 m5x0, .int .i64 m5x1, .int .i64 m5x2, .int .i64 m5x3, .int .i64 0, .bool false, .int .i64 0] [.int .i64 s, .slice a len cap, .int .i64 q] (Q5x2.num 3).2 := by rw [eV110]; exact (hE.set 8 (by decide) (.int .i64 m5x3))
        rw [← eV110]
        clear eV110 zM c8 f8
        obtain ⟨Q5x3, eQ5x3⟩ : ∃ x, x = (Q5x2.num 3).2 := ⟨_, rfl⟩
        rw [← eQ5x3] at hE
        have EQ5x3 : Hid (Q5x3 = (Q5x2.num 3).2) := eQ5x3
        clear eQ5x3
        go_upto_region 36 with (go_at_call 29; refine ((fun w' hh => eyeNum_any R w.heap.size bs Q5x3 3 w' hh (by omega)) _ hE.eye).mono ?_; rintro e u111a ⟨m5x4, rfl, _, hn, he, hg⟩; have Nm5x4 : Hid ((Q5x3.num 3).2.wrong = 0 → m5x4 = (Q5x3.num 3).1) := hn; clear hn; replace hE := hE.call hg he; clear hg he; have zM := hE.msg.lt; have c9 := (hE.msg.c 9 (by decide)).1; have f9 := (hE.msg.c 9 (by decide)).2; simp only [List.getD_cons_zero, List.getD_cons_succ] at c9)
        obtain ⟨V111, eV111⟩ : ∃ X, X = (u111a.setCell ⟨M, 9, none⟩ (.int .i64 m5x4)) := ⟨_, rfl⟩
        replace hE : EM w V111 R M (w.heap.size + 1) w.heap.size w.heap.size bs [.int .i64 ((5 : Nat) : Int), .int .i64 n1, .int .i64 n2, .int .i64 n3, .int .i64 n4, .int .i64 m5x0, .int .i64 m5x1, .int .i64 m5x2, .int .i64 m5x3, .int .i64 m5x4, .bool false, .int .i64 0] [.int .i64 s, .slice a len cap, .int .i64 q] (Q5x3.num 3).2 := by rw [eV111]; exact (hE.set 9 (by decide) (.int .i64 m5x4))
        rw [← eV111]
        clear eV111 zM c9 f9
        obtain ⟨Q5x4, eQ5x4⟩ : ∃ x, x = (Q5x3.num 3).2 := ⟨_, rfl⟩
        rw [← eQ5x4] at hE
        have EQ5x4 : Hid (Q5x4 = (Q5x3.num 3).2) := eQ5x4
        clear eQ5x4
        go_wp2_with (go_at_call 29; refine ((fun w' hh => eyeNum_any R w.heap.size bs Q5x4 1 w' hh (by omega)) _ hE.eye).mono ?_; rintro e u112a ⟨m5x5, rfl, _, hn, he, hg⟩; have Nm5x5 : Hid ((Q5x4.num 1).2.wrong = 0 → m5x5 = (Q5x4.num 1).1) := hn; clear hn; replace hE := hE.call hg he; clear hg he; have zM := hE.msg.lt; have c11 := (hE.msg.c 11 (by decide)).1; have f11 := (hE.msg.c 11 (by decide)).2; simp only [List.getD_cons_zero, List.getD_cons_succ] at c11)
        go_meet
        case rel =>
          have hE2 := (hE.set 11 (by decide) (.int .i64 m5x5))
          obtain ⟨a1, a2, a3⟩ := HK1.out (by decide)
          have hc : Ch [1, 1, 4, 3, 3, 1] S4 [m5x0, m5x1, m5x2, m5x3, m5x4, m5x5] (Q5x4.num 1).2 := by
            refine ⟨?_, ?_, ?_, ?_, ?_, ?_, ?_⟩
            · exact Nm5x0.out
            · rw [← EQ5x0.out]; exact Nm5x1.out
            · rw [← EQ5x0.out, ← EQ5x1.out]; exact Nm5x2.out
            · rw [← EQ5x0.out, ← EQ5x1.out, ← EQ5x2.out]; exact Nm5x3.out
            · rw [← EQ5x0.out, ← EQ5x1.out, ← EQ5x2.out, ← EQ5x3.out]; exact Nm5x4.out
            · rw [← EQ5x0.out, ← EQ5x1.out, ← EQ5x2.out, ← EQ5x3.out, ← EQ5x4.out]; exact Nm5x5.out
            · rw [← EQ5x0.out, ← EQ5x1.out, ← EQ5x2.out, ← EQ5x3.out, ← EQ5x4.out]; exact rfl
          have hc2 := HC.out 5 _ _ (by decide) a1 a2 (by rw [← a3]; exact Hhead.out _ _ _ hc) (by decide)
          refine ⟨_, by rw [← hc2.1]; exact hE2, fun hw => ?_⟩
          rw [← hc2.1] at hw
          rw [hc2.2 hw]
          first | rfl | simp [mMake, MV.cs, List.getD]
      · have kc := (hE.msg.c 0 (by decide)).1
        simp only [List.getD_cons_zero, Int.cast_ofNat_Int] at kc
        have zM := hE.msg.lt
        go_upto_region 38 with (fail)
        clear kc zM
        go_upto_region 39 with (go_at_call 29; refine ((fun w' hh => eyeNum_any R w.heap.size bs S4 1 w' hh (by omega)) _ hE.eye).mono ?_; rintro e u127a ⟨m6x0, rfl, _, hn, he, hg⟩; have Nm6x0 : Hid ((S4.num 1).2.wrong = 0 → m6x0 = (S4.num 1).1) := hn; clear hn; replace hE := hE.call hg he; clear hg he; have zM := hE.msg.lt; have c6 := (hE.msg.c 6 (by decide)).1; have f6 := (hE.msg.c 6 (by decide)).2; simp only [List.getD_cons_zero, List.getD_cons_succ] at c6)
        obtain ⟨V127, eV127⟩ : ∃ X, X = (u127a.setCell ⟨M, 6, none⟩ (.int .i64 m6x0)) := ⟨_, rfl⟩
        replace hE : EM w V127 R M (w.heap.size + 1) w.heap.size w.heap.size bs [.int .i64 ((6 : Nat) : Int), .int .i64 n1, .int .i64 n2, .int .i64 n3, .int .i64 n4, .int .i64 0, .int .i64 m6x0, .int .i64 0, .int .i64 0, .int .i64 0, .bool false, .int .i64 0] [.int .i64 s, .slice a len cap, .int .i64 q] (S4.num 1).2 := by rw [eV127]; exact (hE.set 6 (by decide) (.int .i64 m6x0))
        rw [← eV127]
        clear eV127 zM c6 f6
        obtain ⟨Q6x0, eQ6x0⟩ : ∃ x, x = (S4.num 1).2 := ⟨_, rfl⟩
        rw [← eQ6x0] at hE
        have EQ6x0 : Hid (Q6x0 = (S4.num 1).2) := eQ6x0
        clear eQ6x0
        go_upto_region 40 with (go_at_call 29; refine ((fun w' hh => eyeNum_any R w.heap.size bs Q6x0 3 w' hh (by omega)) _ hE.eye).mono ?_; rintro e u128a ⟨m6x1, rfl, _, hn, he, hg⟩; have Nm6x1 : Hid ((Q6x0.num 3).2.wrong = 0 → m6x1 = (Q6x0.num 3).1) := hn; clear hn; replace hE := hE.call hg he; clear hg he; have zM := hE.msg.lt; have c9 := (hE.msg.c 9 (by decide)).1; have f9 := (hE.msg.c 9 (by decide)).2; simp only [List.getD_cons_zero, List.getD_cons_succ] at c9)
        obtain ⟨V128, eV128⟩ : ∃ X, X = (u128a.setCell ⟨M, 9, none⟩ (.int .i64 m6x1)) := ⟨_, rfl⟩
        replace hE : EM w V128 R M (w.heap.size + 1) w.heap.size w.heap.size bs [.int .i64 ((6 : Nat) : Int), .int .i64 n1, .int .i64 n2, .int .i64 n3, .int .i64 n4, .int .i64 0, .int .i64 m6x0, .int .i64 0, .int .i64 0, .int .i64 m6x1, .bool false, .int .i64 0] [.int .i64 s, .slice a len cap, .int .i64 q] (Q6x0.num 3).2 := by rw [eV128]; exact (hE.set 9 (by decide) (.int .i64 m6x1))
        rw [← eV128]
        clear eV128 zM c9 f9
        obtain ⟨Q6x1, eQ6x1⟩ : ∃ x, x = (Q6x0.num 3).2 := ⟨_, rfl⟩
        rw [← eQ6x1] at hE
        have EQ6x1 : Hid (Q6x1 = (Q6x0.num 3).2) := eQ6x1
        clear eQ6x1
        go_wp2_with (go_at_call 29; refine ((fun w' hh => eyeNum_any R w.heap.size bs Q6x1 1 w' hh (by omega)) _ hE.eye).mono ?_; rintro e u129a ⟨m6x2, rfl, _, hn, he, hg⟩; have Nm6x2 : Hid ((Q6x1.num 1).2.wrong = 0 → m6x2 = (Q6x1.num 1).1) := hn; clear hn; replace hE := hE.call hg he; clear hg he; have zM := hE.msg.lt; have c11 := (hE.msg.c 11 (by decide)).1; have f11 := (hE.msg.c 11 (by decide)).2; simp only [List.getD_cons_zero, List.getD_cons_succ] at c11)
        go_meet
        case rel =>
          have hE2 := (hE.set 11 (by decide) (.int .i64 m6x2))
          obtain ⟨a1, a2, a3⟩ := HK1.out (by decide)
          have hc : Ch [1, 3, 1] S4 [m6x0, m6x1, m6x2] (Q6x1.num 1).2 := by
            refine ⟨?_, ?_, ?_, ?_⟩
            · exact Nm6x0.out
            · rw [← EQ6x0.out]; exact Nm6x1.out
            · rw [← EQ6x0.out, ← EQ6x1.out]; exact Nm6x2.out
            · rw [← EQ6x0.out, ← EQ6x1.out]; exact rfl
          have hc2 := HC.out 6 _ _ (by decide) a1 a2 (by rw [← a3]; exact Hhead.out _ _ _ hc) (by decide)
          refine ⟨_, by rw [← hc2.1]; exact hE2, fun hw => ?_⟩
          rw [← hc2.1] at hw
          rw [hc2.2 hw]
          first | rfl | simp [mMake, MV.cs, List.getD]
      · have kc := (hE.msg.c 0 (by decide)).1
        simp only [List.getD_cons_zero, Int.cast_ofNat_Int] at kc
        have zM := hE.msg.lt
        go_upto_region 26 with (fail)
        clear kc zM
        go_upto_region 27 with (go_at_call 29; refine ((fun w' hh => eyeNum_any R w.heap.size bs S4 1 w' hh (by omega)) _ hE.eye).mono ?_; rintro e u147a ⟨m7x0, rfl, _, hn, he, hg⟩; have Nm7x0 : Hid ((S4.num 1).2.wrong = 0 → m7x0 = (S4.num 1).1) := hn; clear hn; replace hE := hE.call hg he; clear hg he; have zM := hE.msg.lt; have c5 := (hE.msg.c 5 (by decide)).1; have f5 := (hE.msg.c 5 (by decide)).2; simp only [List.getD_cons_zero, List.getD_cons_succ] at c5)
        obtain ⟨V147, eV147⟩ : ∃ X, X = (u147a.setCell ⟨M, 5, none⟩ (.int .i64 m7x0)) := ⟨_, rfl⟩
        replace hE : EM w V147 R M (w.heap.size + 1) w.heap.size w.heap.size bs [.int .i64 ((7 : Nat) : Int), .int .i64 n1, .int .i64 n2, .int .i64 n3, .int .i64 n4, .int .i64 m7x0, .int .i64 0, .int .i64 0, .int .i64 0, .int .i64 0, .bool false, .int .i64 0] [.int .i64 s, .slice a len cap, .int .i64 q] (S4.num 1).2 := by rw [eV147]; exact (hE.set 5 (by decide) (.int .i64 m7x0))
        rw [← eV147]
        clear eV147 zM c5 f5
        obtain ⟨Q7x0, eQ7x0⟩ : ∃ x, x = (S4.num 1).2 := ⟨_, rfl⟩
        rw [← eQ7x0] at hE
        have EQ7x0 : Hid (Q7x0 = (S4.num 1).2) := eQ7x0
        clear eQ7x0
        go_upto_region 28 with (go_at_call 29; refine ((fun w' hh => eyeNum_any R w.heap.size bs Q7x0 1 w' hh (by omega)) _ hE.eye).mono ?_; rintro e u148a ⟨m7x1, rfl, _, hn, he, hg⟩; have Nm7x1 : Hid ((Q7x0.num 1).2.wrong = 0 → m7x1 = (Q7x0.num 1).1) := hn; clear hn; replace hE := hE.call hg he; clear hg he; have zM := hE.msg.lt; have c6 := (hE.msg.c 6 (by decide)).1; have f6 := (hE.msg.c 6 (by decide)).2; simp only [List.getD_cons_zero, List.getD_cons_succ] at c6)
        obtain ⟨V148, eV148⟩ : ∃ X, X = (u148a.setCell ⟨M, 6, none⟩ (.int .i64 m7x1)) := ⟨_, rfl⟩
        replace hE : EM w V148 R M (w.heap.size + 1) w.heap.size w.heap.size bs [.int .i64 ((7 : Nat) : Int), .int .i64 n1, .int .i64 n2, .int .i64 n3, .int .i64 n4, .int .i64 m7x0, .int .i64 m7x1, .int .i64 0, .int .i64 0, .int .i64 0, .bool false, .int .i64 0] [.int .i64 s, .slice a len cap, .int .i64 q] (Q7x0.num 1).2 := by rw [eV148]; exact (hE.set 6 (by decide) (.int .i64 m7x1))
        rw [← eV148]
        clear eV148 zM c6 f6
        obtain ⟨Q7x1, eQ7x1⟩ : ∃ x, x = (Q7x0.num 1).2 := ⟨_, rfl⟩
        rw [← eQ7x1] at hE
        have EQ7x1 : Hid (Q7x1 = (Q7x0.num 1).2) := eQ7x1
        clear eQ7x1
        go_upto_region 29 with (go_at_call 29; refine ((fun w' hh => eyeNum_any R w.heap.size bs Q7x1 3 w' hh (by omega)) _ hE.eye).mono ?_; rintro e u149a ⟨m7x2, rfl, _, hn, he, hg⟩; have Nm7x2 : Hid ((Q7x1.num 3).2.wrong = 0 → m7x2 = (Q7x1.num 3).1) := hn; clear hn; replace hE := hE.call hg he; clear hg he; have zM := hE.msg.lt; have c8 := (hE.msg.c 8 (by decide)).1; have f8 := (hE.msg.c 8 (by decide)).2; simp only [List.getD_cons_zero, List.getD_cons_succ] at c8)
        obtain ⟨V149, eV149⟩ : ∃ X, X = (u149a.setCell ⟨M, 8, none⟩ (.int .i64 m7x2)) := ⟨_, rfl⟩
        replace hE : EM w V149 R M (w.heap.size + 1) w.heap.size w.heap.size bs [.int .i64 ((7 : Nat) : Int), .int .i64 n1, .int .i64 n2, .int .i64 n3, .int .i64 n4, .int .i64 m7x0, .int .i64 m7x1, .int .i64 0, .int .i64 m7x2, .int .i64 0, .bool false, .int .i64 0] [.int .i64 s, .slice a len cap, .int .i64 q] (Q7x1.num 3).2 := by rw [eV149]; exact (hE.set 8 (by decide) (.int .i64 m7x2))
        rw [← eV149]
        clear eV149 zM c8 f8
        obtain ⟨Q7x2, eQ7x2⟩ : ∃ x, x = (Q7x1.num 3).2 := ⟨_, rfl⟩
        rw [← eQ7x2] at hE
        have EQ7x2 : Hid (Q7x2 = (Q7x1.num 3).2) := eQ7x2
        clear eQ7x2
        go_wp2_with (go_at_call 31; refine ((fun w' hh => eyeYes_any R w.heap.size bs Q7x2 w' hh) _ hE.eye).mono ?_; rintro e u150a ⟨m7x3, rfl, hn, he, hg⟩; have Nm7x3 : Hid ((Q7x2.num 1).2.wrong = 0 → m7x3 = (Q7x2.num 1).1) := hn; clear hn; replace hE := hE.call hg he; clear hg he; have zM := hE.msg.lt; have c10 := (hE.msg.c 10 (by decide)).1; have f10 := (hE.msg.c 10 (by decide)).2; simp only [List.getD_cons_zero, List.getD_cons_succ] at c10)
        go_meet
        case rel =>
          have hE2 := (hE.set 10 (by decide) (.bool (m7x3 == 1)))
          obtain ⟨a1, a2, a3⟩ := HK1.out (by decide)
          have hc : Ch [1, 1, 3, 1] S4 [m7x0, m7x1, m7x2, m7x3] (Q7x2.num 1).2 := by
            refine ⟨?_, ?_, ?_, ?_, ?_⟩
            · exact Nm7x0.out
            · rw [← EQ7x0.out]; exact Nm7x1.out
            · rw [← EQ7x0.out, ← EQ7x1.out]; exact Nm7x2.out
            · rw [← EQ7x0.out, ← EQ7x1.out, ← EQ7x2.out]; exact Nm7x3.out
            · rw [← EQ7x0.out, ← EQ7x1.out, ← EQ7x2.out]; exact rfl
          have hc2 := HY.out 7 (n1 :: n2 :: n3 :: n4 :: [m7x0, m7x1, m7x2]) m7x3 _ (by decide) a1 a2 (by rw [← a3]; exact Hhead.out _ _ _ hc) rfl
          refine ⟨_, by rw [← hc2.1]; exact hE2, fun hw => ?_⟩
          rw [← hc2.1] at hw
          rw [hc2.2 hw]
          have eb : (m7x3 == 1) = decide (m7x3 = 1) := by by_cases hh : m7x3 = 1 <;> simp [hh]
          rw [eb]
          rfl
      · have kc := (hE.msg.c 0 (by decide)).1
        simp only [List.getD_cons_zero, Int.cast_ofNat_Int] at kc
        have zM := hE.msg.lt
        go_wp2_with (fail)
        go_meet
        case rel =>
          have hE2 := hE
          obtain ⟨a1, a2, a3⟩ := HK1.out (by decide)
          have hc : Ch [] S4 [] S4 := by
            exact rfl
          have hc2 := HC.out 8 _ _ (by decide) a1 a2 (by rw [← a3]; exact Hhead.out _ _ _ hc) (by decide)
          refine ⟨_, by rw [← hc2.1]; exact hE2, fun hw => ?_⟩
          rw [← hc2.1] at hw
          rw [hc2.2 hw]
          first | rfl | simp [mMake, MV.cs, List.getD]
      · have kc := (hE.msg.c 0 (by decide)).1
        simp only [List.getD_cons_zero, Int.cast_ofNat_Int] at kc
        have zM := hE.msg.lt
        go_wp2_with (fail)
        go_meet
        case rel =>
          have hE2 := hE
          obtain ⟨a1, a2, a3⟩ := HK1.out (by decide)
          have hc : Ch [] S4 [] S4 := by
            exact rfl
          have hc2 := HC.out 9 _ _ (by decide) a1 a2 (by rw [← a3]; exact Hhead.out _ _ _ hc) (by decide)
          refine ⟨_, by rw [← hc2.1]; exact hE2, fun hw => ?_⟩
          rw [← hc2.1] at hw
          rw [hc2.2 hw]
          first | rfl | simp [mMake, MV.cs, List.getD]
    case rest =>
      obtain ⟨vs, hE, hvs⟩ := hcut
      clear HD HC HY HK0 HK1 Nn1 Nn2 Nn3 Nn4 ES2 ES3 ES4
      obtain ⟨Y, eY⟩ : ∃ Y, Y = wc := ⟨_, rfl⟩
      rw [← eY] at hE ⊢
      clear eY
      obtain ⟨aa, la, ca, pa, hY⟩ := id hE.eye
      have hla : bl = la := by have := hY.isb.1; have := hI.1; omega
      have hpl := hY.hat
      have e1 := hY.c1
      have e2 := hY.c2
      have f2 := hY.f2
      have zR := hY.lt
      have rb := hE.res
      have zQ := rb.lt
      have hbel := hE.bel
      have hrel := hY.rel
      have cb := hE.cfg
      have mb := hE.msg
      have hne := hE.ne
      have hne1 : R ≠ w.heap.size + 1 := hne.2.1
      have hne2 : w.heap.size + 1 ≠ R := fun h => hne1 h.symm
      have hne3 : R ≠ M := hne.1
      have hne4 : M ≠ R := fun h => hne3 h.symm
      have hne5 : w.heap.size + 1 ≠ M := fun h => hne.2.2.2.1 h.symm
      have hne6 : M ≠ w.heap.size + 1 := hne.2.2.2.1
      have hLY := h.below hbel
      have hwr : (Dr.wrong == 0) = decide (Dr.wrong = 0) := by by_cases hh : Dr.wrong = 0 <;> simp [hh]
      clear hE hY hne
      subst hla
      by_cases hw : Dr.wrong = 0
      · have hvm := hvs hw
        have hrest := hrel hw
        rw [hw] at e2
        clear hvs hrel hwr
        have hbl := hI.1
        subst hvm
        by_cases hp : pa < bl
        · have hfin : Dr.fin.wrong = 4 := by
            have : 0 < Dr.rest.length := by rw [hrest]; simp; omega
            unfold RS.fin; rw [if_pos this]; simp [RS.refuse, hw]
          have HM : Hid (MO = (MV.zero, 4)) := by show _ = _; rw [EO.out, if_neg (by simp), if_pos (by rw [hfin]; decide), hfin]
          clear EO hfin hrest hw hbl
          have hp2 : (pa : Int) < (bl : Int) := by omega
          go_upto_region 43 with (fail)
          obtain ⟨X, eX⟩ : ∃ X, X = Y.setCell ⟨R, 2, none⟩ (.int .i64 4) := ⟨_, rfl⟩
          have x2 : X.cell? ⟨R, 2, none⟩ = some (.int .i64 4) := by rw [eX]; go_simp
          have rbX : BoxN X (w.heap.size + 1) 12 [.int .i64 0, .int .i64 0, .int .i64 0, .int .i64 0, .int .i64 0, .int .i64 0, .int .i64 0, .int .i64 0, .int .i64 0, .int .i64 0, .bool false, .int .i64 0] := by rw [eX]; exact rb.far hne2
          have hbX : Below w.heap.size w X := by rw [eX]; exact hbel.setCell (p := ⟨R, 2, none⟩) hwR _
          have zX : R < X.heap.size := by rw [eX]; simpa using zR
          rw [← eX]
          clear eX e1 e2 f2 zR hbel rb zQ mb cb
          have hbel := hbX
          have rb := rbX
          have zQ := rb.lt
          have s0 := (rb.c 0 (by decide)).1
          have g0 := (rb.c 0 (by decide)).2
          have s1 := (rb.c 1 (by decide)).1
          have g1 := (rb.c 1 (by decide)).2
          have s2 := (rb.c 2 (by decide)).1
          have g2 := (rb.c 2 (by decide)).2
          have s3 := (rb.c 3 (by decide)).1
          have g3 := (rb.c 3 (by decide)).2
          have s4 := (rb.c 4 (by decide)).1
          have g4 := (rb.c 4 (by decide)).2
          have s5 := (rb.c 5 (by decide)).1
          have g5 := (rb.c 5 (by decide)).2
          have s6 := (rb.c 6 (by decide)).1
          have g6 := (rb.c 6 (by decide)).2
          have s7 := (rb.c 7 (by decide)).1
          have g7 := (rb.c 7 (by decide)).2
          have s8 := (rb.c 8 (by decide)).1
          have g8 := (rb.c 8 (by decide)).2
          have s9 := (rb.c 9 (by decide)).1
          have g9 := (rb.c 9 (by decide)).2
          have s10 := (rb.c 10 (by decide)).1
          have g10 := (rb.c 10 (by decide)).2
          have s11 := (rb.c 11 (by decide)).1
          have g11 := (rb.c 11 (by decide)).2
          simp only [List.getD_cons_zero, List.getD_cons_succ] at s0 s1 s2 s3 s4 s5 s6 s7 s8 s9 s10 s11
          go_upto_region 46 with (fail)
          go_region
          go_wp2_with fail
          refine bodyPost_ret (v := .tuple #[.agg #[.int .i64 0, .int .i64 0, .int .i64 0, .int .i64 0, .int .i64 0, .int .i64 0, .int .i64 0, .int .i64 0, .int .i64 0, .int .i64 0, .bool false, .int .i64 0], .int .i64 4]) (by simp [results, Tryd.results8, go_sem, s0, s1, s2, s3, s4, s5, s6, s7, s8, s9, s10, s11]) rfl ⟨by rw [HM.out]; rfl, ?_⟩
          (with_reducible repeat (first | exact hbel | refine eD ?_ | refine eS ?_ (by simp) _))
        · have hfin : Dr.fin = Dr := by
            have : ¬ 0 < Dr.rest.length := by rw [hrest]; simp; omega
            unfold RS.fin; rw [if_neg this]
          have HM : Hid (MO = if msgFault s ls q Dm ≠ 0 then (MV.zero, msgFault s ls q Dm) else (Dm, 0)) := by show _ = _; rw [EO.out, if_neg (by simp), hfin, if_neg (by rw [hw]; decide)]
          have hpe : (pa : Int) = (bl : Int) := by omega
          obtain rfl : pa = bl := by omega
          clear EO hfin hrest hw hbl hpe hp
          have hMm := fun w' hh => hMF Dm w' hh
          obtain ⟨FM, eFM⟩ : ∃ x, x = msgFault s ls q Dm := ⟨_, rfl⟩
          rw [← eFM] at HM hMm
          clear eFM
          obtain ⟨kind, frm, dst, site, num, label, key, value, version, ask, yes, code⟩ := Dm
          simp only [MV.val, MV.cs] at hMm mb
          have m0 := (mb.c 0 (by decide)).1
          have m1 := (mb.c 1 (by decide)).1
          have m2 := (mb.c 2 (by decide)).1
          have m3 := (mb.c 3 (by decide)).1
          have m4 := (mb.c 4 (by decide)).1
          have m5 := (mb.c 5 (by decide)).1
          have m6 := (mb.c 6 (by decide)).1
          have m7 := (mb.c 7 (by decide)).1
          have m8 := (mb.c 8 (by decide)).1
          have m9 := (mb.c 9 (by decide)).1
          have m10 := (mb.c 10 (by decide)).1
          have m11 := (mb.c 11 (by decide)).1
          have c0 := (cb.c 0 (by decide)).1
          have c1 := (cb.c 1 (by decide)).1
          have c2 := (cb.c 2 (by decide)).1
          simp only [List.getD_cons_zero, List.getD_cons_succ] at m0 m1 m2 m3 m4 m5 m6 m7 m8 m9 m10 m11 c0 c1 c2
          have zM := mb.lt
          have zC := cb.lt
          have KR : Hid (∀ U, Below Y.heap.size Y U → U.cell? ⟨R, 2, none⟩ = some (.int .i64 0) ∧ U.frozen? ⟨R, 2, none⟩ = false ∧ R < U.heap.size) := fun U hU => ⟨(hU.cell (p := ⟨R, 2, none⟩) zR).trans e2, (hU.frozen (p := ⟨R, 2, none⟩) zR).trans f2, Nat.lt_of_lt_of_le zR hU.size⟩
          go_upto_region 45 with (go_at_call 32; refine (hMm _ hLY).mono ?_; rintro e y1 ⟨rfl, hb⟩; clear e1 e2 f2 zR; obtain ⟨e2, f2, zR⟩ := KR.out _ hb)
          have mb1 := mb.below hb mb.lt
          have rb1 := rb.below hb rb.lt
          have hbel1 := hbel.trans (hb.mono hbel.size)
          clear m0 m1 m2 m3 m4 m5 m6 m7 m8 m9 m10 m11 c0 c1 c2 zM zC zQ KR
          obtain ⟨X, eX⟩ : ∃ X, X = y1.setCell ⟨R, 2, none⟩ (.int .i64 FM) := ⟨_, rfl⟩
          have x2 : X.cell? ⟨R, 2, none⟩ = some (.int .i64 FM) := by rw [eX]; go_simp
          have rbX : BoxN X (w.heap.size + 1) 12 [.int .i64 0, .int .i64 0, .int .i64 0, .int .i64 0, .int .i64 0, .int .i64 0, .int .i64 0, .int .i64 0, .int .i64 0, .int .i64 0, .bool false, .int .i64 0] := by rw [eX]; exact rb1.far hne2
          have mbX := mb1.far (k := 2) (v := .int .i64 FM) hne4
          rw [← eX] at mbX
          have hbX : Below w.heap.size w X := by rw [eX]; exact hbel1.setCell (p := ⟨R, 2, none⟩) hwR _
          have zX : R < X.heap.size := by rw [eX]; simpa using zR
          rw [← eX]
          clear eX e2 f2 zR hbel rb mb cb hb rb1 mb1 hbel1
          have hbel := hbX
          have rb := rbX
          have mb := mbX
          have zQ := rb.lt
          have zM := mb.lt
          have s0 := (rb.c 0 (by decide)).1
          have g0 := (rb.c 0 (by decide)).2
          have s1 := (rb.c 1 (by decide)).1
          have g1 := (rb.c 1 (by decide)).2
          have s2 := (rb.c 2 (by decide)).1
          have g2 := (rb.c 2 (by decide)).2
          have s3 := (rb.c 3 (by decide)).1
          have g3 := (rb.c 3 (by decide)).2
          have s4 := (rb.c 4 (by decide)).1
          have g4 := (rb.c 4 (by decide)).2
          have s5 := (rb.c 5 (by decide)).1
          have g5 := (rb.c 5 (by decide)).2
          have s6 := (rb.c 6 (by decide)).1
          have g6 := (rb.c 6 (by decide)).2
          have s7 := (rb.c 7 (by decide)).1
          have g7 := (rb.c 7 (by decide)).2
          have s8 := (rb.c 8 (by decide)).1
          have g8 := (rb.c 8 (by decide)).2
          have s9 := (rb.c 9 (by decide)).1
          have g9 := (rb.c 9 (by decide)).2
          have s10 := (rb.c 10 (by decide)).1
          have g10 := (rb.c 10 (by decide)).2
          have s11 := (rb.c 11 (by decide)).1
          have g11 := (rb.c 11 (by decide)).2
          simp only [List.getD_cons_zero, List.getD_cons_succ] at s0 s1 s2 s3 s4 s5 s6 s7 s8 s9 s10 s11
          by_cases hF : FM = 0
          · subst hF
            have m0 := (mb.c 0 (by decide)).1
            have m1 := (mb.c 1 (by decide)).1
            have m2 := (mb.c 2 (by decide)).1
            have m3 := (mb.c 3 (by decide)).1
            have m4 := (mb.c 4 (by decide)).1
            have m5 := (mb.c 5 (by decide)).1
            have m6 := (mb.c 6 (by decide)).1
            have m7 := (mb.c 7 (by decide)).1
            have m8 := (mb.c 8 (by decide)).1
            have m9 := (mb.c 9 (by decide)).1
            have m10 := (mb.c 10 (by decide)).1
            have m11 := (mb.c 11 (by decide)).1
            simp only [List.getD_cons_zero, List.getD_cons_succ] at m0 m1 m2 m3 m4 m5 m6 m7 m8 m9 m10 m11
            go_wp2
            refine bodyPost_ret (v := .tuple #[.agg #[.int .i64 kind, .int .i64 frm, .int .i64 dst, .int .i64 site, .int .i64 num, .int .i64 label, .int .i64 key, .int .i64 value, .int .i64 version, .int .i64 ask, .bool yes, .int .i64 code], .int .i64 0]) (by simp [results, Tryd.results8, go_sem, s0, s1, s2, s3, s4, s5, s6, s7, s8, s9, s10, s11]) rfl ⟨by rw [HM.out, if_neg (by simp)]; rfl, ?_⟩
            (with_reducible repeat (first | exact hbel | refine eD ?_ | refine eS ?_ (by simp) _))
          · have hF2 : (FM == 0) = false := by simp [hF]
            go_upto_region 46 with (fail)
            go_region
            go_wp2_with fail
            refine bodyPost_ret (v := .tuple #[.agg #[.int .i64 0, .int .i64 0, .int .i64 0, .int .i64 0, .int .i64 0, .int .i64 0, .int .i64 0, .int .i64 0, .int .i64 0, .int .i64 0, .bool false, .int .i64 0], .int .i64 FM]) (by simp [results, Tryd.results8, go_sem, s0, s1, s2, s3, s4, s5, s6, s7, s8, s9, s10, s11]) rfl ⟨by rw [HM.out, if_pos hF]; rfl, ?_⟩
            (with_reducible repeat (first | exact hbel | refine eD ?_ | refine eS ?_ (by simp) _))
      · have hfin : Dr.fin = Dr := fin_wrong hw
        have HM : Hid (MO = (MV.zero, Dr.wrong)) := by show _ = _; rw [EO.out, if_neg (by simp), hfin, if_pos hw]
        obtain ⟨DW, eDW⟩ : ∃ x, x = Dr.wrong := ⟨_, rfl⟩
        rw [← eDW] at HM hw e2
        clear EO hfin hvs hrel hwr eDW mb cb
        have hw2 : (DW == 0) = false := by simp [hw]
        have s0 := (rb.c 0 (by decide)).1
        have g0 := (rb.c 0 (by decide)).2
        have s1 := (rb.c 1 (by decide)).1
        have g1 := (rb.c 1 (by decide)).2
        have s2 := (rb.c 2 (by decide)).1
        have g2 := (rb.c 2 (by decide)).2
        have s3 := (rb.c 3 (by decide)).1
        have g3 := (rb.c 3 (by decide)).2
        have s4 := (rb.c 4 (by decide)).1
        have g4 := (rb.c 4 (by decide)).2
        have s5 := (rb.c 5 (by decide)).1
        have g5 := (rb.c 5 (by decide)).2
        have s6 := (rb.c 6 (by decide)).1
        have g6 := (rb.c 6 (by decide)).2
        have s7 := (rb.c 7 (by decide)).1
        have g7 := (rb.c 7 (by decide)).2
        have s8 := (rb.c 8 (by decide)).1
        have g8 := (rb.c 8 (by decide)).2
        have s9 := (rb.c 9 (by decide)).1
        have g9 := (rb.c 9 (by decide)).2
        have s10 := (rb.c 10 (by decide)).1
        have g10 := (rb.c 10 (by decide)).2
        have s11 := (rb.c 11 (by decide)).1
        have g11 := (rb.c 11 (by decide)).2
        simp only [List.getD_cons_zero, List.getD_cons_succ] at s0 s1 s2 s3 s4 s5 s6 s7 s8 s9 s10 s11
        go_upto_region 46 with (fail)
        go_region
        go_wp2_with fail
        refine bodyPost_ret (v := .tuple #[.agg #[.int .i64 0, .int .i64 0, .int .i64 0, .int .i64 0, .int .i64 0, .int .i64 0, .int .i64 0, .int .i64 0, .int .i64 0, .int .i64 0, .bool false, .int .i64 0], .int .i64 DW]) (by simp [results, Tryd.results8, go_sem, s0, s1, s2, s3, s4, s5, s6, s7, s8, s9, s10, s11]) rfl ⟨by rw [HM.out]; rfl, ?_⟩
        (with_reducible repeat (first | exact hbel | refine eD ?_ | refine eS ?_ (by simp) _))
  · have HM : Hid (MO = (MV.zero, FC)) := by show _ = _; rw [EO.out, if_pos hF]
    have rb := rb1
    have hbel := hw1
    clear EO
    have s0 := (rb.c 0 (by decide)).1
    have g0 := (rb.c 0 (by decide)).2
    have s1 := (rb.c 1 (by decide)).1
    have g1 := (rb.c 1 (by decide)).2
    have s2 := (rb.c 2 (by decide)).1
    have g2 := (rb.c 2 (by decide)).2
    have s3 := (rb.c 3 (by decide)).1
    have g3 := (rb.c 3 (by decide)).2
    have s4 := (rb.c 4 (by decide)).1
    have g4 := (rb.c 4 (by decide)).2
    have s5 := (rb.c 5 (by decide)).1
    have g5 := (rb.c 5 (by decide)).2
    have s6 := (rb.c 6 (by decide)).1
    have g6 := (rb.c 6 (by decide)).2
    have s7 := (rb.c 7 (by decide)).1
    have g7 := (rb.c 7 (by decide)).2
    have s8 := (rb.c 8 (by decide)).1
    have g8 := (rb.c 8 (by decide)).2
    have s9 := (rb.c 9 (by decide)).1
    have g9 := (rb.c 9 (by decide)).2
    have s10 := (rb.c 10 (by decide)).1
    have g10 := (rb.c 10 (by decide)).2
    have s11 := (rb.c 11 (by decide)).1
    have g11 := (rb.c 11 (by decide)).2
    simp only [List.getD_cons_zero, List.getD_cons_succ] at s0 s1 s2 s3 s4 s5 s6 s7 s8 s9 s10 s11
    go_wp2
    refine bodyPost_ret (v := .tuple #[.agg #[.int .i64 0, .int .i64 0, .int .i64 0, .int .i64 0, .int .i64 0, .int .i64 0, .int .i64 0, .int .i64 0, .int .i64 0, .int .i64 0, .bool false, .int .i64 0], .int .i64 FC]) (by simp [results, Tryd.results8, go_sem, s0, s1, s2, s3, s4, s5, s6, s7, s8, s9, s10, s11]) rfl ⟨by rw [HM.out]; rfl, ?_⟩
    (with_reducible repeat (first | exact hbel | refine eD ?_ | refine eS ?_ (by simp) _))
end Go.Proofs.YtflfcjbgkpfgkaaDoor
/- Records off bytes, on plain data: what each kind reads. -/
namespace Go.Proofs.YtflfcjbgkpfgkaaDoor
open Go.ChangeShapes Go.WideShapes Go.ChangeAt Go.RowKit
set_option linter.unusedVariables false

theorem kindR_eq {r : RS} {k : Nat} (hk : 1 ≤ k ∧ k ≤ 6) (h : (r.num 1).1 = k) : r.kind 7 = r.num 1 := by unfold RS.kind; rw [if_neg (by omega)]
theorem sites_zero (r : RS) : r.sites 0 = ([], r) := rfl

theorem decR_1 (r : RS) (h : (r.num 1).1 = ((1 : Nat) : Int)) : decRecRS r = (⟨1, (rdNums [1, 1, 3, 1, 4, 3] r).1.getD 1 0, (rdNums [1, 1, 3, 1, 4, 3] r).1.getD 2 0, (rdNums [1, 1, 3, 1, 4, 3] r).1.getD 3 0, (rdNums [1, 1, 3, 1, 4, 3] r).1.getD 4 0, (rdNums [1, 1, 3, 1, 4, 3] r).1.getD 5 0, false, none, 0, 0, []⟩, (rdNums [1, 1, 3, 1, 4, 3] r).2) := by
  unfold decRecRS
  rw [kindR_eq (k := 1) (by omega) h, h]
  simp [rHasOf, rHas, widL, decParts, part_no, recMk, rdNums, List.getD, RS.sites]
theorem decR_y (r : RS) (k : Nat) (hk : k = 2 ∨ k = 6) (h : (r.num 1).1 = (k : Int)) : decRecRS r = (⟨(k : Int), (rdNums [1, 1, 3, 1] r).1.getD 1 0, (rdNums [1, 1, 3, 1] r).1.getD 2 0, 0, 0, 0, decide ((rdNums [1, 1, 3, 1] r).1.getD 3 0 = 1), none, 0, 0, []⟩, (rdNums [1, 1, 3, 1] r).2.truth ((rdNums [1, 1, 3, 1] r).1.getD 3 0)) := by
  unfold decRecRS
  rw [kindR_eq (k := k) (by omega) h, h]
  rcases hk with rfl | rfl
  all_goals simp [rHasOf, rHas, widL, decParts, part_yes, recMk, rdNums, List.getD, RS.sites]
theorem decR_n (r : RS) (k : Nat) (hk : k = 4 ∨ k = 5) (h : (r.num 1).1 = (k : Int)) : decRecRS r = (⟨(k : Int), (rdNums [1, 1, 3] r).1.getD 1 0, (rdNums [1, 1, 3] r).1.getD 2 0, 0, 0, 0, false, none, 0, 0, []⟩, (rdNums [1, 1, 3] r).2) := by
  unfold decRecRS
  rw [kindR_eq (k := k) (by omega) h, h]
  rcases hk with rfl | rfl
  all_goals simp [rHasOf, rHas, widL, decParts, recMk, rdNums, List.getD, RS.sites]
theorem decR_3 (r : RS) (h : (r.num 1).1 = ((3 : Nat) : Int)) : decRecRS r = (⟨3, (rdNums [1, 1, 3, 1] r).1.getD 1 0, (rdNums [1, 1, 3, 1] r).1.getD 2 0, 0, 0, 0, false, none, ((rdNums [1, 1, 3, 1] r).2.sites ((rdNums [1, 1, 3, 1] r).1.getD 3 0)).1.length, 0, ((rdNums [1, 1, 3, 1] r).2.sites ((rdNums [1, 1, 3, 1] r).1.getD 3 0)).1⟩, ((rdNums [1, 1, 3, 1] r).2.sites ((rdNums [1, 1, 3, 1] r).1.getD 3 0)).2) := by
  unfold decRecRS
  rw [kindR_eq (k := 3) (by omega) h, h]
  simp [rHasOf, rHas, widL, decParts, part_no, recMk, rdNums, List.getD]
end Go.Proofs.YtflfcjbgkpfgkaaDoor
/- What the document's RecordOf has in memory, and what it reads, on plain data. -/
namespace Go.Proofs.YtflfcjbgkpfgkaaDoor
open Go.ChangeShapes Go.WideShapes Go.ChangeAt Go.RowKit
set_option linter.unusedVariables false

/-- All that RecordOf has in memory: the eye at R, the record at M, the answer at Q, the config at C. -/
structure ER (w V : World) (R M Q C L : Nat) (bs : List Int) (vs cf : List Value) (st : RS) : Prop where
  eye : EyeTo V R L bs st
  msg : BoxN V M 8 vs
  res : BoxN V Q 8 [.int .i64 0, .int .i64 0, .int .i64 0, .int .i64 0, .int .i64 0, .int .i64 0, .bool false, .slice none 0 0]
  cfg : BoxN V C 3 cf
  bel : Below w.heap.size w V
  ne : R ≠ M ∧ R ≠ Q ∧ R ≠ C ∧ M ≠ Q ∧ M ≠ C ∧ Q ≠ C
  le : w.heap.size ≤ R ∧ w.heap.size ≤ M ∧ w.heap.size ≤ Q ∧ w.heap.size ≤ C ∧ L ≤ w.heap.size
theorem ER.call {w V V' : World} {R M Q C L : Nat} {bs : List Int} {vs cf : List Value} {st st' : RS} (h : ER w V R M Q C L bs vs cf st) (hg : V.grownBy V' (some R)) (he : EyeTo V' R L bs st') : ER w V' R M Q C L bs vs cf st' :=
  ⟨he, h.msg.grown hg (by simpa using h.ne.1.symm), h.res.grown hg (by simpa using h.ne.2.1.symm), h.cfg.grown hg (by simpa using h.ne.2.2.1.symm), h.bel.grown hg h.bel.size (fun k hk => by simp at hk; have := h.le.1; omega), h.ne, h.le⟩
theorem ER.set {w V : World} {R M Q C L : Nat} {bs : List Int} {vs cf : List Value} {st : RS} (h : ER w V R M Q C L bs vs cf st) (k : Nat) (hk : k < 8) (v : Value) : ER w (V.setCell ⟨M, k, none⟩ v) R M Q C L bs (vs.set k v) cf st :=
  ⟨h.eye.grown (grown_set (grownR_refl _ _) : V.grownBy (V.setCell ⟨M, k, none⟩ v) (some M)) (fun j hj => by simp at hj; have := h.le; have := h.ne.1; omega), h.msg.set k hk v, h.res.far h.ne.2.2.2.1.symm, h.cfg.far h.ne.2.2.2.2.1.symm, h.bel.setCell (p := ⟨M, k, none⟩) h.le.2.1 v, h.ne, h.le⟩
theorem ER.row {w V V' : World} {R M Q C L : Nat} {bs : List Int} {vs cf : List Value} {st : RS} {row : Option Nat} (h : ER w V R M Q C L bs vs cf st) (hg : V.grownBy V' row) (hr : ∀ k, row = some k → w.heap.size ≤ k ∧ k ≠ R ∧ k ≠ M ∧ k ≠ Q ∧ k ≠ C) : ER w V' R M Q C L bs vs cf st :=
  ⟨h.eye.grown hg (fun k hk => by have := hr k hk; have := h.le; omega), h.msg.grown hg (fun e => (hr _ e.symm).2.2.1 rfl), h.res.grown hg (fun e => (hr _ e.symm).2.2.2.1 rfl), h.cfg.grown hg (fun e => (hr _ e.symm).2.2.2.2 rfl), h.bel.grown hg h.bel.size (fun k hk => (hr k hk).1), h.ne, h.le⟩

theorem rd_stays {ks : List Nat} {r : RS} (h : r.wrong ≠ 0) : (rdNums ks r).2 = r := by
  induction ks generalizing r with
  | nil => rfl
  | cons k ks ih =>
    have e : r.num k = (0, r) := num_wrong h
    show (rdNums ks (r.num k).2).2 = r
    rw [e]
    exact ih h
theorem kindR_zero {r : RS} (h : (r.kind 7).2.wrong ≠ 0) (h0 : r.wrong = 0) : (r.kind 7).1 = 0 := by
  unfold RS.kind at h ⊢
  split
  · rfl
  · rename_i hn
    rw [if_neg hn] at h
    by_cases hl : 1 ≤ r.rest.length
    · rw [num_ok h0 hl] at h; exact absurd rfl h
    · rw [num_short h0 (by omega)] at hn; exact absurd (Or.inl rfl) hn
theorem decR_nothing {r : RS} (h : (r.kind 7).2.wrong ≠ 0) (h0 : r.wrong = 0) : (decRecRS r).2 = (r.kind 7).2 := by
  have hz := kindR_zero h h0
  obtain ⟨K, eK⟩ : ∃ K, K = r.kind 7 := ⟨_, rfl⟩
  unfold decRecRS
  rw [← eK] at h hz ⊢
  obtain ⟨k, q⟩ := K
  simp only at h hz ⊢
  subst hz
  have h1 : ∀ k, q.num k = (0, q) := fun k => num_wrong h
  simp [h1, rHasOf, rHas, decParts, widL, RS.sites, rdNums]
/-- A record of plain parts. -/
def rMake (k n1 n2 key value ask : Int) (yes : Bool) (z : List Int) : RcV := ⟨k, n1, n2, key, value, ask, yes, none, z.length, 0, z⟩
theorem chR_1 {r r' : RS} {n1 n2 n3 n4 n5 : Int} (h1 : (r.num 1).1 = ((1 : Nat) : Int)) (h : Ch [1, 3, 1, 4, 3] (r.num 1).2 [n1, n2, n3, n4, n5] r') :
    r' = (decRecRS r).2 ∧ (r'.wrong = 0 → (decRecRS r).1 = rMake 1 n1 n2 n3 n4 n5 false []) := by
  have hc : Ch [1, 1, 3, 1, 4, 3] r [((1 : Nat) : Int), n1, n2, n3, n4, n5] r' := ⟨fun _ => h1.symm, h⟩
  obtain ⟨e1, e2⟩ := hc.rd
  rw [decR_1 r h1]
  generalize rdNums [1, 1, 3, 1, 4, 3] r = X at e1 e2 ⊢
  obtain ⟨X1, X2⟩ := X
  simp only [] at e1 e2 ⊢
  refine ⟨e1, fun hw => ?_⟩
  rw [← e2 hw]
  rfl
theorem chR_n {r r' : RS} {k : Nat} {n1 n2 : Int} (hk : k = 4 ∨ k = 5) (h1 : (r.num 1).1 = (k : Int)) (h : Ch [1, 3] (r.num 1).2 [n1, n2] r') :
    r' = (decRecRS r).2 ∧ (r'.wrong = 0 → (decRecRS r).1 = rMake k n1 n2 0 0 0 false []) := by
  have hc : Ch [1, 1, 3] r [(k : Int), n1, n2] r' := ⟨fun _ => h1.symm, h⟩
  obtain ⟨e1, e2⟩ := hc.rd
  rw [decR_n r k hk h1]
  generalize rdNums [1, 1, 3] r = X at e1 e2 ⊢
  obtain ⟨X1, X2⟩ := X
  simp only [] at e1 e2 ⊢
  refine ⟨e1, fun hw => ?_⟩
  rw [← e2 hw]
  rfl
theorem chR_y {r r' : RS} {k : Nat} {n1 n2 n : Int} (hk : k = 2 ∨ k = 6) (h1 : (r.num 1).1 = (k : Int)) (h : Ch [1, 3, 1] (r.num 1).2 [n1, n2, n] r') :
    (if 1 < n then r'.refuse 4 else r') = (decRecRS r).2 ∧ ((if 1 < n then r'.refuse 4 else r').wrong = 0 → (decRecRS r).1 = rMake k n1 n2 0 0 0 (n == 1) []) := by
  have hc : Ch [1, 1, 3, 1] r [(k : Int), n1, n2, n] r' := ⟨fun _ => h1.symm, h⟩
  obtain ⟨e1, e2⟩ := hc.rd
  have eb : (n == 1) = decide (n = 1) := by by_cases hh : n = 1 <;> simp [hh]
  rw [decR_y r k hk h1]
  generalize rdNums [1, 1, 3, 1] r = X at e1 e2 ⊢
  obtain ⟨X1, X2⟩ := X
  simp only [] at e1 e2 ⊢
  by_cases hw : r'.wrong = 0
  · rw [← e2 hw, ← e1]
    exact ⟨rfl, fun _ => by rw [eb]; rfl⟩
  · have er : (if 1 < n then r'.refuse 4 else r') = r' := by split; exact refuse_wrong hw; rfl
    rw [er]
    refine ⟨?_, fun h => absurd h hw⟩
    show r' = X2.truth _
    rw [← e1, truth_wrong hw]
theorem chR_3 {r S r' : RS} {n1 n2 n : Int} {zs : List Int} {k : Nat} (h1 : (r.num 1).1 = ((3 : Nat) : Int)) (h : Ch [1, 3, 1] (r.num 1).2 [n1, n2, n] S) (hz : Ch (List.replicate k 1) S zs r') (hk : (k : Int) ≤ n) (hend : r'.wrong ≠ 0 ∨ (k : Int) = n) :
    r' = (decRecRS r).2 ∧ (r'.wrong = 0 → (decRecRS r).1 = rMake 3 n1 n2 0 0 0 false zs) := by
  have hc : Ch [1, 1, 3, 1] r [((3 : Nat) : Int), n1, n2, n] S := ⟨fun _ => h1.symm, h⟩
  obtain ⟨e1, e2⟩ := hc.rd
  obtain ⟨e3, e4⟩ := hz.rd
  rw [decR_3 r h1]
  generalize rdNums [1, 1, 3, 1] r = X at e1 e2 ⊢
  obtain ⟨X1, X2⟩ := X
  simp only [] at e1 e2 ⊢
  by_cases hS : S.wrong = 0
  · have hn : X1 = [((3 : Nat) : Int), n1, n2, n] := (e2 hS).symm
    rw [hn, ← e1]
    have hN : RS.sites S n = rdNums (List.replicate n.toNat 1) S := rfl
    have hg : [((3 : Nat) : Int), n1, n2, n].getD 3 0 = n := rfl
    have hsp : List.replicate n.toNat 1 = List.replicate k 1 ++ List.replicate (n.toNat - k) 1 := by rw [List.replicate_append_replicate]; congr 1; omega
    simp only [hg, hN]
    rcases hend with hw | hw
    · have e5 : (rdNums (List.replicate n.toNat 1) S).2 = r' := by
        rw [hsp, rd_app]
        show (rdNums _ (rdNums (List.replicate k 1) S).2).2 = r'
        rw [← e3, rd_stays hw]
      exact ⟨e5.symm, fun h => absurd h hw⟩
    · have hkn : n.toNat = k := by omega
      rw [hkn]
      refine ⟨e3, fun h => ?_⟩
      rw [← e4 h]
      rfl
  · have hr' : r' = S := hz.stays hS
    subst hr'
    refine ⟨?_, fun h => absurd h hS⟩
    show r' = (rdNums _ X2).2
    rw [← e1, rd_stays hS]
theorem Ch.snoc {ks : List Nat} {r r' : RS} {ns : List Int} {k : Nat} {n : Int} (h : Ch ks r ns r') (hn : (r'.num k).2.wrong = 0 → n = (r'.num k).1) : Ch (ks ++ [k]) r (ns ++ [n]) (r'.num k).2 := by
  induction ks generalizing r ns with
  | nil =>
    cases ns with
    | nil =>
      have e : r' = r := h
      subst e
      exact ⟨hn, rfl⟩
    | cons _ _ => exact h.elim
  | cons j ks ih =>
    cases ns with
    | nil => exact h.elim
    | cons m ns => exact ⟨h.1, ih h.2⟩
theorem Ch.len {ks : List Nat} {r r' : RS} {ns : List Int} (h : Ch ks r ns r') : ns.length = ks.length := by
  induction ks generalizing r ns with
  | nil => cases ns with
    | nil => rfl
    | cons _ _ => exact h.elim
  | cons k ks ih => cases ns with
    | nil => exact h.elim
    | cons n ns => simp [ih h.2]
theorem isI_grownE {w w' : World} {a : Option Addr} {len cap : Nat} {zs : List Int} {row : Option Nat} (h : IsInts w a len cap zs) (hg : w.grownBy w' row) (hne : ∀ b off, a = some ⟨b, off, none⟩ → some b ≠ row) : IsInts w' a len cap zs := by
  obtain ⟨h1, h2, h3, hbd, h4⟩ := h
  refine ⟨h1, h2, h3, hbd, fun hp => ?_⟩
  obtain ⟨b, off, e, hlt, hl⟩ := h4 hp
  refine ⟨b, off, e, Nat.lt_of_lt_of_le hlt hg.size, fun i hi => ?_⟩
  rw [World.cell?_of_block (a := ⟨b, off + i, none⟩) (hg.block b hlt (hne b off e))]
  exact hl i hi
def RcV.cs (m : RcV) : List Value := [.int .i64 m.kind, .int .i64 m.site, .int .i64 m.num, .int .i64 m.key, .int .i64 m.value, .int .i64 m.ask, .bool m.yes, .slice m.sa m.sl m.sc]
/-- Numbers that a slice of the call's own holds. -/
theorem isI_ownE {w : World} {B : Nat} {a : Option Addr} {n cap : Nat} {zs : List Int} (h : w.ownsRow B 3 1 (.slice a n cap) n (intsS zs)) (hz : ∀ z ∈ zs, 0 ≤ z ∧ z < 4294967296) :
    IsInts w a n cap zs ∧ (∀ b off, a = some ⟨b, off, none⟩ → B ≤ b ∧ b < w.heap.size) := by
  have hlen : zs.length = n := by have := h.1; simpa [intsS] using this
  have hbd : ∀ i, -9223372036854775808 ≤ zs.getD i 0 ∧ zs.getD i 0 ≤ 9223372036854775807 := by
    intro i
    by_cases hi : i < zs.length
    · have := hz zs[i] (List.getElem_mem hi)
      simp [List.getD, hi]
      omega
    · simp [List.getD, List.getElem?_eq_none (by omega : zs.length ≤ i)]
  rcases h.2 with ⟨hv, hn⟩ | ⟨g, cap', cur, hv, hg, hcur, h1, h2, h3, h4⟩
  · simp only [Value.slice.injEq] at hv
    obtain ⟨rfl, rfl, rfl⟩ := hv
    exact ⟨⟨hlen, Nat.le_refl _, Nat.zero_le _, hbd, fun hp => absurd hp (by omega)⟩, fun b off e => by simp at e⟩
  · simp only [Value.slice.injEq, true_and] at hv
    obtain ⟨rfl, rfl⟩ := hv
    refine ⟨⟨hlen, h1, h2, hbd, fun hp => ⟨g, 0, rfl, (h.lt g rfl).2, fun i hi => ?_⟩⟩, fun b off e => ?_⟩
    · have hx := h.cells (g := g) rfl i (.int .i64 (zs.getD i 0)) (by simp [intsS, List.getD, show i < zs.length by omega])
      rwa [adr_add] at hx
    · simp at e
      obtain ⟨rfl, _⟩ := e
      exact ⟨hg, (h.lt g rfl).2⟩
end Go.Proofs.YtflfcjbgkpfgkaaDoor
