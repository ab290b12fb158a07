/- Texts of this claim, one behind the other. -/
import Derived.Test.YtlaagfnoepcnlaaDoorM23LinesShows
import Derived.Test.YtlaagfnoepcnlaaDoorM19LinesShows
import Derived.Test.YtlaagfnoepcnlaaDoorM14LinesShows
import Derived.Test.YtlaagfnoepcnlaaDoorM13LinesShows
import Derived.BigQuiet
import Derived.Lib.QuietBelow
import Derived.Test.YtlaagfnoepcnlaaDoorM16LinesShows
/- The document's actLine, of any act that may be: the program's line. -/
namespace Go.Proofs.YtlaagfnoepcnlaaDoor.Ln
open Go.ChangeShapes Go.WideShapes Go.ChangeAt Go.RowKit
open Go.Proofs.YtlaagfnoepcnlaaDoor.St (BoxN boxn_new own_below IsRow Elem flat flat_append own_isRow)
set_option linter.unusedVariables false

/-- What an act that may be has, closer. -/
structure ActNN (v : AV) : Prop where
  kind : 1 ≤ v.kind ∧ v.kind ≤ 8
  nums : (0 ≤ v.site ∧ v.site ≤ 1048576) ∧ (0 ≤ v.to ∧ v.to ≤ 1048576) ∧ (0 ≤ v.label ∧ v.label ≤ 1048576) ∧ (0 ≤ v.pick ∧ v.pick ≤ 1048576)
  call : v.kind = 1 → (1 ≤ v.c0 ∧ v.c0 ≤ 5) ∧ (0 ≤ v.c1 ∧ v.c1 ≤ 1073741824) ∧ (0 ≤ v.c2 ∧ v.c2 ≤ 1073741824) ∧ (0 ≤ v.c3 ∧ v.c3 ≤ 1073741824) ∧ (0 ≤ v.c4 ∧ v.c4 ≤ 1073741824)
  keep : v.kl ≤ 6 ∧ ∀ z ∈ v.keep, 0 ≤ z ∧ z ≤ 6000
  none : v.kind ≠ 6 → v.kl = 0
  line : v.line.size ≤ 60
theorem act_nn {s : Int} {ls : List (Int × Int)} {p : Int} {v : AV} (hl : ls.length ≤ 6) (hs : s ≤ 4) (h : actFault s ls p v = 0) : ActNN v := by
  unfold actFault at h
  split at h
  · rename_i h1; exact absurd h h1
  · split at h
    · cases h
    · rename_i hkd
      split at h
      · cases h
      · rename_i hin
        split at h
        · cases h
        · rename_i hon
          have hkd2 := inR_b (tr9 hkd)
          have hin2 := tr9 hin
          unfold actIn keepIn at hin2
          simp only [Bool.and_eq_true, decide_eq_true_eq, List.all_eq_true] at hin2
          obtain ⟨⟨⟨⟨q1, q2⟩, q3⟩, q4⟩, ⟨q5, q6⟩, q7⟩ := hin2
          have r4 := inR_b q4
          have r5 := inR_b q5
          have r6 := inR_b q6
          have r7 : 0 ≤ v.label ∧ v.label < (ls.length : Int) := by unfold plc at q7; simpa using q7
          refine ⟨hkd2, ⟨by omega, by omega, by omega, by omega⟩, fun k1 => ?_, ⟨by omega, fun z hz => inR_b (q2 z hz)⟩, fun k6 => ?_, q3⟩
          · rw [if_pos k1] at h
            unfold callFault at h
            split at h
            · cases h
            · rename_i h0
              split at h
              · cases h
              · rename_i ht
                have h0' := inR_b (tr9 h0)
                have ht' := tr9 ht
                simp only [cTops, inTops, Bool.and_eq_true] at ht'
                have t1 := inR_b ht'.1
                have t2 := inR_b ht'.2.1
                have t3 := inR_b ht'.2.2.1
                have t4 := inR_b ht'.2.2.2.1
                exact ⟨h0', by omega, by omega, by omega, by omega⟩
          · have hon2 := tr9 hon
            obtain ⟨kk, hkk⟩ : ∃ kk : Nat, v.kind = kk := ⟨v.kind.toNat, by omega⟩
            rw [hkk, Int.toNat_natCast, aHas_seven kk (by omega)] at hon2
            simp only [aParts, only, Bool.and_eq_true, Bool.or_eq_true] at hon2
            have h5 := hon2.2.2.2.2.1
            have h6 : (aHas.getD kk []).getD 4 false = false := by
              rcases (by omega : kk = 0 ∨ kk = 1 ∨ kk = 2 ∨ kk = 3 ∨ kk = 4 ∨ kk = 5 ∨ kk = 7 ∨ kk = 8) with rfl | rfl | rfl | rfl | rfl | rfl | rfl | rfl <;> rfl
            rw [h6] at h5
            have h7 : (v.kl : Int) = 0 := by simpa using h5
            omega
theorem join_blank (a : List UInt8) (r : List (List UInt8)) : Lib.join (a :: r) [32] = a ++ r.flatMap (fun x => 32 :: x) := by
  rw [Lib.join_cons]
  simp [Lib.joinTail, List.flatMap_def]
theorem blankL_map : ∀ (zs : List Int), (zs.map wNum).flatMap (fun x => 32 :: x.data.toList) = blankL zs
  | [] => rfl
  | z :: r => by
    have := blankL_map r
    simp only [List.map_cons, List.flatMap_cons, this, blankL, wNum]
/-- The line of an act, by kinds. -/
theorem line_split (v : AV) (k : Nat) (hk : v.kind = (k : Int)) : actLine v = (aWord k).data.toList ++ (numsW ((aHas.getD k []).take 4) [v.site, v.to, v.label, v.pick] ++ v.keep.map wNum ++ (if v.kind = 1 then callW v.c0 v.c1 v.c2 v.c3 v.c4 else []) ++ (if v.kind = 8 then [txtW v.line] else [])).flatMap (fun x => 32 :: x.data.toList) ++ [10] := by
  unfold actLine actW
  rw [hk, Int.toNat_natCast]
  simp only [List.append_assoc, List.map_cons, List.cons_append, List.nil_append]
  rw [join_blank]
  simp [List.flatMap_map]
theorem str_eq {a : ByteArray} {l : List UInt8} (h : a.data.toList = l) : a = ⟨l.toArray⟩ := by
  apply ByteArray.ext
  rw [← Array.toList_inj, h]
theorem blankS_d (l : List Int) : (blankS l).data.toList = blankL l := by simp [blankS]
theorem txtW_d (s : ByteArray) : (txtW s).data.toList = txtL s.data.toList := by simp [txtW]
theorem nat_of {n : Int} (h : 0 ≤ n) : ∃ m : Nat, n = m := ⟨n.toNat, by omega⟩
theorem wNum_d (z : Int) : (wNum z).data.toList = Lib.itoa z := by simp [wNum]
theorem askNums (q : Nat) (hq : 1 ≤ q ∧ q ≤ 5) (c1 c2 c3 c4 : Int) : numsW (cHas.getD q []) [c1, c2, c3, c4] = (askArgs q c1 c2 c3 c4).map wNum := by
  rcases (by omega : q = 1 ∨ q = 2 ∨ q = 3 ∨ q = 4 ∨ q = 5) with rfl | rfl | rfl | rfl | rfl <;> rfl
set_option maxRecDepth 100000 in
theorem actLineRef_any (v : AV) (w : World) (h : ActNN v) (hkp : IsInts w v.ka v.kl v.kc v.keep) :
    Calls Tryd.prog 27 #[.agg v.cells.toArray] w fun e w' => e = .returned (.string ⟨(actLine v).toArray⟩) ∧ Below w.heap.size w w' := by
  obtain ⟨kind, site, to1, label, pick, ka, kl, kc, c0, c1, c2, c3, c4, line, keep⟩ := v
  obtain ⟨k, rfl⟩ := nat_of (by have := h.kind.1; simp only [] at this; omega : 0 ≤ kind)
  obtain ⟨n1, n2, n3, n4⟩ := h.nums
  simp only [] at n1 n2 n3 n4
  obtain ⟨s1, rfl⟩ := nat_of n1.1
  obtain ⟨s2, rfl⟩ := nat_of n2.1
  obtain ⟨s3, rfl⟩ := nat_of n3.1
  obtain ⟨s4, rfl⟩ := nat_of n4.1
  have hsp := line_split ⟨(k : Int), s1, s2, s3, s4, ka, kl, kc, c0, c1, c2, c3, c4, line, keep⟩ k rfl
  simp only [] at hsp
  have hk := h.kind
  have hcl := h.call
  have hno := h.none
  have hkn := h.keep
  have hln := h.line
  simp only [] at hk hcl hno hkn hln
  have hkl : keep.length = kl := hkp.1
  have key : ∀ (t : ByteArray), t.data.toList = actLine ⟨(k : Int), s1, s2, s3, s4, ka, kl, kc, c0, c1, c2, c3, c4, line, keep⟩ → t = ⟨(actLine ⟨(k : Int), s1, s2, s3, s4, ka, kl, kc, c0, c1, c2, c3, c4, line, keep⟩).toArray⟩ := fun t ht => str_eq ht
  rcases (by omega : k = 1 ∨ (k = 2 ∨ k = 3 ∨ k = 4) ∨ k = 5 ∨ k = 6 ∨ k = 7 ∨ k = 8) with rfl | hp | rfl | rfl | rfl | rfl
  · obtain ⟨m0, m1, m2, m3, m4⟩ := hcl rfl
    obtain ⟨q, rfl⟩ := nat_of (by omega : 0 ≤ c0)
    obtain ⟨d1, rfl⟩ := nat_of m1.1
    obtain ⟨d2, rfl⟩ := nat_of m2.1
    obtain ⟨d3, rfl⟩ := nat_of m3.1
    obtain ⟨d4, rfl⟩ := nat_of m4.1
    have hk0 : keep = [] := List.eq_nil_of_length_eq_zero (by rw [hkl]; exact hno (by omega))
    refine (askLine_any s1 (s2 : Int) s3 (s4 : Int) ka kl kc q d1 d2 d3 d4 line w (by omega) (by omega) (by omega) (by omega)).mono ?_
    rintro e w' ⟨rfl, hb⟩
    refine ⟨congrArg (fun z => Ending.returned (.string z)) (key _ ?_), hb⟩
    rw [hsp, hk0]
    have e1 : numsW ((aHas.getD 1 []).take 4) [(s1 : Int), (s2 : Int), (s3 : Int), (s4 : Int)] = [wNum s1, wNum s3] := rfl
    rw [e1, if_pos (by decide : ((1 : Nat) : Int) = 1), if_neg (by decide), callW, Int.toNat_natCast, askNums q (by omega)]
    simp only [ByteArray.data_append, Array.toList_append, blankS_d, List.map_nil, List.append_nil, List.flatMap_append, List.flatMap_cons, List.flatMap_nil, blankL_map, wNum_d, blankL]
    simp
  · have hk0 : keep = [] := List.eq_nil_of_length_eq_zero (by rw [hkl]; exact hno (by omega))
    refine (pathLine_any k s1 s2 s3 s4 ka kl kc c0 c1 c2 c3 c4 line w hp ⟨by omega, by omega, by omega, by omega⟩).mono ?_
    rintro e w' ⟨rfl, hb⟩
    refine ⟨congrArg (fun z => Ending.returned (.string z)) (key _ ?_), hb⟩
    rw [hsp, hk0]
    have e1 : numsW ((aHas.getD k []).take 4) [(s1 : Int), (s2 : Int), (s3 : Int), (s4 : Int)] = [wNum s1, wNum s2, wNum s3, wNum s4] := by rcases hp with rfl | rfl | rfl <;> rfl
    rw [e1, if_neg (by omega), if_neg (by omega)]
    simp only [ByteArray.data_append, Array.toList_append, blankS_d, List.map_nil, List.append_nil, List.flatMap_cons, List.flatMap_nil, wNum_d, blankL]
  · have hk0 : keep = [] := List.eq_nil_of_length_eq_zero (by rw [hkl]; exact hno (by omega))
    refine (tickLine_any (s1 : Int) (s2 : Int) (s3 : Int) (s4 : Int) ka kl kc c0 c1 c2 c3 c4 line w).mono ?_
    rintro e w' ⟨rfl, hb⟩
    refine ⟨congrArg (fun z => Ending.returned (.string z)) (key _ ?_), hb⟩
    rw [hsp, hk0]
    have e1 : numsW ((aHas.getD 5 []).take 4) [(s1 : Int), (s2 : Int), (s3 : Int), (s4 : Int)] = [] := rfl
    rw [e1, if_neg (by decide), if_neg (by decide)]
    simp
  · refine (crashLine_any s1 (s2 : Int) (s3 : Int) (s4 : Int) ka kl kc c0 c1 c2 c3 c4 line keep w (by omega) hkp hkn.1 (fun z hz => by have := hkn.2 z hz; omega)).mono ?_
    rintro e w' ⟨rfl, hb⟩
    refine ⟨congrArg (fun z => Ending.returned (.string z)) (key _ ?_), hb⟩
    rw [hsp]
    have e1 : numsW ((aHas.getD 6 []).take 4) [(s1 : Int), (s2 : Int), (s3 : Int), (s4 : Int)] = [wNum s1] := rfl
    rw [e1, if_neg (by decide), if_neg (by decide)]
    simp only [ByteArray.data_append, Array.toList_append, blankS_d, List.append_nil, List.flatMap_append, List.flatMap_cons, List.flatMap_nil, blankL_map, wNum_d, blankL]
    simp
  · have hk0 : keep = [] := List.eq_nil_of_length_eq_zero (by rw [hkl]; exact hno (by omega))
    refine (startLine_any s1 (s2 : Int) (s3 : Int) (s4 : Int) ka kl kc c0 c1 c2 c3 c4 line w (by omega)).mono ?_
    rintro e w' ⟨rfl, hb⟩
    refine ⟨congrArg (fun z => Ending.returned (.string z)) (key _ ?_), hb⟩
    rw [hsp, hk0]
    have e1 : numsW ((aHas.getD 7 []).take 4) [(s1 : Int), (s2 : Int), (s3 : Int), (s4 : Int)] = [wNum s1] := rfl
    rw [e1, if_neg (by decide), if_neg (by decide)]
    simp only [ByteArray.data_append, Array.toList_append, blankS_d, List.map_nil, List.append_nil, List.flatMap_cons, List.flatMap_nil, wNum_d, blankL]
  · have hk0 : keep = [] := List.eq_nil_of_length_eq_zero (by rw [hkl]; exact hno (by omega))
    refine (typeLine_any s1 (s2 : Int) s3 (s4 : Int) ka kl kc c0 c1 c2 c3 c4 line w (by omega) (by omega) (by omega)).mono ?_
    rintro e w' ⟨rfl, hb⟩
    refine ⟨congrArg (fun z => Ending.returned (.string z)) (key _ ?_), hb⟩
    rw [hsp, hk0]
    have e1 : numsW ((aHas.getD 8 []).take 4) [(s1 : Int), (s2 : Int), (s3 : Int), (s4 : Int)] = [wNum s1, wNum s3] := rfl
    rw [e1, if_neg (by decide), if_pos (by decide : ((8 : Nat) : Int) = 8)]
    simp only [ByteArray.data_append, Array.toList_append, blankS_d, txtW_d, List.map_nil, List.append_nil, List.flatMap_append, List.flatMap_cons, List.flatMap_nil, wNum_d, blankL]
    simp
end Go.Proofs.YtlaagfnoepcnlaaDoor.Ln
/- The document's ActsShown. -/
namespace Go.Proofs.YtlaagfnoepcnlaaDoor.Ln
open Go.ChangeShapes Go.WideShapes Go.ChangeAt Go.RowKit
open Go.Proofs.YtlaagfnoepcnlaaDoor.St (BoxN boxn_new own_below IsRow Elem flat flat_append own_isRow)
open Go.Proofs.YtlaagfnoepcnlaaDoor.Cn (ObAt)
set_option linter.unusedVariables false

set_option maxRecDepth 100000 in
set_option maxHeartbeats 8000000 in
theorem shownActs_any (s p : Int) (a : Option Addr) (len cap : Nat) (ls : List (Int × Int)) (xa : Option Addr) (n xc : Nat) (xs : List AV) (w : World) (hl : IsLabs w a len cap ls) (hx : IsActs w xa n xc xs) :
    Calls Tryd.prog 10 #[.agg #[.int .i64 s, .slice a len cap, .int .i64 p], .slice xa n xc] w fun e w' => e = .returned (.tuple #[.string ⟨(shAll s ls p xs).1.toArray⟩, .int .i64 (shAll s ls p xs).2.1, .int .i64 (shAll s ls p xs).2.2]) ∧ Below w.heap.size w w' := by
  have hlen := hl.1
  have hxl := hx.1
  obtain ⟨RT, eRT⟩ : ∃ x, x = (shAll s ls p xs).1 := ⟨_, rfl⟩
  obtain ⟨RP, eRP⟩ : ∃ x, x = (shAll s ls p xs).2.1 := ⟨_, rfl⟩
  obtain ⟨RE, eRE⟩ : ∃ x, x = (shAll s ls p xs).2.2 := ⟨_, rfl⟩
  have HR : Hid ((RT, RP, RE) = if cfgFault s ls p ≠ 0 then ([], 0, cfgFault s ls p) else if 3000 < n then ([], 0, 1) else shPick (linesOf (xs.drop 0)) (badAt s ls p 0 (xs.drop 0))) := by
    show _ = _
    rw [eRT, eRP, eRE, ← hxl]
    rfl
  rw [← eRT, ← eRP, ← eRE]
  clear eRT eRP eRE
  have HCZ : Hid (cfgFault s ls p = 0 → s ≤ 4 ∧ ls.length ≤ 6) := fun h => by have := cfg_zero h; omega
  obtain ⟨W, hW⟩ : ∃ W : World, W = w.alloc (.cells #[.int .i64 s, .slice a len cap, .int .i64 p] 24) := ⟨_, rfl⟩
  have oC : ObAt W w.heap.size #[.int .i64 s, .slice a len cap, .int .i64 p] 24 := by rw [hW]; exact ObAt.new w _ _
  have bW : Below w.heap.size w W := by rw [hW]; exact (Below.refl _ _).alloc (Nat.le_refl _) _
  have hCh := fault_any s p a len cap ls W (hl.below bW)
  have KV : Hid (∀ U, Below W.heap.size W U → ObAt U w.heap.size #[.int .i64 s, .slice a len cap, .int .i64 p] 24 ∧ IsLabs U a len cap ls ∧ IsActs U xa n xc xs ∧ Below w.heap.size w U) := fun U hU => by
    have h9 := bW.trans (hU.mono bW.size)
    exact ⟨oC.below hU, (hl.below bW).below hU, (hx.below bW).below hU, h9⟩
  have c0 : W.cell? ⟨w.heap.size, 0, none⟩ = some (.int .i64 s) := oC.cell 0
  have c1 : W.cell? ⟨w.heap.size, 1, none⟩ = some (.slice a len cap) := oC.cell 1
  have c2 : W.cell? ⟨w.heap.size, 2, none⟩ = some (.int .i64 p) := oC.cell 2
  have zc := oC.lt
  obtain ⟨C, eC⟩ : ∃ x, x = cfgFault s ls p := ⟨_, rfl⟩
  rw [← eC] at HR hCh HCZ
  clear eC hl hx oC
  go_enter Tryd.func10, Tryd.ntmps10
  go_upto_region 1 with (fail)
  rw [← hW]
  clear hW
  go_upto_region 2 with (go_at_call 25; refine hCh.mono ?_; rintro e u1 ⟨rfl, hb1⟩)
  clear c0 c1 c2 zc hCh bW
  have hbw1 := (KV.out u1 hb1).2.2.2
  by_cases hC : C = 0
  · subst hC
    obtain ⟨hs4, hl6⟩ := HCZ.out rfl
    clear HCZ
    by_cases hn : 3000 < n
    · have hn' : (3000 : Int) < (n : Int) := by omega
      have HR2 : Hid ((RT, RP, RE) = (([] : List UInt8), (0 : Int), (1 : Int))) := by show _ = _; rw [HR.out, if_neg (by simp), if_pos hn]
      clear HR
      go_wp2
      refine bodyPost_ret (v := .tuple #[.string ⟨#[]⟩, .int .i64 0, .int .i64 1]) (by simp [results, Tryd.results10, go_sem]) rfl ?_
      have := HR2.out
      simp only [Prod.mk.injEq] at this
      exact ⟨by rw [this.1, this.2.1, this.2.2], hbw1⟩
    · have hn' : ¬ (3000 : Int) < (n : Int) := by omega
      obtain ⟨BAD, eBAD⟩ : ∃ x, x = badAt s ls p 0 (xs.drop 0) := ⟨_, rfl⟩
      obtain ⟨TOT, eTOT⟩ : ∃ x, x = linesOf (xs.drop 0) := ⟨_, rfl⟩
      have HBd0 : Hid (BAD = badAt s ls p 0 (xs.drop 0)) := eBAD
      have HTo0 : Hid ((⟨#[]⟩ : ByteArray).data.toList ++ linesOf (xs.drop 0) = TOT) := by show _ = _; rw [eTOT]; rfl
      rw [← eBAD, ← eTOT] at HR
      have HR2 : Hid ((RT, RP, RE) = shPick TOT BAD) := by show _ = _; rw [HR.out, if_neg (by simp), if_neg hn]
      clear eBAD eTOT HR
      go_wp2
      go_loopw [8, 9] (fun s8 s9 wr => ∃ (k : Nat) (T : ByteArray), s8 = .string T ∧ s9 = .int .i64 (k : Int) ∧ k ≤ n ∧ T.size ≤ 2075 * k ∧ Below W.heap.size W wr ∧ Hid (T.data.toList ++ linesOf (xs.drop k) = TOT) ∧ Hid (BAD = badAt s ls p k (xs.drop k))) (fun _ s9 _ => n - (intOf s9).toNat)
      case atStart => exact ⟨0, ⟨#[]⟩, rfl, rfl, by omega, (show (0 : Nat) ≤ 2075 * 0 by omega), hb1, HTo0, HBd0⟩
      case round =>
        clear hb1 HTo0 HBd0 hbw1
        obtain ⟨k, T, rfl, rfl, hk, hll, hbo, hTo, hBd⟩ := hrel
        obtain ⟨wo, ewo⟩ : ∃ X : World, X = wr := ⟨_, rfl⟩
        subst ewo
        by_cases hlt : k < n
        · have hlt' : (k : Int) < (n : Int) := by omega
          have HJ : Hid (k + 1 ≤ n) := hlt
          obtain ⟨oCo, -, hxo, hbw⟩ := KV.out wo hbo
          obtain ⟨b, off, rfl, hat⟩ := hxo.2.2.2 (by omega)
          have zb := hat.1
          obtain ⟨hcl, hki⟩ := hat.2 k (by omega)
          have hTo2 : Hid (T.data.toList ++ (actLine (xs.getD k default) ++ linesOf (xs.drop (k + 1))) = TOT) := by show _ = _; rw [← linesOf_at (by omega)]; exact hTo.out
          have hBd2 : Hid (BAD = if actFault s ls p (xs.getD k default) = 0 then badAt s ls p (k + 1) (xs.drop (k + 1)) else some (k, actFault s ls p (xs.getD k default))) := by show _ = _; rw [← badAt_at (by omega)]; exact hBd.out
          have KA : Hid (∀ U, Below wo.heap.size wo U → ∀ j, j < 12 → U.cell? ⟨b, off + k * 12 + j, none⟩ = (xs.getD k default).cells[j]?) := fun U hU j hj => (hU.cell (p := ⟨b, off + k * 12 + j, none⟩) zb).trans (hcl j hj)
          obtain ⟨v, ev⟩ : ∃ v, v = xs.getD k default := ⟨_, rfl⟩
          rw [← ev] at hcl hki hTo2 hBd2 KA
          clear ev hTo hBd hxo hat
          have hOk : actFault s ls p v = 0 → ActOK v ∧ ActNN v := fun h => ⟨act_ok hl6 hs4 hki.1 h, act_nn hl6 hs4 h⟩
          obtain ⟨F, eF⟩ : ∃ x, x = actFault s ls p v := ⟨_, rfl⟩
          have hCk : ∀ d os, Calls Tryd.prog 26 #[.agg #[.int .i64 s, .slice a len cap, .int .i64 p], .agg v.cells.toArray] (Go.Sort.grow (Go.redrawn wo d) os) fun e w' => e = .returned (.int .i64 F) ∧ Below (Go.Sort.grow (Go.redrawn wo d) os).heap.size (Go.Sort.grow (Go.redrawn wo d) os) w' := fun d os => by
            have hU := below_regrown wo d os
            obtain ⟨-, g1, -, -⟩ := KV.out _ (hbo.trans (hU.mono hbo.size))
            rw [eF]
            exact actFault_any s p a len cap ls v _ g1 (hki.below hU)
          have hLn : F = 0 → ∀ U, Below wo.heap.size wo U → Calls Tryd.prog 27 #[.agg v.cells.toArray] U fun e w' => e = .returned (.string ⟨(actLine v).toArray⟩) ∧ Below U.heap.size U w' := fun h U hU => actLineRef_any v U (hOk (eF.symm.trans h)).2 (hki.below hU)
          have hLb : F = 0 → (actLine v).length ≤ 2075 := fun h => by
            have := actLine_bd (hOk (eF.symm.trans h)).1
            simp only [actLine, List.length_append, List.length_cons, List.length_nil]
            omega
          rw [← eF] at hBd2
          clear eF hOk
          have e0 := hcl 0 (by decide)
          have e1 := hcl 1 (by decide)
          have e2 := hcl 2 (by decide)
          have e3 := hcl 3 (by decide)
          have e4 := hcl 4 (by decide)
          have e5 := hcl 5 (by decide)
          have e6 := hcl 6 (by decide)
          have e7 := hcl 7 (by decide)
          have e8 := hcl 8 (by decide)
          have e9 := hcl 9 (by decide)
          have e10 := hcl 10 (by decide)
          have e11 := hcl 11 (by decide)
          obtain ⟨AL, eAL⟩ : ∃ x, x = actLine v := ⟨_, rfl⟩
          rw [← eAL] at hTo2 hLn hLb
          obtain ⟨kind, site, to1, label, pick, ka, kl, kc, d0, d1, d2, d3, d4, line, keep⟩ := v
          simp only [AV.cells, List.getElem?_cons_zero, List.getElem?_cons_succ, Nat.add_zero] at e0 e1 e2 e3 e4 e5 e6 e7 e8 e9 e10 e11 hCk hLn
          simp only [AV.cells] at KA
          clear hcl eAL hki
          have c0 : wo.cell? ⟨w.heap.size, 0, none⟩ = some (.int .i64 s) := oCo.cell 0
          have c1 : wo.cell? ⟨w.heap.size, 1, none⟩ = some (.slice a len cap) := oCo.cell 1
          have c2 : wo.cell? ⟨w.heap.size, 2, none⟩ = some (.int .i64 p) := oCo.cell 2
          have zc := oCo.lt
          have q0 := fun d os => cell_regrown e0 d os
          have q1 := fun d os => cell_regrown e1 d os
          have q2 := fun d os => cell_regrown e2 d os
          have q3 := fun d os => cell_regrown e3 d os
          have q4 := fun d os => cell_regrown e4 d os
          have q5 := fun d os => cell_regrown e5 d os
          have q6 := fun d os => cell_regrown e6 d os
          have q7 := fun d os => cell_regrown e7 d os
          have q8 := fun d os => cell_regrown e8 d os
          have q9 := fun d os => cell_regrown e9 d os
          have q10 := fun d os => cell_regrown e10 d os
          have q11 := fun d os => cell_regrown e11 d os
          have m0 := fun d os => cell_regrown c0 d os
          have m1 := fun d os => cell_regrown c1 d os
          have m2 := fun d os => cell_regrown c2 d os
          clear oCo
          go_upto_region 10 with (fail)
          refine wp_region_quiet_below (by kernel_rfl) (by kernel_rfl) ?_
          repeat (go_big_quiet_step ((go_at_call 26; exact Calls.regrown_of (hCk _ _))))
          refine wpQuiet_nil ?_
          intro _ hw'
          obtain ⟨⟨dq, osq⟩, hw''⟩ := hw'
          subst hw''
          have bQ := below_regrown wo dq osq
          obtain ⟨Z, eZ⟩ : ∃ X : World, X = Go.Sort.grow (Go.redrawn wo dq) osq := ⟨_, rfl⟩
          rw [← eZ] at bQ
          rw [← eZ]
          clear eZ q0 q1 q2 q3 q4 q5 q6 q7 q8 q9 q10 q11 m0 m1 m2 c0 c1 c2 zc e0 e1 e2 e3 e4 e5 e6 e7 e8 e9 e10 e11 hCk
          have hbZ := hbo.trans (bQ.mono hbo.size)
          by_cases hF : F = 0
          · subst hF
            have hL1 := hLn rfl Z bQ
            have hl1 := hLb rfl
            have hBd3 : Hid (BAD = badAt s ls p (k + 1) (xs.drop (k + 1))) := by show _ = _; rw [hBd2.out, if_pos rfl]
            obtain ⟨LB, eLB⟩ : ∃ x : ByteArray, x = ⟨AL.toArray⟩ := ⟨_, rfl⟩
            have hLd : LB.data.toList = AL := by rw [eLB]
            rw [← eLB] at hL1
            have hLs : LB.size = AL.length := by rw [← hLd]; rfl
            obtain ⟨T2, t2⟩ : ∃ x : ByteArray, T ++ LB = x := ⟨_, rfl⟩
            have s2 : T2.size = T.size + LB.size := by rw [← t2, ByteArray.size_append]
            have z2 : ¬ (9223372036854775807 < T.size + LB.size) := by omega
            have hT2 : Hid (T2.data.toList ++ linesOf (xs.drop (k + 1)) = TOT) := by show _ = _; rw [← hTo2.out, ← t2, ← hLd]; simp
            have hs2 : T2.size ≤ 2075 * (k + 1) := by omega
            have f0 := KA.out Z bQ 0 (by decide)
            have f1 := KA.out Z bQ 1 (by decide)
            have f2 := KA.out Z bQ 2 (by decide)
            have f3 := KA.out Z bQ 3 (by decide)
            have f4 := KA.out Z bQ 4 (by decide)
            have f5 := KA.out Z bQ 5 (by decide)
            have f6 := KA.out Z bQ 6 (by decide)
            have f7 := KA.out Z bQ 7 (by decide)
            have f8 := KA.out Z bQ 8 (by decide)
            have f9 := KA.out Z bQ 9 (by decide)
            have f10 := KA.out Z bQ 10 (by decide)
            have f11 := KA.out Z bQ 11 (by decide)
            simp only [List.getElem?_cons_zero, List.getElem?_cons_succ, Nat.add_zero] at f0 f1 f2 f3 f4 f5 f6 f7 f8 f9 f10 f11
            have zbZ : b < Z.heap.size := Nat.lt_of_lt_of_le zb bQ.size
            clear eLB hLd hLs s2 hLn hLb hBd2 hTo2 KA
            go_wp2_with (go_at_call 27; refine hL1.mono ?_; rintro e u4 ⟨rfl, bu4⟩)
            go_roundw
            case rel => exact ⟨k + 1, T2, rfl, by go_num, HJ.out, hs2, hbZ.trans (bu4.mono hbZ.size), hT2, hBd3⟩
            case measure => have := HJ.out; simp [intOf]; omega
          · have hF1 : ((F : Int) != 0) = true := by simpa using hF
            have HR3 : Hid ((RT, RP, RE) = (([] : List UInt8), (k : Int), F)) := by show _ = _; rw [HR2.out, hBd2.out, if_neg hF]; rfl
            have hbw3 := (KV.out Z hbZ).2.2.2
            clear hF hTo2 hBd2 HR2 hLn hLb KA
            go_wp2
            refine bodyPost_ret (v := .tuple #[.string ⟨#[]⟩, .int .i64 (k : Int), .int .i64 F]) (by simp [results, Tryd.results10, go_sem]) rfl ?_
            have := HR3.out
            simp only [Prod.mk.injEq] at this
            exact ⟨by rw [this.1, this.2.1, this.2.2], hbw3⟩
        · obtain rfl : k = n := by omega
          have hnl : ¬ ((k : Int) < (k : Int)) := by omega
          have HR3 : Hid ((RT, RP, RE) = (T.data.toList, (0 : Int), (0 : Int))) := by
            show _ = _
            have h8 := hTo.out
            have h9 := hBd.out
            rw [List.drop_of_length_le (by omega)] at h8 h9
            rw [HR2.out, h9, ← h8]
            simp [badAt, linesOf, shPick]
          have hbw := (KV.out wo hbo).2.2.2
          clear hTo hBd HR2
          go_wp2
          refine bodyPost_ret (v := .tuple #[.string T, .int .i64 0, .int .i64 0]) (by simp [results, Tryd.results10, go_sem]) rfl ?_
          have := HR3.out
          simp only [Prod.mk.injEq] at this
          exact ⟨by rw [this.1, this.2.1, this.2.2], hbw⟩
  · have hC1 : ((C : Int) == 0) = false := by simpa using hC
    have hC2 : ((C : Int) != 0) = true := by simpa using hC
    have HR2 : Hid ((RT, RP, RE) = (([] : List UInt8), (0 : Int), C)) := by show _ = _; rw [HR.out, if_pos hC]
    clear HR hC HCZ
    go_wp2
    refine bodyPost_ret (v := .tuple #[.string ⟨#[]⟩, .int .i64 0, .int .i64 C]) (by simp [results, Tryd.results10, go_sem]) rfl ?_
    have := HR2.out
    simp only [Prod.mk.injEq] at this
    exact ⟨by rw [this.1, this.2.1, this.2.2], hbw1⟩
end Go.Proofs.YtlaagfnoepcnlaaDoor.Ln
/- Acts in a row: as elements, and as a row of numbers. -/
namespace Go.Proofs.YtlaagfnoepcnlaaDoor.Ln.Av
open Go.ChangeShapes Go.WideShapes Go.ChangeAt Go.RowKit
open Go.Proofs.YtlaagfnoepcnlaaDoor.St (BoxN boxn_new own_below IsRow Elem flat own_isRow)
set_option linter.unusedVariables false

theorem actInfo : (Tryd.prog.info? 41).map (fun i => (i.zero, i.size, i.bytes)) = some (some (.agg #[.int .i64 0, .int .i64 0, .int .i64 0, .int .i64 0, .int .i64 0, .slice none 0 0, .int .i64 0, .int .i64 0, .int .i64 0, .int .i64 0, .int .i64 0, .string .empty]), 12, 120) := by kernel_rfl
theorem av_len (x : AV) : x.cells.length = 12 := rfl
theorem av_one (y : AV) : ∀ u ∈ y.cells, u.oneCell' = true := by
  intro u hu
  simp only [AV.cells, List.mem_cons, List.not_mem_nil, or_false] at hu
  rcases hu with rfl | rfl | rfl | rfl | rfl | rfl | rfl | rfl | rfl | rfl | rfl | rfl <;> rfl
theorem avElem : ∃ i, Elem 12 AV.cells 41 25 i (.agg #[.int .i64 0, .int .i64 0, .int .i64 0, .int .i64 0, .int .i64 0, .slice none 0 0, .int .i64 0, .int .i64 0, .int .i64 0, .int .i64 0, .int .i64 0, .string .empty]) 120 := by
  obtain ⟨j0, hj, lj0, lj1, lj2⟩ := info_parts actInfo
  exact ⟨j0, av_len, by decide, av_one, Tryd.underlying25, hj, lj0, lj1, lj2, rfl⟩
theorem acts_row {U : World} {a : Option Addr} {n c : Nat} {ys : List AV} (hr : IsRow 12 AV.cells U a n c ys) (hk : ∀ y ∈ ys, IsInts U y.ka y.kl y.kc y.keep) : IsActs U a n c ys := by
  obtain ⟨h1, h2, h3, _, h5⟩ := hr
  refine ⟨h1, h2, h3, fun hp => ?_⟩
  obtain ⟨b, off, e, zb, hc⟩ := h5 hp
  refine ⟨b, off, e, zb, fun i hi => ⟨fun j hj => hc i (by omega) j hj, hk _ ?_⟩⟩
  simp [List.getD, hi]
theorem grownN8 {w w' : World} (h : w.grownBy w' none) : Below w.heap.size w w' := (Below.refl w.heap.size w).grown h (Nat.le_refl _) (fun k hk => by cases hk)
end Go.Proofs.YtlaagfnoepcnlaaDoor.Ln.Av
