/- Texts of this claim, one behind the other. -/
import Derived.Test.YtlaagfnoepcnlaaDoorM14LinesReads
import Derived.Lib.Join
import Derived.Test.YtlaagfnoepcnlaaDoorM2LinesReads
import Derived.Test.YtlaagfnoepcnlaaDoorM11LinesReads
import Derived.Lib.LaidTab
import Derived.LaidLaws
import Derived.Shelf.Vars
import Derived.WalkSmall
import Derived.ShapedOpen
/- lines.Show. -/
namespace Go.Proofs.YtlaagfnoepcnlaaDoor.Ln
open Go.ChangeShapes Go.WideShapes Go.ChangeAt Go.RowKit
open Go.Proofs.YtlaagfnoepcnlaaDoor.St (BoxN boxn_new own_below IsRow Elem flat flat_append own_isRow)
open Go.Proofs.YtlaagfnoepcnlaaDoor.Cn (Bld write_any string_any ObAt)
set_option linter.unusedVariables false

def actLine (v : AV) : List UInt8 := Lib.join ((actW v).map (·.data.toList)) [32] ++ [10]
def badAt (s : Int) (ls : List (Int × Int)) (p : Int) : Nat → List AV → Option (Nat × Int)
  | _, [] => none
  | k, v :: r => if actFault s ls p v = 0 then badAt s ls p (k + 1) r else some (k, actFault s ls p v)
def linesOf : List AV → List UInt8
  | [] => []
  | v :: r => actLine v ++ linesOf r
def shPick (t : List UInt8) : Option (Nat × Int) → List UInt8 × Int × Int
  | some (k, e) => ([], (k : Int), e)
  | none => (t, 0, 0)
def shAll (s : Int) (ls : List (Int × Int)) (p : Int) (xs : List AV) : List UInt8 × Int × Int :=
  if cfgFault s ls p ≠ 0 then ([], 0, cfgFault s ls p) else if 3000 < xs.length then ([], 0, 1) else shPick (linesOf xs) (badAt s ls p 0 xs)
theorem badAt_at {s : Int} {ls : List (Int × Int)} {p : Int} {xs : List AV} {k : Nat} (hk : k < xs.length) : badAt s ls p k (xs.drop k) = if actFault s ls p (xs.getD k default) = 0 then badAt s ls p (k + 1) (xs.drop (k + 1)) else some (k, actFault s ls p (xs.getD k default)) := by
  rw [List.drop_eq_getElem_cons hk, badAt]
  have : xs.getD k default = xs[k] := by simp [List.getD, hk]
  rw [this]
theorem linesOf_at {xs : List AV} {k : Nat} (hk : k < xs.length) : linesOf (xs.drop k) = actLine (xs.getD k default) ++ linesOf (xs.drop (k + 1)) := by
  rw [List.drop_eq_getElem_cons hk, linesOf]
  have : xs.getD k default = xs[k] := by simp [List.getD, hk]
  rw [this]
theorem inR_b {n lo hi : Int} (h : inR n lo hi = true) : lo ≤ n ∧ n ≤ hi := by
  unfold inR at h
  simpa using h
theorem tr9 {b : Bool} (h : ¬ b = false) : b = true := by cases b <;> simp at h ⊢
/-- What an act that may be has. -/
structure ActOK (v : AV) : Prop where
  kind : 1 ≤ v.kind ∧ v.kind ≤ 8
  nums : i64n v.site ∧ i64n v.to ∧ i64n v.label ∧ i64n v.pick
  call : i64n v.c1 ∧ i64n v.c2 ∧ i64n v.c3 ∧ i64n v.c4
  first : v.kind = 1 → 0 ≤ v.c0 ∧ v.c0 < 6
  keep : v.kl ≤ 6 ∧ v.keep.length = v.kl ∧ ∀ z ∈ v.keep, i64n z
  line : v.line.size ≤ 60
theorem act_ok {s : Int} {ls : List (Int × Int)} {p : Int} {v : AV} (hl : ls.length ≤ 6) (hs : s ≤ 4) (hk : v.keep.length = v.kl) (h : actFault s ls p v = 0) : ActOK v := by
  unfold actFault at h
  split at h
  · rename_i h1; exact absurd h h1
  · split at h
    · cases h
    · rename_i hkd
      split at h
      · cases h
      · rename_i hin
        split at h
        · cases h
        · rename_i hon
          have hkd2 := inR_b (tr9 hkd)
          have hin2 := tr9 hin
          unfold actIn keepIn at hin2
          simp only [Bool.and_eq_true, decide_eq_true_eq, List.all_eq_true] at hin2
          obtain ⟨⟨⟨⟨q1, q2⟩, q3⟩, q4⟩, ⟨q5, q6⟩, q7⟩ := hin2
          have r4 := inR_b q4
          have r5 := inR_b q5
          have r6 := inR_b q6
          have r7 : 0 ≤ v.label ∧ v.label < (ls.length : Int) := by unfold plc at q7; simpa using q7
          have hcs : i64n v.c1 ∧ i64n v.c2 ∧ i64n v.c3 ∧ i64n v.c4 ∧ (v.kind = 1 → 0 ≤ v.c0 ∧ v.c0 < 6) := by
            by_cases k1 : v.kind = 1
            · rw [if_pos k1] at h
              unfold callFault at h
              split at h
              · cases h
              · rename_i h0
                split at h
                · cases h
                · rename_i ht
                  have h0' := inR_b (tr9 h0)
                  have ht' := tr9 ht
                  simp only [cTops, inTops, Bool.and_eq_true] at ht'
                  have t1 := inR_b ht'.1
                  have t2 := inR_b ht'.2.1
                  have t3 := inR_b ht'.2.2.1
                  have t4 := inR_b ht'.2.2.2.1
                  unfold i64n
                  omega
            · have hon2 := tr9 hon
              obtain ⟨kk, hkk⟩ : ∃ kk : Nat, v.kind = kk := ⟨v.kind.toNat, by omega⟩
              rw [hkk, Int.toNat_natCast, aHas_seven kk (by omega)] at hon2
              simp only [aParts, only, Bool.and_eq_true, Bool.or_eq_true] at hon2
              have h5 := hon2.2.2.2.2.2.1
              rw [aHas_call kk (by omega)] at h5
              have h6 : one (nz v.c0 v.c1 v.c2 v.c3 v.c4) = 0 := by
                rcases h5 with h5 | h5
                · have := of_decide_eq_true h5; omega
                · simpa using h5
              unfold one nz at h6
              split at h6
              · cases h6
              · rename_i h7
                simp only [Bool.not_eq_true, Bool.not_eq_false', Bool.and_eq_true, beq_iff_eq] at h7
                unfold i64n
                omega
          exact ⟨hkd2, by unfold i64n; omega, ⟨hcs.1, hcs.2.1, hcs.2.2.1, hcs.2.2.2.1⟩, hcs.2.2.2.2, ⟨by omega, hk, fun z hz => by have := inR_b (q2 z hz); unfold i64n; omega⟩, q3⟩
theorem wNum_size {n : Int} (h : i64n n) : (wNum n).size ≤ 121 := by
  show (Lib.itoa n).toArray.size ≤ 121
  rw [List.size_toArray]
  have := Lib.itoa_length_le n h.1 h.2
  omega
theorem numsW_all {P : ByteArray → Prop} : ∀ (hs : List Bool) (ps : List Int), (∀ z ∈ ps, P (wNum z)) → ∀ x ∈ numsW hs ps, P x
  | [], ps, _, x, hx => by simp [numsW] at hx
  | _ :: _, [], _, x, hx => by simp [numsW] at hx
  | h :: hs, p :: ps, hp, x, hx => by
    simp only [numsW, List.mem_append] at hx
    rcases hx with hx | hx
    · split at hx
      · simp only [List.mem_singleton] at hx
        rw [hx]
        exact hp p (by simp)
      · simp at hx
    · exact numsW_all hs ps (fun z hz => hp z (by simp [hz])) x hx
theorem actW_bd {v : AV} (h : ActOK v) : (∀ x ∈ actW v, x.size ≤ 121) ∧ (actW v).length ≤ 17 := by
  constructor
  · intro x hx
    unfold actW at hx
    simp only [List.mem_append] at hx
    rcases hx with ((hx | hx) | hx) | hx
    · rcases hx with hx | hx
      · simp only [List.mem_singleton] at hx
        subst hx
        unfold aWord
        split <;> decide
      · exact numsW_all (P := fun x => x.size ≤ 121) _ _ (fun z hz => by
          simp only [List.mem_cons, List.not_mem_nil, or_false] at hz
          rcases hz with rfl | rfl | rfl | rfl
          · exact wNum_size h.nums.1
          · exact wNum_size h.nums.2.1
          · exact wNum_size h.nums.2.2.1
          · exact wNum_size h.nums.2.2.2) x hx
    · obtain ⟨z, hz, rfl⟩ := List.mem_map.1 hx
      exact wNum_size (h.keep.2.2 z hz)
    · split at hx
      · simp only [callW, List.mem_cons] at hx
        rcases hx with rfl | hx
        · unfold cWord
          split <;> decide
        · exact numsW_all (P := fun x => x.size ≤ 121) _ _ (fun z hz => by
            simp only [List.mem_cons, List.not_mem_nil, or_false] at hz
            rcases hz with rfl | rfl | rfl | rfl
            · exact wNum_size h.call.1
            · exact wNum_size h.call.2.1
            · exact wNum_size h.call.2.2.1
            · exact wNum_size h.call.2.2.2) x hx
      · simp at hx
    · split at hx
      · simp only [List.mem_singleton] at hx
        subst hx
        show (txtL v.line.data.toList).toArray.size ≤ 121
        rw [List.size_toArray, txtL, List.length_cons, hexes_len]
        have e : v.line.data.toList.length = v.line.size := rfl
        have := h.line
        omega
      · simp at hx
  · unfold actW
    have h1 := numsW_len ((aHas.getD v.kind.toNat []).take 4) [v.site, v.to, v.label, v.pick]
    have h2 := numsW_len (cHas.getD v.c0.toNat []) [v.c1, v.c2, v.c3, v.c4]
    have h3 := h.keep.1
    have h4 := h.keep.2.1
    simp only [List.length_append, List.length_cons, List.length_nil, List.length_map] at h1 h2 ⊢
    split <;> split <;> simp only [callW, List.length_cons, List.length_nil] <;> omega
theorem lens_le9 (m : Nat) : ∀ (l : List (List UInt8)), (∀ x ∈ l, x.length ≤ m) → Lib.lens l ≤ m * l.length := by
  intro l
  induction l with
  | nil => intro _; simp [Lib.lens]
  | cons x r ih =>
    intro h
    have h1 := h x (by simp)
    have h2 := ih (fun y hy => h y (by simp [hy]))
    simp only [Lib.lens, List.map_cons, List.sum_cons, List.length_cons] at *
    rw [Nat.mul_add]
    omega
theorem actLine_bd {v : AV} (h : ActOK v) : (Lib.join ((actW v).map (·.data.toList)) [32]).length ≤ 2074 := by
  obtain ⟨h1, h2⟩ := actW_bd h
  cases e : (actW v).map (·.data.toList) with
  | nil => simp [Lib.join]
  | cons a r =>
    have h3 := lens_le9 121 ((actW v).map (·.data.toList)) (fun x hx => by obtain ⟨y, hy, rfl⟩ := List.mem_map.1 hx; exact h1 y hy)
    have hl : ((actW v).map (·.data.toList)).length ≤ 17 := by simpa using h2
    rw [e] at h3 hl
    rw [Lib.join_length]
    simp only [List.length_cons, List.length_nil] at *
    simp only [Lib.lens, List.map_cons] at *
    have : 121 * (r.length + 1) ≤ 121 * 17 := Nat.mul_le_mul_left _ hl
    omega
end Go.Proofs.YtlaagfnoepcnlaaDoor.Ln
/- lines.Show: the walk. -/
namespace Go.Proofs.YtlaagfnoepcnlaaDoor.Ln
open Go.ChangeShapes Go.WideShapes Go.ChangeAt Go.RowKit
open Go.Proofs.YtlaagfnoepcnlaaDoor.St (BoxN boxn_new own_below IsRow Elem flat flat_append own_isRow)
open Go.Proofs.YtlaagfnoepcnlaaDoor.Cn (Bld write_any string_any ObAt)
set_option linter.unusedVariables false

/-- The tables that lines lays, and the one of powers, as they lie in every later world. -/
def LnT (U : World) : Prop := Lib.TabIs Tryd.prog U "internal/strconv.uint64pow10" .u64 Lib.pow10Tab ∧ Tab U 0 7 aHas ∧ WTab U 1 9 aWord ∧ Tab U 2 4 cHas ∧ WTab U 4 6 cWord ∧ CTops U
set_option maxRecDepth 100000 in
set_option maxHeartbeats 8000000 in
theorem show_any (s p : Int) (a : Option Addr) (len cap : Nat) (ls : List (Int × Int)) (xa : Option Addr) (n xc : Nat) (xs : List AV) (w : World) (hl : IsLabs w a len cap ls) (hx : IsActs w xa n xc xs)
    (hT : ∀ U, Below w.heap.size w U → LnT U) :
    Calls Tryd.prog 9 #[.agg #[.int .i64 s, .slice a len cap, .int .i64 p], .slice xa n xc] w fun e w' => e = .returned (.tuple #[.string ⟨(shAll s ls p xs).1.toArray⟩, .int .i64 (shAll s ls p xs).2.1, .int .i64 (shAll s ls p xs).2.2]) ∧ Below w.heap.size w w' := by
  have hlen := hl.1
  have hxl := hx.1
  obtain ⟨RT, eRT⟩ : ∃ x, x = (shAll s ls p xs).1 := ⟨_, rfl⟩
  obtain ⟨RP, eRP⟩ : ∃ x, x = (shAll s ls p xs).2.1 := ⟨_, rfl⟩
  obtain ⟨RE, eRE⟩ : ∃ x, x = (shAll s ls p xs).2.2 := ⟨_, rfl⟩
  have HR : Hid ((RT, RP, RE) = if cfgFault s ls p ≠ 0 then ([], 0, cfgFault s ls p) else if 3000 < n then ([], 0, 1) else shPick (linesOf (xs.drop 0)) (badAt s ls p 0 (xs.drop 0))) := by
    show _ = _
    rw [eRT, eRP, eRE, ← hxl]
    rfl
  rw [← eRT, ← eRP, ← eRE]
  clear eRT eRP eRE
  have HCZ : Hid (cfgFault s ls p = 0 → s ≤ 4 ∧ ls.length ≤ 6) := fun h => by have := cfg_zero h; omega
  obtain ⟨W, hW⟩ : ∃ W : World, W = w.alloc (.cells #[.int .i64 s, .slice a len cap, .int .i64 p] 24) := ⟨_, rfl⟩
  have oC : ObAt W w.heap.size #[.int .i64 s, .slice a len cap, .int .i64 p] 24 := by rw [hW]; exact ObAt.new w _ _
  have bW : Below w.heap.size w W := by rw [hW]; exact (Below.refl _ _).alloc (Nat.le_refl _) _
  have hCh := check_any s p a len cap ls W (hl.below bW)
  have KV : Hid (∀ U, Below W.heap.size W U → ObAt U w.heap.size #[.int .i64 s, .slice a len cap, .int .i64 p] 24 ∧ IsLabs U a len cap ls ∧ IsActs U xa n xc xs ∧ Below w.heap.size w U ∧ LnT U) := fun U hU => by
    have h9 := bW.trans (hU.mono bW.size)
    exact ⟨oC.below hU, (hl.below bW).below hU, (hx.below bW).below hU, h9, hT U h9⟩
  have HTT : Hid (∀ U, Below W.heap.size W U → ∀ Z, Below U.heap.size U Z → LnT Z) := fun U hU Z hZ => hT Z ((KV.out U hU).2.2.2.1.trans (hZ.mono (KV.out U hU).2.2.2.1.size))
  have c0 : W.cell? ⟨w.heap.size, 0, none⟩ = some (.int .i64 s) := oC.cell 0
  have c1 : W.cell? ⟨w.heap.size, 1, none⟩ = some (.slice a len cap) := oC.cell 1
  have c2 : W.cell? ⟨w.heap.size, 2, none⟩ = some (.int .i64 p) := oC.cell 2
  have zc := oC.lt
  obtain ⟨C, eC⟩ : ∃ x, x = cfgFault s ls p := ⟨_, rfl⟩
  rw [← eC] at HR hCh HCZ
  clear eC hl hx hT oC
  go_enter Tryd.func9, Tryd.ntmps9
  go_upto_region 1 with (fail)
  rw [← hW]
  clear hW
  go_upto_region 2 with (go_at_call 19; refine hCh.mono ?_; rintro e u1 ⟨rfl, hb1⟩)
  clear c0 c1 c2 zc hCh bW
  by_cases hC : C = 0
  · subst hC
    obtain ⟨hs4, hl6⟩ := HCZ.out rfl
    clear HCZ
    by_cases hn : 3000 < n
    · have hn' : (3000 : Int) < (n : Int) := by omega
      have HR2 : Hid ((RT, RP, RE) = (([] : List UInt8), (0 : Int), (1 : Int))) := by show _ = _; rw [HR.out, if_neg (by simp), if_pos hn]
      have hbw := (KV.out u1 hb1).2.2.2.1
      clear HR
      go_wp2
      refine bodyPost_ret (v := .tuple #[.string ⟨#[]⟩, .int .i64 0, .int .i64 1]) (by simp [results, Tryd.results9, go_sem]) rfl ?_
      have := HR2.out
      simp only [Prod.mk.injEq] at this
      exact ⟨by rw [this.1, this.2.1, this.2.2], hbw⟩
    · have hn' : ¬ (3000 : Int) < (n : Int) := by omega
      obtain ⟨BAD, eBAD⟩ : ∃ x, x = badAt s ls p 0 (xs.drop 0) := ⟨_, rfl⟩
      obtain ⟨TOT, eTOT⟩ : ∃ x, x = linesOf (xs.drop 0) := ⟨_, rfl⟩
      have HBd0 : Hid (BAD = badAt s ls p 0 (xs.drop 0)) := eBAD
      have HTo0 : Hid ([] ++ linesOf (xs.drop 0) = TOT) := eTOT.symm
      rw [← eBAD, ← eTOT] at HR
      have HR2 : Hid ((RT, RP, RE) = shPick TOT BAD) := by show _ = _; rw [HR.out, if_neg (by simp), if_neg hn]
      clear eBAD eTOT HR
      obtain ⟨V, eV⟩ : ∃ V : World, V = u1.alloc (.cells #[.pointer none, .slice none 0 0] 54) := ⟨_, rfl⟩
      have hB0 : Bld u1.heap.size u1.heap.size [] V := by rw [eV]; exact Bld.new u1 u1.heap.size (Nat.le_refl _)
      have bV : Below u1.heap.size u1 V := by rw [eV]; exact (Below.refl _ _).alloc (Nat.le_refl _) _
      have zV : u1.heap.size < V.heap.size := by rw [eV]; simp
      obtain ⟨q, eq⟩ : ∃ q, q = u1.heap.size := ⟨_, rfl⟩
      have KQ : Hid (∀ U, Below q V U → Below W.heap.size W U ∧ q < U.heap.size) := fun U hU => by
        rw [eq] at hU
        exact ⟨(hb1.trans ((bV.trans hU).mono hb1.size)), by rw [eq]; exact Nat.lt_of_lt_of_le zV hU.size⟩
      go_upto_region 7 with (fail)
      rw [← eV, ← eq]
      rw [← eq] at hB0
      clear eV eq bV zV hb1
      have bV0 : Below q V V := Below.refl _ _
      go_wp2
      go_loopw [22] (fun s22 wr => ∃ (k : Nat) (l : List UInt8), s22 = .int .i64 (k : Int) ∧ k ≤ n ∧ l.length ≤ 2075 * k ∧ Bld q q l wr ∧ Below q V wr ∧ Hid (l ++ linesOf (xs.drop k) = TOT) ∧ Hid (BAD = badAt s ls p k (xs.drop k))) (fun s22 _ => n - (intOf s22).toNat)
      case atStart => exact ⟨0, [], rfl, by omega, by simp, hB0, bV0, HTo0, HBd0⟩
      case round =>
        clear hB0 bV0 HTo0 HBd0
        obtain ⟨k, l, rfl, hk, hll, hBl, hbq, hTo, hBd⟩ := hrel
        obtain ⟨wo, ewo⟩ : ∃ X : World, X = wr := ⟨_, rfl⟩
        subst ewo
        obtain ⟨hbWo, zq⟩ := KQ.out wo hbq
        by_cases hlt : k < n
        · have hlt' : (k : Int) < (n : Int) := by omega
          have HJ : Hid (k + 1 ≤ n) := hlt
          obtain ⟨-, -, hxo, hbw, -⟩ := KV.out wo hbWo
          obtain ⟨b, off, rfl, zb, hat⟩ := hxo.2.2.2 (by omega)
          obtain ⟨hcl, hki⟩ := hat k (by omega)
          have hTo2 : Hid (l ++ (actLine (xs.getD k default) ++ linesOf (xs.drop (k + 1))) = TOT) := by show _ = _; rw [← linesOf_at (by omega)]; exact hTo.out
          have hBd2 : Hid (BAD = if actFault s ls p (xs.getD k default) = 0 then badAt s ls p (k + 1) (xs.drop (k + 1)) else some (k, actFault s ls p (xs.getD k default))) := by show _ = _; rw [← badAt_at (by omega)]; exact hBd.out
          obtain ⟨v, ev⟩ : ∃ v, v = xs.getD k default := ⟨_, rfl⟩
          rw [← ev] at hcl hki hTo2 hBd2
          clear ev hTo hBd hxo hat
          have hOk : actFault s ls p v = 0 → ActOK v := act_ok hl6 hs4 hki.1
          obtain ⟨F, eF⟩ : ∃ x, x = actFault s ls p v := ⟨_, rfl⟩
          have hCk : ∀ U, Below wo.heap.size wo U → Calls Tryd.prog 20 #[.agg #[.int .i64 s, .slice a len cap, .int .i64 p], .agg v.cells.toArray] U fun e w' => e = .returned (.int .i64 F) ∧ Below U.heap.size U w' := fun U hU => by
            obtain ⟨-, g1, -, -, t⟩ := KV.out U (hbWo.trans (hU.mono hbWo.size))
            rw [eF]
            exact check_act s p a len cap ls v U g1 (hki.below hU) t.2.1 t.2.2.2.1 t.2.2.2.2.2
          rw [← eF] at hBd2 hOk
          clear eF
          have e0 := hcl 0 (by decide)
          have e1 := hcl 1 (by decide)
          have e2 := hcl 2 (by decide)
          have e3 := hcl 3 (by decide)
          have e4 := hcl 4 (by decide)
          have e5 := hcl 5 (by decide)
          have e6 := hcl 6 (by decide)
          have e7 := hcl 7 (by decide)
          have e8 := hcl 8 (by decide)
          have e9 := hcl 9 (by decide)
          have e10 := hcl 10 (by decide)
          have e11 := hcl 11 (by decide)
          obtain ⟨kind, site, to1, label, pick, ka, kl, kc, d0, d1, d2, d3, d4, line, keep⟩ := v
          simp only [AV.cells, List.getElem?_cons_zero, List.getElem?_cons_succ, Nat.add_zero] at e0 e1 e2 e3 e4 e5 e6 e7 e8 e9 e10 e11 hCk
          simp only [] at hki
          clear hcl
          obtain ⟨Y, eY⟩ : ∃ Y : World, Y = wo.alloc (.cells #[.int .i64 kind, .int .i64 site, .int .i64 to1, .int .i64 label, .int .i64 pick, .slice ka kl kc, .int .i64 d0, .int .i64 d1, .int .i64 d2, .int .i64 d3, .int .i64 d4, .string line] 41) := ⟨_, rfl⟩
          have bY : Below wo.heap.size wo Y := by rw [eY]; exact (Below.refl _ _).alloc (Nat.le_refl _) _
          have oA : ObAt Y wo.heap.size #[.int .i64 kind, .int .i64 site, .int .i64 to1, .int .i64 label, .int .i64 pick, .slice ka kl kc, .int .i64 d0, .int .i64 d1, .int .i64 d2, .int .i64 d3, .int .i64 d4, .string line] 41 := by rw [eY]; exact ObAt.new wo _ _
          go_upto_region 10 with (fail)
          rw [← eY]
          clear eY e0 e1 e2 e3 e4 e5 e6 e7 e8 e9 e10 e11
          have bYq : Below q V Y := hbq.trans (bY.mono (by omega))
          obtain ⟨hbWY, -⟩ := KQ.out Y bYq
          obtain ⟨oCY, -, -, -, -⟩ := KV.out Y hbWY
          have c0 : Y.cell? ⟨w.heap.size, 0, none⟩ = some (.int .i64 s) := oCY.cell 0
          have c1 : Y.cell? ⟨w.heap.size, 1, none⟩ = some (.slice a len cap) := oCY.cell 1
          have c2 : Y.cell? ⟨w.heap.size, 2, none⟩ = some (.int .i64 p) := oCY.cell 2
          have zc := oCY.lt
          have x0 : Y.cell? ⟨wo.heap.size, 0, none⟩ = some (.int .i64 kind) := oA.cell 0
          have x1 : Y.cell? ⟨wo.heap.size, 1, none⟩ = some (.int .i64 site) := oA.cell 1
          have x2 : Y.cell? ⟨wo.heap.size, 2, none⟩ = some (.int .i64 to1) := oA.cell 2
          have x3 : Y.cell? ⟨wo.heap.size, 3, none⟩ = some (.int .i64 label) := oA.cell 3
          have x4 : Y.cell? ⟨wo.heap.size, 4, none⟩ = some (.int .i64 pick) := oA.cell 4
          have x5 : Y.cell? ⟨wo.heap.size, 5, none⟩ = some (.slice ka kl kc) := oA.cell 5
          have x6 : Y.cell? ⟨wo.heap.size, 6, none⟩ = some (.int .i64 d0) := oA.cell 6
          have x7 : Y.cell? ⟨wo.heap.size, 7, none⟩ = some (.int .i64 d1) := oA.cell 7
          have x8 : Y.cell? ⟨wo.heap.size, 8, none⟩ = some (.int .i64 d2) := oA.cell 8
          have x9 : Y.cell? ⟨wo.heap.size, 9, none⟩ = some (.int .i64 d3) := oA.cell 9
          have x10 : Y.cell? ⟨wo.heap.size, 10, none⟩ = some (.int .i64 d4) := oA.cell 10
          have x11 : Y.cell? ⟨wo.heap.size, 11, none⟩ = some (.string line) := oA.cell 11
          have zx := oA.lt
          have hC1 := hCk Y bY
          clear hCk oCY
          go_upto_region 11 with (go_at_call 20; refine hC1.mono ?_; rintro e u3 ⟨rfl, bu3⟩)
          clear hC1 c0 c1 c2 zc x0 x1 x2 x3 x4 x5 x6 x7 x8 x9 x10 x11 zx
          have oA3 := oA.below bu3
          have b3q : Below q V u3 := bYq.trans (bu3.mono (by have := bYq.size; have := (KQ.out Y bYq).2; omega))
          clear oA
          by_cases hF : F = 0
          · subst hF
            have hA := hOk rfl
            have hTo3 : Hid (l ++ Lib.join ((actW ⟨kind, site, to1, label, pick, ka, kl, kc, d0, d1, d2, d3, d4, line, keep⟩).map (·.data.toList)) [32] ++ [10] ++ linesOf (xs.drop (k + 1)) = TOT) := by show _ = _; rw [← hTo2.out, actLine]; simp only [List.append_assoc]
            have hBd3 : Hid (BAD = badAt s ls p (k + 1) (xs.drop (k + 1))) := by show _ = _; rw [hBd2.out, if_pos rfl]
            have hJl := actLine_bd hA
            have hWl : 0 < (actW ⟨kind, site, to1, label, pick, ka, kl, kc, d0, d1, d2, d3, d4, line, keep⟩).length := by simp [actW]
            have hWb := (actW_bd hA).2
            obtain ⟨kd, rfl⟩ : ∃ n : Nat, kind = n := ⟨kind.toNat, by have := hA.kind.1; simp only [] at this; omega⟩
            have k9 : kd < 9 := by have := hA.kind.2; simp only [] at this; omega
            obtain ⟨hbW3, z3⟩ := KQ.out u3 b3q
            obtain ⟨-, -, -, hbw3, t3⟩ := KV.out u3 hbW3
            have hAW := actAsWords_any kd site to1 label pick ka kl kc d0 d1 d2 d3 d4 line keep u3 k9 (hki.below (bY.trans (bu3.mono bY.size))) hA.keep.1 (by have := hA.line; simp only [] at this; omega) hA.nums hA.call (fun h => hA.first (by subst h; rfl)) (fun Z hZ => (HTT.out u3 hbW3 Z hZ).1) t3.2.1 t3.2.2.1 t3.2.2.2.1 t3.2.2.2.2.1
            obtain ⟨WS, eWS⟩ : ∃ x, x = actW ⟨(kd : Int), site, to1, label, pick, ka, kl, kc, d0, d1, d2, d3, d4, line, keep⟩ := ⟨_, rfl⟩
            rw [← eWS] at hAW hTo3 hJl hWl hWb
            clear eWS hA hOk hTo2 hBd2 hki
            have HJn : Hid (∀ U a n c, IsRow 1 stC U a n c WS → Calls Tryd.prog 22 #[.slice a n c, .string ⟨#[32]⟩] U fun e w' => e = .returned (.string ⟨(Lib.join (WS.map (·.data.toList)) [32]).toArray⟩) ∧ Below U.heap.size U w') := fun U a n c hr => by
              obtain ⟨g1, g2, g3, g4, g5⟩ := hr
              subst g1
              obtain ⟨bk, of, rfl, hbk, hcl⟩ := g5 hWl
              exact Tryd.strings_Join bk of c WS ⟨#[32]⟩ U (fun j x hx => by
                have hj := (List.getElem?_eq_some_iff.1 hx).1
                have := hcl j hj 0 (by decide)
                rw [Nat.mul_one, Nat.add_zero] at this
                rw [this]
                have hx2 : WS.getD j default = x := by rw [List.getD, hx]; rfl
                rw [hx2]
                rfl) hbk (by omega) g2 (by show (Lib.join _ [32]).length ≤ _; omega)
            obtain ⟨JB, eJB⟩ : ∃ x : ByteArray, x = ⟨(Lib.join (WS.map (·.data.toList)) [32]).toArray⟩ := ⟨_, rfl⟩
            have hJd : JB.data.toList = Lib.join (WS.map (·.data.toList)) [32] := by rw [eJB]
            rw [← hJd] at hTo3 hJl
            rw [← eJB] at HJn
            have hJs : JB.data.toList.length = JB.size := rfl
            have HWr : Hid (∀ (U : World) (m : List UInt8) (sx : ByteArray), Bld q q m U → Below q V U → m.length + sx.size ≤ 140737488355328 → Calls Tryd.prog 21 #[.pointer (some ⟨q, 0, none⟩), .string sx] U fun e w' => e = .returned (.tuple #[.int .i64 sx.size, .nilIface]) ∧ Bld q q (m ++ sx.data.toList) w' ∧ Below q V w') := fun U m sx h1 h2 h3 => by
              have zU := (KQ.out U h2).2
              refine (write_any q q m sx U h1 h3 (by omega)).mono ?_
              rintro e w' ⟨rfl, g1, g2, g3⟩
              exact ⟨rfl, g1, h2.trans g2⟩
            have x0 : u3.cell? ⟨wo.heap.size, 0, none⟩ = some (.int .i64 (kd : Int)) := oA3.cell 0
            have x1 : u3.cell? ⟨wo.heap.size, 1, none⟩ = some (.int .i64 site) := oA3.cell 1
            have x2 : u3.cell? ⟨wo.heap.size, 2, none⟩ = some (.int .i64 to1) := oA3.cell 2
            have x3 : u3.cell? ⟨wo.heap.size, 3, none⟩ = some (.int .i64 label) := oA3.cell 3
            have x4 : u3.cell? ⟨wo.heap.size, 4, none⟩ = some (.int .i64 pick) := oA3.cell 4
            have x5 : u3.cell? ⟨wo.heap.size, 5, none⟩ = some (.slice ka kl kc) := oA3.cell 5
            have x6 : u3.cell? ⟨wo.heap.size, 6, none⟩ = some (.int .i64 d0) := oA3.cell 6
            have x7 : u3.cell? ⟨wo.heap.size, 7, none⟩ = some (.int .i64 d1) := oA3.cell 7
            have x8 : u3.cell? ⟨wo.heap.size, 8, none⟩ = some (.int .i64 d2) := oA3.cell 8
            have x9 : u3.cell? ⟨wo.heap.size, 9, none⟩ = some (.int .i64 d3) := oA3.cell 9
            have x10 : u3.cell? ⟨wo.heap.size, 10, none⟩ = some (.int .i64 d4) := oA3.cell 10
            have x11 : u3.cell? ⟨wo.heap.size, 11, none⟩ = some (.string line) := oA3.cell 11
            have zx := oA3.lt
            have hB3 := (hBl.below bY).below bu3
            have hl1 : l.length + JB.size ≤ 140737488355328 := by omega
            have hl2 : (l ++ JB.data.toList).length + 1 ≤ 140737488355328 := by rw [List.length_append]; omega
            have hl3 : (l ++ JB.data.toList ++ [10]).length ≤ 2075 * (k + 1) := by simp only [List.length_append, List.length_cons, List.length_nil]; omega
            clear oA3 eJB hJd hJs hJl hWl hWb hBl hll
            go_upto_region 14 with (first | (go_at_call 23; refine hAW.mono ?_; rintro e u4 ⟨a4, n4, c4, rfl, hrow, bu4⟩; have hJ := HJn.out u4 a4 n4 c4 hrow) | (go_at_call 22; refine hJ.mono ?_; rintro e u5 ⟨rfl, bu5⟩; have hW1 := HWr.out u5 l JB ((hB3.below bu4).below bu5) ((b3q.trans (bu4.mono (by omega))).trans (bu5.mono (by have := bu4.size; omega))) hl1) | (go_at_call 21; refine hW1.mono ?_; rintro e u6 ⟨rfl, hB6, b6⟩))
            have hW2 := HWr.out u6 (l ++ JB.data.toList) ⟨#[10]⟩ hB6 b6 hl2
            clear x0 x1 x2 x3 x4 x5 x6 x7 x8 x9 x10 x11 zx hW1 hJ hAW HJn HWr
            go_wp2_with (go_at_call 21; refine hW2.mono ?_; rintro e u7 ⟨rfl, hB7, b7⟩)
            go_roundw
            case rel => exact ⟨k + 1, l ++ JB.data.toList ++ [10], by go_num, HJ.out, hl3, hB7, b7, hTo3, hBd3⟩
            case measure => have := HJ.out; simp [intOf]; omega
          · have hF1 : ((F : Int) != 0) = true := by simpa using hF
            have HR3 : Hid ((RT, RP, RE) = (([] : List UInt8), (k : Int), F)) := by show _ = _; rw [HR2.out, hBd2.out, if_neg hF]; rfl
            obtain ⟨hbW3, z3⟩ := KQ.out u3 b3q
            obtain ⟨-, -, -, hbw3, -⟩ := KV.out u3 hbW3
            clear hF hOk hTo2 hBd2 HR2
            go_wp2
            refine bodyPost_ret (v := .tuple #[.string ⟨#[]⟩, .int .i64 (k : Int), .int .i64 F]) (by simp [results, Tryd.results9, go_sem]) rfl ?_
            have := HR3.out
            simp only [Prod.mk.injEq] at this
            exact ⟨by rw [this.1, this.2.1, this.2.2], hbw3⟩
        · obtain rfl : k = n := by omega
          have hnl : ¬ ((k : Int) < (k : Int)) := by omega
          have HR3 : Hid ((RT, RP, RE) = (l, (0 : Int), (0 : Int))) := by
            show _ = _
            have h8 := hTo.out
            have h9 := hBd.out
            rw [List.drop_of_length_le (by omega)] at h8 h9
            rw [HR2.out, h9, ← h8]
            simp [badAt, linesOf, shPick]
          have hSt := string_any q q l wo hBl (by omega)
          have hbw := (KV.out wo hbWo).2.2.2.1
          clear hTo hBd HR2
          go_wp2_with (go_at_call 24; refine hSt.mono ?_; rintro e u4 ⟨rfl, -, bu4, -⟩)
          refine bodyPost_ret (v := .tuple #[.string ⟨l.toArray⟩, .int .i64 0, .int .i64 0]) (by simp [results, Tryd.results9, go_sem]) rfl ?_
          have := HR3.out
          simp only [Prod.mk.injEq] at this
          have hb4 := (KV.out u4 (KQ.out u4 (hbq.trans bu4)).1).2.2.2.1
          exact ⟨by rw [this.1, this.2.1, this.2.2], hb4⟩
  · have hC1 : ((C : Int) != 0) = true := by simpa using hC
    have HR2 : Hid ((RT, RP, RE) = (([] : List UInt8), (0 : Int), C)) := by show _ = _; rw [HR.out, if_pos hC]
    have hbw := (KV.out u1 hb1).2.2.2.1
    clear HR hC HCZ
    go_wp2
    refine bodyPost_ret (v := .tuple #[.string ⟨#[]⟩, .int .i64 0, .int .i64 C]) (by simp [results, Tryd.results9, go_sem]) rfl ?_
    have := HR2.out
    simp only [Prod.mk.injEq] at this
    exact ⟨by rw [this.1, this.2.1, this.2.2], hbw⟩
end Go.Proofs.YtlaagfnoepcnlaaDoor.Ln
/- The tables of words that package lines lays; all tables in every later world. -/
namespace Go.Proofs.YtlaagfnoepcnlaaDoor.Ln
set_option maxRecDepth 10000
open Go.ChangeShapes Go.WideShapes Go.ChangeAt Go.RowKit Go.Joins Go.Deep

def wTab {H : Type} (ws : List (List UInt8)) : DataW H := .agg (ws.map fun s => .lit (.string s))
section
variable {H : Type} {enc : TypeId × Value → H} {W : World} {base : Nat} {sp : Nat → Bool} {held : Bool}
theorem c1s : Tryd.prog.cellsOf 9 = 1 := by kernel_rfl
theorem words_of {fuel N : Nat} {tr : TypeId} {cs : List Value} {ws : List (List UInt8)} {p : List MemPlace} (hr : Tryd.prog.underlying tr = some (.array N 9)) (hb : ws.length = N) (h : DataW.trod enc Tryd.prog W base sp held fuel tr cs = some (wTab ws, p)) (j : Nat) (hj : j < N) : cs[j]? = some (.string ⟨(ws.getD j []).toArray⟩) := by
  obtain ⟨xs, m, rfl, hx, hl, hn, hel⟩ := DataW.trod_array hr h
  have hxs : xs.map (·.1) = ws.map fun b => (DataW.lit (.string b) : DataW H) := by
    have := congrArg Prod.fst hx
    simpa [wTab] using this.symm
  have h1 := hel j hj
  rw [c1s, List.getElem?_eq_getElem (by omega)] at h1
  obtain ⟨b, hc, hx1, _⟩ := DataW.trod_string Tryd.underlying9 h1
  have e1 : cs[j]? = some (.string b) := by
    have := congrArg (·[0]?) hc
    simpa [List.getElem?_take, List.getElem?_drop] using this
  have e2 : (xs.map (·.1))[j]? = some (DataW.lit (.string b.data.toList) : DataW H) := by
    rw [List.getElem?_map, List.getElem?_eq_getElem (by omega), hx1]; rfl
  rw [hxs] at e2
  have hjb : j < ws.length := by omega
  simp [hjb] at e2
  rw [e1]
  simp [List.getD, hjb, e2]
theorem wtab_of {fuel n g : Nat} {t : TypeId} {cs : Array Value} {ws : List (List UInt8)} {p : List MemPlace} {name : String} {f : Nat → ByteArray} (hg : Tryd.prog.globalNamed name = some g) (hv : W.var? Tryd.prog name = some cs) (ht : Tryd.prog.underlying t = some (.array n 9)) (hn : ws.length = n) (h0 : 0 < n) (hf : ∀ i, i < n → (⟨(ws.getD i []).toArray⟩ : ByteArray) = f i)
    (h : DataW.trod enc Tryd.prog W base sp held fuel t cs.toList = some (wTab ws, p)) : WTab W g n f := by
  have c : ∀ i, i < n → W.cell? ⟨g, i, none⟩ = some (.string (f i)) := fun i hi => by
    rw [World.var?_cell hg hv, ← Array.getElem?_toList, words_of ht hn h i hi, hf i hi]
  exact ⟨World.block_lt_of_cell? W _ (c 0 h0), c⟩
def awL : List (List UInt8) := [[], [97, 115, 107], [100, 101, 108, 105, 118, 101, 114], [100, 114, 111, 112], [99, 111, 112, 121], [116, 105, 99, 107], [99, 114, 97, 115, 104], [115, 116, 97, 114, 116], [116, 121, 112, 101]]
def cwL : List (List UInt8) := [[], [98, 101, 103, 105, 110], [103, 101, 116], [112, 117, 116], [99, 111, 109, 109, 105, 116], [114, 111, 108, 108, 98, 97, 99, 107]]
theorem awL_is : ∀ i, i < 9 → (⟨(awL.getD i []).toArray⟩ : ByteArray) = aWord i := by
  intro i hi
  rcases (by omega : i = 0 ∨ i = 1 ∨ i = 2 ∨ i = 3 ∨ i = 4 ∨ i = 5 ∨ i = 6 ∨ i = 7 ∨ i = 8) with rfl | rfl | rfl | rfl | rfl | rfl | rfl | rfl | rfl <;> rfl
theorem cwL_is : ∀ i, i < 6 → (⟨(cwL.getD i []).toArray⟩ : ByteArray) = cWord i := by
  intro i hi
  rcases (by omega : i = 0 ∨ i = 1 ∨ i = 2 ∨ i = 3 ∨ i = 4 ∨ i = 5) with rfl | rfl | rfl | rfl | rfl | rfl <;> rfl
end
theorem tab_lt {w : World} {g : Nat} {n : String} {cs : Array Value} (hg : Tryd.prog.globalNamed n = some g) (h : w.var? Tryd.prog n = some cs) : g < w.heap.size := by
  unfold World.var? at h
  rw [hg] at h
  simp only [Option.bind_some] at h
  by_cases hl : g < w.heap.size
  · exact hl
  · rw [Array.getElem?_eq_none (by omega)] at h
    cases h
theorem lnt_all {w : World} (h1 : Lib.TabIs Tryd.prog w "internal/strconv.uint64pow10" .u64 Lib.pow10Tab) (h2 : Tab w 0 7 aHas) (h3 : WTab w 1 9 aWord) (h4 : Tab w 2 4 cHas) (h5 : WTab w 4 6 cWord) (h6 : CTops w) : ∀ U, Below w.heap.size w U → LnT U := fun U hU =>
  ⟨by
    have hg : Tryd.prog.globalNamed "internal/strconv.uint64pow10" = some 6 := by kernel_rfl
    exact var?_below hU hg (tab_lt hg h1) h1, h2.below hU (h2.lt (by decide) (by decide)), h3.below hU h3.1, h4.below hU (h4.lt (by decide) (by decide)), h5.below hU h5.1, Nms.below h6 hU h6.1⟩
end Go.Proofs.YtlaagfnoepcnlaaDoor.Ln
