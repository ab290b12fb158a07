/- Texts of this claim, one behind the other. -/
import Derived.Test.YtgohpgollpjlnaaDoorM26ShowList
import Derived.Test.YtgohpgollpjlnaaDoorM4ShowList
import Derived.Test.YtgohpgollpjlnaaDoorM8ShowList
import Derived.Test.YtgohpgollpjlnaaDoorM9ShowList
/- console's status, notesMayBe, refuse. -/
namespace Go.Proofs.YtgohpgollpjlnaaDoor.Cn
open Go.ChangeShapes Go.WideShapes Go.ChangeAt Go.RowKit
open Go.Proofs.YtgohpgollpjlnaaDoor.St (BoxN boxn_new SV IsStore IsRow DbV storeOK TxWf own_below txOK)
open Go.Proofs.YtgohpgollpjlnaaDoor.Pt (IsStores NV IsNotes)
set_option linter.unusedVariables false

def notesOK (ns : List NV) : Bool := ns.all fun x => txOK (x.site, x.num)
theorem notes_all {ns : List NV} (h : ∀ i, i < ns.length → txOK ((ns.getD i default).site, (ns.getD i default).num) = true) : notesOK ns = true := by
  unfold notesOK
  rw [List.all_eq_true]
  intro x hx
  obtain ⟨i, hi, rfl⟩ := List.getElem_of_mem hx
  have := h i hi
  simpa [List.getD, hi] using this
theorem notes_not {ns : List NV} {i : Nat} (hi : i < ns.length) (h : txOK ((ns.getD i default).site, (ns.getD i default).num) = false) : notesOK ns = false := by
  unfold notesOK
  rw [List.all_eq_false]
  refine ⟨ns.getD i default, ?_, by simpa using h⟩
  rw [List.getD, List.getElem?_eq_getElem hi]
  exact List.getElem_mem _
set_option maxRecDepth 100000 in
set_option maxHeartbeats 2000000 in
theorem notesMay_any (a : Option Addr) (n c : Nat) (ns : List NV) (w : World) (h : IsNotes w a n c ns) :
    Calls Tryd.prog 45 #[.slice a n c] w fun e w' => e = .returned (.bool (notesOK ns)) ∧ Below w.heap.size w w' := by
  have hlen := h.1
  have hmx : n ≤ 9223372036854775807 := by have h8 := h.2.1; have h9 := h.2.2.1; unfold maxLen at h9; omega
  have KN : Hid (∀ U, Below w.heap.size w U → IsNotes U a n c ns) := fun U hU => St.IsRow.below h hU
  have b0 : Below w.heap.size w w := Below.refl _ _
  obtain ⟨R, eR⟩ : ∃ R, R = notesOK ns := ⟨_, rfl⟩
  have HR1 : Hid ((∀ i, i < n → txOK ((ns.getD i default).site, (ns.getD i default).num) = true) → R = true) := fun g => by rw [eR]; exact notes_all (fun i hi => g i (by omega))
  have HR2 : Hid (∀ i, i < n → txOK ((ns.getD i default).site, (ns.getD i default).num) = false → R = false) := fun i hi g => by rw [eR]; exact notes_not (by omega) g
  have H0 : Hid (∀ i, i < 0 → txOK ((ns.getD i default).site, (ns.getD i default).num) = true) := fun i hi => absurd hi (by omega)
  rw [← eR]
  clear eR h
  go_enter Tryd.func45, Tryd.ntmps45
  go_upto_region 2 with (fail)
  go_loopw [7, 4] (fun s7 _ wr => ∃ (k : Nat), s7 = .int .i64 (k : Int) ∧ k ≤ n ∧ Below w.heap.size w wr ∧ Hid (∀ i, i < k → txOK ((ns.getD i default).site, (ns.getD i default).num) = true)) (fun s7 _ _ => n - (intOf s7).toNat)
  case atStart => exact ⟨0, rfl, by omega, b0, H0⟩
  case round =>
    obtain ⟨k, rfl, hk, hbw, hI⟩ := hrel
    clear b0 H0
    by_cases hlt : k < n
    · have hlt' : (k : Int) < (n : Int) := by omega
      have HJ : Hid (k + 1 ≤ n) := hlt
      have hjm : (k : Int) + 1 ≤ 9223372036854775807 := by omega
      obtain ⟨b2, o2, rfl, zb2, hc⟩ := (KN.out wr hbw).2.2.2.2 (by omega)
      have e0 := hc k hlt 0 (by decide)
      have e1 := hc k hlt 1 (by decide)
      have e2 := hc k hlt 2 (by decide)
      have e3 := hc k hlt 3 (by decide)
      have HF := HR2.out k hlt
      have HG : Hid (txOK ((ns.getD k default).site, (ns.getD k default).num) = true → ∀ i, i < k + 1 → txOK ((ns.getD i default).site, (ns.getD i default).num) = true) := fun g i hi => by
        by_cases hik : i < k
        · exact hI.out i hik
        · obtain rfl : i = k := by omega
          exact g
      obtain ⟨d, ed⟩ : ∃ d, d = ns.getD k default := ⟨_, rfl⟩
      rw [← ed] at e0 e1 e2 e3 HF HG
      clear ed hc hI
      obtain ⟨t1, t2, ty, tg⟩ := d
      simp only [NV.cells, List.getElem?_cons_zero, List.getElem?_cons_succ, Nat.add_zero] at e0 e1 e2 e3 HF HG
      go_upto_region 4 with (fail)
      obtain ⟨Y2, eY1⟩ : ∃ X : World, X = wr.alloc (.cells #[.int .i64 t1, .int .i64 t2, .bool ty, .bool tg] 48) := ⟨_, rfl⟩
      have bY1 : Below wr.heap.size wr Y2 := by rw [eY1]; exact (Below.refl _ _).alloc (Nat.le_refl _) _
      have oD3 : ObAt Y2 wr.heap.size #[.int .i64 t1, .int .i64 t2, .bool ty, .bool tg] 48 := by rw [eY1]; exact ObAt.new wr _ _
      rw [← eY1]
      clear eY1 e0 e1 e2 e3
      have bYw : Below w.heap.size w Y2 := hbw.trans (bY1.mono hbw.size)
      have f0 : Y2.cell? ⟨wr.heap.size, 0, none⟩ = some (.int .i64 t1) := oD3.cell 0
      have f1 : Y2.cell? ⟨wr.heap.size, 1, none⟩ = some (.int .i64 t2) := oD3.cell 1
      have zf := oD3.lt
      have hTx := St.txn_any t1 t2 Y2
      clear oD3
      obtain ⟨B, eB⟩ : ∃ B, B = txOK (t1, t2) := ⟨_, rfl⟩
      rw [← eB] at hTx HF HG
      clear eB
      cases B with
      | true =>
        have HG2 := HG.out rfl
        have HG3 : Hid (∀ i, i < k + 1 → txOK ((ns.getD i default).site, (ns.getD i default).num) = true) := HG2
        clear HF HG HG2
        go_wp2_with (go_at_call 85; refine hTx.mono ?_; rintro e U2 ⟨rfl, bU2⟩)
        go_roundw
        case rel => exact ⟨k + 1, by go_num, HJ.out, bYw.trans (bU2.mono bYw.size), HG3⟩
        case measure => have := HJ.out; simp [intOf]; omega
      | false =>
        have HF2 : Hid (R = false) := HF rfl
        clear HF HG
        go_wp2_with (go_at_call 85; refine hTx.mono ?_; rintro e U2 ⟨rfl, bU2⟩)
        go_ret
        exact ⟨ret_bool HF2.out.symm, bYw.trans (bU2.mono bYw.size)⟩
    · obtain rfl : k = n := by omega
      have hnl : ¬ ((k : Int) < (k : Int)) := by omega
      have HT : Hid (R = true) := HR1.out hI.out
      go_wp2
      go_ret
      exact ⟨ret_bool HT.out.symm, hbw⟩
end Go.Proofs.YtgohpgollpjlnaaDoor.Cn
/- What console.Show tells, on plain data. -/
namespace Go.Proofs.YtgohpgollpjlnaaDoor.Cn
open Go.ChangeShapes Go.WideShapes Go.ChangeAt Go.RowKit
open Go.Proofs.YtgohpgollpjlnaaDoor.St (BoxN boxn_new SV IsStore IsRow DbV LkV storeOK TxWf own_below txOK lockOK locksGo locksOK doubtsGo doubtsOK ofT)
open Go.Proofs.YtgohpgollpjlnaaDoor.Pt (IsStores NV IsNotes)
set_option linter.unusedVariables false

theorem inR_bd {n lo hi : Int} (h : inR n lo hi = true) : lo ≤ n ∧ n ≤ hi := by
  unfold inR at h
  simpa using h
theorem tx_i64 {t : Int × Int} (h : txOK t = true) : i64 t.1 ∧ i64 t.2 := by
  unfold txOK at h
  rw [Bool.and_eq_true] at h
  have h1 := inR_bd h.1
  have h2 := inR_bd h.2
  unfold i64
  omega
theorem locks_all : ∀ (l seen : List LkV), locksGo seen l = true → ∀ k ∈ l, lockOK k = true := by
  intro l
  induction l with
  | nil => intro seen _ k hk; cases hk
  | cons x r ih =>
    intro seen h k hk
    rw [locksGo, Bool.and_eq_true, Bool.and_eq_true] at h
    rcases List.mem_cons.1 hk with rfl | hk
    · exact h.1.1
    · exact ih _ h.2 k hk
theorem doubts_all : ∀ (l seen : List DbV) (ls : List LkV) (ov : List (Int × Int)), doubtsGo ls ov seen l = true → ∀ d ∈ l, inR d.age 0 1048576 = true ∧ ls.any (ofT d.t) = true := by
  intro l
  induction l with
  | nil => intro seen ls ov _ k hk; cases hk
  | cons x r ih =>
    intro seen ls ov h k hk
    rw [doubtsGo] at h
    simp only [Bool.and_eq_true] at h
    rcases List.mem_cons.1 hk with rfl | hk
    · exact ⟨h.1.1.1.1, h.1.1.1.2⟩
    · exact ih _ ls ov h.2 k hk
theorem ok_i64 {s : SV} (h : storeOK s = true) : ∀ d ∈ s.doubts, i64 d.t.1 ∧ i64 d.t.2 ∧ i64 d.age := by
  intro d hd
  unfold storeOK at h
  simp only [Bool.and_eq_true] at h
  have h1 := h.2
  unfold doubtsOK at h1
  rw [Bool.and_eq_true] at h1
  obtain ⟨h2, h3⟩ := doubts_all _ _ _ _ h1.1 d hd
  obtain ⟨k, hk, he⟩ := List.any_eq_true.1 h3
  have h4 := h.1.1.2
  unfold locksOK at h4
  rw [Bool.and_eq_true] at h4
  have h5 := locks_all _ _ h4.2 k hk
  unfold lockOK at h5
  simp only [Bool.and_eq_true] at h5
  have h6 := h5.1.1.1.1
  unfold ofT at he
  have he2 : k.t = d.t := by simpa using he
  rw [he2] at h6
  have h7 := tx_i64 h6
  have h8 := inR_bd h2
  refine ⟨h7.1, h7.2, ?_⟩
  unfold i64
  omega
theorem line_size {p t1 t2 : Int} {rest : List ByteArray} (hp : i64 p) (h1 : i64 t1) (h2 : i64 t2) (hr : rest.length ≤ 4) (hz : ∀ x ∈ rest, x.size ≤ 30) : (lineBy p t1 t2 rest).data.toList.length ≤ 218 := by
  have := line_len p t1 t2 rest hp h1 h2 hr hz
  unfold lineBy
  simp only [ByteArray.data_append, Array.toList_append, List.length_append]
  have e : (⟨#[10]⟩ : ByteArray).data.toList.length = 1 := rfl
  rw [e]
  omega
theorem listDb_len {k : Int} {s : SV} (hk : i64 k) : ∀ (ds : List DbV), (∀ d ∈ ds, i64 d.t.1 ∧ i64 d.t.2 ∧ i64 d.age) → (listDb k s ds).length ≤ 218 * ds.length := by
  intro ds
  induction ds with
  | nil => intro _; simp [listDb]
  | cons d r ih =>
    intro h
    have h1 := h d (by simp)
    have h2 := ih (fun x hx => h x (by simp [hx]))
    have h3 : (dbLine k d).length ≤ 218 := line_size hk h1.1 h1.2.1 (by simp) (fun x hx => by simp at hx; subst hx; exact ageB_size h1.2.2)
    rw [listDb, List.length_append, List.length_cons]
    split
    · omega
    · simp only [List.length_nil]; omega
theorem listGo_len {ls : List (Int × Int)} {l : Int} : ∀ (ss : List SV) (k : Nat), k + ss.length ≤ 6 → (∀ s ∈ ss, s.doubts.length ≤ 24 ∧ ∀ d ∈ s.doubts, i64 d.t.1 ∧ i64 d.t.2 ∧ i64 d.age) → (listGo ls l k ss).length ≤ 5232 * ss.length := by
  intro ss
  induction ss with
  | nil => intro k _ _; simp [listGo]
  | cons s r ih =>
    intro k hk h
    have h1 := h s (by simp)
    have h2 := ih (k + 1) (by simp at hk; omega) (fun x hx => h x (by simp [hx]))
    have h3 := listDb_len (k := (k : Int)) (s := s) (by simp at hk; unfold i64; omega) s.doubts h1.2
    rw [listGo, List.length_append, List.length_cons]
    split
    · omega
    · simp only [List.length_nil]; omega
/-- All stores and notes may be. -/
def okAll (ss : List SV) (nl : List NL) (n : Nat) : Prop := ∀ i, i < n → storeOK (ss.getD i default) = true ∧ notesOK (nl.getD i default).ns = true
instance (ss : List SV) (nl : List NL) (n : Nat) : Decidable (okAll ss nl n) := inferInstanceAs (Decidable (∀ i, i < n → _))
/-- Why nothing is told. -/
def shErr (s : Int) (ls : List (Int × Int)) (p l : Int) (ss : List SV) (nl : List NL) : Int :=
  if cfgFault s ls p = 0 then (if inR l 0 ((ls.length : Int) - 1) = true then (if ss.length = ls.length ∧ nl.length = ls.length then (if okAll ss nl ls.length then 0 else 9) else 9) else 6) else cfgFault s ls p
def stText (ls : List (Int × Int)) (l : Int) (ss : List SV) (xl xs xn : Int) : ByteArray := if seesP ls l xl && prepB (ss.getD xl.toNat default) (xs, xn) then ⟨#[112, 114, 101, 112, 97, 114, 101, 100, 10]⟩ else ⟨#[117, 110, 107, 110, 111, 119, 110, 10]⟩
def showTxt (ls : List (Int × Int)) (l : Int) (ss : List SV) (nl : List NL) (x : Cmd) : ByteArray :=
  if x.kind = 1 then ⟨(listGo ls l 0 ss).toArray⟩ else if x.kind = 2 then stText ls l ss x.label x.site x.num else if x.kind = 4 then ⟨(auditGo ls l 0 nl).toArray⟩ else ⟨#[]⟩
def kindErr (k : Int) : Int := if k = 1 ∨ k = 2 ∨ k = 4 then 0 else 3
theorem sh_zero {s : Int} {ls : List (Int × Int)} {p l : Int} {ss : List SV} {nl : List NL} (h : shErr s ls p l ss nl = 0) : cfgFault s ls p = 0 ∧ (0 ≤ l ∧ l < (ls.length : Int)) ∧ ss.length = ls.length ∧ nl.length = ls.length ∧ okAll ss nl ls.length := by
  unfold shErr at h
  split at h
  · rename_i h1
    split at h
    · rename_i h2
      split at h
      · rename_i h3
        split at h
        · rename_i h4
          have := inR_bd h2
          exact ⟨h1, ⟨this.1, by omega⟩, h3.1, h3.2, h4⟩
        · cases h
      · cases h
    · cases h
  · rename_i h1; exact absurd h h1
end Go.Proofs.YtgohpgollpjlnaaDoor.Cn
/- console's status, refuse and Show. -/
namespace Go.Proofs.YtgohpgollpjlnaaDoor.Cn
open Go.ChangeShapes Go.WideShapes Go.ChangeAt Go.RowKit
open Go.Proofs.YtgohpgollpjlnaaDoor.St (BoxN boxn_new SV IsStore IsRow DbV storeOK TxWf own_below txOK)
open Go.Proofs.YtgohpgollpjlnaaDoor.Pt (IsStores NV IsNotes)
set_option linter.unusedVariables false

set_option maxRecDepth 100000 in
set_option maxHeartbeats 4000000 in
theorem status_any (s p : Int) (a : Option Addr) (len cap : Nat) (ls : List (Int × Int)) (l : Int) (sa : Option Addr) (n sc : Nat) (ss : List SV) (xk xl xs xn : Int) (xy : Bool) (w : World) (hl : IsLabs w a len cap ls) (h6 : len ≤ 6) (hl0 : 0 ≤ l) (hl1 : l < (len : Int)) (hS : IsStores w sa n sc ss) (hn : n = len) :
    Calls Tryd.prog 25 #[.agg #[.int .i64 s, .slice a len cap, .int .i64 p], .int .i64 l, .slice sa n sc, .agg #[.int .i64 xk, .int .i64 xl, .int .i64 xs, .int .i64 xn, .bool xy]] w fun e w' => e = .returned (.string (stText ls l ss xl xs xn)) ∧ Below w.heap.size w w' := by
  obtain ⟨W, hW⟩ : ∃ W : World, W = (w.alloc (.cells #[.int .i64 s, .slice a len cap, .int .i64 p] 32)).alloc (.cells #[.int .i64 xk, .int .i64 xl, .int .i64 xs, .int .i64 xn, .bool xy] 25) := ⟨_, rfl⟩
  have oC : ObAt W w.heap.size #[.int .i64 s, .slice a len cap, .int .i64 p] 32 := by rw [hW]; exact (ObAt.new w _ _).below ((Below.refl _ _).alloc (Nat.le_refl _) _)
  have oX : ObAt W (w.heap.size + 1) #[.int .i64 xk, .int .i64 xl, .int .i64 xs, .int .i64 xn, .bool xy] 25 := by rw [hW]; have h8 := ObAt.new (w.alloc (.cells #[.int .i64 s, .slice a len cap, .int .i64 p] 32)) #[.int .i64 xk, .int .i64 xl, .int .i64 xs, .int .i64 xn, .bool xy] 25; simpa using h8
  have bW : Below w.heap.size w W := by rw [hW]; exact ((Below.refl _ _).alloc (Nat.le_refl _) _).alloc (by simp) _
  have c0 : W.cell? ⟨w.heap.size, 0, none⟩ = some (.int .i64 s) := oC.cell 0
  have c1 : W.cell? ⟨w.heap.size, 1, none⟩ = some (.slice a len cap) := oC.cell 1
  have c2 : W.cell? ⟨w.heap.size, 2, none⟩ = some (.int .i64 p) := oC.cell 2
  have d0 : W.cell? ⟨w.heap.size + 1, 0, none⟩ = some (.int .i64 xk) := oX.cell 0
  have d1 : W.cell? ⟨w.heap.size + 1, 1, none⟩ = some (.int .i64 xl) := oX.cell 1
  have d2 : W.cell? ⟨w.heap.size + 1, 2, none⟩ = some (.int .i64 xs) := oX.cell 2
  have d3 : W.cell? ⟨w.heap.size + 1, 3, none⟩ = some (.int .i64 xn) := oX.cell 3
  have zc := oC.lt
  have zx := oX.lt
  have m0 := fun d os => cell_regrown c0 d os
  have m1 := fun d os => cell_regrown c1 d os
  have m2 := fun d os => cell_regrown c2 d os
  have m4 := fun d os => cell_regrown d1 d os
  have m5 := fun d os => cell_regrown d2 d os
  have m6 := fun d os => cell_regrown d3 d os
  have hl2 := hl.below bW
  have hS2 := hS.below bW
  have hSee : ∀ U, Below W.heap.size W U → Calls Tryd.prog 46 #[.agg #[.int .i64 s, .slice a len cap, .int .i64 p], .int .i64 l, .int .i64 xl] U fun e w' => e = .returned (.bool (seesP ls l xl)) ∧ Below U.heap.size U w' := fun U hU => sees_any s p a len cap ls l xl U (hl2.below hU) h6 hl0 hl1
  have HX : Hid (stText ls l ss xl xs xn = if seesP ls l xl && prepB (ss.getD xl.toNat default) (xs, xn) then ⟨#[112, 114, 101, 112, 97, 114, 101, 100, 10]⟩ else ⟨#[117, 110, 107, 110, 111, 119, 110, 10]⟩) := rfl
  have HSB : seesP ls l xl = true → 0 ≤ xl ∧ xl < (len : Int) := fun h => by
    unfold seesP at h
    rw [Bool.and_eq_true] at h
    have h8 := inR_bd h.1
    rw [hl.1] at h8
    omega
  obtain ⟨TX, eTX⟩ : ∃ x, x = stText ls l ss xl xs xn := ⟨_, rfl⟩
  rw [← eTX] at HX ⊢
  clear eTX
  obtain ⟨SE, eSE⟩ : ∃ x, x = seesP ls l xl := ⟨_, rfl⟩
  rw [← eSE] at hSee HX HSB
  clear eSE hl oC oX
  cases SE with
  | false =>
    have HR : Hid (TX = ⟨#[117, 110, 107, 110, 111, 119, 110, 10]⟩) := HX
    have hSee2 : ∀ d os, Calls Tryd.prog 46 #[.agg #[.int .i64 s, .slice a len cap, .int .i64 p], .int .i64 l, .int .i64 xl] (Go.Sort.grow (Go.redrawn W d) os) fun e w' => e = .returned (.bool false) ∧ Below (Go.Sort.grow (Go.redrawn W d) os).heap.size (Go.Sort.grow (Go.redrawn W d) os) w' := fun d os => hSee _ (below_regrown W d os)
    clear HX HSB hSee hl2 hS2 hS hl0 hl1 h6
    go_enter Tryd.func25, Tryd.ntmps25
    go_upto_region 1 with (fail)
    rw [← hW]
    clear hW
    refine wp_region_quiet_below (by kernel_rfl) (by kernel_rfl) ?_
    repeat (go_big_quiet_step ((go_at_call 46; exact Calls.regrown_of (hSee2 _ _))))
    refine wpQuiet_nil ?_
    intro _ hw'
    obtain ⟨⟨dq, osq⟩, hw''⟩ := hw'
    subst hw''
    have bQ := bW.trans ((below_regrown W dq osq).mono bW.size)
    go_wp2
    go_ret
    exact ⟨by rw [HR.out]; rfl, bQ⟩
  | true =>
    obtain ⟨hx0, hx1⟩ := HSB rfl
    obtain ⟨j, rfl⟩ : ∃ j : Nat, xl = j := ⟨xl.toNat, by omega⟩
    have hjn : j < n := by omega
    have hjl : (j : Int) < (n : Int) := by omega
    simp only [Int.toNat_natCast, Bool.true_and] at HX
    obtain ⟨b1, o1, rfl, zb1, e0, e1, e2, e3⟩ := hS2.at hjn
    have KP : ∀ U, Below W.heap.size W U → Calls Tryd.prog 47 #[(ss.getD j default).val, .agg #[.int .i64 xs, .int .i64 xn]] U fun e w' => e = .returned (.bool (prepB (ss.getD j default) (xs, xn))) ∧ Below U.heap.size U w' := fun U hU => prep_any _ xs xn U ((hS2.below hU).each j hjn).1
    obtain ⟨r, er⟩ : ∃ r, r = ss.getD j default := ⟨_, rfl⟩
    rw [← er] at e0 e1 e2 e3 HX KP
    clear er
    obtain ⟨ra0, rn0, rc0, ra1, rn1, rc1, ra2, rn2, rc2, ra3, rn3, rc3, ri, rl, rd, ro⟩ := r
    simp only [SV.val] at e0 e1 e2 e3 KP
    have q0 := fun d os => cell_regrown e0 d os
    have q1 := fun d os => cell_regrown e1 d os
    have q2 := fun d os => cell_regrown e2 d os
    have q3 := fun d os => cell_regrown e3 d os
    obtain ⟨PB, ePB⟩ : ∃ x, x = prepB ⟨ra0, rn0, rc0, ra1, rn1, rc1, ra2, rn2, rc2, ra3, rn3, rc3, ri, rl, rd, ro⟩ (xs, xn) := ⟨_, rfl⟩
    rw [← ePB] at HX KP
    clear ePB
    have hSee2 : ∀ d os, Calls Tryd.prog 46 #[.agg #[.int .i64 s, .slice a len cap, .int .i64 p], .int .i64 l, .int .i64 (j : Int)] (Go.Sort.grow (Go.redrawn W d) os) fun e w' => e = .returned (.bool true) ∧ Below (Go.Sort.grow (Go.redrawn W d) os).heap.size (Go.Sort.grow (Go.redrawn W d) os) w' := fun d os => hSee _ (below_regrown W d os)
    have hP2 := fun d os => KP _ (below_regrown W d os)
    clear HSB hSee hl2 hS2 hS hl0 hl1 h6 KP hx0 hx1
    cases PB with
    | true =>
      have HR : Hid (TX = ⟨#[112, 114, 101, 112, 97, 114, 101, 100, 10]⟩) := HX
      clear HX
      go_enter Tryd.func25, Tryd.ntmps25
      go_upto_region 1 with (fail)
      rw [← hW]
      clear hW
      refine wp_region_quiet_below (by kernel_rfl) (by kernel_rfl) ?_
      repeat (go_big_quiet_step (first | (go_at_call 46; exact Calls.regrown_of (hSee2 _ _)) | (go_at_call 47; exact Calls.regrown_of (hP2 _ _))))
      refine wpQuiet_nil ?_
      intro _ hw'
      obtain ⟨⟨dq, osq⟩, hw''⟩ := hw'
      subst hw''
      have bQ := bW.trans ((below_regrown W dq osq).mono bW.size)
      go_wp2
      go_ret
      exact ⟨by rw [HR.out]; rfl, bQ⟩
    | false =>
      have HR : Hid (TX = ⟨#[117, 110, 107, 110, 111, 119, 110, 10]⟩) := HX
      clear HX
      go_enter Tryd.func25, Tryd.ntmps25
      go_upto_region 1 with (fail)
      rw [← hW]
      clear hW
      refine wp_region_quiet_below (by kernel_rfl) (by kernel_rfl) ?_
      repeat (go_big_quiet_step (first | (go_at_call 46; exact Calls.regrown_of (hSee2 _ _)) | (go_at_call 47; exact Calls.regrown_of (hP2 _ _))))
      refine wpQuiet_nil ?_
      intro _ hw'
      obtain ⟨⟨dq, osq⟩, hw''⟩ := hw'
      subst hw''
      have bQ := bW.trans ((below_regrown W dq osq).mono bW.size)
      go_wp2
      go_ret
      exact ⟨by rw [HR.out]; rfl, bQ⟩
theorem okAll_zero (ss : List SV) (nl : List NL) : okAll ss nl 0 := fun i hi => absurd hi (by omega)
set_option maxRecDepth 100000 in
set_option maxHeartbeats 8000000 in
theorem refuse_any (s p : Int) (a : Option Addr) (len cap : Nat) (ls : List (Int × Int)) (l : Int) (sa : Option Addr) (n sc : Nat) (ss : List SV) (na : Option Addr) (m nc : Nat) (nl : List NL) (w : World) (hl : IsLabs w a len cap ls) (hS : IsStores w sa n sc ss) (hN : IsNLs w na m nc nl) :
    Calls Tryd.prog 23 #[.agg #[.int .i64 s, .slice a len cap, .int .i64 p], .int .i64 l, .slice sa n sc, .slice na m nc] w fun e w' => e = .returned (.int .i64 (shErr s ls p l ss nl)) ∧ Below w.heap.size w w' := by
  have hlen := hl.1
  have hsl := hS.row.1
  have hnl := hN.row.1
  obtain ⟨W, hW⟩ : ∃ W : World, W = w.alloc (.cells #[.int .i64 s, .slice a len cap, .int .i64 p] 32) := ⟨_, rfl⟩
  have oC : ObAt W w.heap.size #[.int .i64 s, .slice a len cap, .int .i64 p] 32 := by rw [hW]; exact ObAt.new w _ _
  have bW : Below w.heap.size w W := by rw [hW]; exact (Below.refl _ _).alloc (Nat.le_refl _) _
  have KV : Hid (∀ U, Below W.heap.size W U → ObAt U w.heap.size #[.int .i64 s, .slice a len cap, .int .i64 p] 32 ∧ IsLabs U a len cap ls ∧ IsStores U sa n sc ss ∧ IsNLs U na m nc nl ∧ Below w.heap.size w U) := fun U hU => ⟨oC.below hU, (hl.below bW).below hU, (hS.below bW).below hU, (hN.below bW).below hU, bW.trans (hU.mono bW.size)⟩
  have KCh : Hid (∀ U, Below W.heap.size W U → Calls Tryd.prog 42 #[.agg #[.int .i64 s, .slice a len cap, .int .i64 p]] U fun e w' => e = .returned (.int .i64 (cfgFault s ls p)) ∧ Below U.heap.size U w') := fun U hU => check_any s p a len cap ls U (KV.out U hU).2.1
  have HE : Hid (shErr s ls p l ss nl = if cfgFault s ls p = 0 then (if inR l 0 ((len : Int) - 1) = true then (if n = len ∧ m = len then (if okAll ss nl len then 0 else 9) else 9) else 6) else cfgFault s ls p) := by show _ = _; unfold shErr; rw [hlen, hsl, hnl]
  have H6 : Hid (cfgFault s ls p = 0 → len ≤ 6) := fun h => by have := (cfg_zero h).2.2.2.1; omega
  have b0 : Below W.heap.size W W := Below.refl _ _
  obtain ⟨E, eE⟩ : ∃ x, x = shErr s ls p l ss nl := ⟨_, rfl⟩
  rw [← eE] at HE ⊢
  obtain ⟨C, eC⟩ : ∃ x, x = cfgFault s ls p := ⟨_, rfl⟩
  rw [← eC] at HE KCh H6
  clear eE eC hl hS hN hlen
  have c0 : W.cell? ⟨w.heap.size, 0, none⟩ = some (.int .i64 s) := oC.cell 0
  have c1 : W.cell? ⟨w.heap.size, 1, none⟩ = some (.slice a len cap) := oC.cell 1
  have c2 : W.cell? ⟨w.heap.size, 2, none⟩ = some (.int .i64 p) := oC.cell 2
  have zc := oC.lt
  have hCh := KCh.out W b0
  clear KCh oC
  go_enter Tryd.func23, Tryd.ntmps23
  go_upto_region 1 with (fail)
  rw [← hW]
  clear hW
  go_upto_region 2 with (go_at_call 42; refine hCh.mono ?_; rintro e u1 ⟨rfl, hb1⟩)
  clear hCh b0 c0 c1 c2 zc
  have hw1 := (KV.out u1 hb1).2.2.2.2
  by_cases hC : C = 0
  · subst hC
    rw [if_pos rfl] at HE
    have h6 := H6.out rfl
    obtain ⟨oC1, -, -, -, -⟩ := KV.out u1 hb1
    have c0 : u1.cell? ⟨w.heap.size, 0, none⟩ = some (.int .i64 s) := oC1.cell 0
    have c1 : u1.cell? ⟨w.heap.size, 1, none⟩ = some (.slice a len cap) := oC1.cell 1
    have c2 : u1.cell? ⟨w.heap.size, 2, none⟩ = some (.int .i64 p) := oC1.cell 2
    have zc := oC1.lt
    have hLa := label_any s p a len cap l u1 h6
    clear oC1
    obtain ⟨IN, eIN⟩ : ∃ x, x = inR l 0 ((len : Int) - 1) := ⟨_, rfl⟩
    rw [← eIN] at HE hLa
    clear eIN
    cases IN with
    | false =>
      have HE2 : Hid (E = 6) := HE
      clear HE
      go_wp2_with (go_at_call 43; refine hLa.mono ?_; rintro e u2 ⟨rfl, hb2⟩)
      go_ret
      exact ⟨by rw [HE2.out]; rfl, hw1.trans (hb2.mono hw1.size)⟩
    | true =>
      rw [if_pos rfl] at HE
      go_upto_region 6 with (go_at_call 43; refine hLa.mono ?_; rintro e u2 ⟨rfl, hb2⟩)
      clear hLa c0 c1 c2 zc
      have hb12 := hb1.trans (hb2.mono hb1.size)
      obtain ⟨oC1, -, -, -, hw2⟩ := KV.out u2 hb12
      have c0 : u2.cell? ⟨w.heap.size, 0, none⟩ = some (.int .i64 s) := oC1.cell 0
      have c1 : u2.cell? ⟨w.heap.size, 1, none⟩ = some (.slice a len cap) := oC1.cell 1
      have zc := oC1.lt
      clear oC1
      by_cases hnn : n = len
      · subst hnn
        by_cases hmm : m = n
        · subst hmm
          rw [if_pos ⟨rfl, rfl⟩] at HE
          have hBad : Hid (∀ k, k < m → ¬ (storeOK (ss.getD k default) = true ∧ notesOK (nl.getD k default).ns = true) → E = 9) := fun k hk h => by rw [HE.out, if_neg (fun g => h (g k hk))]
          have hGood : Hid (okAll ss nl m → E = 0) := fun h => by rw [HE.out, if_pos h]
          have hO0 : Hid (okAll ss nl 0) := okAll_zero ss nl
          clear HE
          go_upto_region 9 with (fail)
          clear c0 c1 zc
          go_loopw [37, 10, 11] (fun s37 _ _ wr => ∃ (k : Nat), s37 = .int .i64 (k : Int) ∧ k ≤ m ∧ Below W.heap.size W wr ∧ Hid (okAll ss nl k)) (fun s37 _ _ _ => m - (intOf s37).toNat)
          case atStart => exact ⟨0, rfl, by omega, hb12, hO0⟩
          case round =>
            obtain ⟨k, rfl, hk, hbw, hI⟩ := hrel
            clear hO0
            obtain ⟨-, -, hSr, hNr, hwr⟩ := KV.out wr hbw
            by_cases hlt : k < m
            · have hlt' : (k : Int) < (m : Int) := by omega
              have HJ : Hid (k + 1 ≤ m) := hlt
              have hSk := hSr.each k hlt
              obtain ⟨b1, o1, rfl, zb1, e0, e1, e2, e3⟩ := hSr.at hlt
              obtain ⟨b3, o3, rfl, zb3, f0⟩ := hNr.at hlt
              have KNk : Hid (∀ U, Below W.heap.size W U → IsNotes U (nl.getD k default).a (nl.getD k default).n (nl.getD k default).c (nl.getD k default).ns) := fun U hU => (KV.out U hU).2.2.2.1.each k hlt
              have hBk := hBad.out k hlt
              have hOk : Hid (storeOK (ss.getD k default) = true → notesOK (nl.getD k default).ns = true → okAll ss nl (k + 1)) := fun g1 g2 i hi => by
                by_cases hik : i < k
                · exact hI.out i hik
                · obtain rfl : i = k := by omega
                  exact ⟨g1, g2⟩
              obtain ⟨r, er⟩ : ∃ r, r = ss.getD k default := ⟨_, rfl⟩
              rw [← er] at e0 e1 e2 e3 hSk hBk hOk
              obtain ⟨y, ey⟩ : ∃ y, y = nl.getD k default := ⟨_, rfl⟩
              rw [← ey] at f0 KNk hBk hOk
              clear er ey hI hSr hNr
              obtain ⟨ra0, rn0, rc0, ra1, rn1, rc1, ra2, rn2, rc2, ra3, rn3, rc3, ri, rl, rd, ro⟩ := r
              obtain ⟨ya, yn, yc, ys⟩ := y
              simp only [] at e0 e1 e2 e3 f0 KNk hBk hOk
              go_upto_region 11 with (fail)
              obtain ⟨Y, eY⟩ : ∃ X : World, X = wr.alloc (.cells #[.slice ra0 rn0 rc0, .slice ra1 rn1 rc1, .slice ra2 rn2 rc2, .slice ra3 rn3 rc3] 55) := ⟨_, rfl⟩
              have bY : Below wr.heap.size wr Y := by rw [eY]; exact (Below.refl _ _).alloc (Nat.le_refl _) _
              have oS : ObAt Y wr.heap.size #[.slice ra0 rn0 rc0, .slice ra1 rn1 rc1, .slice ra2 rn2 rc2, .slice ra3 rn3 rc3] 55 := by rw [eY]; exact ObAt.new wr _ _
              rw [← eY]
              clear eY e0 e1 e2 e3
              have bYW : Below W.heap.size W Y := hbw.trans (bY.mono hbw.size)
              have g0 : Y.cell? ⟨wr.heap.size, 0, none⟩ = some (.slice ra0 rn0 rc0) := oS.cell 0
              have g1 : Y.cell? ⟨wr.heap.size, 1, none⟩ = some (.slice ra1 rn1 rc1) := oS.cell 1
              have g2 : Y.cell? ⟨wr.heap.size, 2, none⟩ = some (.slice ra2 rn2 rc2) := oS.cell 2
              have g3 : Y.cell? ⟨wr.heap.size, 3, none⟩ = some (.slice ra3 rn3 rc3) := oS.cell 3
              have zg := oS.lt
              have hCk := St.check_any ⟨ra0, rn0, rc0, ra1, rn1, rc1, ra2, rn2, rc2, ra3, rn3, rc3, ri, rl, rd, ro⟩ Y (hSk.1.below bY) hSk.2
              simp only [SV.val] at hCk
              clear oS hSk
              obtain ⟨OK, eOK⟩ : ∃ x, x = storeOK ⟨ra0, rn0, rc0, ra1, rn1, rc1, ra2, rn2, rc2, ra3, rn3, rc3, ri, rl, rd, ro⟩ := ⟨_, rfl⟩
              rw [← eOK] at hCk hBk hOk
              clear eOK
              cases OK with
              | false =>
                have HE3 : Hid (E = 9) := hBk (by simp)
                clear hBk hOk
                simp only [Bool.false_eq_true, if_false] at hCk
                go_wp2_with (first | (go_at_call 44; refine hCk.mono ?_; rintro e U2 ⟨rfl, bU2⟩))
                go_ret
                have hYw := (KV.out Y bYW).2.2.2.2
                exact ⟨by rw [HE3.out]; rfl, hYw.trans (bU2.mono hYw.size)⟩
              | true =>
                simp only [if_true] at hCk
                have f1 : ∀ U, Below Y.heap.size Y U → U.cell? ⟨b3, o3 + k, none⟩ = some (.slice ya yn yc) := fun U hU => (hU.cell (p := ⟨b3, o3 + k, none⟩) (Nat.lt_of_lt_of_le zb3 bY.size)).trans ((bY.cell (p := ⟨b3, o3 + k, none⟩) zb3).trans f0)
                have HF1 : Hid (∀ U, Below Y.heap.size Y U → U.cell? ⟨b3, o3 + k, none⟩ = some (.slice ya yn yc)) := f1
                have HNm : Hid (∀ U, Below Y.heap.size Y U → Calls Tryd.prog 45 #[.slice ya yn yc] U fun e w' => e = .returned (.bool (notesOK ys)) ∧ Below U.heap.size U w') := fun U hU => notesMay_any ya yn yc ys U (KNk.out U (bYW.trans (hU.mono bYW.size)))
                clear f0 f1 KNk
                obtain ⟨NO, eNO⟩ : ∃ x, x = notesOK ys := ⟨_, rfl⟩
                rw [← eNO] at HNm hBk hOk
                clear eNO
                cases NO with
                | false =>
                  have HE3 : Hid (E = 9) := hBk (by simp)
                  clear hBk hOk
                  go_wp2_with (first | (go_at_call 44; refine hCk.mono ?_; rintro e U2 ⟨rfl, bU2⟩; have f1 := HF1.out U2 bU2; have hNm := HNm.out U2 bU2; clear g0 g1 g2 g3 zg) | (go_at_call 45; refine hNm.mono ?_; rintro e U3 ⟨rfl, bU3⟩))
                  go_ret
                  have bU3Y := bU2.trans (bU3.mono bU2.size)
                  have hYw := (KV.out Y bYW).2.2.2.2
                  exact ⟨by rw [HE3.out]; rfl, hYw.trans (bU3Y.mono hYw.size)⟩
                | true =>
                  have hO2 := hOk.out rfl rfl
                  have HO2 : Hid (okAll ss nl (k + 1)) := hO2
                  clear hBk hOk hO2
                  go_wp2_with (first | (go_at_call 44; refine hCk.mono ?_; rintro e U2 ⟨rfl, bU2⟩; have f1 := HF1.out U2 bU2; have hNm := HNm.out U2 bU2; clear g0 g1 g2 g3 zg) | (go_at_call 45; refine hNm.mono ?_; rintro e U3 ⟨rfl, bU3⟩))
                  go_roundw
                  case rel => exact ⟨k + 1, by go_num, HJ.out, bYW.trans ((bU2.trans (bU3.mono bU2.size)).mono bYW.size), HO2⟩
                  case measure => have := HJ.out; simp [intOf]; omega
            · obtain rfl : k = m := by omega
              have hnl2 : ¬ ((k : Int) < (k : Int)) := by omega
              have HE3 : Hid (E = 0) := hGood.out hI.out
              go_wp2
              go_ret
              exact ⟨by rw [HE3.out]; rfl, hwr⟩
        · have hne : ((m : Int) != (n : Int)) = true := by simp; omega
          have HE2 : Hid (E = 9) := by show _ = _; rw [HE.out, if_neg (fun g => hmm g.2)]
          clear HE
          go_wp2
          go_ret
          exact ⟨by rw [HE2.out]; rfl, hw2⟩
      · have hne : ((n : Int) != (len : Int)) = true := by simp; omega
        have HE2 : Hid (E = 9) := by show _ = _; rw [HE.out, if_neg (fun g => hnn g.1)]
        clear HE
        go_wp2
        go_ret
        exact ⟨by rw [HE2.out]; rfl, hw2⟩
  · rw [if_neg hC] at HE
    have hC2 : ((C : Int) != 0) = true := by simpa using hC
    clear hC
    go_wp2
    go_ret
    exact ⟨by rw [HE.out]; rfl, hw1⟩
end Go.Proofs.YtgohpgollpjlnaaDoor.Cn
