/- Texts of this claim, one behind the other. -/
import Derived.Test.YtgohpgollpjlnaaDoorM24ConsoleShows
import Derived.Test.YtgohpgollpjlnaaDoorM7ConsoleShows
import Derived.Test.YtgohpgollpjlnaaDoorM9ConsoleShows
import Derived.Test.YtgohpgollpjlnaaDoorM12ConsoleShows
import Derived.Test.YtgohpgollpjlnaaDoorM16ConsoleShows
import Derived.Test.YtgohpgollpjlnaaDoorM17ConsoleShows
/- console's status, notesMayBe, refuse. -/
namespace Go.Proofs.YtgohpgollpjlnaaDoor.Cn
open Go.ChangeShapes Go.WideShapes Go.ChangeAt Go.RowKit
open Go.Proofs.YtgohpgollpjlnaaDoor.St (BoxN boxn_new SV IsStore IsRow DbV storeOK TxWf own_below txOK)
open Go.Proofs.YtgohpgollpjlnaaDoor.Pt (IsStores NV IsNotes)
set_option linter.unusedVariables false

def notesOK (ns : List NV) : Bool := ns.all fun x => txOK (x.site, x.num)
theorem notes_all {ns : List NV} (h : ∀ i, i < ns.length → txOK ((ns.getD i default).site, (ns.getD i default).num) = true) : notesOK ns = true := by
  unfold notesOK
  rw [List.all_eq_true]
  intro x hx
  obtain ⟨i, hi, rfl⟩ := List.getElem_of_mem hx
  have := h i hi
  simpa [List.getD, hi] using this
theorem notes_not {ns : List NV} {i : Nat} (hi : i < ns.length) (h : txOK ((ns.getD i default).site, (ns.getD i default).num) = false) : notesOK ns = false := by
  unfold notesOK
  rw [List.all_eq_false]
  refine ⟨ns.getD i default, ?_, by simpa using h⟩
  rw [List.getD, List.getElem?_eq_getElem hi]
  exact List.getElem_mem _
set_option maxRecDepth 100000 in
set_option maxHeartbeats 2000000 in
theorem notesMay_any (a : Option Addr) (n c : Nat) (ns : List NV) (w : World) (h : IsNotes w a n c ns) :
    Calls Tryd.prog 45 #[.slice a n c] w fun e w' => e = .returned (.bool (notesOK ns)) ∧ Below w.heap.size w w' := by
  have hlen := h.1
  have hmx : n ≤ 9223372036854775807 := by have h8 := h.2.1; have h9 := h.2.2.1; unfold maxLen at h9; omega
  have KN : Hid (∀ U, Below w.heap.size w U → IsNotes U a n c ns) := fun U hU => St.IsRow.below h hU
  have b0 : Below w.heap.size w w := Below.refl _ _
  obtain ⟨R, eR⟩ : ∃ R, R = notesOK ns := ⟨_, rfl⟩
  have HR1 : Hid ((∀ i, i < n → txOK ((ns.getD i default).site, (ns.getD i default).num) = true) → R = true) := fun g => by rw [eR]; exact notes_all (fun i hi => g i (by omega))
  have HR2 : Hid (∀ i, i < n → txOK ((ns.getD i default).site, (ns.getD i default).num) = false → R = false) := fun i hi g => by rw [eR]; exact notes_not (by omega) g
  have H0 : Hid (∀ i, i < 0 → txOK ((ns.getD i default).site, (ns.getD i default).num) = true) := fun i hi => absurd hi (by omega)
  rw [← eR]
  clear eR h
  go_enter Tryd.func45, Tryd.ntmps45
  go_upto_region 2 with (fail)
  go_loopw [7, 4] (fun s7 _ wr => ∃ (k : Nat), s7 = .int .i64 (k : Int) ∧ k ≤ n ∧ Below w.heap.size w wr ∧ Hid (∀ i, i < k → txOK ((ns.getD i default).site, (ns.getD i default).num) = true)) (fun s7 _ _ => n - (intOf s7).toNat)
  case atStart => exact ⟨0, rfl, by omega, b0, H0⟩
  case round =>
    obtain ⟨k, rfl, hk, hbw, hI⟩ := hrel
    clear b0 H0
    by_cases hlt : k < n
    · have hlt' : (k : Int) < (n : Int) := by omega
      have HJ : Hid (k + 1 ≤ n) := hlt
      have hjm : (k : Int) + 1 ≤ 9223372036854775807 := by omega
      obtain ⟨b2, o2, rfl, zb2, hc⟩ := (KN.out wr hbw).2.2.2.2 (by omega)
      have e0 := hc k hlt 0 (by decide)
      have e1 := hc k hlt 1 (by decide)
      have e2 := hc k hlt 2 (by decide)
      have e3 := hc k hlt 3 (by decide)
      have HF := HR2.out k hlt
      have HG : Hid (txOK ((ns.getD k default).site, (ns.getD k default).num) = true → ∀ i, i < k + 1 → txOK ((ns.getD i default).site, (ns.getD i default).num) = true) := fun g i hi => by
        by_cases hik : i < k
        · exact hI.out i hik
        · obtain rfl : i = k := by omega
          exact g
      obtain ⟨d, ed⟩ : ∃ d, d = ns.getD k default := ⟨_, rfl⟩
      rw [← ed] at e0 e1 e2 e3 HF HG
      clear ed hc hI
      obtain ⟨t1, t2, ty, tg⟩ := d
      simp only [NV.cells, List.getElem?_cons_zero, List.getElem?_cons_succ, Nat.add_zero] at e0 e1 e2 e3 HF HG
      go_upto_region 4 with (fail)
      obtain ⟨Y2, eY1⟩ : ∃ X : World, X = wr.alloc (.cells #[.int .i64 t1, .int .i64 t2, .bool ty, .bool tg] 48) := ⟨_, rfl⟩
      have bY1 : Below wr.heap.size wr Y2 := by rw [eY1]; exact (Below.refl _ _).alloc (Nat.le_refl _) _
      have oD3 : ObAt Y2 wr.heap.size #[.int .i64 t1, .int .i64 t2, .bool ty, .bool tg] 48 := by rw [eY1]; exact ObAt.new wr _ _
      rw [← eY1]
      clear eY1 e0 e1 e2 e3
      have bYw : Below w.heap.size w Y2 := hbw.trans (bY1.mono hbw.size)
      have f0 : Y2.cell? ⟨wr.heap.size, 0, none⟩ = some (.int .i64 t1) := oD3.cell 0
      have f1 : Y2.cell? ⟨wr.heap.size, 1, none⟩ = some (.int .i64 t2) := oD3.cell 1
      have zf := oD3.lt
      have hTx := St.txn_any t1 t2 Y2
      clear oD3
      obtain ⟨B, eB⟩ : ∃ B, B = txOK (t1, t2) := ⟨_, rfl⟩
      rw [← eB] at hTx HF HG
      clear eB
      cases B with
      | true =>
        have HG2 := HG.out rfl
        have HG3 : Hid (∀ i, i < k + 1 → txOK ((ns.getD i default).site, (ns.getD i default).num) = true) := HG2
        clear HF HG HG2
        go_wp2_with (go_at_call 85; refine hTx.mono ?_; rintro e U2 ⟨rfl, bU2⟩)
        go_roundw
        case rel => exact ⟨k + 1, by go_num, HJ.out, bYw.trans (bU2.mono bYw.size), HG3⟩
        case measure => have := HJ.out; simp [intOf]; omega
      | false =>
        have HF2 : Hid (R = false) := HF rfl
        clear HF HG
        go_wp2_with (go_at_call 85; refine hTx.mono ?_; rintro e U2 ⟨rfl, bU2⟩)
        go_ret
        exact ⟨ret_bool HF2.out.symm, bYw.trans (bU2.mono bYw.size)⟩
    · obtain rfl : k = n := by omega
      have hnl : ¬ ((k : Int) < (k : Int)) := by omega
      have HT : Hid (R = true) := HR1.out hI.out
      go_wp2
      go_ret
      exact ⟨ret_bool HT.out.symm, hbw⟩
end Go.Proofs.YtgohpgollpjlnaaDoor.Cn
/- What console.Show tells, on plain data. -/
namespace Go.Proofs.YtgohpgollpjlnaaDoor.Cn
open Go.ChangeShapes Go.WideShapes Go.ChangeAt Go.RowKit
open Go.Proofs.YtgohpgollpjlnaaDoor.St (BoxN boxn_new SV IsStore IsRow DbV LkV storeOK TxWf own_below txOK lockOK locksGo locksOK doubtsGo doubtsOK ofT)
open Go.Proofs.YtgohpgollpjlnaaDoor.Pt (IsStores NV IsNotes)
set_option linter.unusedVariables false

theorem inR_bd {n lo hi : Int} (h : inR n lo hi = true) : lo ≤ n ∧ n ≤ hi := by
  unfold inR at h
  simpa using h
theorem tx_i64 {t : Int × Int} (h : txOK t = true) : i64 t.1 ∧ i64 t.2 := by
  unfold txOK at h
  rw [Bool.and_eq_true] at h
  have h1 := inR_bd h.1
  have h2 := inR_bd h.2
  unfold i64
  omega
theorem locks_all : ∀ (l seen : List LkV), locksGo seen l = true → ∀ k ∈ l, lockOK k = true := by
  intro l
  induction l with
  | nil => intro seen _ k hk; cases hk
  | cons x r ih =>
    intro seen h k hk
    rw [locksGo, Bool.and_eq_true, Bool.and_eq_true] at h
    rcases List.mem_cons.1 hk with rfl | hk
    · exact h.1.1
    · exact ih _ h.2 k hk
theorem doubts_all : ∀ (l seen : List DbV) (ls : List LkV) (ov : List (Int × Int)), doubtsGo ls ov seen l = true → ∀ d ∈ l, inR d.age 0 1048576 = true ∧ ls.any (ofT d.t) = true := by
  intro l
  induction l with
  | nil => intro seen ls ov _ k hk; cases hk
  | cons x r ih =>
    intro seen ls ov h k hk
    rw [doubtsGo] at h
    simp only [Bool.and_eq_true] at h
    rcases List.mem_cons.1 hk with rfl | hk
    · exact ⟨h.1.1.1.1, h.1.1.1.2⟩
    · exact ih _ ls ov h.2 k hk
theorem ok_i64 {s : SV} (h : storeOK s = true) : ∀ d ∈ s.doubts, i64 d.t.1 ∧ i64 d.t.2 ∧ i64 d.age := by
  intro d hd
  unfold storeOK at h
  simp only [Bool.and_eq_true] at h
  have h1 := h.2
  unfold doubtsOK at h1
  rw [Bool.and_eq_true] at h1
  obtain ⟨h2, h3⟩ := doubts_all _ _ _ _ h1.1 d hd
  obtain ⟨k, hk, he⟩ := List.any_eq_true.1 h3
  have h4 := h.1.1.2
  unfold locksOK at h4
  rw [Bool.and_eq_true] at h4
  have h5 := locks_all _ _ h4.2 k hk
  unfold lockOK at h5
  simp only [Bool.and_eq_true] at h5
  have h6 := h5.1.1.1.1
  unfold ofT at he
  have he2 : k.t = d.t := by simpa using he
  rw [he2] at h6
  have h7 := tx_i64 h6
  have h8 := inR_bd h2
  refine ⟨h7.1, h7.2, ?_⟩
  unfold i64
  omega
theorem line_size {p t1 t2 : Int} {rest : List ByteArray} (hp : i64 p) (h1 : i64 t1) (h2 : i64 t2) (hr : rest.length ≤ 4) (hz : ∀ x ∈ rest, x.size ≤ 30) : (lineBy p t1 t2 rest).data.toList.length ≤ 218 := by
  have := line_len p t1 t2 rest hp h1 h2 hr hz
  unfold lineBy
  simp only [ByteArray.data_append, Array.toList_append, List.length_append]
  have e : (⟨#[10]⟩ : ByteArray).data.toList.length = 1 := rfl
  rw [e]
  omega
theorem listDb_len {k : Int} {s : SV} (hk : i64 k) : ∀ (ds : List DbV), (∀ d ∈ ds, i64 d.t.1 ∧ i64 d.t.2 ∧ i64 d.age) → (listDb k s ds).length ≤ 218 * ds.length := by
  intro ds
  induction ds with
  | nil => intro _; simp [listDb]
  | cons d r ih =>
    intro h
    have h1 := h d (by simp)
    have h2 := ih (fun x hx => h x (by simp [hx]))
    have h3 : (dbLine k d).length ≤ 218 := line_size hk h1.1 h1.2.1 (by simp) (fun x hx => by simp at hx; subst hx; exact ageB_size h1.2.2)
    rw [listDb, List.length_append, List.length_cons]
    split
    · omega
    · simp only [List.length_nil]; omega
theorem listGo_len {ls : List (Int × Int)} {l : Int} : ∀ (ss : List SV) (k : Nat), k + ss.length ≤ 6 → (∀ s ∈ ss, s.doubts.length ≤ 24 ∧ ∀ d ∈ s.doubts, i64 d.t.1 ∧ i64 d.t.2 ∧ i64 d.age) → (listGo ls l k ss).length ≤ 5232 * ss.length := by
  intro ss
  induction ss with
  | nil => intro k _ _; simp [listGo]
  | cons s r ih =>
    intro k hk h
    have h1 := h s (by simp)
    have h2 := ih (k + 1) (by simp at hk; omega) (fun x hx => h x (by simp [hx]))
    have h3 := listDb_len (k := (k : Int)) (s := s) (by simp at hk; unfold i64; omega) s.doubts h1.2
    rw [listGo, List.length_append, List.length_cons]
    split
    · omega
    · simp only [List.length_nil]; omega
/-- All stores and notes may be. -/
def okAll (ss : List SV) (nl : List NL) (n : Nat) : Prop := ∀ i, i < n → storeOK (ss.getD i default) = true ∧ notesOK (nl.getD i default).ns = true
instance (ss : List SV) (nl : List NL) (n : Nat) : Decidable (okAll ss nl n) := inferInstanceAs (Decidable (∀ i, i < n → _))
/-- Why nothing is told. -/
def shErr (s : Int) (ls : List (Int × Int)) (p l : Int) (ss : List SV) (nl : List NL) : Int :=
  if cfgFault s ls p = 0 then (if inR l 0 ((ls.length : Int) - 1) = true then (if ss.length = ls.length ∧ nl.length = ls.length then (if okAll ss nl ls.length then 0 else 9) else 9) else 6) else cfgFault s ls p
def stText (ls : List (Int × Int)) (l : Int) (ss : List SV) (xl xs xn : Int) : ByteArray := if seesP ls l xl && prepB (ss.getD xl.toNat default) (xs, xn) then ⟨#[112, 114, 101, 112, 97, 114, 101, 100, 10]⟩ else ⟨#[117, 110, 107, 110, 111, 119, 110, 10]⟩
def showTxt (ls : List (Int × Int)) (l : Int) (ss : List SV) (nl : List NL) (x : Cmd) : ByteArray :=
  if x.kind = 1 then ⟨(listGo ls l 0 ss).toArray⟩ else if x.kind = 2 then stText ls l ss x.label x.site x.num else if x.kind = 4 then ⟨(auditGo ls l 0 nl).toArray⟩ else ⟨#[]⟩
def kindErr (k : Int) : Int := if k = 1 ∨ k = 2 ∨ k = 4 then 0 else 3
theorem sh_zero {s : Int} {ls : List (Int × Int)} {p l : Int} {ss : List SV} {nl : List NL} (h : shErr s ls p l ss nl = 0) : cfgFault s ls p = 0 ∧ (0 ≤ l ∧ l < (ls.length : Int)) ∧ ss.length = ls.length ∧ nl.length = ls.length ∧ okAll ss nl ls.length := by
  unfold shErr at h
  split at h
  · rename_i h1
    split at h
    · rename_i h2
      split at h
      · rename_i h3
        split at h
        · rename_i h4
          have := inR_bd h2
          exact ⟨h1, ⟨this.1, by omega⟩, h3.1, h3.2, h4⟩
        · cases h
      · cases h
    · cases h
  · rename_i h1; exact absurd h h1
end Go.Proofs.YtgohpgollpjlnaaDoor.Cn
/- The document's preparedAt. -/
namespace Go.Proofs.YtgohpgollpjlnaaDoor.Cn
open Go.ChangeShapes Go.WideShapes Go.ChangeAt Go.RowKit
open Go.Proofs.YtgohpgollpjlnaaDoor.St (BoxN boxn_new SV IsStore IsRow DbV LkV storeOK TxWf own_below txOK ofT cntErr cntIs doubtsGo doubtsOK overGo dbT writesRef_any wOf)
open Go.Proofs.YtgohpgollpjlnaaDoor.Pt (IsStores NV IsNotes)
set_option linter.unusedVariables false

theorem doubts_noOv (ls : List LkV) (ov : List (Int × Int)) : ∀ (l seen : List DbV), doubtsGo ls ov seen l = true → doubtsGo ls [] seen l = true := by
  intro l
  induction l with
  | nil => intro seen _; rfl
  | cons d r ih =>
    intro seen h
    rw [doubtsGo] at h ⊢
    simp only [Bool.and_eq_true] at h ⊢
    exact ⟨⟨⟨⟨h.1.1.1.1, h.1.1.1.2⟩, h.1.1.2⟩, by simp⟩, ih _ h.2⟩
theorem ok_noOv {s : SV} (h : storeOK s = true) : storeOK (noOv s) = true := by
  unfold storeOK doubtsOK at h ⊢
  simp only [Bool.and_eq_true] at h ⊢
  exact ⟨⟨⟨h.1.1.1, h.1.1.2⟩, rfl⟩, ⟨doubts_noOv _ _ _ _ h.2.1, h.2.2⟩⟩
theorem prep_over {s : SV} (h : storeOK s = true) (t : Int × Int) : (decide (cntErr s t = 0) && decide (0 < cntIs s t)) = prepB s t := by
  unfold prepB cntIs cntErr
  rw [if_pos h, if_pos (ok_noOv h)]
  rfl
set_option maxHeartbeats 2000000 in
theorem prepRef_any (s : SV) (t1 t2 : Int) (w : World) (h : IsStore w s) (hO : storeOK s = true) :
    Calls Tryd.prog 32 #[s.val, .agg #[.int .i64 t1, .int .i64 t2]] w fun e w' => e = .returned (.bool (prepB s (t1, t2))) ∧ Below w.heap.size w w' := by
  have HC : Hid (∀ W, Below w.heap.size w W → Calls Tryd.prog 56 #[s.val, .agg #[.int .i64 t1, .int .i64 t2]] W fun e w' => e = .returned (.tuple #[.int .i64 (cntIs s (t1, t2)), .int .i64 (cntErr s (t1, t2))]) ∧ Below W.heap.size W w') := fun W hb => writesRef_any s (t1, t2) W (h.below hb)
  have HP : Hid (prepB s (t1, t2) = (decide (cntErr s (t1, t2) = 0) && decide (0 < cntIs s (t1, t2)))) := (prep_over hO _).symm
  obtain ⟨E, eE⟩ : ∃ E, E = cntErr s (t1, t2) := ⟨_, rfl⟩
  obtain ⟨M, eM⟩ : ∃ M, M = cntIs s (t1, t2) := ⟨_, rfl⟩
  obtain ⟨R, eR⟩ : ∃ R, R = prepB s (t1, t2) := ⟨_, rfl⟩
  rw [← eE, ← eM] at HC HP
  rw [← eR] at HP ⊢
  clear eE eM eR h hO
  obtain ⟨ia, il, ic, la, ll, lc, da, dl, dc, oa, ol, oc, items, locks, doubts, over⟩ := s
  simp only [SV.val] at *
  obtain ⟨W, hW⟩ : ∃ W : World, W = (w.alloc (.cells #[.slice ia il ic, .slice la ll lc, .slice da dl dc, .slice oa ol oc] 55)).alloc (.cells #[.int .i64 t1, .int .i64 t2] 23) := ⟨_, rfl⟩
  have oS : ObAt W w.heap.size #[.slice ia il ic, .slice la ll lc, .slice da dl dc, .slice oa ol oc] 55 := by rw [hW]; exact (ObAt.new w _ _).below ((Below.refl _ _).alloc (Nat.le_refl _) _)
  have oT : ObAt W (w.heap.size + 1) #[.int .i64 t1, .int .i64 t2] 23 := by rw [hW]; have h8 := ObAt.new (w.alloc (.cells #[.slice ia il ic, .slice la ll lc, .slice da dl dc, .slice oa ol oc] 55)) #[.int .i64 t1, .int .i64 t2] 23; simpa using h8
  have bW : Below w.heap.size w W := by rw [hW]; exact ((Below.refl _ _).alloc (Nat.le_refl _) _).alloc (by simp) _
  have c0 : W.cell? ⟨w.heap.size, 0, none⟩ = some (.slice ia il ic) := oS.cell 0
  have c1 : W.cell? ⟨w.heap.size, 1, none⟩ = some (.slice la ll lc) := oS.cell 1
  have c2 : W.cell? ⟨w.heap.size, 2, none⟩ = some (.slice da dl dc) := oS.cell 2
  have c3 : W.cell? ⟨w.heap.size, 3, none⟩ = some (.slice oa ol oc) := oS.cell 3
  have d0 : W.cell? ⟨w.heap.size + 1, 0, none⟩ = some (.int .i64 t1) := oT.cell 0
  have d1 : W.cell? ⟨w.heap.size + 1, 1, none⟩ = some (.int .i64 t2) := oT.cell 1
  have zs := oS.lt
  have zt := oT.lt
  have hC := HC.out W bW
  clear oS oT HC
  go_enter Tryd.func32, Tryd.ntmps32
  go_upto_region 1 with (fail)
  rw [← hW]
  clear hW
  go_upto_region 2 with (go_at_call 56; refine hC.mono ?_; rintro e U ⟨rfl, hU⟩)
  clear c0 c1 c2 c3 d0 d1 zs zt hC
  have hfin := bW.trans (hU.mono bW.size)
  by_cases hE : E = 0
  · subst hE
    have HP2 : Hid (R = decide (0 < M)) := by show _ = _; rw [HP.out]; simp
    clear HP
    go_wp2
    go_ret
    exact ⟨by rw [HP2.out]; rfl, hfin⟩
  · have hE2 : ((E : Int) == 0) = false := by simpa using hE
    have HP2 : Hid (R = false) := by show _ = _; rw [HP.out]; simp [hE]
    clear HP
    go_wp2
    go_ret
    exact ⟨by rw [HP2.out]; rfl, hfin⟩
end Go.Proofs.YtgohpgollpjlnaaDoor.Cn
