/- Texts of this claim, one behind the other. -/
import Derived.Test.YtcfhhjnbkpgpeaaDoorM28RebuildDesk
import Derived.Test.YtcfhhjnbkpgpeaaDoorM43RebuildDesk
import Derived.Test.YtcfhhjnbkpgpeaaDoorM15RebuildDesk
/- What Read and Write do for a transaction that a store does not know yet; what Read, Write and End then find. -/
namespace Go.Proofs.YtcfhhjnbkpgpeaaDoor.St
open Go.ChangeShapes Go.WideShapes Go.ChangeAt Go.RowKit
set_option linter.unusedVariables false

structure Fresh (p : PS) (x : Int × Int) : Prop where
  nl : ∀ k ∈ p.locks, k.t ≠ x
  nov : x ∉ p.over
  nd : ∀ d ∈ p.doubts, d.t ≠ x
  okx : txOK x = true
theorem Gd.fresh {p : PS} {v : Int} (h : Gd p v) {a b : Int} (h1 : 2 ≤ a) (h2 : a ≤ 3) (h3 : 1 ≤ b) (h4 : b ≤ 100) : Fresh p (a, b) := by
  have key : ¬ isT (a, b) := by
    simp only [isT, List.mem_cons, List.not_mem_nil, or_false, Prod.mk.injEq]
    omega
  refine ⟨fun k hk e => key (e ▸ (h.lt k hk).1), fun e => key (h.ot _ e), fun d hd e => ?_, ?_⟩
  · obtain ⟨k, hk, e2⟩ := h.ok.dl d hd
    exact key (by rw [← e, ← e2]; exact (h.lt k hk).1)
  · simp only [txOK, Bool.and_eq_true]
    exact ⟨inR_true (by show (0 : Int) ≤ a; omega) h2, inR_true h3 (by show b ≤ 1048576; omega)⟩
theorem Fresh.idx {p : PS} {x : Int × Int} (h : Fresh p x) (k : Int) : idxI (byT x k) p.locks < 0 := idx_neg fun o ho => by simp [byT, h.nl o ho]
theorem Fresh.holdL {p : PS} {x : Int × Int} (h : Fresh p x) (k : Int) (wr : Bool) (va ask : Int) : holdL p.locks ⟨x, k, wr, va, ask⟩ = p.locks ++ [⟨x, k, wr, va, ask⟩] := by
  have := h.idx k
  unfold St.holdL
  rw [if_neg (Int.not_le.mpr this)]
theorem Fresh.holdD {p : PS} {x : Int × Int} (h : Fresh p x) : holdD p.doubts x = p.doubts ++ [⟨x, 0⟩] := by
  have : p.doubts.any (dbT x) = false := List.any_eq_false.2 fun d hd => by simp [dbT, h.nd d hd]
  unfold St.holdD
  rw [this]
  rfl
theorem itemAt_nil (k : Int) : itemAt [] k = ⟨k, 0, 0⟩ := rfl
theorem itemAt_cons (x : ItV) (r : List ItV) (k : Int) : itemAt (x :: r) k = if x.key = k then x else itemAt r k := by
  unfold itemAt idxI
  rw [List.findIdx?_cons]
  by_cases h : x.key = k
  · simp [kyT, h]
  · have : kyT k x = false := by simp [kyT, h]
    rw [this]
    cases e : r.findIdx? (kyT k) with
    | none => simp [h]
    | some q =>
      rw [if_neg h]
      show (if ((q + 1 : Nat) : Int) < 0 then _ else (x :: r).getD (((q + 1 : Nat) : Int)).toNat default) = (if ((q : Nat) : Int) < 0 then _ else r.getD ((q : Nat) : Int).toNat default)
      rw [if_neg (by omega), if_neg (by omega)]
      rfl
theorem itemAt_none {k : Int} : ∀ {l : List ItV}, (∀ x ∈ l, x.key ≠ k) → itemAt l k = ⟨k, 0, 0⟩
  | [], _ => rfl
  | x :: r, h => by rw [itemAt_cons, if_neg (h x (by simp)), itemAt_none fun y hy => h y (by simp [hy])]
theorem itemAt_bd {v k : Int} (hv : 0 ≤ v) : ∀ {l : List ItV}, (∀ x ∈ l, x.version ≤ v) → (itemAt l k).version ≤ v
  | [], _ => hv
  | x :: r, h => by
    rw [itemAt_cons]
    split
    · exact h x (by simp)
    · exact itemAt_bd hv fun y hy => h y (by simp [hy])
theorem itemAt_put (k va : Int) : ∀ (xs : List ItV) (lo : Int), itemsOK lo xs = true → itemAt (putI k va xs) k = ⟨k, va, (itemAt xs k).version + 1⟩
  | [], lo, _ => by simp [putI, itemAt_cons, itemAt_nil]
  | x :: r, lo, h => by
    simp only [itemsOK, Bool.and_eq_true] at h
    have hge := itemsOK_ge r _ h.2
    rw [putI]
    split
    · rename_i e
      rw [itemAt_cons, if_pos rfl, itemAt_cons, if_pos e]
    · rename_i e
      split
      · rename_i e2
        rw [itemAt_cons, if_pos rfl, itemAt_none (l := x :: r) (fun y hy => ?_)]
        · rfl
        · rcases List.mem_cons.1 hy with rfl | hy
          · exact e
          · have := hge y hy; omega
      · rw [itemAt_cons, if_neg e, itemAt_cons, if_neg e, itemAt_put k va r _ h.2]
theorem ref0 {s : SV} {x : Int × Int} {k : Int} (ho : OKP s.data) (hx : txOK x = true) (hk : inR k 0 7 = true) : refErr s x k = 0 := by
  unfold refErr
  rw [if_pos ho.ok, hx, hk]
  rfl
/-- Who reads a key for the first time. -/
theorem read_fresh {s : SV} {x : Int × Int} {k : Int} (ho : OKP s.data) (h20 : s.locks.length ≤ 22) (hF : Fresh s.data x) (hk : inR k 0 7 = true) :
    (s.locks.any (wrT k) = true → readErr s x k = 11 ∧ readVal s x k = 0 ∧ readVer s x k = 0) ∧ (s.locks.any (wrT k) = false → readErr s x k = 0 ∧ readVal s x k = (itemAt s.items k).value ∧ readVer s x k = (itemAt s.items k).version ∧ readData s x k = ⟨s.items, s.locks ++ [⟨x, k, false, 0, 0⟩], s.doubts ++ [⟨x, 0⟩], s.over⟩) := by
  have h0 := ref0 ho hF.okx hk
  have hi : idxI (byT x k) s.locks < 0 := hF.idx k
  have hn : x ∉ s.over := hF.nov
  have hE : readErr s x k = if s.locks.any (wrT k) then 11 else 0 := by
    unfold readErr
    rw [if_pos h0, if_pos hi]
    unfold rrErr
    rw [if_neg hn, if_neg (show ¬ 24 ≤ s.locks.length by omega)]
  constructor
  · intro h
    rw [h] at hE
    have hE' : readErr s x k = 11 := hE
    exact ⟨hE', by unfold readVal; rw [hE']; rfl, by unfold readVer; rw [hE']; rfl⟩
  · intro h
    rw [h] at hE
    have hE' : readErr s x k = 0 := hE
    refine ⟨hE', ?_, ?_, ?_⟩
    · unfold readVal
      rw [if_pos hE', if_neg (fun e => by omega)]
    · unfold readVer
      rw [if_pos hE']
    · unfold readData
      rw [if_pos hE', if_pos hi]
      have e1 : holdL s.locks ⟨x, k, false, 0, 0⟩ = s.locks ++ [⟨x, k, false, 0, 0⟩] := hF.holdL k false 0 0
      have e2 : holdD s.doubts x = s.doubts ++ [⟨x, 0⟩] := hF.holdD
      rw [e1, e2]
/-- Who writes a key for the first time. -/
theorem write_fresh {s : SV} {x : Int × Int} {k va ask : Int} (ho : OKP s.data) (h20 : s.locks.length ≤ 22) (hF : Fresh s.data x) (hk : inR k 0 7 = true) (hva : inR va 0 1073741824 = true) (hask : inR ask 0 1048576 = true) (hver : ∀ y ∈ s.items, y.version ≤ 1048000) :
    (s.locks.any (othT x k) = true → writeErr s x k va ask = 11) ∧ (s.locks.any (othT x k) = false → writeErr s x k va ask = 0 ∧ writeData s x k va ask = ⟨s.items, s.locks ++ [⟨x, k, true, va, ask⟩], s.doubts ++ [⟨x, 0⟩], s.over⟩) := by
  have h0 := ref0 ho hF.okx hk
  have hi : idxI (byT x k) s.locks < 0 := hF.idx k
  have hn : x ∉ s.over := hF.nov
  have hl : lateT s x k ask = false := by
    unfold lateT
    rw [decide_eq_false hn, decide_eq_false (Int.not_le.mpr hi)]
    rfl
  have hE : writeErr s x k va ask = if s.locks.any (othT x k) then 11 else 0 := by
    unfold writeErr
    rw [if_pos h0, hva, hask]
    unfold rwErr
    have hb := itemAt_bd (k := k) (v := 1048000) (by omega) hver
    rw [hl, if_neg (show ¬ (idxI (byT x k) s.locks < 0 ∧ 24 ≤ s.locks.length) by omega), if_neg (show ¬ 1048576 ≤ (itemAt s.items k).version by omega)]
    rfl
  constructor
  · intro h
    rw [hE, h]
    rfl
  · intro h
    rw [h] at hE
    have hE' : writeErr s x k va ask = 0 := hE
    refine ⟨hE', ?_⟩
    unfold writeData
    rw [if_pos hE']
    have e1 : holdL s.locks ⟨x, k, true, va, ask⟩ = s.locks ++ [⟨x, k, true, va, ask⟩] := hF.holdL k true va ask
    have e2 : holdD s.doubts x = s.doubts ++ [⟨x, 0⟩] := hF.holdD
    rw [e1, e2]
/-- The lock that stands last is the one that is found. -/
theorem idx_last {l : List LkV} {x : Int × Int} {k : Int} {wr : Bool} {va ask : Int} (h : ∀ o ∈ l, o.t ≠ x) : idxI (byT x k) (l ++ [⟨x, k, wr, va, ask⟩]) = (l.length : Int) ∧ (l ++ [(⟨x, k, wr, va, ask⟩ : LkV)]).getD l.length default = ⟨x, k, wr, va, ask⟩ := by
  have e : (l ++ [(⟨x, k, wr, va, ask⟩ : LkV)]).getD l.length default = ⟨x, k, wr, va, ask⟩ := by simp [List.getD]
  refine ⟨idxI_hit (by simp) (fun i hi => ?_) (by rw [e]; simp [byT]), e⟩
  have hm : (l ++ [(⟨x, k, wr, va, ask⟩ : LkV)]).getD i default = l.getD i default := by rw [List.getD, List.getD, List.getElem?_append_left hi]
  rw [hm]
  have := h _ (getD_mem hi)
  simp only [byT, decide_eq_false this, Bool.false_and]
/-- A store with one lock more, of a transaction that it did not know. -/
structure Plus (p q : PS) (L : LkV) : Prop where
  items : q.items = p.items
  locks : q.locks = p.locks ++ [L]
  doubts : q.doubts = p.doubts ++ [⟨L.t, 0⟩]
  over : q.over = p.over
theorem Plus.of {p q : PS} {L : LkV} (h : q = ⟨p.items, p.locks ++ [L], p.doubts ++ [⟨L.t, 0⟩], p.over⟩) : Plus p q L := by subst h; exact ⟨rfl, rfl, rfl, rfl⟩
/-- Who has a lock reads its own. -/
theorem read_again {p : PS} {u : SV} {x : Int × Int} {k : Int} {wr : Bool} {va ask : Int} (hF : Fresh p x) (hP : Plus p u.data ⟨x, k, wr, va, ask⟩) (ho : OKP u.data) (hk : inR k 0 7 = true) :
    readErr u x k = 0 ∧ readVal u x k = (if wr then va else (itemAt p.items k).value) ∧ readVer u x k = (itemAt p.items k).version ∧ readData u x k = u.data := by
  have h0 := ref0 ho hF.okx hk
  have el : u.locks = p.locks ++ [⟨x, k, wr, va, ask⟩] := hP.locks
  have ei : u.items = p.items := hP.items
  obtain ⟨i1, i2⟩ := idx_last (k := k) (wr := wr) (va := va) (ask := ask) hF.nl
  have hE : readErr u x k = 0 := by
    unfold readErr
    rw [if_pos h0, el, i1, if_neg (by omega)]
  refine ⟨hE, ?_, ?_, ?_⟩
  · unfold readVal
    rw [if_pos hE, el, i1, ei]
    simp only [Int.toNat_natCast, i2]
    cases wr with
    | true => rw [if_pos ⟨by omega, rfl⟩]; rfl
    | false => rw [if_neg (fun e => by simp at e)]; rfl
  · unfold readVer
    rw [if_pos hE, ei]
  · unfold readData
    rw [if_pos hE, el, i1, if_neg (by omega), ← el]
    rfl
/-- What others are told where one writes. -/
theorem wr_plus {p : PS} {u : SV} {x : Int × Int} {k va ask : Int} (hP : Plus p u.data ⟨x, k, true, va, ask⟩) : u.locks.any (wrT k) = true ∧ ∀ y, y ≠ x → u.locks.any (othT y k) = true := by
  have el : u.locks = p.locks ++ [⟨x, k, true, va, ask⟩] := hP.locks
  rw [el]
  refine ⟨by simp [wrT], fun y hy => ?_⟩
  have : ¬ x = y := fun e => hy e.symm
  simp [othT, this]
theorem Plus.fresh {p q : PS} {L : LkV} (hP : Plus p q L) {y : Int × Int} (h : Fresh p y) (hne : L.t ≠ y) : Fresh q y := by
  refine ⟨?_, by rw [hP.over]; exact h.nov, ?_, h.okx⟩
  · rw [hP.locks]
    intro k hk
    rcases List.mem_append.1 hk with hk | hk
    · exact h.nl k hk
    · simp at hk; subst hk; exact hne
  · rw [hP.doubts]
    intro d hd
    rcases List.mem_append.1 hd with hd | hd
    · exact h.nd d hd
    · simp at hd; subst hd; exact hne
/-- A later ask counts, an earlier one does not. -/
theorem write_again {p : PS} {u : SV} {x : Int × Int} {k va ask va2 ask2 : Int} (hF : Fresh p x) (hP : Plus p u.data ⟨x, k, true, va, ask⟩) (ho : OKP u.data) (hk : inR k 0 7 = true) (hno : p.locks.any (othT x k) = false) (hva : inR va2 0 1073741824 = true) (hask : inR ask2 0 1048576 = true) (hver : ∀ y ∈ p.items, y.version ≤ 1048000) :
    (ask2 < ask → writeErr u x k va2 ask2 = 13) ∧ (ask ≤ ask2 → writeErr u x k va2 ask2 = 0) := by
  have h0 := ref0 ho hF.okx hk
  have el : u.locks = p.locks ++ [⟨x, k, true, va, ask⟩] := hP.locks
  have ei : u.items = p.items := hP.items
  have eo : u.over = p.over := hP.over
  obtain ⟨i1, i2⟩ := idx_last (k := k) (wr := true) (va := va) (ask := ask) hF.nl
  have hl : lateT u x k ask2 = decide (ask2 < ask) := by
    unfold lateT
    rw [eo, decide_eq_false hF.nov, el, i1]
    simp only [Int.toNat_natCast, i2]
    rw [decide_eq_true (by omega : (0 : Int) ≤ (p.locks.length : Int))]
    rfl
  have hoth : u.locks.any (othT x k) = false := by
    rw [el, List.any_append, hno]
    simp [othT]
  have hb := itemAt_bd (k := k) (v := 1048000) (by omega) hver
  have hE : writeErr u x k va2 ask2 = if ask2 < ask then 13 else 0 := by
    unfold writeErr
    rw [if_pos h0, hva, hask]
    unfold rwErr
    rw [hl, hoth, if_neg (show ¬ (idxI (byT x k) u.locks < 0 ∧ 24 ≤ u.locks.length) by rw [el, i1]; omega), ei, if_neg (show ¬ 1048576 ≤ (itemAt p.items k).version by omega)]
    by_cases e : ask2 < ask <;> simp [e]
  exact ⟨fun e => by rw [hE, if_pos e], fun e => by rw [hE, if_neg (by omega)]⟩
theorem oth_wr {p : PS} {x : Int × Int} {k : Int} (hF : Fresh p x) (h : p.locks.any (othT x k) = false) : p.locks.any (wrT k) = false := by
  rw [List.any_eq_false] at h ⊢
  intro o ho e
  have h1 := h o ho
  have h2 := hF.nl o ho
  simp only [wrT, Bool.and_eq_true, decide_eq_true_eq] at e
  simp [othT, h2, e.2] at h1
end Go.Proofs.YtcfhhjnbkpgpeaaDoor.St
/- What End leaves: of a transaction that wrote one key; of any. -/
namespace Go.Proofs.YtcfhhjnbkpgpeaaDoor.St
open Go.ChangeShapes Go.WideShapes Go.ChangeAt Go.RowKit
set_option linter.unusedVariables false

theorem wf_of {n : Int} (h1 : -9223372036854775808 ≤ n) (h2 : n ≤ 9223372036854775807) : (Lit.int .i64 n).wf = true := by
  simp [Lit.wf, IntKind.min, IntKind.max, IntKind.signed, IntKind.bits]
  omega
theorem txWf_of {t : Int × Int} (h : txOK t = true) : TxWf t := by
  simp only [txOK, Bool.and_eq_true] at h
  have h1 := inR_of h.1
  have h2 := inR_of h.2
  exact ⟨wf_of (by omega) (by omega), wf_of (by omega) (by omega)⟩
theorem OKP.wf {s : SV} (h : OKP s.data) : ∀ t ∈ s.over, TxWf t := fun t ht => txWf_of (h.ovt t ht)
theorem wOf_one {p : PS} {x : Int × Int} {k va ask : Int} (hF : Fresh p x) : (p.locks ++ [(⟨x, k, true, va, ask⟩ : LkV)]).filter (wOf x) = [⟨x, k, true, va, ask⟩] := by
  rw [List.filter_append]
  have : p.locks.filter (wOf x) = [] := List.filter_eq_nil_iff.2 fun o ho => by simp [wOf, hF.nl o ho]
  rw [this]
  simp [wOf]
theorem end_err {s : SV} {x : Int × Int} {yes : Bool} (ho : OKP s.data) (hx : txOK x = true) : endErr s x yes = 0 := by
  unfold endErr
  rw [if_pos ho.ok, if_pos hx]
theorem end_data {s : SV} {x : Int × Int} {yes : Bool} (ho : OKP s.data) (hx : txOK x = true) : endData s x yes = ⟨if yes then putAll s.items (s.locks.filter (wOf x)) else s.items, keep (ofT x) s.locks, keep (dbT x) s.doubts, if x ∈ s.over then s.over else s.over ++ [x]⟩ := by
  unfold endData
  rw [if_pos (end_err ho hx)]
theorem end_plus {p : PS} {u : SV} {x : Int × Int} {k va ask : Int} {yes : Bool} (hF : Fresh p x) (hP : Plus p u.data ⟨x, k, true, va, ask⟩) (ho : OKP u.data) (hver : ∀ y ∈ p.items, y.version ≤ 1048000) :
    endErr u x yes = 0 ∧ OKP (endData u x yes) ∧ (endData u x yes).items = (if yes then putI k va p.items else p.items) ∧ (endData u x yes).locks = p.locks ∧ (endData u x yes).over = p.over ++ [x] := by
  have hE := end_err (yes := yes) ho hF.okx
  have el : u.locks = p.locks ++ [⟨x, k, true, va, ask⟩] := hP.locks
  have ei : u.items = p.items := hP.items
  have eo : u.over = p.over := hP.over
  refine ⟨hE, (end_ok hE (v := 1048000) (by omega) (by omega) (by rw [ei]; exact hver)).1, ?_, ?_, ?_⟩
  all_goals rw [end_data ho hF.okx]
  · show (if yes then putAll u.items (u.locks.filter (wOf x)) else u.items) = _
    rw [ei, el, wOf_one hF]
    rfl
  · show keep (ofT x) u.locks = p.locks
    rw [el]
    unfold keep
    rw [List.filter_append, List.filter_eq_self.2 (fun o h => by simp [ofT, hF.nl o h])]
    simp [ofT]
  · show (if x ∈ u.over then u.over else u.over ++ [x]) = p.over ++ [x]
    rw [eo, if_neg hF.nov]
/-- Who is over is over. -/
theorem end_again {s : SV} {x : Int × Int} {yes : Bool} (ho : OKP s.data) (hx : txOK x = true) (hver : ∀ y ∈ s.items, y.version ≤ 1048000) {u : SV} (hd : u.data = endData s x yes) (no : Bool) :
    OKP u.data ∧ x ∈ u.over ∧ (∀ k ∈ u.locks, k.t ≠ x) ∧ endErr u x no = 0 ∧ endData u x no = u.data ∧ u.locks = keep (ofT x) s.locks ∧ (u.over = s.over ∨ u.over = s.over ++ [x]) := by
  have hE := end_err (yes := yes) ho hx
  have hok : OKP u.data := by rw [hd]; exact (end_ok hE (v := 1048000) (by omega) (by omega) hver).1
  rw [end_data ho hx] at hd
  have el : u.locks = keep (ofT x) s.locks := congrArg PS.locks hd
  have ed : u.doubts = keep (dbT x) s.doubts := congrArg PS.doubts hd
  have eo : u.over = if x ∈ s.over then s.over else s.over ++ [x] := congrArg PS.over hd
  have hin : x ∈ u.over := by
    rw [eo]
    split
    · assumption
    · simp
  have hno : ∀ k ∈ u.locks, k.t ≠ x := by
    rw [el]
    intro k hk
    have := (mem_keep.1 hk).2
    simpa [ofT] using this
  refine ⟨hok, hin, hno, end_err hok hx, ?_, el, ?_⟩
  · rw [end_data hok hx]
    have h1 : u.locks.filter (wOf x) = [] := List.filter_eq_nil_iff.2 fun o h => by simp [wOf, hno o h]
    have h2 : keep (ofT x) u.locks = u.locks := List.filter_eq_self.2 fun o h => by simp [ofT, hno o h]
    have h3 : keep (dbT x) u.doubts = u.doubts := by
      rw [ed]
      unfold keep
      rw [List.filter_filter]
      congr 1
      funext d
      cases dbT x d <;> rfl
    rw [h1, h2, h3, if_pos hin]
    show (⟨if no then u.items else u.items, _, _, _⟩ : PS) = _
    rw [ite_self]
    rfl
  · rw [eo]
    split
    · exact .inl rfl
    · exact .inr rfl
end Go.Proofs.YtcfhhjnbkpgpeaaDoor.St
/- What Rebuild tells, in memory: it lives on beside boxes of the caller's. -/
namespace Go.Proofs.YtcfhhjnbkpgpeaaDoor.Rb
open Go.ChangeShapes Go.WideShapes Go.ChangeAt Go.RowKit
open Go.Proofs.YtcfhhjnbkpgpeaaDoor.St Go.Proofs.YtcfhhjnbkpgpeaaDoor.Co Go.Proofs.YtcfhhjnbkpgpeaaDoor.Pt
set_option linter.unusedVariables false

theorem nT {u v z : World} (h : Below u.heap.size u v) (k : Below v.heap.size v z) : Below u.heap.size u z := h.trans (k.mono h.size)
/-- A store and jobs. -/
structure Rt where
  s : SV
  a : Option Addr
  c : Nat
  js : List JbV
instance : Inhabited Rt := ⟨⟨⟨none, 0, 0, none, 0, 0, none, 0, 0, none, 0, 0, [], [], [], []⟩, none, 0, []⟩⟩
def Rt.rows (q : Rt) : List Value := [.slice q.s.ia q.s.il q.s.ic, .slice q.s.la q.s.ll q.s.lc, .slice q.s.da q.s.dl q.s.dc, .slice q.s.oa q.s.ol q.s.oc, .slice q.a q.js.length q.c] ++ q.js.map fun j => .slice j.aa j.al j.ac
def FarV (r : Nat) (vs : List Value) : Prop := ∀ v ∈ vs, v.ownBlock ≠ some r
structure RbAt (B : Nat) (u : World) (q : Rt) : Prop where
  st : OwnStore u B q.s
  jb : JobsMem u B q.a q.js.length q.c q.js
theorem RbAt.below {B : Nat} {u v : World} {q : Rt} (h : RbAt B u q) (hb : Below u.heap.size u v) : RbAt B v q := ⟨h.st.below hb, h.jb.below hb⟩
theorem RbAt.base {B C : Nat} {u : World} {q : Rt} (h : RbAt B u q) (hC : C ≤ B) : RbAt C u q := ⟨h.st.base hC, JobsMem.base h.jb hC⟩
theorem RbAt.mem {B : Nat} {u : World} {q : Rt} (h : RbAt B u q) {v : Value} (hv : v ∈ q.rows) {r : Nat} (hr : v.ownBlock = some r) : B ≤ r ∧ r < u.heap.size := by
  unfold Rt.rows at hv
  simp only [List.cons_append, List.nil_append, List.mem_cons, List.mem_map] at hv
  rcases hv with rfl | rfl | rfl | rfl | rfl | ⟨j, hj, rfl⟩
  · exact h.st.items.lt _ hr
  · exact h.st.locks.lt _ hr
  · exact h.st.doubts.lt _ hr
  · exact h.st.over.lt _ hr
  · exact h.jb.own.lt _ hr
  · exact (h.jb.ask j hj).1.lt _ hr
theorem RbAt.farNew {B : Nat} {u : World} {q : Rt} (h : RbAt B u q) : FarV u.heap.size q.rows := fun v hv e => Nat.lt_irrefl _ (h.mem hv e).2
theorem RbAt.farOld {B : Nat} {u : World} {q : Rt} (h : RbAt B u q) {r : Nat} (hr : r < B) : FarV r q.rows := fun v hv e => by have := (h.mem hv e).1; omega
theorem RbAt.aside {B : Nat} {u : World} {q : Rt} (h : RbAt B u q) {r : Nat} (hr : FarV r q.rows) (i : Nat) (v : Value) : RbAt B (u.setCell ⟨r, i, none⟩ v) q := by
  have key : ∀ {te : TypeId} {k : Nat} {x : Value} {m : Nat} {xs : List Value}, x ∈ q.rows → u.ownsRow B te k x m xs → (u.setCell ⟨r, i, none⟩ v).ownsRow B te k x m xs := fun hm hx => ownsRow_setCell_other hx (hr _ hm) v
  refine ⟨⟨key (by simp [Rt.rows]) h.st.items, key (by simp [Rt.rows]) h.st.locks, key (by simp [Rt.rows]) h.st.doubts, key (by simp [Rt.rows]) h.st.over, h.st.ap_il, h.st.ap_id, h.st.ap_io, h.st.ap_ld, h.st.ap_lo, h.st.ap_do⟩, ⟨key (by simp [Rt.rows]) h.jb.own, h.jb.len, h.jb.bare, fun j hj => ⟨key ?_ (h.jb.ask j hj).1, (h.jb.ask j hj).2⟩⟩⟩
  unfold Rt.rows
  exact List.mem_append.2 (Or.inr (List.mem_map.2 ⟨j, hj, rfl⟩))
theorem RbAt.aside2 {B : Nat} {u : World} {q : Rt} (h : RbAt B u q) {r : Nat} (hr : FarV r q.rows) (a b : Value) : RbAt B ((u.setCell ⟨r, 0, none⟩ a).setCell ⟨r, 1, none⟩ b) q := (h.aside hr 0 a).aside hr 1 b
theorem RbAt.aside4 {B : Nat} {u : World} {q : Rt} (h : RbAt B u q) {r : Nat} (hr : FarV r q.rows) (a b c d : Value) : RbAt B ((((u.setCell ⟨r, 0, none⟩ a).setCell ⟨r, 1, none⟩ b).setCell ⟨r, 2, none⟩ c).setCell ⟨r, 3, none⟩ d) q := (((h.aside hr 0 a).aside hr 1 b).aside hr 2 c).aside hr 3 d
/-- Records of the laws' as records here. -/
def toM (y : RcV) : RcM := ⟨⟨y.kind, y.site, y.num, y.key, y.value, y.ask, y.yes, y.sites⟩, y.sa, y.sl, y.sc⟩
theorem toM_cells (y : RcV) : (toM y).cells = RcV.cells y := rfl
theorem toM_v (y : RcV) : RcM.v (toM y) = y := rfl
/-- All that may be. -/
theorem recsErr_zero {s : Int} {ls : List (Int × Int)} {p : Int} : ∀ {rs : List RcP}, (∀ r ∈ rs, recFault s ls p (RcP.v r) = 0) → recsErr s ls p rs = 0 := by
  intro rs
  induction rs with
  | nil => intro _; rfl
  | cons a l ih =>
    intro h
    rw [recsErr, if_pos (h a (by simp))]
    exact ih (fun r hr => h r (by simp [hr]))
theorem rbErr_ok {s : Int} {ls : List (Int × Int)} {p me : Int} {rs : List RcP} (hc : cfgFault s ls p = 0) (hm : 0 ≤ me ∧ me ≤ s - 1) (h : ∀ r ∈ rs, recFault s ls p (RcP.v r) = 0) : rbErr s ls p me rs = 0 := by
  unfold rbErr
  rw [if_pos hc, if_pos (by simp [inR]; omega), recsErr_zero h]
theorem rbErr_site {s : Int} {ls : List (Int × Int)} {p me : Int} {rs : List RcP} (hc : cfgFault s ls p = 0) (hm : ¬ (0 ≤ me ∧ me ≤ s - 1)) : rbErr s ls p me rs = 2 := by
  unfold rbErr
  rw [if_pos hc, if_neg (by simp [inR]; omega)]
theorem isRecs_at {w : World} {a : Option Addr} {n c : Nat} {ys : List RcV} (h : IsRecs w a n c ys) (hc0 : a = none → c = 0) : RecsAt w a n c (ys.map toM) := by
  obtain ⟨h1, h2, h3, h4, h5⟩ := h
  refine ⟨⟨by rw [List.length_map, h1], h2, h3, hc0, fun hp => ?_⟩, fun r hr => ?_⟩
  · obtain ⟨b, off, e, hb, hc⟩ := h5 hp
    refine ⟨b, off, e, hb, fun i hi j hj => ?_⟩
    have hi' : i < ys.length := by omega
    rw [hc i hi j hj]
    simp [List.getD, hi', toM_cells]
  · obtain ⟨y, hy, rfl⟩ := List.mem_map.1 hr
    exact h4 y hy
/-- What is rebuilt of records that may be. -/
theorem rebuild_ok (s p : Int) (a : Option Addr) (len cap : Nat) (ls : List (Int × Int)) (me : Int) (ao : Option Addr) (n cp : Nat) (rs : List RcM) (w : World) (h : IsLabs w a len cap ls) (hr : RecsAt w ao n cp rs) (hm : HasAt w 0 rHas) (ht : TopsAt w) (hn : n ≤ 1000000) (he : rbErr s ls p me (rs.map RcM.p) = 0) :
    Calls Tryd.prog 9 #[.agg #[.int .i64 s, .slice a len cap, .int .i64 p], .int .i64 me, .slice ao n cp] w fun e w' => ∃ (q : Rt) (na : Option Addr) (nc : Nat), e = .returned (.tuple #[q.s.val, .agg #[.int .i64 (recDesk me (rs.map RcM.p)).1, .slice q.a q.js.length q.c], .slice na (recNotes (rs.map RcM.p)).length nc, .int .i64 0]) ∧ RbAt w.heap.size w' q ∧ q.s.data = recStore (rs.map RcM.p) ∧ q.js.map JbV.bare = (recDesk me (rs.map RcM.p)).2 ∧ Below w.heap.size w w' := by
  refine (rebuild_any s p a len cap ls me ao n cp rs w h hr hm ht hn).mono ?_
  rintro e w' (⟨h1, -⟩ | ⟨h1, u, ja, jc, js, na, nc, rfl, h2, h3, h4, h5, h6, h7⟩)
  · exact absurd he h1
  · exact ⟨⟨u, ja, jc, js⟩, na, nc, rfl, ⟨h2, h4⟩, h3, h5, h7⟩
theorem rebuild_no (s p : Int) (a : Option Addr) (len cap : Nat) (ls : List (Int × Int)) (me : Int) (ao : Option Addr) (n cp : Nat) (rs : List RcM) (w : World) (h : IsLabs w a len cap ls) (hr : RecsAt w ao n cp rs) (hm : HasAt w 0 rHas) (ht : TopsAt w) (hn : n ≤ 1000000) {E : Int} (he : rbErr s ls p me (rs.map RcM.p) = E) (h0 : ¬ E = 0) :
    Calls Tryd.prog 9 #[.agg #[.int .i64 s, .slice a len cap, .int .i64 p], .int .i64 me, .slice ao n cp] w fun e w' => e = .returned (.tuple #[.agg #[.slice none 0 0, .slice none 0 0, .slice none 0 0, .slice none 0 0], .agg #[.int .i64 0, .slice none 0 0], .slice none 0 0, .int .i64 E]) ∧ Below w.heap.size w w' := by
  refine (rebuild_any s p a len cap ls me ao n cp rs w h hr hm ht hn).mono ?_
  rw [he]
  rintro e w' (⟨h1, rfl, h2⟩ | ⟨h1, -⟩)
  · exact ⟨rfl, h2⟩
  · exact absurd h1 h0
theorem recsAt_nil (w : World) : RecsAt w none 0 0 [] := ⟨⟨rfl, Nat.le_refl _, Nat.zero_le _, fun _ => rfl, fun h => absurd h (Nat.lt_irrefl _)⟩, fun r hr => by cases hr⟩
/-- What a record that may be says of a store and a desk. -/
theorem rec_tx {s : Int} {ls : List (Int × Int)} {p : Int} {r : RcP} (h : recFault s ls p (RcP.v r) = 0) : txOK r.tx = true ∧ (1 ≤ r.num ∧ r.num ≤ 1048576) ∧ rising s 0 r.zs = true := by
  have h1 := rec_fine h
  refine ⟨?_, h1.2.2.1, h1.2.2.2.2.2⟩
  obtain ⟨a1, a2, a3, -⟩ := h1
  have e1 : St.inR r.site 0 3 = true := decide_eq_true ⟨by omega, by omega⟩
  have e2 : St.inR r.num 1 1048576 = true := decide_eq_true ⟨by omega, by omega⟩
  show (St.inR r.site 0 3 && St.inR r.num 1 1048576) = true
  rw [e1, e2]
  rfl
end Go.Proofs.YtcfhhjnbkpgpeaaDoor.Rb
