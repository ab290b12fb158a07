/- Texts of this claim, one behind the other. -/
import Derived.Test.YtekglahigjblkaaGreatDoorM34RecoverRebuilds
import Derived.Test.YtekglahigjblkaaGreatDoorM25RecoverRebuilds
/- What Read and Write do for a transaction that a store does not know yet; what Read, Write and End then find. -/
namespace Go.Proofs.YtekglahigjblkaaGreatDoor.St
open Go.ChangeShapes Go.WideShapes Go.ChangeAt Go.RowKit
set_option linter.unusedVariables false

structure Fresh (p : PS) (x : Int × Int) : Prop where
  nl : ∀ k ∈ p.locks, k.t ≠ x
  nov : x ∉ p.over
  nd : ∀ d ∈ p.doubts, d.t ≠ x
  okx : txOK x = true
theorem Gd.fresh {p : PS} {v : Int} (h : Gd p v) {a b : Int} (h1 : 2 ≤ a) (h2 : a ≤ 3) (h3 : 1 ≤ b) (h4 : b ≤ 100) : Fresh p (a, b) := by
  have key : ¬ isT (a, b) := by
    simp only [isT, List.mem_cons, List.not_mem_nil, or_false, Prod.mk.injEq]
    omega
  refine ⟨fun k hk e => key (e ▸ (h.lt k hk).1), fun e => key (h.ot _ e), fun d hd e => ?_, ?_⟩
  · obtain ⟨k, hk, e2⟩ := h.ok.dl d hd
    exact key (by rw [← e, ← e2]; exact (h.lt k hk).1)
  · simp only [txOK, Bool.and_eq_true]
    exact ⟨inR_true (by show (0 : Int) ≤ a; omega) h2, inR_true h3 (by show b ≤ 1048576; omega)⟩
theorem Fresh.idx {p : PS} {x : Int × Int} (h : Fresh p x) (k : Int) : idxI (byT x k) p.locks < 0 := idx_neg fun o ho => by simp [byT, h.nl o ho]
theorem Fresh.holdL {p : PS} {x : Int × Int} (h : Fresh p x) (k : Int) (wr : Bool) (va ask : Int) : holdL p.locks ⟨x, k, wr, va, ask⟩ = p.locks ++ [⟨x, k, wr, va, ask⟩] := by
  have := h.idx k
  unfold St.holdL
  rw [if_neg (Int.not_le.mpr this)]
theorem Fresh.holdD {p : PS} {x : Int × Int} (h : Fresh p x) : holdD p.doubts x = p.doubts ++ [⟨x, 0⟩] := by
  have : p.doubts.any (dbT x) = false := List.any_eq_false.2 fun d hd => by simp [dbT, h.nd d hd]
  unfold St.holdD
  rw [this]
  rfl
theorem itemAt_nil (k : Int) : itemAt [] k = ⟨k, 0, 0⟩ := rfl
theorem itemAt_cons (x : ItV) (r : List ItV) (k : Int) : itemAt (x :: r) k = if x.key = k then x else itemAt r k := by
  unfold itemAt idxI
  rw [List.findIdx?_cons]
  by_cases h : x.key = k
  · simp [kyT, h]
  · have : kyT k x = false := by simp [kyT, h]
    rw [this]
    cases e : r.findIdx? (kyT k) with
    | none => simp [h]
    | some q =>
      rw [if_neg h]
      show (if ((q + 1 : Nat) : Int) < 0 then _ else (x :: r).getD (((q + 1 : Nat) : Int)).toNat default) = (if ((q : Nat) : Int) < 0 then _ else r.getD ((q : Nat) : Int).toNat default)
      rw [if_neg (by omega), if_neg (by omega)]
      rfl
theorem itemAt_none {k : Int} : ∀ {l : List ItV}, (∀ x ∈ l, x.key ≠ k) → itemAt l k = ⟨k, 0, 0⟩
  | [], _ => rfl
  | x :: r, h => by rw [itemAt_cons, if_neg (h x (by simp)), itemAt_none fun y hy => h y (by simp [hy])]
theorem itemAt_bd {v k : Int} (hv : 0 ≤ v) : ∀ {l : List ItV}, (∀ x ∈ l, x.version ≤ v) → (itemAt l k).version ≤ v
  | [], _ => hv
  | x :: r, h => by
    rw [itemAt_cons]
    split
    · exact h x (by simp)
    · exact itemAt_bd hv fun y hy => h y (by simp [hy])
theorem itemAt_put (k va : Int) : ∀ (xs : List ItV) (lo : Int), itemsOK lo xs = true → itemAt (putI k va xs) k = ⟨k, va, (itemAt xs k).version + 1⟩
  | [], lo, _ => by simp [putI, itemAt_cons, itemAt_nil]
  | x :: r, lo, h => by
    simp only [itemsOK, Bool.and_eq_true] at h
    have hge := itemsOK_ge r _ h.2
    rw [putI]
    split
    · rename_i e
      rw [itemAt_cons, if_pos rfl, itemAt_cons, if_pos e]
    · rename_i e
      split
      · rename_i e2
        rw [itemAt_cons, if_pos rfl, itemAt_none (l := x :: r) (fun y hy => ?_)]
        · rfl
        · rcases List.mem_cons.1 hy with rfl | hy
          · exact e
          · have := hge y hy; omega
      · rw [itemAt_cons, if_neg e, itemAt_cons, if_neg e, itemAt_put k va r _ h.2]
theorem ref0 {s : SV} {x : Int × Int} {k : Int} (ho : OKP s.data) (hx : txOK x = true) (hk : inR k 0 7 = true) : refErr s x k = 0 := by
  unfold refErr
  rw [if_pos ho.ok, hx, hk]
  rfl
/-- Who reads a key for the first time. -/
theorem read_fresh {s : SV} {x : Int × Int} {k : Int} (ho : OKP s.data) (h20 : s.locks.length ≤ 22) (hF : Fresh s.data x) (hk : inR k 0 7 = true) :
    (s.locks.any (wrT k) = true → readErr s x k = 11 ∧ readVal s x k = 0 ∧ readVer s x k = 0) ∧ (s.locks.any (wrT k) = false → readErr s x k = 0 ∧ readVal s x k = (itemAt s.items k).value ∧ readVer s x k = (itemAt s.items k).version ∧ readData s x k = ⟨s.items, s.locks ++ [⟨x, k, false, 0, 0⟩], s.doubts ++ [⟨x, 0⟩], s.over⟩) := by
  have h0 := ref0 ho hF.okx hk
  have hi : idxI (byT x k) s.locks < 0 := hF.idx k
  have hn : x ∉ s.over := hF.nov
  have hE : readErr s x k = if s.locks.any (wrT k) then 11 else 0 := by
    unfold readErr
    rw [if_pos h0, if_pos hi]
    unfold rrErr
    rw [if_neg hn, if_neg (show ¬ 24 ≤ s.locks.length by omega)]
  constructor
  · intro h
    rw [h] at hE
    have hE' : readErr s x k = 11 := hE
    exact ⟨hE', by unfold readVal; rw [hE']; rfl, by unfold readVer; rw [hE']; rfl⟩
  · intro h
    rw [h] at hE
    have hE' : readErr s x k = 0 := hE
    refine ⟨hE', ?_, ?_, ?_⟩
    · unfold readVal
      rw [if_pos hE', if_neg (fun e => by omega)]
    · unfold readVer
      rw [if_pos hE']
    · unfold readData
      rw [if_pos hE', if_pos hi]
      have e1 : holdL s.locks ⟨x, k, false, 0, 0⟩ = s.locks ++ [⟨x, k, false, 0, 0⟩] := hF.holdL k false 0 0
      have e2 : holdD s.doubts x = s.doubts ++ [⟨x, 0⟩] := hF.holdD
      rw [e1, e2]
/-- Who writes a key for the first time. -/
theorem write_fresh {s : SV} {x : Int × Int} {k va ask : Int} (ho : OKP s.data) (h20 : s.locks.length ≤ 22) (hF : Fresh s.data x) (hk : inR k 0 7 = true) (hva : inR va 0 1073741824 = true) (hask : inR ask 0 1048576 = true) (hver : ∀ y ∈ s.items, y.version ≤ 1048000) :
    (s.locks.any (othT x k) = true → writeErr s x k va ask = 11) ∧ (s.locks.any (othT x k) = false → writeErr s x k va ask = 0 ∧ writeData s x k va ask = ⟨s.items, s.locks ++ [⟨x, k, true, va, ask⟩], s.doubts ++ [⟨x, 0⟩], s.over⟩) := by
  have h0 := ref0 ho hF.okx hk
  have hi : idxI (byT x k) s.locks < 0 := hF.idx k
  have hn : x ∉ s.over := hF.nov
  have hl : lateT s x k ask = false := by
    unfold lateT
    rw [decide_eq_false hn, decide_eq_false (Int.not_le.mpr hi)]
    rfl
  have hE : writeErr s x k va ask = if s.locks.any (othT x k) then 11 else 0 := by
    unfold writeErr
    rw [if_pos h0, hva, hask]
    unfold rwErr
    have hb := itemAt_bd (k := k) (v := 1048000) (by omega) hver
    rw [hl, if_neg (show ¬ (idxI (byT x k) s.locks < 0 ∧ 24 ≤ s.locks.length) by omega), if_neg (show ¬ 1048576 ≤ (itemAt s.items k).version by omega)]
    rfl
  constructor
  · intro h
    rw [hE, h]
    rfl
  · intro h
    rw [h] at hE
    have hE' : writeErr s x k va ask = 0 := hE
    refine ⟨hE', ?_⟩
    unfold writeData
    rw [if_pos hE']
    have e1 : holdL s.locks ⟨x, k, true, va, ask⟩ = s.locks ++ [⟨x, k, true, va, ask⟩] := hF.holdL k true va ask
    have e2 : holdD s.doubts x = s.doubts ++ [⟨x, 0⟩] := hF.holdD
    rw [e1, e2]
/-- The lock that stands last is the one that is found. -/
theorem idx_last {l : List LkV} {x : Int × Int} {k : Int} {wr : Bool} {va ask : Int} (h : ∀ o ∈ l, o.t ≠ x) : idxI (byT x k) (l ++ [⟨x, k, wr, va, ask⟩]) = (l.length : Int) ∧ (l ++ [(⟨x, k, wr, va, ask⟩ : LkV)]).getD l.length default = ⟨x, k, wr, va, ask⟩ := by
  have e : (l ++ [(⟨x, k, wr, va, ask⟩ : LkV)]).getD l.length default = ⟨x, k, wr, va, ask⟩ := by simp [List.getD]
  refine ⟨idxI_hit (by simp) (fun i hi => ?_) (by rw [e]; simp [byT]), e⟩
  have hm : (l ++ [(⟨x, k, wr, va, ask⟩ : LkV)]).getD i default = l.getD i default := by rw [List.getD, List.getD, List.getElem?_append_left hi]
  rw [hm]
  have := h _ (getD_mem hi)
  simp only [byT, decide_eq_false this, Bool.false_and]
/-- A store with one lock more, of a transaction that it did not know. -/
structure Plus (p q : PS) (L : LkV) : Prop where
  items : q.items = p.items
  locks : q.locks = p.locks ++ [L]
  doubts : q.doubts = p.doubts ++ [⟨L.t, 0⟩]
  over : q.over = p.over
theorem Plus.of {p q : PS} {L : LkV} (h : q = ⟨p.items, p.locks ++ [L], p.doubts ++ [⟨L.t, 0⟩], p.over⟩) : Plus p q L := by subst h; exact ⟨rfl, rfl, rfl, rfl⟩
/-- Who has a lock reads its own. -/
theorem read_again {p : PS} {u : SV} {x : Int × Int} {k : Int} {wr : Bool} {va ask : Int} (hF : Fresh p x) (hP : Plus p u.data ⟨x, k, wr, va, ask⟩) (ho : OKP u.data) (hk : inR k 0 7 = true) :
    readErr u x k = 0 ∧ readVal u x k = (if wr then va else (itemAt p.items k).value) ∧ readVer u x k = (itemAt p.items k).version ∧ readData u x k = u.data := by
  have h0 := ref0 ho hF.okx hk
  have el : u.locks = p.locks ++ [⟨x, k, wr, va, ask⟩] := hP.locks
  have ei : u.items = p.items := hP.items
  obtain ⟨i1, i2⟩ := idx_last (k := k) (wr := wr) (va := va) (ask := ask) hF.nl
  have hE : readErr u x k = 0 := by
    unfold readErr
    rw [if_pos h0, el, i1, if_neg (by omega)]
  refine ⟨hE, ?_, ?_, ?_⟩
  · unfold readVal
    rw [if_pos hE, el, i1, ei]
    simp only [Int.toNat_natCast, i2]
    cases wr with
    | true => rw [if_pos ⟨by omega, rfl⟩]; rfl
    | false => rw [if_neg (fun e => by simp at e)]; rfl
  · unfold readVer
    rw [if_pos hE, ei]
  · unfold readData
    rw [if_pos hE, el, i1, if_neg (by omega), ← el]
    rfl
/-- What others are told where one writes. -/
theorem wr_plus {p : PS} {u : SV} {x : Int × Int} {k va ask : Int} (hP : Plus p u.data ⟨x, k, true, va, ask⟩) : u.locks.any (wrT k) = true ∧ ∀ y, y ≠ x → u.locks.any (othT y k) = true := by
  have el : u.locks = p.locks ++ [⟨x, k, true, va, ask⟩] := hP.locks
  rw [el]
  refine ⟨by simp [wrT], fun y hy => ?_⟩
  have : ¬ x = y := fun e => hy e.symm
  simp [othT, this]
theorem Plus.fresh {p q : PS} {L : LkV} (hP : Plus p q L) {y : Int × Int} (h : Fresh p y) (hne : L.t ≠ y) : Fresh q y := by
  refine ⟨?_, by rw [hP.over]; exact h.nov, ?_, h.okx⟩
  · rw [hP.locks]
    intro k hk
    rcases List.mem_append.1 hk with hk | hk
    · exact h.nl k hk
    · simp at hk; subst hk; exact hne
  · rw [hP.doubts]
    intro d hd
    rcases List.mem_append.1 hd with hd | hd
    · exact h.nd d hd
    · simp at hd; subst hd; exact hne
/-- A later ask counts, an earlier one does not. -/
theorem write_again {p : PS} {u : SV} {x : Int × Int} {k va ask va2 ask2 : Int} (hF : Fresh p x) (hP : Plus p u.data ⟨x, k, true, va, ask⟩) (ho : OKP u.data) (hk : inR k 0 7 = true) (hno : p.locks.any (othT x k) = false) (hva : inR va2 0 1073741824 = true) (hask : inR ask2 0 1048576 = true) (hver : ∀ y ∈ p.items, y.version ≤ 1048000) :
    (ask2 < ask → writeErr u x k va2 ask2 = 13) ∧ (ask ≤ ask2 → writeErr u x k va2 ask2 = 0) := by
  have h0 := ref0 ho hF.okx hk
  have el : u.locks = p.locks ++ [⟨x, k, true, va, ask⟩] := hP.locks
  have ei : u.items = p.items := hP.items
  have eo : u.over = p.over := hP.over
  obtain ⟨i1, i2⟩ := idx_last (k := k) (wr := true) (va := va) (ask := ask) hF.nl
  have hl : lateT u x k ask2 = decide (ask2 < ask) := by
    unfold lateT
    rw [eo, decide_eq_false hF.nov, el, i1]
    simp only [Int.toNat_natCast, i2]
    rw [decide_eq_true (by omega : (0 : Int) ≤ (p.locks.length : Int))]
    rfl
  have hoth : u.locks.any (othT x k) = false := by
    rw [el, List.any_append, hno]
    simp [othT]
  have hb := itemAt_bd (k := k) (v := 1048000) (by omega) hver
  have hE : writeErr u x k va2 ask2 = if ask2 < ask then 13 else 0 := by
    unfold writeErr
    rw [if_pos h0, hva, hask]
    unfold rwErr
    rw [hl, hoth, if_neg (show ¬ (idxI (byT x k) u.locks < 0 ∧ 24 ≤ u.locks.length) by rw [el, i1]; omega), ei, if_neg (show ¬ 1048576 ≤ (itemAt p.items k).version by omega)]
    by_cases e : ask2 < ask <;> simp [e]
  exact ⟨fun e => by rw [hE, if_pos e], fun e => by rw [hE, if_neg (by omega)]⟩
theorem oth_wr {p : PS} {x : Int × Int} {k : Int} (hF : Fresh p x) (h : p.locks.any (othT x k) = false) : p.locks.any (wrT k) = false := by
  rw [List.any_eq_false] at h ⊢
  intro o ho e
  have h1 := h o ho
  have h2 := hF.nl o ho
  simp only [wrT, Bool.and_eq_true, decide_eq_true_eq] at e
  simp [othT, h2, e.2] at h1
end Go.Proofs.YtekglahigjblkaaGreatDoor.St
/- Versions never run over: a store stays one that may be, whatever is written and ended, however often. -/
namespace Go.Proofs.YtekglahigjblkaaGreatDoor.St
open Go.ChangeShapes Go.WideShapes Go.ChangeAt Go.RowKit
set_option linter.unusedVariables false

/-- Who has a lock for writing has a version left. -/
def VB (p : PS) : Prop := ∀ k ∈ p.locks, k.write = true → ∀ x ∈ p.items, x.key = k.key → x.version ≤ 1048575
theorem putI_ok2 (key value : Int) (hv : inR value 0 1073741824 = true) (hk : key ≤ 7) : ∀ (xs : List ItV) (lo : Int), lo ≤ key → itemsOK lo xs = true → (∀ x ∈ xs, x.key = key → x.version ≤ 1048575) → itemsOK lo (putI key value xs) = true
  | [], lo, h1, _, _ => by simp only [putI, itemsOK, hv, inR_true h1 hk]; decide
  | x :: r, lo, h1, h2, h3 => by
    simp only [itemsOK, Bool.and_eq_true] at h2
    obtain ⟨⟨⟨a1, a2⟩, a3⟩, a4⟩ := h2
    have b1 := inR_of a1
    have b3 := inR_of a3
    have hr : ∀ y ∈ r, y.key = key → y.version ≤ 1048575 := fun y hy => h3 y (by simp [hy])
    rw [putI]
    split
    · rename_i e
      have hx := h3 x (by simp) e
      simp only [itemsOK, Bool.and_eq_true]
      exact ⟨⟨⟨inR_true h1 hk, hv⟩, inR_true (by omega) (by omega)⟩, by rw [← e]; exact a4⟩
    · split
      · rename_i e
        simp only [itemsOK, Bool.and_eq_true]
        exact ⟨⟨⟨inR_true h1 hk, hv⟩, by decide⟩, ⟨⟨inR_true (by omega) b1.2, a2⟩, a3⟩, a4⟩
      · simp only [itemsOK, Bool.and_eq_true]
        exact ⟨⟨⟨a1, a2⟩, a3⟩, putI_ok2 key value hv hk r (x.key + 1) (by omega) a4 hr⟩
theorem putI_other (key value : Int) : ∀ (xs : List ItV) (x : ItV), x ∈ putI key value xs → x.key ≠ key → x ∈ xs
  | [], x, h, hn => by
    simp only [putI, List.mem_cons, List.not_mem_nil, or_false] at h
    subst h
    exact absurd rfl hn
  | y :: r, x, h, hn => by
    rw [putI] at h
    split at h
    · rcases List.mem_cons.1 h with rfl | h
      · exact absurd rfl hn
      · exact List.mem_cons_of_mem _ h
    · split at h
      · rcases List.mem_cons.1 h with rfl | h
        · exact absurd rfl hn
        · exact h
      · rcases List.mem_cons.1 h with rfl | h
        · exact List.mem_cons_self
        · exact List.mem_cons_of_mem _ (putI_other key value r x h hn)
theorem putAll_other : ∀ (l : List LkV) (xs : List ItV) (x : ItV), x ∈ putAll xs l → (∀ k ∈ l, x.key ≠ k.key) → x ∈ xs
  | [], xs, x, h, _ => h
  | k :: r, xs, x, h, hn => putI_other k.key k.value xs x (putAll_other r (putI k.key k.value xs) x h (fun o ho => hn o (by simp [ho]))) (hn k (by simp))
theorem putAll_ok2 : ∀ (l : List LkV) (xs : List ItV), (∀ k ∈ l, lockOK k = true) → l.Pairwise (fun a b => a.key ≠ b.key) → itemsOK 0 xs = true → (∀ k ∈ l, ∀ x ∈ xs, x.key = k.key → x.version ≤ 1048575) → itemsOK 0 (putAll xs l) = true
  | [], xs, _, _, h, _ => h
  | k :: r, xs, h1, h2, h3, h4 => by
    have hk := h1 k (by simp)
    simp only [lockOK, Bool.and_eq_true] at hk
    have hk7 := inR_of hk.1.1.1.2
    obtain ⟨h5, h6⟩ := List.pairwise_cons.1 h2
    refine putAll_ok2 r (putI k.key k.value xs) (fun o ho => h1 o (by simp [ho])) h6 (putI_ok2 k.key k.value hk.1.1.2 hk7.2 xs 0 hk7.1 h3 (h4 k (by simp))) fun o ho x hx e => ?_
    have hne : x.key ≠ k.key := fun e2 => h5 o ho (e2.symm.trans e)
    exact h4 o (by simp [ho]) x (putI_other k.key k.value xs x hx hne) e
theorem writes_apart {l : List LkV} (h : l.Pairwise (fun a b => against b a = false)) : l.Pairwise (fun a b => a.write = true → b.write = true → a.key ≠ b.key) :=
  h.imp fun {a b} hab ha hb e => by
    simp [against, ha, hb, e] at hab
theorem pair_or {α : Type} {R : α → α → Prop} {l : List α} (h : l.Pairwise R) (hs : ∀ a b, R a b → R b a) : ∀ a ∈ l, ∀ b ∈ l, a = b ∨ R a b := by
  induction h with
  | nil => intro a ha; cases ha
  | cons h1 h2 ih =>
    intro a ha b hb
    rcases List.mem_cons.1 ha with e1 | ha'
    · rcases List.mem_cons.1 hb with e2 | hb'
      · exact Or.inl (e1.trans e2.symm)
      · rw [e1]; exact Or.inr (h1 b hb')
    · rcases List.mem_cons.1 hb with e2 | hb'
      · rw [e2]; exact Or.inr (hs _ _ (h1 a ha'))
      · exact ih a ha' b hb'
theorem end_ok2 {s : SV} {t : Int × Int} {yes : Bool} (h : endErr s t yes = 0) (hv : VB s.data) : OKP (endData s t yes) ∧ VB (endData s t yes) := by
  have hs : storeOK s = true := by unfold endErr at h; split at h <;> first | assumption | omega
  have ht : txOK t = true := by unfold endErr at h; rw [if_pos hs] at h; split at h <;> first | assumption | omega
  have hp := OKP.of hs
  have hap := writes_apart hp.nag
  have hwr : ∀ k ∈ s.locks.filter (wOf t), k ∈ s.locks ∧ k.write = true ∧ k.t = t := fun k hk => by
    obtain ⟨h1, h2⟩ := List.mem_filter.1 hk
    simp only [wOf, Bool.and_eq_true, decide_eq_true_eq] at h2
    exact ⟨h1, h2.1, h2.2⟩
  have hpw : (s.locks.filter (wOf t)).Pairwise (fun a b => a.key ≠ b.key) := by
    have h1 : (s.locks.filter (wOf t)).Pairwise (fun a b => a.write = true → b.write = true → a.key ≠ b.key) := List.Pairwise.filter _ hap
    exact h1.imp_of_mem fun {a b} ha hb hab => hab (hwr a ha).2.1 (hwr b hb).2.1
  have q1 : itemsOK 0 (putAll s.items (s.locks.filter (wOf t))) = true := putAll_ok2 _ s.items (fun k hk => hp.lk k (hwr k hk).1) hpw hp.items (fun k hk => hv k (hwr k hk).1 (hwr k hk).2.1)
  unfold endData
  rw [if_pos h]
  refine ⟨⟨?_, ?_, ?_, ?_, ?_, ?_, ?_, ?_, ?_, ?_, ?_⟩, ?_⟩
  · show itemsOK 0 (if yes then _ else _) = true
    split
    · exact q1
    · exact hp.items
  · show (keep (ofT t) s.locks).length ≤ 24
    exact Nat.le_trans (List.length_filter_le _ _) hp.l24
  · intro k hk
    exact hp.lk k (mem_keep.1 hk).1
  · exact List.Pairwise.filter _ hp.nag
  · show (if t ∈ s.over then s.over else s.over ++ [t]).Nodup
    split
    · exact hp.ov
    · rename_i hn
      rw [List.nodup_append]
      exact ⟨hp.ov, by simp, fun a ha b hb => by simp at hb; subst hb; intro e; exact hn (e ▸ ha)⟩
  · show ∀ x ∈ (if t ∈ s.over then s.over else s.over ++ [t]), txOK x = true
    split
    · exact hp.ovt
    · intro x hx
      rcases List.mem_append.1 hx with hx | hx
      · exact hp.ovt x hx
      · simp at hx; subst hx; exact ht
  · intro d hd
    exact hp.da d (mem_keep.1 hd).1
  · intro d hd
    obtain ⟨d1, d2⟩ := mem_keep.1 hd
    obtain ⟨k, hk, e⟩ := hp.dl d d1
    refine ⟨k, mem_keep.2 ⟨hk, ?_⟩, e⟩
    simp [dbT] at d2
    simp [ofT, e, d2]
  · exact List.Pairwise.filter _ hp.dn
  · intro d hd
    obtain ⟨d1, d2⟩ := mem_keep.1 hd
    show d.t ∉ (if t ∈ s.over then s.over else s.over ++ [t])
    have h3 := hp.dov d d1
    simp [dbT] at d2
    split
    · exact h3
    · intro hx
      rcases List.mem_append.1 hx with hx | hx
      · exact h3 hx
      · simp at hx; exact d2 hx
  · intro k hk
    obtain ⟨k1, k2⟩ := mem_keep.1 hk
    obtain ⟨d, hd, e⟩ := hp.ld k k1
    refine ⟨d, mem_keep.2 ⟨hd, ?_⟩, e⟩
    simp [ofT] at k2
    simp [dbT, e, k2]
  · intro k hk hkw x hx e
    obtain ⟨k1, k2⟩ := mem_keep.1 hk
    have hkt : k.t ≠ t := by simpa [ofT] using k2
    have hold : x ∈ s.items := by
      have hx' : x ∈ (if yes then putAll s.items (s.locks.filter (wOf t)) else s.items) := hx
      split at hx'
      · refine putAll_other _ _ x hx' fun o ho e2 => ?_
        obtain ⟨o1, o2, o3⟩ := hwr o ho
        rcases pair_or hap (fun a b hab ha hb e => hab hb ha e.symm) o o1 k k1 with rfl | h9
        · exact hkt o3
        · exact h9 o2 hkw (e2.symm.trans e)
      · exact hx'
    exact hv k k1 hkw x hold e
theorem itemAt_mem {k : Int} : ∀ {l : List ItV} {lo : Int}, itemsOK lo l = true → ∀ x ∈ l, x.key = k → itemAt l k = x
  | [], lo, _, x, hx, _ => by cases hx
  | y :: r, lo, h, x, hx, e => by
    rw [itemAt_cons]
    simp only [itemsOK, Bool.and_eq_true] at h
    rcases List.mem_cons.1 hx with rfl | hx
    · rw [if_pos e]
    · have := (itemsOK_ge r (y.key + 1) h.2 x hx).1
      rw [if_neg (by omega)]
      exact itemAt_mem h.2 x hx e
theorem write_vb {s : SV} {t : Int × Int} {key value ask : Int} (h : writeErr s t key value ask = 0) (hv : VB s.data) : VB (writeData s t key value ask) := by
  have hr : refErr s t key = 0 := by unfold writeErr at h; split at h <;> first | assumption | omega
  obtain ⟨h1, h2, h3⟩ := ref_ok hr
  have hp := OKP.of h1
  have h' := h
  unfold writeErr at h'
  rw [if_pos hr] at h'
  split at h'
  · unfold rwErr at h'
    split at h'
    · omega
    · split at h'
      · omega
      · split at h'
        · omega
        · split at h'
          · omega
          · rename_i hver
            unfold writeData
            rw [if_pos h]
            intro k hk hkw x hx e
            have hx' : x ∈ s.items := hx
            rcases holdL_mem hk with rfl | hk
            · have h9 : itemAt s.items key = x := itemAt_mem hp.items x hx' e
              rw [h9] at hver
              omega
            · exact hv k hk hkw x hx' e
  · omega
end Go.Proofs.YtekglahigjblkaaGreatDoor.St
namespace Go.Proofs.YtekglahigjblkaaGreatDoor.Rb
open Go.ChangeShapes Go.WideShapes Go.ChangeAt Go.RowKit
open Go.Proofs.YtekglahigjblkaaGreatDoor.St Go.Proofs.YtekglahigjblkaaGreatDoor.Co Go.Proofs.YtekglahigjblkaaGreatDoor.Pt
/-- A store that is being rebuilt, of any number of records. -/
structure RvOK (p : PS) : Prop where
  ok : OKP { p with over := [] }
  vb : VB p
  nd : p.over.Nodup
  ovt : ∀ t ∈ p.over, txOK t = true
  lo : ∀ k ∈ p.locks, k.t ∉ p.over
theorem RvOK.okp {p : PS} (h : RvOK p) : OKP p :=
  ⟨h.ok.items, h.ok.l24, h.ok.lk, h.ok.nag, h.nd, h.ovt, h.ok.da, h.ok.dl, h.ok.dn, fun d hd ho => by
    obtain ⟨k, hk, e⟩ := h.ok.dl d hd
    exact h.lo k hk (by rw [e]; exact ho), h.ok.ld⟩
theorem rv_nil : RvOK PS.nil := ⟨gd_nil.ok, (by intro k hk; cases hk), by simp [PS.nil], by simp [PS.nil], by simp [PS.nil]⟩
theorem rv_step {p : PS} {r : RcP} (h : RvOK p) (ht : txOK r.tx = true) : RvOK (stStep p r) := by
  unfold stStep
  by_cases ho : r.tx ∈ p.over
  · rw [if_pos ho]
    exact h
  · rw [if_neg ho]
    by_cases hk : r.kind = 1
    · rw [if_pos hk]
      unfold PS.wr
      by_cases he : writeErr (PS.sv { p with over := [] }) r.tx r.key r.value r.ask = 0
      · rw [if_pos he]
        have hok := write_ok he
        have hvb := write_vb he (show VB (PS.sv { p with over := [] }).data from h.vb)
        have e : writeData (PS.sv { p with over := [] }) r.tx r.key r.value r.ask = ⟨p.items, holdL p.locks ⟨r.tx, r.key, true, r.value, r.ask⟩, holdD p.doubts r.tx, []⟩ := by unfold writeData; rw [if_pos he]; rfl
        rw [e] at hok hvb ⊢
        refine ⟨hok, hvb, h.nd, h.ovt, fun k hk2 => ?_⟩
        rcases holdL_mem hk2 with rfl | hk2
        · exact ho
        · exact h.lo k hk2
      · rw [if_neg he]
        exact ⟨h.ok, h.vb, h.nd, h.ovt, h.lo⟩
    · rw [if_neg hk]
      by_cases hk2 : r.kind = 2 ∨ r.kind = 6
      · rw [if_pos hk2]
        unfold PS.en
        have hst : storeOK (PS.sv { p with over := [] }) = true := OKP.ok (s := PS.sv { p with over := [] }) h.ok
        have he : endErr (PS.sv { p with over := [] }) r.tx r.yes = 0 := by unfold endErr; rw [if_pos hst, if_pos ht]
        obtain ⟨hok, hvb⟩ := end_ok2 he (show VB (PS.sv { p with over := [] }).data from h.vb)
        have e : endData (PS.sv { p with over := [] }) r.tx r.yes = ⟨if r.yes then putAll p.items (p.locks.filter (wOf r.tx)) else p.items, St.keep (ofT r.tx) p.locks, St.keep (dbT r.tx) p.doubts, [r.tx]⟩ := by unfold endData; rw [if_pos he]; simp [PS.sv]
        rw [e] at hok hvb ⊢
        refine ⟨(OKP.noOver hok :), hvb, ?_, ?_, fun k hk3 => ?_⟩
        · exact List.nodup_append.2 ⟨h.nd, by simp, fun x hx y hy e8 => by simp at hy; subst hy; subst e8; exact ho hx⟩
        · intro t ht2
          rcases List.mem_append.1 ht2 with ht2 | ht2
          · exact h.ovt t ht2
          · simp at ht2; subst ht2; exact ht
        · obtain ⟨h8, h9⟩ := St.mem_keep.1 hk3
          intro h7
          rcases List.mem_append.1 h7 with h7 | h7
          · exact h.lo k h8 h7
          · simp at h7
            simp [ofT, h7] at h9
      · rw [if_neg hk2]
        exact h
theorem rv_fold {l : List RcP} : ∀ {p : PS}, RvOK p → (∀ r ∈ l, txOK r.tx = true) → RvOK (l.foldl stStep p) := by
  induction l with
  | nil => intro p h _; exact h
  | cons a r ih => intro p h hl; exact ih (rv_step h (hl a (by simp))) (fun x hx => hl x (by simp [hx]))
/-- What the document does with a store. -/
def docStep (p : PS) (r : RcP) : PS :=
  if r.kind = 1 then (if writeErr p.sv r.tx r.key r.value r.ask = 0 then writeData p.sv r.tx r.key r.value r.ask else p)
  else if r.kind = 2 ∨ r.kind = 6 then (if endErr p.sv r.tx r.yes = 0 then endData p.sv r.tx r.yes else p)
  else p
theorem doc_step {p : PS} {r : RcP} (h : RvOK p) (ht : txOK r.tx = true) : docStep p r = stStep p r := by
  have hst : storeOK p.sv = true := OKP.ok (s := p.sv) h.okp
  have hs0 : storeOK (PS.sv { p with over := [] }) = true := OKP.ok (s := PS.sv { p with over := [] }) h.ok
  unfold docStep stStep
  by_cases ho : r.tx ∈ p.over
  · rw [if_pos ho]
    by_cases hk : r.kind = 1
    · rw [if_pos hk, if_neg]
      intro he
      unfold writeErr at he
      split at he
      · split at he
        · unfold rwErr at he
          rw [if_pos (by unfold lateT; simp [PS.sv, ho])] at he
          omega
        · omega
      · omega
    · rw [if_neg hk]
      by_cases hk2 : r.kind = 2 ∨ r.kind = 6
      · rw [if_pos hk2]
        have he : endErr p.sv r.tx r.yes = 0 := by unfold endErr; rw [if_pos hst, if_pos ht]
        rw [if_pos he]
        unfold endData
        rw [if_pos he]
        have e1 : p.locks.filter (wOf r.tx) = [] := List.filter_eq_nil_iff.2 fun k hk3 e => by
          simp only [wOf, Bool.and_eq_true, decide_eq_true_eq] at e
          exact h.lo k hk3 (by rw [e.2]; exact ho)
        have e2 : St.keep (ofT r.tx) p.locks = p.locks := List.filter_eq_self.2 fun k hk3 => by
          have : ¬ k.t = r.tx := fun e => h.lo k hk3 (by rw [e]; exact ho)
          simp [ofT, this]
        have e3 : St.keep (dbT r.tx) p.doubts = p.doubts := List.filter_eq_self.2 fun d hd => by
          have : ¬ d.t = r.tx := fun e => h.okp.dov d hd (by rw [e]; exact ho)
          simp [dbT, this]
        show (⟨if r.yes then putAll p.items (p.locks.filter (wOf r.tx)) else p.items, St.keep (ofT r.tx) p.locks, St.keep (dbT r.tx) p.doubts, if r.tx ∈ p.over then p.over else p.over ++ [r.tx]⟩ : PS) = p
        rw [e1, e2, e3, if_pos ho]
        have e4 : (if r.yes = true then putAll p.items [] else p.items) = p.items := by split <;> rfl
        rw [e4]
      · rw [if_neg hk2]
  · rw [if_neg ho]
    by_cases hk : r.kind = 1
    · rw [if_pos hk, if_pos hk]
      have ew : writeErr p.sv r.tx r.key r.value r.ask = writeErr (PS.sv { p with over := [] }) r.tx r.key r.value r.ask := by
        have el : lateT p.sv r.tx r.key r.ask = lateT (PS.sv { p with over := [] }) r.tx r.key r.ask := by
          unfold lateT
          rw [decide_eq_false (show ¬ r.tx ∈ p.sv.over from ho), decide_eq_false (show ¬ r.tx ∈ (PS.sv { p with over := [] }).over from List.not_mem_nil)]
          rfl
        unfold writeErr refErr rwErr
        rw [hst, hs0, el]
        rfl
      unfold PS.wr
      by_cases he : writeErr (PS.sv { p with over := [] }) r.tx r.key r.value r.ask = 0
      · rw [if_pos (ew.trans he), if_pos he]
        unfold writeData
        rw [if_pos (ew.trans he), if_pos he]
        rfl
      · rw [if_neg (fun e => he (ew.symm.trans e)), if_neg he]
    · rw [if_neg hk, if_neg hk]
      by_cases hk2 : r.kind = 2 ∨ r.kind = 6
      · rw [if_pos hk2, if_pos hk2]
        have he : endErr p.sv r.tx r.yes = 0 := by unfold endErr; rw [if_pos hst, if_pos ht]
        have he0 : endErr (PS.sv { p with over := [] }) r.tx r.yes = 0 := by unfold endErr; rw [if_pos hs0, if_pos ht]
        rw [if_pos he]
        unfold PS.en endData
        rw [if_pos he, if_pos he0]
        simp [PS.sv, ho]
      · rw [if_neg hk2, if_neg hk2]
end Go.Proofs.YtekglahigjblkaaGreatDoor.Rb
/- What the document does with a desk and with notes, on plain data: the program does the same. -/
namespace Go.Proofs.YtekglahigjblkaaGreatDoor.Rb
open Go.Proofs.YtekglahigjblkaaGreatDoor.St
open Go.Proofs.YtekglahigjblkaaGreatDoor.Pt
open Go.Proofs.YtekglahigjblkaaGreatDoor.Co
set_option linter.unusedVariables false

/-- One more record, for notes. -/
def docNt (ns : List NV) (r : RcP) : List NV :=
  if r.kind = 2 then ns.map (fun x => if (x.site, x.num) = r.tx ∧ x.yes ≠ r.yes then { x with dmg := true } else x)
  else if r.kind = 6 then ns ++ [⟨r.site, r.num, r.yes, false⟩] else ns
theorem lastGo_lt (t : Int × Int) (y : Bool) : ∀ (rs : List RcP) (i : Nat) (v : Int), v ≤ (i : Int) → lastGo t y i v rs ≤ ((i + rs.length : Nat) : Int)
  | [], i, v, h => by simpa [lastGo] using h
  | r :: l, i, v, h => by
    rw [lastGo]
    have := lastGo_lt t y l (i + 1) (if r.kind = 2 ∧ r.tx = t ∧ r.yes = y then (i : Int) else v) (by split <;> omega)
    simp only [List.length_cons]
    omega
theorem lastOf_le (t : Int × Int) (y : Bool) (rs : List RcP) : lastOf t y rs ≤ (rs.length : Int) := by
  have := lastGo_lt t y rs 0 0 (by omega)
  simpa [lastOf] using this
theorem notes_more (all : List RcP) (r : RcP) (hk : r.kind = 2) : ∀ (l : List RcP) (i : Nat), i + l.length ≤ all.length → notesGo (all ++ [r]) i l = (notesGo all i l).map (fun x => if (x.site, x.num) = r.tx ∧ x.yes ≠ r.yes then { x with dmg := true } else x)
  | [], i, _ => rfl
  | a :: l, i, h => by
    rw [notesGo, notesGo, List.map_append, notes_more all r hk l (i + 1) (by simp at h; omega)]
    congr 1
    by_cases h6 : a.kind = 6
    · rw [if_pos h6, if_pos h6]
      simp only [List.map_cons, List.map_nil, noteOf, lastOf_snoc]
      have hi : (i : Int) < (all.length : Int) := by simp at h; omega
      have e1 : (r.kind = 2 ∧ r.tx = a.tx ∧ r.yes = !a.yes) = ((a.site, a.num) = r.tx ∧ a.yes ≠ r.yes) := propext (by
        constructor
        · rintro ⟨-, h1, h2⟩
          exact ⟨h1.symm, by rw [h2]; cases a.yes <;> simp⟩
        · rintro ⟨h1, h2⟩
          refine ⟨hk, h1.symm, ?_⟩
          cases ha : a.yes <;> cases hr : r.yes <;> simp [ha, hr] at h2 ⊢)
      simp only [e1]
      by_cases hc : (a.site, a.num) = r.tx ∧ a.yes ≠ r.yes
      · simp only [if_pos hc, decide_eq_true hi]
      · simp only [if_neg hc]
    · rw [if_neg h6, if_neg h6]
      rfl
theorem notes_same (all : List RcP) (r : RcP) (hk : ¬ r.kind = 2) : ∀ (l : List RcP) (i : Nat), notesGo (all ++ [r]) i l = notesGo all i l
  | [], i => rfl
  | a :: l, i => by
    rw [notesGo, notesGo, notes_same all r hk l (i + 1)]
    congr 1
    simp only [noteOf, lastOf_snoc, hk, false_and, if_false]
theorem recNotes_snoc (rs : List RcP) (r : RcP) : recNotes (rs ++ [r]) = docNt (recNotes rs) r := by
  unfold recNotes docNt
  rw [notesGo_snoc]
  by_cases h2 : r.kind = 2
  · rw [if_pos h2, if_neg (by omega), List.append_nil]
    exact notes_more rs r h2 rs 0 (by omega)
  · rw [if_neg h2, notes_same rs r h2]
    by_cases h6 : r.kind = 6
    · rw [if_pos h6, if_pos h6]
      congr 2
      have h1 : lastOf r.tx (!r.yes) (rs ++ [r]) ≤ (rs.length : Int) := by
        rw [lastOf_snoc, if_neg (by rintro ⟨h, -⟩; exact h2 h)]
        exact lastOf_le _ _ _
      unfold noteOf
      rw [decide_eq_false (by omega)]
    · rw [if_neg h6, if_neg h6, List.append_nil]
/-- One more record, for a desk. -/
def docDk (me : Int) (p : Int × List JbV) (r : RcP) : Int × List JbV :=
  if r.kind = 3 then (if r.site ≠ me ∨ p.1 ≤ r.num ∨ r.zs.length = 0 ∨ 6 ≤ p.2.length ∨ p.2.any (isNr r.num) = true then p else (p.1, insS (tellJ r) p.2))
  else if r.kind = 4 then (if r.site = me then (p.1, Co.keep (isNr r.num) p.2) else p)
  else if r.kind = 5 then (if r.site = me ∧ p.1 ≤ r.num then (r.num + 1, p.2) else p) else p
theorem docDk_eq (me : Int) (p : Int × List JbV) (r : RcP) : docDk me p r = dkStep me p r := by
  unfold docDk dkStep
  by_cases h3 : r.kind = 3
  · rw [if_pos h3]
    by_cases hs : r.site = me
    · rw [if_pos hs, if_pos h3]
      unfold tellP
      by_cases ht : tellNo p.1 p.2 r = true
      · rw [if_pos ht]
        have hc : r.site ≠ me ∨ p.1 ≤ r.num ∨ r.zs.length = 0 ∨ 6 ≤ p.2.length ∨ p.2.any (isNr r.num) = true := by
          unfold tellNo at ht
          simp only [Bool.or_eq_true, decide_eq_true_eq] at ht
          exact Or.inr ht
        rw [if_pos hc]
      · rw [if_neg ht]
        have hc : ¬ (r.site ≠ me ∨ p.1 ≤ r.num ∨ r.zs.length = 0 ∨ 6 ≤ p.2.length ∨ p.2.any (isNr r.num) = true) := by
          rintro (h | h)
          · exact h hs
          · apply ht
            unfold tellNo
            simp only [Bool.or_eq_true, decide_eq_true_eq]
            exact h
        rw [if_neg hc, ← insJ_insS (tellJ r) p.2]
        rfl
    · rw [if_neg hs, if_pos (Or.inl hs)]
  · rw [if_neg h3]
    by_cases h4 : r.kind = 4
    · rw [if_pos h4]
      by_cases hs : r.site = me
      · rw [if_pos hs, if_pos hs, if_neg h3, if_pos h4]
      · rw [if_neg hs, if_neg hs]
    · rw [if_neg h4]
      by_cases h5 : r.kind = 5
      · rw [if_pos h5]
        by_cases hs : r.site = me
        · rw [if_pos hs, if_neg h3, if_neg h4, if_pos h5]
          by_cases hn : p.1 ≤ r.num
          · rw [if_pos ⟨hs, hn⟩, show max p.1 (r.num + 1) = r.num + 1 by omega]
          · rw [if_neg (by rintro ⟨-, h⟩; exact hn h), show max p.1 (r.num + 1) = p.1 by omega]
        · rw [if_neg hs, if_neg (by rintro ⟨h, -⟩; exact hs h)]
      · rw [if_neg h5]
        by_cases hs : r.site = me
        · rw [if_pos hs, if_neg h3, if_neg h4, if_neg h5]
        · rw [if_neg hs]
end Go.Proofs.YtekglahigjblkaaGreatDoor.Rb
