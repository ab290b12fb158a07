/- Texts of this claim, one behind the other. -/
import Derived.Test.YtlaagfnoepcnlaaDoorM22LinesBad
import Derived.Test.YtlaagfnoepcnlaaDoorA5LinesBad
import Derived.Deep.LoopGhost
import Derived.Laws.BitsAllLaws
import Derived.Deep.Cut
import Derived.Deep.CutRange
import Derived.BigQuiet
import Derived.Lib.QuietBelow
/- lines' reader: kept. -/
namespace Go.Proofs.YtlaagfnoepcnlaaDoor.Ln
open Go.ChangeShapes Go.WideShapes Go.ChangeAt Go.RowKit
open Go.Proofs.YtlaagfnoepcnlaaDoor.St (BoxN boxn_new own_below IsRow Elem flat own_isRow)
set_option linter.unusedVariables false

def iC (n : Int) : List Value := [.int .i64 n]
theorem iC_len (x : Int) : (iC x).length = 1 := rfl
theorem iC_one (y : Int) : ∀ u ∈ iC y, u.oneCell' = true := by
  intro u hu
  simp only [iC, List.mem_cons, List.not_mem_nil, or_false] at hu
  rcases hu with rfl
  rfl
theorem iCInfo : (Tryd.prog.info? 3).map (fun i => (i.zero, i.size, i.bytes)) = some (some (.int .i64 0), 1, 8) := by kernel_rfl
theorem iCElem : ∃ i, Elem 1 iC 3 34 i (.int .i64 0) 8 := by
  obtain ⟨j0, hj, lj0, lj1, lj2⟩ := info_parts iCInfo
  exact ⟨j0, iC_len, by decide, iC_one, Tryd.underlying34, hj, lj0, lj1, lj2, rfl⟩
theorem own_sav {q B : Nat} {w w' : World} {te : TypeId} {k : Nat} {v : Value} {n : Nat} {xs : List Value} (h : w.ownsRow B te k v n xs) (s : Sav q w w') (hq : q < B) : w'.ownsRow B te k v n xs := by
  obtain ⟨h1, h2⟩ := h
  refine ⟨h1, ?_⟩
  rcases h2 with h2 | ⟨g, cap, cur, e, hb, hg, r⟩
  · exact .inl h2
  · have zg : g < w.heap.size := by
      cases hx : w.heap[g]? with
      | none => rw [hx] at hg; cases hg
      | some o => exact (Array.getElem?_eq_some_iff.1 hx).1
    exact .inr ⟨g, cap, cur, e, hb, (s.block g zg (by omega)).trans hg, r⟩
theorem Rd.grown {L q : Nat} {u v : World} {st : Option WS} {row : Option Nat} (h : Rd L q u st) (hg : u.grownBy v row) (hq : some q ≠ row) : Rd L q v st := by
  obtain ⟨r, en, wr, h, h2⟩ := h
  exact ⟨r, en, wr, h.grown hg hq, h2⟩
theorem Sav.grown {q : Nat} {u v z : World} {row : Option Nat} (h : Sav q u v) (hg : v.grownBy z row) (hr : ∀ g, row = some g → u.heap.size ≤ g) : Sav q u z :=
  ⟨hg.os.trans h.os, hg.tape.trans h.tape, hg.output.trans h.output, Nat.le_trans h.size hg.size, fun j hj hq => (hg.block j (Nat.lt_of_lt_of_le hj h.size) (fun e => by have := hr j e.symm; omega)).trans (h.block j hj hq)⟩
theorem int1 (X : World) (n : Int) (q : Nat) (hq : q = X.heap.size) : IsRow 1 iC (X.alloc (.cells #[.int .i64 n] 3)) (some ⟨q, 0, none⟩) 1 1 [n] := by
  subst hq
  have b := boxn_new X #[.int .i64 n] 3 1 rfl
  refine ⟨rfl, Nat.le_refl _, by unfold maxLen; omega, nofun, fun _ => ⟨_, 0, rfl, b.lt, fun i hi j hj => ?_⟩⟩
  obtain rfl : i = 0 := by omega
  obtain rfl : j = 0 := by omega
  exact (b.c 0 (by decide)).1
/-- What kept's loop has read. -/
def KeptRel (st st' : Option WS) (ns : List Int) : Prop := match st with
  | none => st' = none
  | some ws0 => stKept ws0 = match st' with
    | none => none
    | some ws => (stKept ws).map (ns ++ ·)
theorem KeptRel.start (st : Option WS) : KeptRel st st [] := by
  cases st with
  | none => rfl
  | some ws =>
    show stKept ws = (stKept ws).map _
    cases stKept ws <;> rfl
theorem KeptRel.step {st : Option WS} {ws : WS} {ns : List Int} {n : Int} (h : KeptRel st (some ws) ns) (hw : ws ≠ []) (hn : ∀ v, numL (ws.headD []) = some v → n = v) : KeptRel st (stNum ws) (ns ++ [n]) := by
  cases st with
  | none => cases h
  | some ws0 =>
    have h1 : stKept ws0 = (stKept ws).map (ns ++ ·) := h
    show stKept ws0 = match stNum ws with | none => none | some ws => (stKept ws).map ((ns ++ [n]) ++ ·)
    rw [h1]
    cases ws with
    | nil => exact absurd rfl hw
    | cons w r =>
      have hk : stKept (w :: r) = (match numL w with | none => none | some n => (stKept r).map (n :: ·)) := rfl
      rw [hk]
      unfold stNum
      simp only [List.headD_cons, List.tail_cons] at hn ⊢
      cases e : numL w with
      | none => rfl
      | some v =>
        have := hn v e
        subst this
        show Option.map _ (Option.map _ _) = Option.map _ _
        cases stKept r with
        | none => rfl
        | some l => simp
theorem KeptRel.fin {st st' : Option WS} {ns : List Int} (h : KeptRel st st' ns) (he : st' = none ∨ st' = some []) : st' = (st.bind fun ws => (stKept ws).map fun _ => ([] : WS)) ∧ ∀ ws l, st = some ws → stKept ws = some l → ns = l := by
  cases st with
  | none => exact ⟨h, (fun ws p e => by cases e)⟩
  | some ws0 =>
    rcases he with rfl | rfl
    · have h1 : stKept ws0 = none := h
      refine ⟨by show _ = (stKept ws0).map _; rw [h1]; rfl, fun ws p e e2 => ?_⟩
      cases e
      rw [h1] at e2
      cases e2
    · have h1 : stKept ws0 = some ns := by have h2 : stKept ws0 = (stKept []).map (ns ++ ·) := h; rw [h2]; simp [stKept]
      refine ⟨by show _ = (stKept ws0).map _; rw [h1]; rfl, fun ws p e e2 => ?_⟩
      cases e
      rw [h1] at e2
      cases e2
      rfl
/-- How much there is to read. -/
def rdMs (r : List UInt8) (en : Bool) : Nat := r.length + (if en then 0 else 1)
/-- A reader that goes on, with its measure. -/
def RdM (L q : Nat) (u : World) (st : Option WS) (m : Nat) : Prop := ∃ r en wr, BoxN u q 3 (rdC r en wr) ∧ r.length ≤ L ∧ rdOk r en wr st ∧ (wr = false → rdMs r en ≤ m)
theorem RdM.grown {L q m : Nat} {u v : World} {st : Option WS} {row : Option Nat} (h : RdM L q u st m) (hg : u.grownBy v row) (hq : some q ≠ row) : RdM L q v st m := by
  obtain ⟨r, en, wr, h, h2⟩ := h
  exact ⟨r, en, wr, h.grown hg hq, h2⟩
theorem RdM.below {L q m : Nat} {u v : World} {st : Option WS} (h : RdM L q u st m) (hb : Below u.heap.size u v) : RdM L q v st m := by
  obtain ⟨r, en, wr, h, h2⟩ := h
  exact ⟨r, en, wr, h.below hb h.lt, h2⟩
theorem RdM.rd {L q m : Nat} {u : World} {st : Option WS} (h : RdM L q u st m) : Rd L q u st := by
  obtain ⟨r, en, wr, h1, h2, h3, -⟩ := h
  exact ⟨r, en, wr, h1, h2, h3⟩
/-- Numbers that are kept. -/
def KeptTo (L q : Nat) (st : Option WS) (u u' : World) (e : Ending) : Prop := ∃ a n c zs, e = .returned (.slice a n c) ∧ u'.ownsRow u.heap.size 3 1 (.slice a n c) n (St.flat iC zs) ∧ zs.length = n ∧ n ≤ 7 ∧ (∀ z ∈ zs, i64n z) ∧ Rd L q u' (st.bind fun ws => (stKept ws).map fun _ => ([] : WS)) ∧ (∀ ws l, st = some ws → stKept ws = some l → zs = l.take 7) ∧ Sav q u u'
theorem take_snoc {ns us : List Int} (n : Int) (h : us = ns.take 7) : (us.length ≤ 6 → us ++ [n] = (ns ++ [n]).take 7) ∧ (¬ us.length ≤ 6 → us = (ns ++ [n]).take 7) := by
  subst h
  rw [List.length_take]
  constructor
  · intro h
    have hl : ns.length ≤ 6 := by omega
    rw [List.take_of_length_le (by omega), List.take_of_length_le (by simp; omega)]
  · intro h
    rw [List.take_append_of_le_length (by omega)]
theorem number_m (L q m : Nat) (r : List UInt8) (ws : WS) (u : World) (bx : BoxN u q 3 (rdC r false false)) (hl : r.length ≤ L) (hw : ws = spc 32 r) (hm : rdMs r false ≤ m + 1) (hL : L ≤ 140737488355328) (hT : ∀ U, Sav q u U → RdW U) :
    Calls Tryd.prog 89 #[.pointer (some ⟨q, 0, none⟩)] u fun e u' => ∃ n, e = .returned (.int .i64 n) ∧ i64n n ∧ (∀ v, numL (ws.headD []) = some v → n = v) ∧ RdM L q u' (stNum ws) m ∧ Sav q u u' := by
  refine (number_any q r false false u bx (by omega) hT).mono ?_
  rintro e u' ⟨n, rfl, hi, hn, b2, s2⟩
  have hc := cutC_len (c := 32) (r := r)
  obtain ⟨c1, c2, c3⟩ := cut_spc 32 r
  subst hw
  rw [c1] at hn b2
  refine ⟨n, rfl, hi, hn, ⟨_, _, _, b2, by omega, ?_, ?_⟩, s2⟩
  · unfold stNum
    cases e2 : numL ((spc 32 r).headD []) with
    | none => rfl
    | some v =>
      refine ⟨rfl, ?_⟩
      cases e : (cutC 32 r).2.2 with
      | true => exact Or.inr ⟨rfl, (c2 e).1.symm⟩
      | false => exact Or.inl ⟨rfl, (c3 e).2.1, (c3 e).1⟩
  · intro _
    unfold rdMs at hm ⊢
    cases e : (cutC 32 r).2.2 with
    | true => have := (c2 e).2; simp at hm ⊢; omega
    | false => have := (c3 e).2.1; rw [this]; simp
set_option maxRecDepth 100000 in
set_option maxHeartbeats 4000000 in
theorem kept_rd (L q : Nat) (st : Option WS) (u : World) (h : Rd L q u st) (hL : L ≤ 140737488355328) (hT : ∀ U, Sav q u U → RdW U) :
    Calls Tryd.prog 77 #[.pointer (some ⟨q, 0, none⟩)] u fun e u' => KeptTo L q st u u' e := by
  obtain ⟨iE, ES⟩ := iCElem
  have hq := h.lt
  have HT : Hid (∀ U, Sav q u U → RdW U) := hT
  have HM : Hid (RdM L q u st (L + 1)) := by
    obtain ⟨r, en, wr, bx, hl, hr⟩ := h
    exact ⟨r, en, wr, bx, hl, hr, fun _ => by unfold rdMs; split <;> omega⟩
  have HK : Hid (KeptRel st st []) := KeptRel.start st
  have HO : Hid (u.ownsRow u.heap.size 3 1 (.slice none 0 0) 0 (St.flat iC [])) := ⟨rfl, Or.inl ⟨rfl, rfl⟩⟩
  have HS : Hid (Sav q u u) := Sav.refl q u
  clear hT h
  go_enter Tryd.func77, Tryd.ntmps77
  go_upto_region 2 with (fail)
  go_loopg [3, 4] (L + 1) (fun m s3 s4 wr => ∃ (a : Option Addr) (c : Nat) (us ns : List Int) (st' : Option WS), s3 = .slice a us.length c ∧ us.length ≤ 7 ∧ Hid (us = ns.take 7) ∧ Hid (∀ z ∈ us, i64n z) ∧ Hid (wr.ownsRow u.heap.size 3 1 (.slice a us.length c) us.length (St.flat iC us)) ∧ Hid (KeptRel st st' ns) ∧ Hid (RdM L q wr st' m) ∧ Hid (Sav q u wr))
  case atStart => exact ⟨none, 0, [], [], st, rfl, by simp, rfl, (by intro z hz; cases hz), HO, HK, HM, HS⟩
  case round =>
    clear HO HK HM HS
    obtain ⟨a, c, us, ns, st', rfl, hul, HU, HI, HO, HK, HM, HS⟩ := hrel
    obtain ⟨wo, ewo⟩ : ∃ X : World, X = wr := ⟨_, rfl⟩
    subst ewo
    have HD : Hid (∀ st2, st' = st2 → (st2 = none ∨ st2 = some []) → KeptTo L q st u wo (.returned (.slice a us.length c))) := fun st2 e h => by
      subst e
      obtain ⟨e1, e2⟩ := HK.out.fin h
      exact ⟨a, us.length, c, us, rfl, HO.out, rfl, hul, HI.out, e1 ▸ HM.out.rd, fun ws l h1 h2 => by rw [← e2 ws l h1 h2]; exact HU.out, HS.out⟩
    obtain ⟨r, en, wg, bx, hl, hr, hm⟩ := HM.out
    have c1 : wo.cell? ⟨q, 1, none⟩ = some (.bool en) := (bx.c 1 (by decide)).1
    have c2 : wo.cell? ⟨q, 2, none⟩ = some (.bool wg) := (bx.c 2 (by decide)).1
    have zq := bx.lt
    cases wg with
    | true =>
      have e0 : st' = none := by
        cases st' with
        | none => rfl
        | some ws => exact absurd hr.1 (by simp)
      have HE := HD.out none e0 (Or.inl rfl)
      clear HM bx hr hm HO HK HI HU HS HD
      cases en <;> go_wp2 <;> go_ret <;> exact HE
    | false =>
      cases en with
      | true =>
        have e0 : st' = none ∨ st' = some [] := by
          cases st' with
          | none => exact Or.inl rfl
          | some ws =>
            rcases hr.2 with h | h
            · exact Or.inr (by rw [h.2.2])
            · exact absurd h.1 (by simp)
        have HE := HD.out st' rfl e0
        clear HM bx hr hm HO HK HI HU HS HD e0
        go_wp2
        go_ret
        exact HE
      | false =>
        obtain ⟨ws, ew, hws⟩ : ∃ ws, st' = some ws ∧ ws = spc 32 r := by
          cases st' with
          | none => exact absurd hr (by simp [rdOk])
          | some ws =>
            rcases hr.2 with h | h
            · exact absurd h.1 (by simp)
            · exact ⟨ws, rfl, h.2⟩
        subst ew
        obtain ⟨m', em⟩ : ∃ m', gk = m' + 1 := ⟨gk - 1, by have := hm rfl; unfold rdMs at this; simp at this; omega⟩
        have hnum := number_m L q m' r ws wo bx hl hws (by have := hm rfl; omega) hL (fun U hU => HT.out U (HS.out.trans hU))
        have HK2 : Hid (∀ n, (∀ v, numL (ws.headD []) = some v → n = v) → KeptRel st (stNum ws) (ns ++ [n])) := fun n hn => HK.out.step (by rw [hws]; exact spc_ne 32 r) hn
        have HOl : Hid (∀ g, (Value.slice a us.length c).ownBlock = some g → u.heap.size ≤ g) := fun g e => (HO.out.lt g e).1
        have HX : Hid (∀ U, Sav q wo U → U.ownsRow u.heap.size 3 1 (.slice a us.length c) us.length (St.flat iC us) ∧ u.heap.size ≤ U.heap.size) := fun U hU => ⟨own_sav HO.out hU hq, Nat.le_trans HS.out.size hU.size⟩
        have Em : Hid (gk = m' + 1) := em
        clear HM bx hr hm HO HK HD em hws
        by_cases h6 : us.length ≤ 6
        · have h6' : (us.length : Int) ≤ 6 := by omega
          go_upto_region 5 with (go_at_call 89; refine hnum.mono ?_; rintro e u1 ⟨n, rfl, hi, hn, r1, s1⟩)
          have HR1 : Hid (RdM L q u1 (stNum ws) m') := r1
          have HS1 : Hid (Sav q wo u1) := s1
          have HN1 := HK2.out n hn
          obtain ⟨hO1, hz1⟩ := HX.out u1 s1
          have zq1 := HR1.out.rd.lt
          clear hn r1 s1 c1 c2 hnum
          have HF : Hid (∀ (w5 : World) (a5 : Option Addr) (c5 : Nat), (u1.alloc (.cells #[.int .i64 n] 3)).grownBy w5 (Value.slice a us.length c).ownBlock → RdM L q w5 (stNum ws) m' ∧ Sav q u w5) := fun w5 a5 c5 h8 =>
            ⟨(HR1.out.below ((Below.refl _ _).alloc (Nat.le_refl _) _)).grown h8 (fun e => by have := HOl.out q e.symm; omega), (HS.out.trans (HS1.out.trans (Sav.of ((Below.refl _ _).alloc (Nat.le_refl _) _)))).grown h8 HOl.out⟩
          go_wp2_with (at_builtin; go_loud (refine St.wpList_append_row ES (by rfl) _ _ (by rfl) u.heap.size (.slice a us.length c) us.length us (by rfl) (own_below hO1 ((Below.refl _ _).alloc (Nat.le_refl _) _)) _ 1 1 [n] (by rfl) (int1 u1 n _ rfl) (by unfold maxLen; omega) (by omega) (by simp; omega) ?_; intro a5 c5 w5 own5 gr5 at5; have hF5 := HF.out w5 a5 c5 gr5))
          go_roundg m'
          case rel => exact ⟨a5, c5, us ++ [n], ns ++ [n], stNum ws, by rw [List.length_append]; rfl, by rw [List.length_append, List.length_singleton]; omega, (take_snoc n HU.out).1 h6, (by intro z hz; rcases List.mem_append.1 hz with h | h; exact HI.out z h; simp only [List.mem_singleton] at h; rw [h]; exact hi), by rw [List.length_append]; exact own5, HN1, hF5.1, hF5.2⟩
          case measure => have := Em.out; omega
        · have h6' : ¬ (us.length : Int) ≤ 6 := by omega
          go_upto_region 4 with (go_at_call 89; refine hnum.mono ?_; rintro e u1 ⟨n, rfl, hi, hn, r1, s1⟩)
          have HR1 : Hid (RdM L q u1 (stNum ws) m') := r1
          have HS1 : Hid (Sav q u u1) := HS.out.trans s1
          have HN1 := HK2.out n hn
          have HO1 := (HX.out u1 s1).1
          clear hn r1 s1 c1 c2 hnum
          go_wp2
          go_roundg m'
          case rel => exact ⟨a, c, us, ns ++ [n], stNum ws, rfl, hul, (take_snoc n HU.out).2 h6, HI, HO1, HN1, HR1, HS1⟩
          case measure => have := Em.out; omega
end Go.Proofs.YtlaagfnoepcnlaaDoor.Ln
/- lines' reader: text. -/
namespace Go.Proofs.YtlaagfnoepcnlaaDoor.Ln
open Go.ChangeShapes Go.WideShapes Go.ChangeAt Go.RowKit
open Go.Proofs.YtlaagfnoepcnlaaDoor.St (BoxN boxn_new own_below IsRow Elem flat own_isRow)
set_option linter.unusedVariables false

/-- What stands behind a dot. -/
def dotC : List UInt8 → List UInt8 × Bool
  | [] => ([], false)
  | c :: r => if c = 46 then (r, true) else (c :: r, false)
theorem dot_pre (l : List UInt8) : Lib.hasPrefix l [46] = (dotC l).2 := by
  cases l with
  | nil => rfl
  | cons c r =>
    show List.isPrefixOf _ _ = (if c = 46 then (r, true) else (c :: r, false)).2
    by_cases h : c = 46
    · subst h; simp [List.isPrefixOf]
    · rw [if_neg h]
      simp [List.isPrefixOf, Ne.symm h]
set_option maxRecDepth 100000 in
set_option maxHeartbeats 2000000 in
theorem cutDot_any (x : List UInt8) (w : World) (hs : x.length ≤ 9223372036854775807) :
    Calls Tryd.prog 100 #[.string ⟨x.toArray⟩, .string ⟨#[46]⟩] w fun e w' => e = .returned (.tuple #[.string ⟨(dotC x).1.toArray⟩, .bool (dotC x).2]) ∧ w' = w := by
  have h := Tryd.stringslite_HasPrefix ⟨x.toArray⟩ ⟨#[46]⟩ w
  have e0 : Lib.hasPrefix (⟨x.toArray⟩ : ByteArray).data.toList (ByteArray.mk #[46]).data.toList = (dotC x).2 := dot_pre x
  rw [e0] at h
  clear e0
  cases x with
  | nil =>
    have h2 : Calls Tryd.prog 108 #[.string ⟨#[]⟩, .string ⟨#[46]⟩] w fun e w' => e = .returned (.bool false) ∧ w' = w := h
    clear h
    show Calls Tryd.prog _ #[.string ⟨#[]⟩, .string ⟨#[46]⟩] w fun e w' => e = .returned (.tuple #[.string ⟨#[]⟩, .bool false]) ∧ w' = w
    go_enter Tryd.func100, Tryd.ntmps100
    go_wp2_with (go_at_call 108; refine h2.mono ?_; rintro e u ⟨rfl, rfl⟩)
    go_ret2
    exact ⟨rfl, rfl⟩
  | cons c r =>
    by_cases hc : c = 46
    · subst hc
      have e1 : dotC (46 :: r) = (r, true) := by simp [dotC]
      rw [e1] at h ⊢
      obtain ⟨S, eS⟩ : ∃ S : ByteArray, S = ⟨(46 :: r).toArray⟩ := ⟨_, rfl⟩
      have e2 : (⟨r.toArray⟩ : ByteArray) = S.extract 1 S.size := by
        have hz : S.size = r.length + 1 := by rw [eS]; show (46 :: r).toArray.size = _; simp
        rw [Lib.extract_eq, hz, eS]
        simp
      have hz : (1 : Int) ≤ (S.size : Int) := by
        have hz : S.size = r.length + 1 := by rw [eS]; show (46 :: r).toArray.size = _; simp
        omega
      rw [← eS] at h ⊢
      have HE : Hid ((⟨r.toArray⟩ : ByteArray) = S.extract 1 S.size) := e2
      clear eS e2 e1
      go_enter Tryd.func100, Tryd.ntmps100
      go_wp2_with (go_at_call 108; refine h.mono ?_; rintro e u ⟨rfl, rfl⟩)
      go_ret2
      exact ⟨by rw [HE.out]; rfl, rfl⟩
    · have e1 : dotC (c :: r) = (c :: r, false) := by simp [dotC, hc]
      rw [e1] at h ⊢
      go_enter Tryd.func100, Tryd.ntmps100
      go_wp2_with (go_at_call 108; refine h.mono ?_; rintro e u ⟨rfl, rfl⟩)
      go_ret2
      exact ⟨rfl, rfl⟩
theorem cutPrefix_any (x : List UInt8) (w : World) (hs : x.length ≤ 9223372036854775807) :
    Calls Tryd.prog 91 #[.string ⟨x.toArray⟩, .string ⟨#[46]⟩] w fun e w' => e = .returned (.tuple #[.string ⟨(dotC x).1.toArray⟩, .bool (dotC x).2]) ∧ w' = w := by
  have h := cutDot_any x w hs
  go_enter Tryd.func91, Tryd.ntmps91
  go_wp2_with (go_at_call 100; refine h.mono ?_; rintro e u ⟨rfl, rfl⟩)
  go_ret2
  exact ⟨rfl, rfl⟩
theorem digIx_any (c : UInt8) (w : World) :
    Calls Tryd.prog 92 #[.string ⟨#[48, 49, 50, 51, 52, 53, 54, 55, 56, 57, 97, 98, 99, 100, 101, 102]⟩, .int .u8 (c.toNat : Int)] w fun e w' => e = .returned (.int .i64 (dgt c)) ∧ w' = w := by
  have h : Calls Tryd.prog 85 #[.string ⟨#[48, 49, 50, 51, 52, 53, 54, 55, 56, 57, 97, 98, 99, 100, 101, 102]⟩, .int .u8 (c.toNat : Int)] w fun e w' => e = .returned (.int .i64 (dgt c)) ∧ w' = w := by
    have := Tryd.stringslite_IndexByte ⟨#[48, 49, 50, 51, 52, 53, 54, 55, 56, 57, 97, 98, 99, 100, 101, 102]⟩ c.toNat w
    simpa [dgt, digs] using this
  go_enter Tryd.func92, Tryd.ntmps92
  go_wp2_with (go_at_call 85; refine h.mono ?_; rintro e u ⟨rfl, rfl⟩)
  go_ret
  exact ⟨rfl, rfl⟩
theorem dgt_lt (c : UInt8) : dgt c < 16 := by
  have : ∀ (l : List UInt8), Lib.indexByte l c < (l.length : Int) := by
    intro l
    induction l with
    | nil => simp [Lib.indexByte]
    | cons x r ih =>
      unfold Lib.indexByte
      simp only [List.length_cons]
      split
      · omega
      · split <;> omega
  exact this digs
end Go.Proofs.YtlaagfnoepcnlaaDoor.Ln
/- lines' reader: text. -/
namespace Go.Proofs.YtlaagfnoepcnlaaDoor.Ln
open Go.ChangeShapes Go.WideShapes Go.ChangeAt Go.RowKit
open Go.Proofs.YtlaagfnoepcnlaaDoor.St (BoxN boxn_new own_below IsRow Elem flat own_isRow)
set_option linter.unusedVariables false

theorem digIx_b (c : UInt8) (w : World) : Calls Tryd.prog 92 #[.string ⟨#[48, 49, 50, 51, 52, 53, 54, 55, 56, 57, 97, 98, 99, 100, 101, 102]⟩, .int .u8 (c.toNat : Int)] w fun e w' => e = .returned (.int .i64 (dgt c)) ∧ Below w.heap.size w w' :=
  (digIx_any c w).mono fun e u ⟨h1, h2⟩ => ⟨h1, by rw [h2]; exact Below.refl _ _⟩
theorem Rd.wrong {L q : Nat} {u : World} {st : Option WS} (h : Rd L q u st) : Rd L q (u.setCell ⟨q, 2, none⟩ (.bool true)) none := by
  obtain ⟨r, en, wr, h, h2, h3⟩ := h
  exact ⟨r, en, true, h.set 2 (by decide) (.bool true), h2, rfl⟩
theorem Rd.wrongCell {L q : Nat} {u : World} {st : Option WS} (h : Rd L q u st) : (∃ wr, u.cell? ⟨q, 2, none⟩ = some (.bool wr)) ∧ u.frozen? ⟨q, 2, none⟩ = false := by
  obtain ⟨r, en, wr, h, h2, h3⟩ := h
  exact ⟨⟨wr, (h.c 2 (by decide)).1⟩, (h.c 2 (by decide)).2⟩
theorem unhex_odd : ∀ (n : Nat) (l : List UInt8), l.length = 2 * n + 1 → unhex l = none
  | 0, [x], _ => rfl
  | 0, [], h => by simp at h
  | 0, _ :: _ :: _, h => by simp at h
  | n + 1, [], h => by simp at h
  | n + 1, [_], h => by simp at h
  | n + 1, a :: b :: r, h => by
    rw [unhex, unhex_odd n r (by simp at h; omega)]
    split <;> rfl
theorem stText_dot (x : List UInt8) : stText x = if (dotC x).2 then unhex (dotC x).1 else none := by
  cases x with
  | nil => rfl
  | cons c r =>
    unfold stText dotC
    by_cases h : c = 46
    · simp [h]
    · simp [h]
theorem or_join : ∀ (a b : Fin 16), bits .or .i64 ((a.val : Int) * 16) (b.val : Int) % 256 = ((UInt8.ofNat (16 * a.val + b.val)).toNat : Int) := by decide
theorem u81 (X : World) (g : UInt8) (q : Nat) (hq : q = X.heap.size) : IsRow 1 u8C (X.alloc (.cells #[.int .u8 (g.toNat : Int)] 5)) (some ⟨q, 0, none⟩) 1 1 [g] := by
  subst hq
  have b := boxn_new X #[.int .u8 (g.toNat : Int)] 5 1 rfl
  refine ⟨rfl, Nat.le_refl _, by unfold maxLen; omega, nofun, fun _ => ⟨_, 0, rfl, b.lt, fun i hi j hj => ?_⟩⟩
  obtain rfl : i = 0 := by omega
  obtain rfl : j = 0 := by omega
  exact (b.c 0 (by decide)).1
/-- A text that is read. -/
def TextTo (L q : Nat) (st : Option WS) (u u' : World) (e : Ending) : Prop := ∃ t : List UInt8, e = .returned (.string ⟨t.toArray⟩) ∧ t.length ≤ L ∧ Rd L q u' (st.bind fun ws => (stText (ws.headD [])).map fun _ => ws.tail) ∧ (∀ ws t', st = some ws → stText (ws.headD []) = some t' → t = t') ∧ Sav q u u'
theorem unhex_at {l : List UInt8} {i : Nat} {a b : UInt8} {r : List UInt8} (h : l.drop i = a :: b :: r) : unhex (l.drop i) = if dgt a < 0 ∨ dgt b < 0 then none else (unhex (l.drop (i + 2))).map (UInt8.ofNat (16 * (dgt a).toNat + (dgt b).toNat) :: ·) := by
  have h2 : l.drop (i + 2) = r := by
    have : l.drop (i + 2) = (l.drop i).drop 2 := by rw [List.drop_drop]
    rw [this, h]; rfl
  rw [h, unhex, h2]
theorem text_fin {st : Option WS} {X : List UInt8} {L q : Nat} {u u' : World} (hX : ∀ ws, st = some ws → X = ws.headD []) (hn : stText X = none) (hr : Rd L q u' none) (hs : Sav q u u') : TextTo L q st u u' (.returned (.string ⟨#[]⟩)) := by
  refine ⟨[], rfl, by simp, ?_, fun ws t' e e2 => ?_, hs⟩
  · cases st with
    | none => exact hr
    | some ws =>
      show Rd L q u' ((stText (ws.headD [])).map _)
      rw [← hX ws rfl, hn]
      exact hr
  · rw [← hX ws e, hn] at e2
    cases e2
theorem text_ok {st : Option WS} {X t : List UInt8} {L q : Nat} {u u' : World} (hX : ∀ ws, st = some ws → X = ws.headD []) (hn : stText X = some t) (hl : t.length ≤ L) (hr : Rd L q u' (st.map List.tail)) (hs : Sav q u u') : TextTo L q st u u' (.returned (.string ⟨t.toArray⟩)) := by
  refine ⟨t, rfl, hl, ?_, fun ws t' e e2 => ?_, hs⟩
  · cases st with
    | none => exact hr
    | some ws =>
      show Rd L q u' ((stText (ws.headD [])).map _)
      rw [← hX ws rfl, hn]
      exact hr
  · rw [← hX ws e, hn] at e2
    cases e2
    rfl
set_option maxRecDepth 100000 in
set_option maxHeartbeats 4000000 in
theorem text_rd (L q : Nat) (st : Option WS) (u : World) (h : Rd L q u st) (hL : L ≤ 140737488355328) :
    Calls Tryd.prog 79 #[.pointer (some ⟨q, 0, none⟩)] u fun e u' => TextTo L q st u u' e := by
  obtain ⟨iE, EU⟩ := u8Elem
  have hq := h.lt
  have hw := word_rd L q st u h (by omega)
  have hC := fun (x : List UInt8) (hx : x.length ≤ 9223372036854775807) U => cutPrefix_any x U hx
  clear h
  go_enter Tryd.func79, Tryd.ntmps79
  go_upto_region 2 with (first | (go_at_call 75; refine hw.mono ?_; rintro e u1 ⟨X, rfl, hXl, hX, r1, s1⟩) | (go_at_call 91; refine (hC _ (by omega) _).mono ?_; rintro e u2 ⟨rfl, rfl⟩))
  have HX : Hid (∀ ws, st = some ws → X = ws.headD []) := hX
  have HR : Hid (Rd L q u2 (st.map List.tail)) := r1
  have HS : Hid (Sav q u u2) := s1
  have hdl : (dotC X).1.length ≤ X.length := by
    cases X with
    | nil => simp [dotC]
    | cons c r => by_cases h : c = 46 <;> simp [dotC, h]
  have HT : Hid (stText X = if (dotC X).2 then unhex (dotC X).1 else none) := stText_dot X
  obtain ⟨l, el⟩ : ∃ l, l = (dotC X).1 := ⟨_, rfl⟩
  obtain ⟨D, eD⟩ : ∃ D, D = (dotC X).2 := ⟨_, rfl⟩
  rw [← el, ← eD] at HT ⊢
  rw [← el] at hdl
  clear el eD hX r1 s1 hw hC
  have HF0 : Hid (stText X = none → TextTo L q st u (u2.setCell ⟨q, 2, none⟩ (.bool true)) (.returned (.string ⟨#[]⟩))) := fun h => text_fin HX.out h HR.out.wrong HS.out.set
  have zq := HR.out.lt
  cases D with
  | false =>
    have HE := HF0.out (by rw [HT.out]; rfl)
    obtain ⟨⟨wg, c2⟩, f2⟩ := HR.out.wrongCell
    clear HT HF0
    go_wp2
    go_ret
    exact HE
  | true =>
    have HT2 : Hid (stText X = unhex l) := HT.out
    obtain ⟨H, eH⟩ : ∃ H : ByteArray, H = ⟨l.toArray⟩ := ⟨_, rfl⟩
    have hz : H.size = l.length := by rw [eH]; show l.toArray.size = _; simp
    have hd : H.data.toList = l := by rw [eH]
    rw [← eH]
    clear HT eH
    by_cases hm : l.length % 2 = 0
    · obtain ⟨m, em⟩ : ∃ m, l.length = 2 * m := ⟨l.length / 2, by omega⟩
      have HT0 : Hid (stText X = (unhex (l.drop 0)).map (([] : List UInt8) ++ ·)) := by show _ = _; rw [HT2.out]; simp
      have HO : Hid (u2.ownsRow u.heap.size 5 1 (.slice none 0 0) 0 (St.flat u8C [])) := ⟨rfl, Or.inl ⟨rfl, rfl⟩⟩
      have HM : Hid (H.size = 2 * m ∧ l.length = 2 * m ∧ l.length ≤ L) := ⟨by omega, em, by omega⟩
      have hm1 : ¬ (H.size : Int) % 2 ≠ 0 := by omega
      have hm2 : (H.size : Int) % 2 = 0 := by omega
      clear HT2 hm hz em hdl hXl HF0
      go_upto_region 7 with (fail)
      go_loopw [5, 6] (fun s5 s6 wr => ∃ (a : Option Addr) (c k i : Nat) (bs : List UInt8), s5 = .slice a bs.length c ∧ s6 = .int .i64 (i : Int) ∧ Hid (i = 2 * k ∧ k ≤ m ∧ bs.length = k) ∧ Hid (wr.ownsRow u.heap.size 5 1 (.slice a bs.length c) bs.length (St.flat u8C bs)) ∧ Hid (stText X = (unhex (l.drop i)).map (bs ++ ·)) ∧ Hid (Rd L q wr (st.map List.tail)) ∧ Hid (Sav q u wr)) (fun _ s6 _ => 2 * m - (intOf s6).toNat)
      case atStart => exact ⟨none, 0, 0, 0, [], rfl, rfl, ⟨rfl, by omega, rfl⟩, HO, HT0, HR, HS⟩
      case round =>
        clear HO HT0 HR HS zq
        obtain ⟨a, c, k, i, bs, rfl, rfl, HK, HO, HT, HR, HS⟩ := hrel
        obtain ⟨wo, ewo⟩ : ∃ X : World, X = wr := ⟨_, rfl⟩
        subst ewo
        have HF0 : Hid (∀ v, Below wo.heap.size wo v → stText X = none → TextTo L q st u (v.setCell ⟨q, 2, none⟩ (.bool true)) (.returned (.string ⟨#[]⟩)) ∧ (∃ wr, v.cell? ⟨q, 2, none⟩ = some (.bool wr)) ∧ v.frozen? ⟨q, 2, none⟩ = false ∧ q < v.heap.size) := fun v hv h =>
          have hr := HR.out.below hv
          ⟨text_fin HX.out h hr.wrong (HS.out.trans (Sav.of hv)).set, hr.wrongCell.1, hr.wrongCell.2, hr.lt⟩
        obtain ⟨hi, hk, hbl⟩ := HK.out
        obtain ⟨hz, hlm, hlL⟩ := HM.out
        by_cases hlt : i < H.size
        · have hlt' : (i : Int) < (H.size : Int) := by omega
          obtain ⟨ch1, hx1, hd1, -⟩ := ch_at H i hlt
          obtain ⟨ch2, hx2, hd2, -⟩ := ch_at H (i + 1) (by omega)
          rw [show (((i + 1 : Nat)) : Int) = (i : Int) + 1 by omega] at hx2
          rw [hd] at hd1 hd2
          have hI1 := fun U => digIx_b ch1 U
          have hI2 := fun U => digIx_b ch2 U
          have hdd : l.drop i = ch1 :: ch2 :: l.drop (i + 2) := by rw [hd1, hd2]
          have HU : Hid (stText X = (if dgt ch1 < 0 ∨ dgt ch2 < 0 then none else (unhex (l.drop (i + 2))).map (UInt8.ofNat (16 * (dgt ch1).toNat + (dgt ch2).toNat) :: ·)).map (bs ++ ·)) := by show _ = _; rw [← unhex_at hdd]; exact HT.out
          have hw1 : IntKind.i64.wrap ((i : Int) + 1) = (i : Int) + 1 := by rw [IntKind.wrap_i64]; omega
          have hw2 : IntKind.i64.wrap ((i : Int) + 2) = ((i + 2 : Nat) : Int) := by rw [IntKind.wrap_i64]; omega
          have HJ : Hid (i + 2 = 2 * (k + 1) ∧ k + 1 ≤ m ∧ i + 2 ≤ 2 * m) := ⟨by omega, by omega, by omega⟩
          have L1 := dgt_lt ch1
          have L2 := dgt_lt ch2
          have HBl : Hid (bs.length = k) := hbl
          have HBz : bs.length ≤ 140737488355320 := by omega
          obtain ⟨D1, eD1⟩ : ∃ x, x = dgt ch1 := ⟨_, rfl⟩
          obtain ⟨D2, eD2⟩ : ∃ x, x = dgt ch2 := ⟨_, rfl⟩
          rw [← eD1] at hI1 HU L1
          rw [← eD2] at hI2 HU L2
          obtain ⟨C1, eC1⟩ : ∃ x : Nat, x = ch1.toNat := ⟨_, rfl⟩
          obtain ⟨C2, eC2⟩ : ∃ x : Nat, x = ch2.toNat := ⟨_, rfl⟩
          rw [← eC1] at hI1 hx1
          rw [← eC2] at hI2 hx2
          clear eD1 eD2 eC1 eC2 hdd hd1 hd2 HK HM hlm hlL hz hi hk hbl HT
          go_upto_region 9 with (fail)
          refine wp_region_quiet_below (by kernel_rfl) (by kernel_rfl) ?_
          repeat (go_big_quiet_step (first | (go_at_call 92; first | exact Calls.regrown_of (hI1 _) | exact Calls.regrown_of (hI2 _))))
          refine wpQuiet_nil ?_
          intro _ hw'
          obtain ⟨⟨dq, osq⟩, hw''⟩ := hw'
          subst hw''
          have bQ := below_regrown wo dq osq
          obtain ⟨Z, eZ⟩ : ∃ X : World, X = Go.Sort.grow (Go.redrawn wo dq) osq := ⟨_, rfl⟩
          rw [← eZ] at bQ ⊢
          clear eZ
          by_cases h1 : D1 < 0
          · obtain ⟨hE, ⟨wg, c2⟩, f2, zq⟩ := HF0.out Z bQ (by rw [HU.out, if_pos (Or.inl h1)]; rfl)
            have HE : Hid (TextTo L q st u (Z.setCell ⟨q, 2, none⟩ (.bool true)) (.returned (.string ⟨#[]⟩))) := hE
            clear hE HU HF0 HO HR HS HJ hI1 hI2 hx1 hx2 bQ hw1 hw2
            go_wp2
            go_ret
            exact HE.out
          · by_cases h2 : D2 < 0
            · obtain ⟨hE, ⟨wg, c2⟩, f2, zq⟩ := HF0.out Z bQ (by rw [HU.out, if_pos (Or.inr h2)]; rfl)
              have HE : Hid (TextTo L q st u (Z.setCell ⟨q, 2, none⟩ (.bool true)) (.returned (.string ⟨#[]⟩))) := hE
              clear hE HU HF0 HO HR HS HJ hI1 hI2 hx1 hx2 bQ hw1 hw2
              go_wp2
              go_ret
              exact HE.out
            · obtain ⟨d1, rfl⟩ : ∃ d : Nat, D1 = d := ⟨D1.toNat, by omega⟩
              obtain ⟨d2, rfl⟩ : ∃ d : Nat, D2 = d := ⟨D2.toNat, by omega⟩
              clear hI1 hI2 hx1 hx2 hw1
              have hor : bits .or .i64 ((d1 : Int) * 16) (d2 : Int) % 256 = ((UInt8.ofNat (16 * d1 + d2)).toNat : Int) := or_join ⟨d1, by omega⟩ ⟨d2, by omega⟩
              have HU2 : Hid (stText X = (unhex (l.drop (i + 2))).map ((bs ++ [UInt8.ofNat (16 * d1 + d2)]) ++ ·)) := by
                show _ = _
                rw [HU.out, if_neg (by omega)]
                simp only [Int.toNat_natCast]
                cases unhex (l.drop (i + 2)) with
                | none => rfl
                | some t => simp
              obtain ⟨G, eG⟩ : ∃ g, g = UInt8.ofNat (16 * d1 + d2) := ⟨_, rfl⟩
              rw [← eG] at hor HU2
              have hsh : wrap64 ((d1 : Int) * 16) = (d1 : Int) * 16 := by unfold wrap64; omega
              have hO1 := own_below HO.out bQ
              have HOl : Hid (∀ g, (Value.slice a bs.length c).ownBlock = some g → u.heap.size ≤ g) := fun g e => (HO.out.lt g e).1
              have hz1 : u.heap.size ≤ Z.heap.size := Nat.le_trans HS.out.size bQ.size
              have HFn : Hid (∀ (w5 : World) (a5 : Option Addr) (c5 : Nat), (Z.alloc (.cells #[.int .u8 (G.toNat : Int)] 5)).grownBy w5 (Value.slice a bs.length c).ownBlock → Rd L q w5 (st.map List.tail) ∧ Sav q u w5) := fun w5 a5 c5 h8 =>
                ⟨((HR.out.below bQ).below ((Below.refl _ _).alloc (Nat.le_refl _) _)).grown h8 (fun e => by have := HOl.out q e.symm; omega), ((HS.out.trans (Sav.of bQ)).trans (Sav.of ((Below.refl _ _).alloc (Nat.le_refl _) _))).grown h8 HOl.out⟩
              clear HU eG HF0 L1 L2 HR HS HO
              go_wp2_with (at_builtin; go_loud (refine St.wpList_append_row EU (by rfl) _ _ (by rfl) u.heap.size (.slice a bs.length c) bs.length bs (by rfl) (own_below hO1 ((Below.refl _ _).alloc (Nat.le_refl _) _)) _ 1 1 [G] (by rfl) (u81 Z G _ rfl) (by unfold maxLen; omega) (by omega) (by simp; omega) ?_; intro a5 c5 w5 own5 gr5 at5; have HF5 : Hid (Rd L q w5 (st.map List.tail) ∧ Sav q u w5) := HFn.out w5 a5 c5 gr5))
              go_roundw
              case rel => exact ⟨u2, .slice a5 (bs.length + 1) c5, .int .i64 ((i : Int) + 2), ⟨a5, c5, k + 1, i + 2, bs ++ [G], by rw [List.length_append]; rfl, by go_num, ⟨HJ.out.1, HJ.out.2.1, by rw [List.length_append, HBl.out]; rfl⟩, by rw [List.length_append]; exact own5, HU2, HF5.out.1, HF5.out.2⟩, rfl, rfl, rfl⟩
              case measure => have := HJ.out; simp [intOf]; omega
        · obtain rfl : i = H.size := by omega
          have hnl : ¬ ((H.size : Int) < (H.size : Int)) := by omega
          have HE : Hid (TextTo L q st u wo (.returned (.string ⟨bs.toArray⟩))) := by
            refine text_ok HX.out ?_ (by omega) HR.out HS.out
            rw [HT.out, List.drop_of_length_le (by omega)]
            simp [unhex]
          have HCv : Hid ((convert 52 9 (.slice a bs.length c)).run Tryd.prog wo = .ok (.string ⟨bs.toArray⟩) wo) := by
            show _ = _
            by_cases h0 : bs.length = 0
            · obtain rfl : bs = [] := List.length_eq_zero_iff.1 h0
              rcases HO.out.2 with ⟨h, -⟩ | ⟨g, cap, cur, h, -⟩
              · rw [h]
                kernel_rfl
              · rw [h]
                exact run_convert_bytes_back (P := Tryd.prog) wo 52 9 5 ⟨g, 0, none⟩ cap [] Tryd.underlying52 Tryd.underlying5 Tryd.underlying9 (fun j hj => by simp at hj)
            · obtain ⟨⟨_, _, _, _, h5⟩, -⟩ := own_isRow u8_len HO.out rfl
              obtain ⟨b, off, rfl, _, hc⟩ := h5 (by omega)
              have := run_convert_bytes_back (P := Tryd.prog) wo 52 9 5 ⟨b, off, none⟩ c bs Tryd.underlying52 Tryd.underlying5 Tryd.underlying9 (fun j hj => by
                have h8 := hc j hj 0 (by decide)
                rw [Nat.mul_one, Nat.add_zero] at h8
                have e1 : ((⟨b, off, none⟩ : Addr).add j) = ⟨b, off + j, none⟩ := by unfold Addr.add; by_cases h : j = 0 <;> simp [h]
                rw [e1, h8]
                simp [u8C, List.getD, hj])
              rw [this]
          have hcv := HCv.out
          clear HF0 HT HO HR HS HK HM hbl hz hlm hlL hi hk hlt
          go_wp2
          go_ret
          exact HE.out
    · have hm1 : (H.size : Int) % 2 = 1 := by omega
      have HE := HF0.out (by rw [HT2.out]; exact unhex_odd (l.length / 2) l (by omega))
      obtain ⟨⟨wg, c2⟩, f2⟩ := HR.out.wrongCell
      clear HT2 HF0 hd hz hm
      go_wp2
      go_ret
      exact HE
end Go.Proofs.YtlaagfnoepcnlaaDoor.Ln
