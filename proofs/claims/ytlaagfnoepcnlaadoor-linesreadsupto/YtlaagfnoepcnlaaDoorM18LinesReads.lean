/- Texts of this claim, one behind the other. -/
import Derived.Test.YtlaagfnoepcnlaaDoorM17LinesReads
import Derived.Test.YtlaagfnoepcnlaaDoorM12LinesReads
import Derived.Test.YtlaagfnoepcnlaaDoorA5LinesReads
import Derived.Deep.LoopGhost
import Derived.Laws.BitsAllLaws
import Derived.Deep.Cut
import Derived.Deep.CutRange
/- lines' reader: numbers and kept. -/
namespace Go.Proofs.YtlaagfnoepcnlaaDoor.Ln
open Go.ChangeShapes Go.WideShapes Go.ChangeAt Go.RowKit
open Go.Proofs.YtlaagfnoepcnlaaDoor.St (BoxN boxn_new own_below IsRow Elem flat own_isRow)
set_option linter.unusedVariables false

/-- All that lay there lies there still, but for two blocks. -/
structure Sav2 (q p : Nat) (w w' : World) : Prop where
  os : w'.os = w.os
  tape : w'.tape = w.tape
  output : w'.output = w.output
  size : w.heap.size ≤ w'.heap.size
  block : ∀ k, k < w.heap.size → k ≠ q → k ≠ p → w'.heap[k]? = w.heap[k]?
theorem Sav2.of {q p : Nat} {u v : World} (h : Sav q u v) : Sav2 q p u v := ⟨h.os, h.tape, h.output, h.size, fun j hj h1 _ => h.block j hj h1⟩
theorem Sav2.trans {q p : Nat} {u v z : World} (h : Sav2 q p u v) (k : Sav2 q p v z) : Sav2 q p u z :=
  ⟨k.os.trans h.os, k.tape.trans h.tape, k.output.trans h.output, Nat.le_trans h.size k.size, fun j hj hq hp => (k.block j (Nat.lt_of_lt_of_le hj h.size) hq hp).trans (h.block j hj hq hp)⟩
theorem Sav2.set {q p k : Nat} {u v : World} {x : Value} (h : Sav2 q p u v) : Sav2 q p u (v.setCell ⟨p, k, none⟩ x) := by
  have b := (Below.refl p v).setCell (p := ⟨p, k, none⟩) (Nat.le_refl p) x
  exact ⟨b.os.trans h.os, b.tape.trans h.tape, b.output.trans h.output, Nat.le_trans h.size b.size, fun j hj hq hp => (Below.heap_setCell v _ _ j (fun e => hp e)).trans (h.block j hj hq hp)⟩
/-- What was there before stays, where the second block is new. -/
theorem Sav2.sav {q p : Nat} {u v z : World} (h : Sav q u v) (k : Sav2 q p v z) (hp : u.heap.size ≤ p) : Sav q u z :=
  ⟨k.os.trans h.os, k.tape.trans h.tape, k.output.trans h.output, Nat.le_trans h.size k.size, fun j hj hq => (k.block j (Nat.lt_of_lt_of_le hj h.size) hq (by omega)).trans (h.block j hj hq)⟩
theorem Sav2.cell {q p : Nat} {u v : World} (h : Sav2 q p u v) {a : Addr} (ha : a.block < u.heap.size) (hq : a.block ≠ q) (hp : a.block ≠ p) : v.cell? a = u.cell? a := World.cell?_of_block (h.block a.block ha hq hp)
theorem Rd.far {L q p k : Nat} {u : World} {st : Option WS} {x : Value} (h : Rd L q u st) (hp : q ≠ p) : Rd L q (u.setCell ⟨p, k, none⟩ x) st := by
  obtain ⟨r, en, wr, h, h2⟩ := h
  exact ⟨r, en, wr, h.far hp, h2⟩
/-- What numbers' loop has read. -/
def NumsRel (hs : List Bool) (st st' : Option WS) (k : Nat) (pre : List Int) : Prop := match st with
  | none => st' = none
  | some ws0 => stNums hs ws0 = match st' with
    | none => none
    | some ws => (stNums (hs.drop k) ws).map fun p => (pre ++ p.1, p.2)
theorem NumsRel.start (hs : List Bool) (st : Option WS) : NumsRel hs st st 0 [] := by
  cases st with
  | none => rfl
  | some ws =>
    show stNums hs ws = (stNums hs ws).map _
    cases stNums hs ws <;> rfl
theorem NumsRel.num {hs : List Bool} {st st' : Option WS} {k : Nat} {pre : List Int} {n : Int} (h : NumsRel hs st st' k pre) (hk : k < hs.length) (hb : hs.getD k false = true) (hn : ∀ ws v, st' = some ws → numL (ws.headD []) = some v → n = v) : NumsRel hs st (st'.bind stNum) (k + 1) (pre ++ [n]) := by
  have hd : hs.drop k = true :: hs.drop (k + 1) := by
    rw [List.drop_eq_getElem_cons hk]
    have : hs[k] = true := by simpa [List.getD, hk] using hb
    rw [this]
  cases st with
  | none =>
    have : st' = none := h
    subst this
    rfl
  | some ws0 =>
    cases st' with
    | none => exact h
    | some ws =>
      have h1 : stNums hs ws0 = (stNums (hs.drop k) ws).map fun p => (pre ++ p.1, p.2) := h
      rw [hd, stNums, if_pos rfl] at h1
      show stNums hs ws0 = match stNum ws with | none => none | some ws => (stNums (hs.drop (k + 1)) ws).map fun p => ((pre ++ [n]) ++ p.1, p.2)
      rw [h1]
      unfold stNum
      cases e : numL (ws.headD []) with
      | none => rfl
      | some v =>
        have := hn ws v rfl e
        subst this
        show Option.map _ (Option.map _ _) = Option.map _ _
        cases stNums (hs.drop (k + 1)) ws.tail with
        | none => rfl
        | some p => simp
theorem NumsRel.skip {hs : List Bool} {st st' : Option WS} {k : Nat} {pre : List Int} (h : NumsRel hs st st' k pre) (hk : k < hs.length) (hb : hs.getD k false = false) : NumsRel hs st st' (k + 1) (pre ++ [0]) := by
  have hd : hs.drop k = false :: hs.drop (k + 1) := by
    rw [List.drop_eq_getElem_cons hk]
    have : hs[k] = false := by simpa [List.getD, hk] using hb
    rw [this]
  cases st with
  | none => exact h
  | some ws0 =>
    cases st' with
    | none => exact h
    | some ws =>
      have h1 : stNums hs ws0 = (stNums (hs.drop k) ws).map fun p => (pre ++ p.1, p.2) := h
      rw [hd, stNums, if_neg (by simp)] at h1
      show stNums hs ws0 = (stNums (hs.drop (k + 1)) ws).map fun p => ((pre ++ [0]) ++ p.1, p.2)
      rw [h1]
      cases stNums (hs.drop (k + 1)) ws with
      | none => rfl
      | some p => simp
theorem NumsRel.fin {hs : List Bool} {st st' : Option WS} {k : Nat} {pre : List Int} (h : NumsRel hs st st' k pre) (hk : hs.length ≤ k) : st' = (st.bind fun ws => (stNums hs ws).map (·.2)) ∧ ∀ ws p, st = some ws → stNums hs ws = some p → pre = p.1 := by
  cases st with
  | none => exact ⟨h, (fun ws p e => by cases e)⟩
  | some ws0 =>
    cases st' with
    | none =>
      have h1 : stNums hs ws0 = none := h
      refine ⟨by show _ = (stNums hs ws0).map _; rw [h1]; rfl, fun ws p e e2 => ?_⟩
      cases e
      rw [h1] at e2
      cases e2
    | some ws =>
      have h1 : stNums hs ws0 = (stNums (hs.drop k) ws).map fun p => (pre ++ p.1, p.2) := h
      rw [List.drop_of_length_le hk] at h1
      have h2 : stNums hs ws0 = some (pre, ws) := by rw [h1]; simp [stNums]
      refine ⟨by show _ = (stNums hs ws0).map _; rw [h2]; rfl, fun ws p e e2 => ?_⟩
      cases e
      rw [h2] at e2
      cases e2
      rfl
def intV (n : Int) : Value := .int .i64 n
theorem set_mid {α : Type} (a : List α) (x y : α) (b : List α) : (a ++ x :: b).set a.length y = a ++ y :: b := by
  induction a with
  | nil => rfl
  | cons z r ih => simp [ih]
theorem set_num (pre : List Int) (n : Int) (k : Nat) (hp : pre.length = k) (hk : k < 4) : ((pre ++ List.replicate (4 - k) 0).map intV).set k (intV n) = ((pre ++ [n]) ++ List.replicate (4 - (k + 1)) 0).map intV := by
  subst hp
  rw [show 4 - pre.length = (4 - (pre.length + 1)) + 1 by omega, List.replicate_succ, List.map_append, List.map_cons]
  have := set_mid (pre.map intV) (intV 0) (intV n) ((List.replicate (4 - (pre.length + 1)) 0).map intV)
  rw [List.length_map] at this
  rw [this]
  simp
theorem skip_num (pre : List Int) (k : Nat) (hp : pre.length = k) (hk : k < 4) : (pre ++ List.replicate (4 - k) 0).map intV = ((pre ++ [0]) ++ List.replicate (4 - (k + 1)) 0).map intV := by
  rw [show 4 - k = (4 - (k + 1)) + 1 by omega, List.replicate_succ]
  simp
theorem BoxN.num {u : World} {b : Nat} {vs : List Value} (h : BoxN u b 4 vs) (k : Nat) (hk : k < 4) : ∃ v, u.cell? ⟨b, k, none⟩ = some v ∧ u.frozen? ⟨b, k, none⟩ = false := ⟨_, (h.c k hk).1, (h.c k hk).2⟩
/-- Numbers of a reader, in their places. -/
def NumsTo (L q bp : Nat) (hs : List Bool) (st : Option WS) (u u' : World) (ps : List Int) : Prop :=
  BoxN u' bp 4 (ps.map intV) ∧ ps.length = 4 ∧ Rd L q u' (st.bind fun ws => (stNums hs ws).map (·.2)) ∧ (∀ ws p, st = some ws → stNums hs ws = some p → ps = p.1) ∧ Sav2 q bp u u'
set_option maxRecDepth 100000 in
set_option maxHeartbeats 4000000 in
theorem numbers_rd (L q bh bp hc pc : Nat) (hs : List Bool) (st : Option WS) (u : World) (h : Rd L q u st) (hL : L ≤ 140737488355328) (h4 : hs.length = 4)
    (bx : BoxN u bp 4 ([0, 0, 0, 0].map intV)) (zh : bh < u.heap.size) (hqh : bh ≠ q) (hph : bh ≠ bp) (hqp : q ≠ bp)
    (ch : ∀ i, i < 4 → u.cell? ⟨bh, i, none⟩ = some (.bool (hs.getD i false))) (hT : ∀ U, Sav2 q bp u U → RdW U) :
    Calls Tryd.prog 76 #[.pointer (some ⟨q, 0, none⟩), .slice (some ⟨bh, 0, none⟩) 4 hc, .slice (some ⟨bp, 0, none⟩) 4 pc] u fun e u' => e = .returned (.tuple #[]) ∧ ∃ ps, NumsTo L q bp hs st u u' ps := by
  have HC : Hid (∀ U, Sav2 q bp u U → ∀ i, i < 4 → U.cell? ⟨bh, i, none⟩ = some (.bool (hs.getD i false))) := fun U hU i hi => (hU.cell (a := ⟨bh, i, none⟩) zh hqh hph).trans (ch i hi)
  have HT : Hid (∀ U, Sav2 q bp u U → RdW U) := hT
  have s0 : Sav2 q bp u u := Sav2.of (Sav.refl q u)
  have HN : Hid (NumsRel hs st st 0 []) := NumsRel.start hs st
  have HB : Hid (BoxN u bp 4 (([] ++ List.replicate (4 - 0) 0 : List Int).map intV)) := bx
  have HR : Hid (Rd L q u st) := h
  clear ch hT bx zh hqh hph h
  go_enter Tryd.func76, Tryd.ntmps76
  go_wp2
  go_loopw [9] (fun s9 wr => ∃ (k : Nat) (st' : Option WS) (pre : List Int), k ≤ 4 ∧ s9 = .int .i64 k ∧ Hid (pre.length = k) ∧ Hid (NumsRel hs st st' k pre) ∧ Hid (Rd L q wr st') ∧ Hid (BoxN wr bp 4 ((pre ++ List.replicate (4 - k) 0).map intV)) ∧ Hid (Sav2 q bp u wr)) (fun s9 _ => 4 - (intOf s9).toNat)
  case atStart => exact ⟨0, st, [], by omega, rfl, rfl, HN, HR, HB, s0⟩
  case round =>
    clear HN HR HB s0
    obtain ⟨k, st', pre, hk, rfl, hp, HN, HR, HB, hS⟩ := hrel
    obtain ⟨wo, ewo⟩ : ∃ X : World, X = wr := ⟨_, rfl⟩
    subst ewo
    by_cases hlt : k < 4
    · have hlt' : (k : Int) < 4 := by omega
      have HJ : Hid (k + 1 ≤ 4) := hlt
      have c1 := HC.out wo hS.out k hlt
      cases hb : hs.getD k false with
      | false =>
        rw [hb] at c1
        have HN2 : Hid (NumsRel hs st st' (k + 1) (pre ++ [0])) := HN.out.skip (by omega) hb
        have HB2 : Hid (BoxN wo bp 4 (((pre ++ [0]) ++ List.replicate (4 - (k + 1)) 0).map intV)) := by show BoxN _ _ _ _; rw [← skip_num pre k hp.out hlt]; exact HB.out
        clear HN HB hb
        go_wp2
        go_roundw
        case rel => exact ⟨k + 1, st', pre ++ [0], HJ.out, by go_num, by show _ = _; rw [List.length_append, hp.out]; rfl, HN2, HR, HB2, hS⟩
        case measure => have := HJ.out; simp [intOf]; omega
      | true =>
        rw [hb] at c1
        have hnum := number_rd L q st' wo HR.out hL (fun U hU => HT.out U (hS.out.trans (Sav2.of hU)))
        have HN2 : Hid (∀ n, (∀ ws v, st' = some ws → numL (ws.headD []) = some v → n = v) → NumsRel hs st (st'.bind stNum) (k + 1) (pre ++ [n])) := fun n hn => HN.out.num (by omega) hb hn
        have HX : Hid (∀ U, Sav q wo U → BoxN U bp 4 ((pre ++ List.replicate (4 - k) 0).map intV)) := fun U hU => hU.box HB.out (fun e => hqp e.symm)
        clear HN HB hb
        go_upto_region 4 with (fail)
        go_wp2_with (go_at_call 89; refine hnum.mono ?_; rintro e u1 ⟨n, rfl, hi, hn, r1, s1⟩; have HB1 : Hid (BoxN u1 bp 4 ((pre ++ List.replicate (4 - k) 0).map intV)) := HX.out u1 s1; obtain ⟨v5, c5, f5⟩ := BoxN.num HB1.out k hlt; have z5 := HB1.out.lt; have HS5 : Hid (Sav q wo u1) := s1; have HR5 : Hid (Rd L q u1 (st'.bind stNum)) := r1; have HN5 : Hid (∀ ws v, st' = some ws → numL (ws.headD []) = some v → n = v) := hn; clear s1 r1 hn)
        go_roundw
        case rel => exact ⟨k + 1, st'.bind stNum, pre ++ [n], HJ.out, by go_num, by show _ = _; rw [List.length_append, hp.out]; rfl, HN2.out n HN5.out, HR5.out.far hqp, (by show BoxN _ _ _ _; rw [← set_num pre n k hp.out hlt]; exact HB1.out.set k hlt (intV n)), (hS.out.trans (Sav2.of HS5.out)).set⟩
        case measure => have := HJ.out; simp [intOf]; omega
    · obtain rfl : k = 4 := by omega
      have hnl : ¬ ((4 : Int) < (4 : Int)) := by omega
      obtain ⟨e1, e2⟩ := HN.out.fin (by omega)
      have HF : Hid (NumsTo L q bp hs st u wo pre) := ⟨by simpa using HB.out, hp.out, e1 ▸ HR.out, e2, hS.out⟩
      clear HN HR HB e1 e2 hp
      go_wp2
      exact bodyPost_end (v := .tuple #[]) (by simp [results, Tryd.results76, go_sem]) rfl ⟨rfl, pre, HF.out⟩
end Go.Proofs.YtlaagfnoepcnlaaDoor.Ln
/- lines' reader: kept. -/
namespace Go.Proofs.YtlaagfnoepcnlaaDoor.Ln
open Go.ChangeShapes Go.WideShapes Go.ChangeAt Go.RowKit
open Go.Proofs.YtlaagfnoepcnlaaDoor.St (BoxN boxn_new own_below IsRow Elem flat own_isRow)
set_option linter.unusedVariables false

def iC (n : Int) : List Value := [.int .i64 n]
theorem iC_len (x : Int) : (iC x).length = 1 := rfl
theorem iC_one (y : Int) : ∀ u ∈ iC y, u.oneCell' = true := by
  intro u hu
  simp only [iC, List.mem_cons, List.not_mem_nil, or_false] at hu
  rcases hu with rfl
  rfl
theorem iCInfo : (Tryd.prog.info? 3).map (fun i => (i.zero, i.size, i.bytes)) = some (some (.int .i64 0), 1, 8) := by kernel_rfl
theorem iCElem : ∃ i, Elem 1 iC 3 34 i (.int .i64 0) 8 := by
  obtain ⟨j0, hj, lj0, lj1, lj2⟩ := info_parts iCInfo
  exact ⟨j0, iC_len, by decide, iC_one, Tryd.underlying34, hj, lj0, lj1, lj2, rfl⟩
theorem own_sav {q B : Nat} {w w' : World} {te : TypeId} {k : Nat} {v : Value} {n : Nat} {xs : List Value} (h : w.ownsRow B te k v n xs) (s : Sav q w w') (hq : q < B) : w'.ownsRow B te k v n xs := by
  obtain ⟨h1, h2⟩ := h
  refine ⟨h1, ?_⟩
  rcases h2 with h2 | ⟨g, cap, cur, e, hb, hg, r⟩
  · exact .inl h2
  · have zg : g < w.heap.size := by
      cases hx : w.heap[g]? with
      | none => rw [hx] at hg; cases hg
      | some o => exact (Array.getElem?_eq_some_iff.1 hx).1
    exact .inr ⟨g, cap, cur, e, hb, (s.block g zg (by omega)).trans hg, r⟩
theorem Rd.grown {L q : Nat} {u v : World} {st : Option WS} {row : Option Nat} (h : Rd L q u st) (hg : u.grownBy v row) (hq : some q ≠ row) : Rd L q v st := by
  obtain ⟨r, en, wr, h, h2⟩ := h
  exact ⟨r, en, wr, h.grown hg hq, h2⟩
theorem Sav.grown {q : Nat} {u v z : World} {row : Option Nat} (h : Sav q u v) (hg : v.grownBy z row) (hr : ∀ g, row = some g → u.heap.size ≤ g) : Sav q u z :=
  ⟨hg.os.trans h.os, hg.tape.trans h.tape, hg.output.trans h.output, Nat.le_trans h.size hg.size, fun j hj hq => (hg.block j (Nat.lt_of_lt_of_le hj h.size) (fun e => by have := hr j e.symm; omega)).trans (h.block j hj hq)⟩
theorem int1 (X : World) (n : Int) (q : Nat) (hq : q = X.heap.size) : IsRow 1 iC (X.alloc (.cells #[.int .i64 n] 3)) (some ⟨q, 0, none⟩) 1 1 [n] := by
  subst hq
  have b := boxn_new X #[.int .i64 n] 3 1 rfl
  refine ⟨rfl, Nat.le_refl _, by unfold maxLen; omega, nofun, fun _ => ⟨_, 0, rfl, b.lt, fun i hi j hj => ?_⟩⟩
  obtain rfl : i = 0 := by omega
  obtain rfl : j = 0 := by omega
  exact (b.c 0 (by decide)).1
/-- What kept's loop has read. -/
def KeptRel (st st' : Option WS) (ns : List Int) : Prop := match st with
  | none => st' = none
  | some ws0 => stKept ws0 = match st' with
    | none => none
    | some ws => (stKept ws).map (ns ++ ·)
theorem KeptRel.start (st : Option WS) : KeptRel st st [] := by
  cases st with
  | none => rfl
  | some ws =>
    show stKept ws = (stKept ws).map _
    cases stKept ws <;> rfl
theorem KeptRel.step {st : Option WS} {ws : WS} {ns : List Int} {n : Int} (h : KeptRel st (some ws) ns) (hw : ws ≠ []) (hn : ∀ v, numL (ws.headD []) = some v → n = v) : KeptRel st (stNum ws) (ns ++ [n]) := by
  cases st with
  | none => cases h
  | some ws0 =>
    have h1 : stKept ws0 = (stKept ws).map (ns ++ ·) := h
    show stKept ws0 = match stNum ws with | none => none | some ws => (stKept ws).map ((ns ++ [n]) ++ ·)
    rw [h1]
    cases ws with
    | nil => exact absurd rfl hw
    | cons w r =>
      have hk : stKept (w :: r) = (match numL w with | none => none | some n => (stKept r).map (n :: ·)) := rfl
      rw [hk]
      unfold stNum
      simp only [List.headD_cons, List.tail_cons] at hn ⊢
      cases e : numL w with
      | none => rfl
      | some v =>
        have := hn v e
        subst this
        show Option.map _ (Option.map _ _) = Option.map _ _
        cases stKept r with
        | none => rfl
        | some l => simp
theorem KeptRel.fin {st st' : Option WS} {ns : List Int} (h : KeptRel st st' ns) (he : st' = none ∨ st' = some []) : st' = (st.bind fun ws => (stKept ws).map fun _ => ([] : WS)) ∧ ∀ ws l, st = some ws → stKept ws = some l → ns = l := by
  cases st with
  | none => exact ⟨h, (fun ws p e => by cases e)⟩
  | some ws0 =>
    rcases he with rfl | rfl
    · have h1 : stKept ws0 = none := h
      refine ⟨by show _ = (stKept ws0).map _; rw [h1]; rfl, fun ws p e e2 => ?_⟩
      cases e
      rw [h1] at e2
      cases e2
    · have h1 : stKept ws0 = some ns := by have h2 : stKept ws0 = (stKept []).map (ns ++ ·) := h; rw [h2]; simp [stKept]
      refine ⟨by show _ = (stKept ws0).map _; rw [h1]; rfl, fun ws p e e2 => ?_⟩
      cases e
      rw [h1] at e2
      cases e2
      rfl
/-- How much there is to read. -/
def rdMs (r : List UInt8) (en : Bool) : Nat := r.length + (if en then 0 else 1)
/-- A reader that goes on, with its measure. -/
def RdM (L q : Nat) (u : World) (st : Option WS) (m : Nat) : Prop := ∃ r en wr, BoxN u q 3 (rdC r en wr) ∧ r.length ≤ L ∧ rdOk r en wr st ∧ (wr = false → rdMs r en ≤ m)
theorem RdM.grown {L q m : Nat} {u v : World} {st : Option WS} {row : Option Nat} (h : RdM L q u st m) (hg : u.grownBy v row) (hq : some q ≠ row) : RdM L q v st m := by
  obtain ⟨r, en, wr, h, h2⟩ := h
  exact ⟨r, en, wr, h.grown hg hq, h2⟩
theorem RdM.below {L q m : Nat} {u v : World} {st : Option WS} (h : RdM L q u st m) (hb : Below u.heap.size u v) : RdM L q v st m := by
  obtain ⟨r, en, wr, h, h2⟩ := h
  exact ⟨r, en, wr, h.below hb h.lt, h2⟩
theorem RdM.rd {L q m : Nat} {u : World} {st : Option WS} (h : RdM L q u st m) : Rd L q u st := by
  obtain ⟨r, en, wr, h1, h2, h3, -⟩ := h
  exact ⟨r, en, wr, h1, h2, h3⟩
/-- Numbers that are kept. -/
def KeptTo (L q : Nat) (st : Option WS) (u u' : World) (e : Ending) : Prop := ∃ a n c zs, e = .returned (.slice a n c) ∧ u'.ownsRow u.heap.size 3 1 (.slice a n c) n (St.flat iC zs) ∧ zs.length = n ∧ n ≤ 7 ∧ (∀ z ∈ zs, i64n z) ∧ Rd L q u' (st.bind fun ws => (stKept ws).map fun _ => ([] : WS)) ∧ (∀ ws l, st = some ws → stKept ws = some l → zs = l.take 7) ∧ Sav q u u'
theorem take_snoc {ns us : List Int} (n : Int) (h : us = ns.take 7) : (us.length ≤ 6 → us ++ [n] = (ns ++ [n]).take 7) ∧ (¬ us.length ≤ 6 → us = (ns ++ [n]).take 7) := by
  subst h
  rw [List.length_take]
  constructor
  · intro h
    have hl : ns.length ≤ 6 := by omega
    rw [List.take_of_length_le (by omega), List.take_of_length_le (by simp; omega)]
  · intro h
    rw [List.take_append_of_le_length (by omega)]
theorem number_m (L q m : Nat) (r : List UInt8) (ws : WS) (u : World) (bx : BoxN u q 3 (rdC r false false)) (hl : r.length ≤ L) (hw : ws = spc 32 r) (hm : rdMs r false ≤ m + 1) (hL : L ≤ 140737488355328) (hT : ∀ U, Sav q u U → RdW U) :
    Calls Tryd.prog 89 #[.pointer (some ⟨q, 0, none⟩)] u fun e u' => ∃ n, e = .returned (.int .i64 n) ∧ i64n n ∧ (∀ v, numL (ws.headD []) = some v → n = v) ∧ RdM L q u' (stNum ws) m ∧ Sav q u u' := by
  refine (number_any q r false false u bx (by omega) hT).mono ?_
  rintro e u' ⟨n, rfl, hi, hn, b2, s2⟩
  have hc := cutC_len (c := 32) (r := r)
  obtain ⟨c1, c2, c3⟩ := cut_spc 32 r
  subst hw
  rw [c1] at hn b2
  refine ⟨n, rfl, hi, hn, ⟨_, _, _, b2, by omega, ?_, ?_⟩, s2⟩
  · unfold stNum
    cases e2 : numL ((spc 32 r).headD []) with
    | none => rfl
    | some v =>
      refine ⟨rfl, ?_⟩
      cases e : (cutC 32 r).2.2 with
      | true => exact Or.inr ⟨rfl, (c2 e).1.symm⟩
      | false => exact Or.inl ⟨rfl, (c3 e).2.1, (c3 e).1⟩
  · intro _
    unfold rdMs at hm ⊢
    cases e : (cutC 32 r).2.2 with
    | true => have := (c2 e).2; simp at hm ⊢; omega
    | false => have := (c3 e).2.1; rw [this]; simp
set_option maxRecDepth 100000 in
set_option maxHeartbeats 4000000 in
theorem kept_rd (L q : Nat) (st : Option WS) (u : World) (h : Rd L q u st) (hL : L ≤ 140737488355328) (hT : ∀ U, Sav q u U → RdW U) :
    Calls Tryd.prog 77 #[.pointer (some ⟨q, 0, none⟩)] u fun e u' => KeptTo L q st u u' e := by
  obtain ⟨iE, ES⟩ := iCElem
  have hq := h.lt
  have HT : Hid (∀ U, Sav q u U → RdW U) := hT
  have HM : Hid (RdM L q u st (L + 1)) := by
    obtain ⟨r, en, wr, bx, hl, hr⟩ := h
    exact ⟨r, en, wr, bx, hl, hr, fun _ => by unfold rdMs; split <;> omega⟩
  have HK : Hid (KeptRel st st []) := KeptRel.start st
  have HO : Hid (u.ownsRow u.heap.size 3 1 (.slice none 0 0) 0 (St.flat iC [])) := ⟨rfl, Or.inl ⟨rfl, rfl⟩⟩
  have HS : Hid (Sav q u u) := Sav.refl q u
  clear hT h
  go_enter Tryd.func77, Tryd.ntmps77
  go_upto_region 2 with (fail)
  go_loopg [3, 4] (L + 1) (fun m s3 s4 wr => ∃ (a : Option Addr) (c : Nat) (us ns : List Int) (st' : Option WS), s3 = .slice a us.length c ∧ us.length ≤ 7 ∧ Hid (us = ns.take 7) ∧ Hid (∀ z ∈ us, i64n z) ∧ Hid (wr.ownsRow u.heap.size 3 1 (.slice a us.length c) us.length (St.flat iC us)) ∧ Hid (KeptRel st st' ns) ∧ Hid (RdM L q wr st' m) ∧ Hid (Sav q u wr))
  case atStart => exact ⟨none, 0, [], [], st, rfl, by simp, rfl, (by intro z hz; cases hz), HO, HK, HM, HS⟩
  case round =>
    clear HO HK HM HS
    obtain ⟨a, c, us, ns, st', rfl, hul, HU, HI, HO, HK, HM, HS⟩ := hrel
    obtain ⟨wo, ewo⟩ : ∃ X : World, X = wr := ⟨_, rfl⟩
    subst ewo
    have HD : Hid (∀ st2, st' = st2 → (st2 = none ∨ st2 = some []) → KeptTo L q st u wo (.returned (.slice a us.length c))) := fun st2 e h => by
      subst e
      obtain ⟨e1, e2⟩ := HK.out.fin h
      exact ⟨a, us.length, c, us, rfl, HO.out, rfl, hul, HI.out, e1 ▸ HM.out.rd, fun ws l h1 h2 => by rw [← e2 ws l h1 h2]; exact HU.out, HS.out⟩
    obtain ⟨r, en, wg, bx, hl, hr, hm⟩ := HM.out
    have c1 : wo.cell? ⟨q, 1, none⟩ = some (.bool en) := (bx.c 1 (by decide)).1
    have c2 : wo.cell? ⟨q, 2, none⟩ = some (.bool wg) := (bx.c 2 (by decide)).1
    have zq := bx.lt
    cases wg with
    | true =>
      have e0 : st' = none := by
        cases st' with
        | none => rfl
        | some ws => exact absurd hr.1 (by simp)
      have HE := HD.out none e0 (Or.inl rfl)
      clear HM bx hr hm HO HK HI HU HS HD
      cases en <;> go_wp2 <;> go_ret <;> exact HE
    | false =>
      cases en with
      | true =>
        have e0 : st' = none ∨ st' = some [] := by
          cases st' with
          | none => exact Or.inl rfl
          | some ws =>
            rcases hr.2 with h | h
            · exact Or.inr (by rw [h.2.2])
            · exact absurd h.1 (by simp)
        have HE := HD.out st' rfl e0
        clear HM bx hr hm HO HK HI HU HS HD e0
        go_wp2
        go_ret
        exact HE
      | false =>
        obtain ⟨ws, ew, hws⟩ : ∃ ws, st' = some ws ∧ ws = spc 32 r := by
          cases st' with
          | none => exact absurd hr (by simp [rdOk])
          | some ws =>
            rcases hr.2 with h | h
            · exact absurd h.1 (by simp)
            · exact ⟨ws, rfl, h.2⟩
        subst ew
        obtain ⟨m', em⟩ : ∃ m', gk = m' + 1 := ⟨gk - 1, by have := hm rfl; unfold rdMs at this; simp at this; omega⟩
        have hnum := number_m L q m' r ws wo bx hl hws (by have := hm rfl; omega) hL (fun U hU => HT.out U (HS.out.trans hU))
        have HK2 : Hid (∀ n, (∀ v, numL (ws.headD []) = some v → n = v) → KeptRel st (stNum ws) (ns ++ [n])) := fun n hn => HK.out.step (by rw [hws]; exact spc_ne 32 r) hn
        have HOl : Hid (∀ g, (Value.slice a us.length c).ownBlock = some g → u.heap.size ≤ g) := fun g e => (HO.out.lt g e).1
        have HX : Hid (∀ U, Sav q wo U → U.ownsRow u.heap.size 3 1 (.slice a us.length c) us.length (St.flat iC us) ∧ u.heap.size ≤ U.heap.size) := fun U hU => ⟨own_sav HO.out hU hq, Nat.le_trans HS.out.size hU.size⟩
        have Em : Hid (gk = m' + 1) := em
        clear HM bx hr hm HO HK HD em hws
        by_cases h6 : us.length ≤ 6
        · have h6' : (us.length : Int) ≤ 6 := by omega
          go_upto_region 5 with (go_at_call 89; refine hnum.mono ?_; rintro e u1 ⟨n, rfl, hi, hn, r1, s1⟩)
          have HR1 : Hid (RdM L q u1 (stNum ws) m') := r1
          have HS1 : Hid (Sav q wo u1) := s1
          have HN1 := HK2.out n hn
          obtain ⟨hO1, hz1⟩ := HX.out u1 s1
          have zq1 := HR1.out.rd.lt
          clear hn r1 s1 c1 c2 hnum
          have HF : Hid (∀ (w5 : World) (a5 : Option Addr) (c5 : Nat), (u1.alloc (.cells #[.int .i64 n] 3)).grownBy w5 (Value.slice a us.length c).ownBlock → RdM L q w5 (stNum ws) m' ∧ Sav q u w5) := fun w5 a5 c5 h8 =>
            ⟨(HR1.out.below ((Below.refl _ _).alloc (Nat.le_refl _) _)).grown h8 (fun e => by have := HOl.out q e.symm; omega), (HS.out.trans (HS1.out.trans (Sav.of ((Below.refl _ _).alloc (Nat.le_refl _) _)))).grown h8 HOl.out⟩
          go_wp2_with (at_builtin; go_loud (refine St.wpList_append_row ES (by rfl) _ _ (by rfl) u.heap.size (.slice a us.length c) us.length us (by rfl) (own_below hO1 ((Below.refl _ _).alloc (Nat.le_refl _) _)) _ 1 1 [n] (by rfl) (int1 u1 n _ rfl) (by unfold maxLen; omega) (by omega) (by simp; omega) ?_; intro a5 c5 w5 own5 gr5 at5; have hF5 := HF.out w5 a5 c5 gr5))
          go_roundg m'
          case rel => exact ⟨a5, c5, us ++ [n], ns ++ [n], stNum ws, by rw [List.length_append]; rfl, by rw [List.length_append, List.length_singleton]; omega, (take_snoc n HU.out).1 h6, (by intro z hz; rcases List.mem_append.1 hz with h | h; exact HI.out z h; simp only [List.mem_singleton] at h; rw [h]; exact hi), by rw [List.length_append]; exact own5, HN1, hF5.1, hF5.2⟩
          case measure => have := Em.out; omega
        · have h6' : ¬ (us.length : Int) ≤ 6 := by omega
          go_upto_region 4 with (go_at_call 89; refine hnum.mono ?_; rintro e u1 ⟨n, rfl, hi, hn, r1, s1⟩)
          have HR1 : Hid (RdM L q u1 (stNum ws) m') := r1
          have HS1 : Hid (Sav q u u1) := HS.out.trans s1
          have HN1 := HK2.out n hn
          have HO1 := (HX.out u1 s1).1
          clear hn r1 s1 c1 c2 hnum
          go_wp2
          go_roundg m'
          case rel => exact ⟨a, c, us, ns ++ [n], stNum ws, rfl, hul, (take_snoc n HU.out).2 h6, HI, HO1, HN1, HR1, HS1⟩
          case measure => have := Em.out; omega
end Go.Proofs.YtlaagfnoepcnlaaDoor.Ln
/- lines' reader: text. -/
namespace Go.Proofs.YtlaagfnoepcnlaaDoor.Ln
open Go.ChangeShapes Go.WideShapes Go.ChangeAt Go.RowKit
open Go.Proofs.YtlaagfnoepcnlaaDoor.St (BoxN boxn_new own_below IsRow Elem flat own_isRow)
set_option linter.unusedVariables false

/-- What stands behind a dot. -/
def dotC : List UInt8 → List UInt8 × Bool
  | [] => ([], false)
  | c :: r => if c = 46 then (r, true) else (c :: r, false)
theorem dot_pre (l : List UInt8) : Lib.hasPrefix l [46] = (dotC l).2 := by
  cases l with
  | nil => rfl
  | cons c r =>
    show List.isPrefixOf _ _ = (if c = 46 then (r, true) else (c :: r, false)).2
    by_cases h : c = 46
    · subst h; simp [List.isPrefixOf]
    · rw [if_neg h]
      simp [List.isPrefixOf, Ne.symm h]
set_option maxRecDepth 100000 in
set_option maxHeartbeats 2000000 in
theorem cutDot_any (x : List UInt8) (w : World) (hs : x.length ≤ 9223372036854775807) :
    Calls Tryd.prog 100 #[.string ⟨x.toArray⟩, .string ⟨#[46]⟩] w fun e w' => e = .returned (.tuple #[.string ⟨(dotC x).1.toArray⟩, .bool (dotC x).2]) ∧ w' = w := by
  have h := Tryd.stringslite_HasPrefix ⟨x.toArray⟩ ⟨#[46]⟩ w
  have e0 : Lib.hasPrefix (⟨x.toArray⟩ : ByteArray).data.toList (ByteArray.mk #[46]).data.toList = (dotC x).2 := dot_pre x
  rw [e0] at h
  clear e0
  cases x with
  | nil =>
    have h2 : Calls Tryd.prog 108 #[.string ⟨#[]⟩, .string ⟨#[46]⟩] w fun e w' => e = .returned (.bool false) ∧ w' = w := h
    clear h
    show Calls Tryd.prog _ #[.string ⟨#[]⟩, .string ⟨#[46]⟩] w fun e w' => e = .returned (.tuple #[.string ⟨#[]⟩, .bool false]) ∧ w' = w
    go_enter Tryd.func100, Tryd.ntmps100
    go_wp2_with (go_at_call 108; refine h2.mono ?_; rintro e u ⟨rfl, rfl⟩)
    go_ret2
    exact ⟨rfl, rfl⟩
  | cons c r =>
    by_cases hc : c = 46
    · subst hc
      have e1 : dotC (46 :: r) = (r, true) := by simp [dotC]
      rw [e1] at h ⊢
      obtain ⟨S, eS⟩ : ∃ S : ByteArray, S = ⟨(46 :: r).toArray⟩ := ⟨_, rfl⟩
      have e2 : (⟨r.toArray⟩ : ByteArray) = S.extract 1 S.size := by
        have hz : S.size = r.length + 1 := by rw [eS]; show (46 :: r).toArray.size = _; simp
        rw [Lib.extract_eq, hz, eS]
        simp
      have hz : (1 : Int) ≤ (S.size : Int) := by
        have hz : S.size = r.length + 1 := by rw [eS]; show (46 :: r).toArray.size = _; simp
        omega
      rw [← eS] at h ⊢
      have HE : Hid ((⟨r.toArray⟩ : ByteArray) = S.extract 1 S.size) := e2
      clear eS e2 e1
      go_enter Tryd.func100, Tryd.ntmps100
      go_wp2_with (go_at_call 108; refine h.mono ?_; rintro e u ⟨rfl, rfl⟩)
      go_ret2
      exact ⟨by rw [HE.out]; rfl, rfl⟩
    · have e1 : dotC (c :: r) = (c :: r, false) := by simp [dotC, hc]
      rw [e1] at h ⊢
      go_enter Tryd.func100, Tryd.ntmps100
      go_wp2_with (go_at_call 108; refine h.mono ?_; rintro e u ⟨rfl, rfl⟩)
      go_ret2
      exact ⟨rfl, rfl⟩
theorem cutPrefix_any (x : List UInt8) (w : World) (hs : x.length ≤ 9223372036854775807) :
    Calls Tryd.prog 91 #[.string ⟨x.toArray⟩, .string ⟨#[46]⟩] w fun e w' => e = .returned (.tuple #[.string ⟨(dotC x).1.toArray⟩, .bool (dotC x).2]) ∧ w' = w := by
  have h := cutDot_any x w hs
  go_enter Tryd.func91, Tryd.ntmps91
  go_wp2_with (go_at_call 100; refine h.mono ?_; rintro e u ⟨rfl, rfl⟩)
  go_ret2
  exact ⟨rfl, rfl⟩
theorem digIx_any (c : UInt8) (w : World) :
    Calls Tryd.prog 92 #[.string ⟨#[48, 49, 50, 51, 52, 53, 54, 55, 56, 57, 97, 98, 99, 100, 101, 102]⟩, .int .u8 (c.toNat : Int)] w fun e w' => e = .returned (.int .i64 (dgt c)) ∧ w' = w := by
  have h : Calls Tryd.prog 85 #[.string ⟨#[48, 49, 50, 51, 52, 53, 54, 55, 56, 57, 97, 98, 99, 100, 101, 102]⟩, .int .u8 (c.toNat : Int)] w fun e w' => e = .returned (.int .i64 (dgt c)) ∧ w' = w := by
    have := Tryd.stringslite_IndexByte ⟨#[48, 49, 50, 51, 52, 53, 54, 55, 56, 57, 97, 98, 99, 100, 101, 102]⟩ c.toNat w
    simpa [dgt, digs] using this
  go_enter Tryd.func92, Tryd.ntmps92
  go_wp2_with (go_at_call 85; refine h.mono ?_; rintro e u ⟨rfl, rfl⟩)
  go_ret
  exact ⟨rfl, rfl⟩
theorem dgt_lt (c : UInt8) : dgt c < 16 := by
  have : ∀ (l : List UInt8), Lib.indexByte l c < (l.length : Int) := by
    intro l
    induction l with
    | nil => simp [Lib.indexByte]
    | cons x r ih =>
      unfold Lib.indexByte
      simp only [List.length_cons]
      split
      · omega
      · split <;> omega
  exact this digs
end Go.Proofs.YtlaagfnoepcnlaaDoor.Ln
