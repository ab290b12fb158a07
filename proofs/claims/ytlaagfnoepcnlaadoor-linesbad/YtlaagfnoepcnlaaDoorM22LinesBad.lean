/- Texts of this claim, one behind the other. -/
import Derived.Test.YtlaagfnoepcnlaaDoorM21LinesBad
import Derived.LoopTactic
import Derived.Test.YtlaagfnoepcnlaaDoorM17LinesBad
/- lines.Read on plain data: words and lines, what they are read as. -/
namespace Go.Proofs.YtlaagfnoepcnlaaDoor.Ln
open Go.Proofs.YtlaagfnoepcnlaaDoor.Cn (spl spl_ne spl_none spl_blank)
set_option linter.unusedVariables false

abbrev WS := List (List UInt8)
/-- Parts, parted by a byte. -/
def spc (d : UInt8) : List UInt8 → WS
  | [] => [[]]
  | c :: r => if c = d then [] :: spc d r else match spc d r with
    | [] => [[c]]
    | x :: xs => (c :: x) :: xs
theorem spl_spc : ∀ (l : List UInt8), spl l = spc 32 l
  | [] => rfl
  | c :: r => by
    rw [spl, spc, spl_spc r]
    cases spc 32 r <;> rfl
theorem spc_none {d : UInt8} {l : List UInt8} (h : ∀ c ∈ l, c ≠ d) : spc d l = [l] := by
  induction l with
  | nil => rfl
  | cons c r ih => rw [spc, if_neg (h c (by simp)), ih (fun x hx => h x (by simp [hx]))]
theorem spc_cut {d : UInt8} (a r : List UInt8) (h : ∀ c ∈ a, c ≠ d) : spc d (a ++ d :: r) = a :: spc d r := by
  induction a with
  | nil => simp [spc]
  | cons c t ih => rw [List.cons_append, spc, if_neg (h c (by simp)), ih (fun x hx => h x (by simp [hx]))]
theorem spc_ne (d : UInt8) (l : List UInt8) : spc d l ≠ [] := by
  cases l with
  | nil => simp [spc]
  | cons c r =>
    rw [spc]
    split
    · simp
    · split <;> simp
theorem spc_first (d : UInt8) (l : List UInt8) : (∀ c ∈ l, c ≠ d) ∨ ∃ a r, l = a ++ d :: r ∧ ∀ c ∈ a, c ≠ d := by
  induction l with
  | nil => exact Or.inl (by simp)
  | cons c t ih =>
    by_cases hc : c = d
    · exact Or.inr ⟨[], t, by simp [hc], by simp⟩
    · rcases ih with h | ⟨a, r, rfl, h⟩
      · exact Or.inl fun x hx => by rcases List.mem_cons.1 hx with rfl | hx; exact hc; exact h x hx
      · exact Or.inr ⟨c :: a, r, by simp, fun x hx => by rcases List.mem_cons.1 hx with rfl | hx; exact hc; exact h x hx⟩
theorem ib_none {d : UInt8} {l : List UInt8} (h : ∀ c ∈ l, c ≠ d) : Lib.indexByte l d = -1 := by
  induction l with
  | nil => rfl
  | cons c r ih =>
    unfold Lib.indexByte
    rw [if_neg (by simpa using h c (by simp)), ih (fun x hx => h x (by simp [hx]))]
    rfl
theorem ib_hit {d : UInt8} (a r : List UInt8) (h : ∀ c ∈ a, c ≠ d) : Lib.indexByte (a ++ d :: r) d = (a.length : Int) := by
  induction a with
  | nil => unfold Lib.indexByte; simp
  | cons c t ih =>
    rw [List.cons_append]
    unfold Lib.indexByte
    rw [if_neg (by simpa using h c (by simp)), ih (fun x hx => h x (by simp [hx])), if_neg (by intro e; have := beq_iff_eq.1 e; omega)]
    simp
theorem cut_none {d : UInt8} {l : List UInt8} (h : ∀ c ∈ l, c ≠ d) : cutC d l = (l, [], false) := by
  unfold cutC
  rw [ib_none h, if_neg (by omega)]
theorem cut_hit2 {d : UInt8} (a r : List UInt8) (h : ∀ c ∈ a, c ≠ d) : cutC d (a ++ d :: r) = (a, r, true) := by
  unfold cutC
  rw [ib_hit a r h, if_pos (by omega)]
  simp
/-- What is cut off is the first part, and what is left are the others. -/
theorem cut_spc (d : UInt8) (r : List UInt8) : (cutC d r).1 = (spc d r).headD [] ∧ ((cutC d r).2.2 = true → spc d (cutC d r).2.1 = (spc d r).tail ∧ (cutC d r).2.1.length < r.length) ∧ ((cutC d r).2.2 = false → (spc d r).tail = [] ∧ (cutC d r).2.1 = [] ∧ r = (cutC d r).1) := by
  rcases spc_first d r with h | ⟨a, t, rfl, h⟩
  · rw [cut_none h, spc_none h]
    simp
  · rw [cut_hit2 a t h, spc_cut a t h]
    simp
    omega
def kFind (f : Nat → ByteArray) (w : List UInt8) : Nat → Nat → Nat
  | 0, _ => 0
  | m + 1, k => if (f k).data.toList = w then k else kFind f w m (k + 1)
def kindA (w : List UInt8) : Nat := kFind aWord w 9 0
def kindC (w : List UInt8) : Nat := kFind cWord w 6 0
theorem kFind_lt {f : Nat → ByteArray} {w : List UInt8} : ∀ (m k : Nat), kFind f w m k < m + k ∨ kFind f w m k = 0
  | 0, _ => Or.inr rfl
  | m + 1, k => by
    unfold kFind
    split
    · exact Or.inl (by omega)
    · rcases kFind_lt (f := f) (w := w) m (k + 1) with h | h
      · exact Or.inl (by omega)
      · exact Or.inr h
theorem kindA_lt (w : List UInt8) : kindA w < 9 := by
  rcases kFind_lt (f := aWord) (w := w) 9 0 with h | h
  · exact h
  · unfold kindA; omega
theorem kindC_lt (w : List UInt8) : kindC w < 6 := by
  rcases kFind_lt (f := cWord) (w := w) 6 0 with h | h
  · exact h
  · unfold kindC; omega
/-- Numbers that there are, each from its word. -/
def stNums : List Bool → WS → Option (List Int × WS)
  | [], ws => some ([], ws)
  | h :: hs, ws => if h then (match numL (ws.headD []) with
      | none => none
      | some n => (stNums hs ws.tail).map fun p => (n :: p.1, p.2))
    else (stNums hs ws).map fun p => (0 :: p.1, p.2)
def stKept : WS → Option (List Int)
  | [] => some []
  | w :: r => match numL w with
    | none => none
    | some n => (stKept r).map (n :: ·)
def digs : List UInt8 := [48, 49, 50, 51, 52, 53, 54, 55, 56, 57, 97, 98, 99, 100, 101, 102]
def dgt (c : UInt8) : Int := Lib.indexByte digs c
def unhex : List UInt8 → Option (List UInt8)
  | [] => some []
  | [_] => none
  | a :: b :: r => if dgt a < 0 ∨ dgt b < 0 then none else (unhex r).map (UInt8.ofNat (16 * (dgt a).toNat + (dgt b).toNat) :: ·)
def stText : List UInt8 → Option (List UInt8)
  | [] => none
  | c :: r => if c = 46 then unhex r else none
structure CV where
  kind : Nat
  ps : List Int
def CV.nil : CV := ⟨0, [0, 0, 0, 0]⟩
def stCall (ws : WS) : Option (CV × WS) := if kindC (ws.headD []) = 0 then none else (stNums (cHas.getD (kindC (ws.headD [])) []) ws.tail).map fun p => (⟨kindC (ws.headD []), p.1⟩, p.2)
/-- An act of its parts, its Keep not laid yet. -/
def mkAct (k : Nat) (ps : List Int) (zs : List Int) (c : CV) (t : List UInt8) : AV :=
  ⟨(k : Int), ps.getD 0 0, ps.getD 1 0, ps.getD 2 0, ps.getD 3 0, none, (zs.take 7).length, 0, (c.kind : Int), c.ps.getD 0 0, c.ps.getD 1 0, c.ps.getD 2 0, c.ps.getD 3 0, ⟨t.toArray⟩, zs.take 7⟩
def stKeep (k : Nat) (ws : WS) : Option (List Int × WS) := if k = 6 then (stKept ws).map fun l => (l, []) else some ([], ws)
def stCalled (k : Nat) (ws : WS) : Option (CV × WS) := if k = 1 then stCall ws else some (CV.nil, ws)
def stLine (k : Nat) (ws : WS) : Option (List UInt8 × WS) := if k = 8 then (stText (ws.headD [])).map fun t => (t, ws.tail) else some ([], ws)
def stAct (ws : WS) : Option (AV × WS) :=
  if kindA (ws.headD []) = 0 then none else
  match stNums ((aHas.getD (kindA (ws.headD [])) []).take 4) ws.tail with
  | none => none
  | some p => match stKeep (kindA (ws.headD [])) p.2 with
    | none => none
    | some z => match stCalled (kindA (ws.headD [])) z.2 with
      | none => none
      | some c => match stLine (kindA (ws.headD [])) c.2 with
        | none => none
        | some t => some (mkAct (kindA (ws.headD [])) p.1 z.1 c.1 t.1, t.2)
/-- An act of a line without its end. -/
def lnAct (l : List UInt8) : Option AV := match stAct (spc 32 l) with
  | some (a, []) => some a
  | _ => none
/-- Acts of lines: the acts, the place of the line that is wrong, and what is wrong. -/
def rdL (s : Int) (ls : List (Int × Int)) (p : Int) : Nat → List AV → WS → List AV × Int × Int
  | _, acc, [] => (acc, 0, 0)
  | k, acc, [x] => if x = [] then (acc, 0, 0) else if k = 3000 then ([], (k : Int), 1) else ([], (k : Int), 4)
  | k, acc, x :: y :: r => if k = 3000 then ([], (k : Int), 1) else match lnAct x with
    | none => ([], (k : Int), 4)
    | some a => if actFault s ls p a = 0 then rdL s ls p (k + 1) (acc ++ [a]) (y :: r) else ([], (k : Int), actFault s ls p a)
def rdAll (s : Int) (ls : List (Int × Int)) (p : Int) (t : List UInt8) : List AV × Int × Int :=
  if cfgFault s ls p ≠ 0 then ([], 0, cfgFault s ls p) else rdL s ls p 0 [] (spc 10 t)
/-- One line further. -/
theorem rdL_cut (s : Int) (ls : List (Int × Int)) (p : Int) (k : Nat) (acc : List AV) (t : List UInt8) : rdL s ls p k acc (spc 10 t) =
    if t = [] then (acc, 0, 0) else if k = 3000 then ([], (k : Int), 1) else if (cutC 10 t).2.2 = false then ([], (k : Int), 4) else
    match lnAct (cutC 10 t).1 with
    | none => ([], (k : Int), 4)
    | some a => if actFault s ls p a = 0 then rdL s ls p (k + 1) (acc ++ [a]) (spc 10 (cutC 10 t).2.1) else ([], (k : Int), actFault s ls p a) := by
  rcases spc_first 10 t with h | ⟨a, r, rfl, h⟩
  · rw [cut_none h, spc_none h]
    simp only [rdL, if_true]
  · rw [cut_hit2 a r h, spc_cut a r h, if_neg (by simp)]
    cases e : spc 10 r with
    | nil => exact absurd e (spc_ne 10 r)
    | cons y q => simp only [rdL, Bool.true_eq_false, if_false]
end Go.Proofs.YtlaagfnoepcnlaaDoor.Ln
/- lines' reader over plain data: word, number, actKind, callKind. -/
namespace Go.Proofs.YtlaagfnoepcnlaaDoor.Ln
open Go.ChangeShapes Go.WideShapes Go.ChangeAt Go.RowKit
open Go.Proofs.YtlaagfnoepcnlaaDoor.St (BoxN boxn_new)
set_option linter.unusedVariables false

def rdOk (r : List UInt8) (en wr : Bool) : Option WS → Prop
  | none => wr = true
  | some ws => wr = false ∧ ((en = true ∧ r = [] ∧ ws = []) ∨ (en = false ∧ ws = spc 32 r))
/-- A reader in its box: what words are left (none: something was wrong). -/
def Rd (L q : Nat) (u : World) (st : Option WS) : Prop := ∃ r en wr, BoxN u q 3 (rdC r en wr) ∧ r.length ≤ L ∧ rdOk r en wr st
theorem Rd.lt {L q : Nat} {u : World} {st : Option WS} (h : Rd L q u st) : q < u.heap.size := by
  obtain ⟨r, en, wr, h, -⟩ := h
  exact h.lt
theorem Rd.below {L q : Nat} {u v : World} {st : Option WS} (h : Rd L q u st) (hb : Below u.heap.size u v) : Rd L q v st := by
  have hl := h.lt
  obtain ⟨r, en, wr, h, h2⟩ := h
  exact ⟨r, en, wr, h.below hb hl, h2⟩
theorem rdOk_word {r : List UInt8} {en wr : Bool} {st : Option WS} (h : rdOk r en wr st) : (∀ ws, st = some ws → (cutC 32 r).1 = ws.headD []) ∧ rdOk (cutC 32 r).2.1 (!(cutC 32 r).2.2) wr (st.map List.tail) := by
  obtain ⟨c1, c2, c3⟩ := cut_spc 32 r
  cases st with
  | none => exact ⟨(fun ws e => by cases e), h⟩
  | some ws =>
    obtain ⟨hw, h⟩ := h
    rcases h with ⟨he, hr, hs⟩ | ⟨he, hs⟩
    · subst hr hs
      exact ⟨fun ws e => by cases e; rfl, hw, Or.inl ⟨rfl, rfl, rfl⟩⟩
    · subst hs
      refine ⟨fun ws e => by cases e; exact c1, hw, ?_⟩
      cases e : (cutC 32 r).2.2 with
      | true => exact Or.inr ⟨rfl, (c2 e).1.symm⟩
      | false => exact Or.inl ⟨rfl, (c3 e).2.1, (c3 e).1⟩
theorem rdOk_wrong {r : List UInt8} {en wr : Bool} {st : Option WS} (h : rdOk r en wr st) : rdOk r en true none := rfl
/-- A word. -/
theorem word_rd (L q : Nat) (st : Option WS) (u : World) (h : Rd L q u st) (hL : L ≤ 9223372036854775807) :
    Calls Tryd.prog 75 #[.pointer (some ⟨q, 0, none⟩)] u fun e u' => ∃ x : List UInt8, e = .returned (.string ⟨x.toArray⟩) ∧ x.length ≤ L ∧ (∀ ws, st = some ws → x = ws.headD []) ∧ Rd L q u' (st.map List.tail) ∧ Sav q u u' := by
  obtain ⟨r, en, wr, bx, hl, hr⟩ := h
  refine (word_any q r en wr u bx (by omega)).mono ?_
  rintro e u' ⟨rfl, b2, s2⟩
  have hc := cutC_len (c := 32) (r := r)
  exact ⟨_, rfl, by omega, (rdOk_word hr).1, ⟨_, _, _, b2, by omega, (rdOk_word hr).2⟩, s2⟩
def stNum (ws : WS) : Option WS := match numL (ws.headD []) with
  | none => none
  | some _ => some ws.tail
/-- A number. -/
theorem number_rd (L q : Nat) (st : Option WS) (u : World) (h : Rd L q u st) (hL : L ≤ 140737488355328) (hT : ∀ U, Sav q u U → RdW U) :
    Calls Tryd.prog 89 #[.pointer (some ⟨q, 0, none⟩)] u fun e u' => ∃ n, e = .returned (.int .i64 n) ∧ i64n n ∧ (∀ ws v, st = some ws → numL (ws.headD []) = some v → n = v) ∧ Rd L q u' (st.bind stNum) ∧ Sav q u u' := by
  obtain ⟨r, en, wr, bx, hl, hr⟩ := h
  refine (number_any q r en wr u bx (by omega) hT).mono ?_
  rintro e u' ⟨n, rfl, hi, hn, b2, s2⟩
  have hc := cutC_len (c := 32) (r := r)
  refine ⟨n, rfl, hi, fun ws v e1 e2 => hn v (by rw [(rdOk_word hr).1 ws e1]; exact e2), ⟨_, _, _, b2, by omega, ?_⟩, s2⟩
  obtain ⟨k1, k2⟩ := rdOk_word hr
  cases st with
  | none =>
    have : wr = true := hr
    subst this
    rfl
  | some ws =>
    have hw : wr = false := hr.1
    subst hw
    have e1 := k1 ws rfl
    rw [e1]
    show rdOk _ _ _ (stNum ws)
    unfold stNum
    cases e2 : numL (ws.headD []) with
    | none => rfl
    | some v => exact k2
theorem actKind_at (k : Nat) (hk : k < 9) (U : World) : (Instr.index 88 (.agg #[.string ⟨#[]⟩, .string ⟨#[97, 115, 107]⟩, .string ⟨#[100, 101, 108, 105, 118, 101, 114]⟩, .string ⟨#[100, 114, 111, 112]⟩, .string ⟨#[99, 111, 112, 121]⟩, .string ⟨#[116, 105, 99, 107]⟩, .string ⟨#[99, 114, 97, 115, 104]⟩, .string ⟨#[115, 116, 97, 114, 116]⟩, .string ⟨#[116, 121, 112, 101]⟩]) (.int .i64 (k : Int))).run Tryd.prog U = .ok (.string (aWord k)) U := by
  rcases (by omega : k = 0 ∨ k = 1 ∨ k = 2 ∨ k = 3 ∨ k = 4 ∨ k = 5 ∨ k = 6 ∨ k = 7 ∨ k = 8) with rfl | rfl | rfl | rfl | rfl | rfl | rfl | rfl | rfl <;> kernel_rfl
set_option maxRecDepth 100000 in
set_option maxHeartbeats 4000000 in
theorem actKind_any (x : List UInt8) (w : World) (hA : WTab w 1 9 aWord) :
    Calls Tryd.prog 74 #[.string ⟨x.toArray⟩] w fun e w' => e = .returned (.int .i64 (kindA x : Int)) ∧ w' = w := by
  obtain ⟨z, hc⟩ := hA
  have c0 : w.cell? ⟨1, 0, none⟩ = some (.string ⟨#[]⟩) := hc 0 (by decide)
  have c1 : w.cell? ⟨1, 1, none⟩ = some (.string ⟨#[97, 115, 107]⟩) := hc 1 (by decide)
  have c2 : w.cell? ⟨1, 2, none⟩ = some (.string ⟨#[100, 101, 108, 105, 118, 101, 114]⟩) := hc 2 (by decide)
  have c3 : w.cell? ⟨1, 3, none⟩ = some (.string ⟨#[100, 114, 111, 112]⟩) := hc 3 (by decide)
  have c4 : w.cell? ⟨1, 4, none⟩ = some (.string ⟨#[99, 111, 112, 121]⟩) := hc 4 (by decide)
  have c5 : w.cell? ⟨1, 5, none⟩ = some (.string ⟨#[116, 105, 99, 107]⟩) := hc 5 (by decide)
  have c6 : w.cell? ⟨1, 6, none⟩ = some (.string ⟨#[99, 114, 97, 115, 104]⟩) := hc 6 (by decide)
  have c7 : w.cell? ⟨1, 7, none⟩ = some (.string ⟨#[115, 116, 97, 114, 116]⟩) := hc 7 (by decide)
  have c8 : w.cell? ⟨1, 8, none⟩ = some (.string ⟨#[116, 121, 112, 101]⟩) := hc 8 (by decide)
  clear hc
  have hIx := fun k hk U => actKind_at k hk U
  obtain ⟨AG, eAG⟩ : ∃ v : Value, v = .agg #[.string ⟨#[]⟩, .string ⟨#[97, 115, 107]⟩, .string ⟨#[100, 101, 108, 105, 118, 101, 114]⟩, .string ⟨#[100, 114, 111, 112]⟩, .string ⟨#[99, 111, 112, 121]⟩, .string ⟨#[116, 105, 99, 107]⟩, .string ⟨#[99, 114, 97, 115, 104]⟩, .string ⟨#[115, 116, 97, 114, 116]⟩, .string ⟨#[116, 121, 112, 101]⟩] := ⟨_, rfl⟩
  rw [← eAG] at hIx
  have HIx : Hid (∀ (k : Nat), k < 9 → ∀ (U : World), (Instr.index 88 AG (.int .i64 (k : Int))).run Tryd.prog U = .ok (.string (aWord k)) U) := hIx
  obtain ⟨R, eR⟩ : ∃ R, R = kindA x := ⟨_, rfl⟩
  have HR : Hid (R = kFind aWord x (9 - 0) 0) := eR
  rw [← eR]
  clear eR hIx
  go_enter Tryd.func74, Tryd.ntmps74
  go_upto_region 2 with (fail)
  rw [← eAG]
  clear eAG c0 c1 c2 c3 c4 c5 c6 c7 c8 z
  go_loopw [6] (fun s6 wr => ∃ (k : Nat), k ≤ 9 ∧ s6 = .int .i64 k ∧ Hid (R = kFind aWord x (9 - k) k) ∧ wr = w) (fun s6 _ => 9 - (intOf s6).toNat)
  case atStart => exact ⟨0, by omega, rfl, HR, rfl⟩
  case round =>
    obtain ⟨k, hk, rfl, hT, rfl⟩ := hrel
    clear HR
    by_cases hlt : k < 9
    · have hlt' : (k : Int) < 9 := by omega
      have hi := HIx.out k hlt wr
      have HJ : Hid (k + 1 ≤ 9) := hlt
      have hT2 : Hid (R = if (aWord k).data.toList = x then k else kFind aWord x (9 - (k + 1)) (k + 1)) := by
        show _ = _
        rw [hT.out, show 9 - k = (9 - (k + 1)) + 1 by omega, kFind]
      obtain ⟨W1, eW⟩ : ∃ v, v = aWord k := ⟨_, rfl⟩
      rw [← eW] at hi hT2
      clear eW hT HIx
      have eT : W1.toList = W1.data.toList := Go.ByteArray.toList_eq W1
      by_cases hE : W1.data.toList = x
      · have hE2 : (W1.toList == x) = true := by rw [eT, hE]; simp
        have hR : Hid (R = k) := by show _ = _; rw [hT2.out, if_pos hE]
        clear hT2 eT hE
        go_wp2
        all_goals first | (exact absurd ‹¬ _› (by assumption)) | skip
        go_ret
        exact ⟨by rw [hR.out]; rfl, rfl⟩
      · have hE2 : (W1.toList == x) = false := by rw [eT]; simpa using hE
        have hR : Hid (R = kFind aWord x (9 - (k + 1)) (k + 1)) := by show _ = _; rw [hT2.out, if_neg hE]
        clear hT2 eT hE
        go_wp2
        go_roundw
        case rel => exact ⟨k + 1, HJ.out, by go_num, hR, by first | rfl | trivial⟩
        case measure => have := HJ.out; simp [intOf]; omega
    · obtain rfl : k = 9 := by omega
      have hR : Hid (R = 0) := by show _ = _; rw [hT.out]; rfl
      clear hT HIx
      go_wp2
      go_ret
      exact ⟨by rw [hR.out]; rfl, rfl⟩
theorem callKind_at (k : Nat) (hk : k < 6) (U : World) : (Instr.index 117 (.agg #[.string ⟨#[]⟩, .string ⟨#[98, 101, 103, 105, 110]⟩, .string ⟨#[103, 101, 116]⟩, .string ⟨#[112, 117, 116]⟩, .string ⟨#[99, 111, 109, 109, 105, 116]⟩, .string ⟨#[114, 111, 108, 108, 98, 97, 99, 107]⟩]) (.int .i64 (k : Int))).run Tryd.prog U = .ok (.string (cWord k)) U := by
  rcases (by omega : k = 0 ∨ k = 1 ∨ k = 2 ∨ k = 3 ∨ k = 4 ∨ k = 5) with rfl | rfl | rfl | rfl | rfl | rfl <;> kernel_rfl
set_option maxRecDepth 100000 in
set_option maxHeartbeats 4000000 in
theorem callKind_any (x : List UInt8) (w : World) (hA : WTab w 4 6 cWord) :
    Calls Tryd.prog 90 #[.string ⟨x.toArray⟩] w fun e w' => e = .returned (.int .i64 (kindC x : Int)) ∧ w' = w := by
  obtain ⟨z, hc⟩ := hA
  have c0 : w.cell? ⟨4, 0, none⟩ = some (.string ⟨#[]⟩) := hc 0 (by decide)
  have c1 : w.cell? ⟨4, 1, none⟩ = some (.string ⟨#[98, 101, 103, 105, 110]⟩) := hc 1 (by decide)
  have c2 : w.cell? ⟨4, 2, none⟩ = some (.string ⟨#[103, 101, 116]⟩) := hc 2 (by decide)
  have c3 : w.cell? ⟨4, 3, none⟩ = some (.string ⟨#[112, 117, 116]⟩) := hc 3 (by decide)
  have c4 : w.cell? ⟨4, 4, none⟩ = some (.string ⟨#[99, 111, 109, 109, 105, 116]⟩) := hc 4 (by decide)
  have c5 : w.cell? ⟨4, 5, none⟩ = some (.string ⟨#[114, 111, 108, 108, 98, 97, 99, 107]⟩) := hc 5 (by decide)
  clear hc
  have hIx := fun k hk U => callKind_at k hk U
  obtain ⟨AG, eAG⟩ : ∃ v : Value, v = .agg #[.string ⟨#[]⟩, .string ⟨#[98, 101, 103, 105, 110]⟩, .string ⟨#[103, 101, 116]⟩, .string ⟨#[112, 117, 116]⟩, .string ⟨#[99, 111, 109, 109, 105, 116]⟩, .string ⟨#[114, 111, 108, 108, 98, 97, 99, 107]⟩] := ⟨_, rfl⟩
  rw [← eAG] at hIx
  have HIx : Hid (∀ (k : Nat), k < 6 → ∀ (U : World), (Instr.index 117 AG (.int .i64 (k : Int))).run Tryd.prog U = .ok (.string (cWord k)) U) := hIx
  obtain ⟨R, eR⟩ : ∃ R, R = kindC x := ⟨_, rfl⟩
  have HR : Hid (R = kFind cWord x (6 - 0) 0) := eR
  rw [← eR]
  clear eR hIx
  go_enter Tryd.func90, Tryd.ntmps90
  go_upto_region 2 with (fail)
  rw [← eAG]
  clear eAG c0 c1 c2 c3 c4 c5 z
  go_loopw [6] (fun s6 wr => ∃ (k : Nat), k ≤ 6 ∧ s6 = .int .i64 k ∧ Hid (R = kFind cWord x (6 - k) k) ∧ wr = w) (fun s6 _ => 6 - (intOf s6).toNat)
  case atStart => exact ⟨0, by omega, rfl, HR, rfl⟩
  case round =>
    obtain ⟨k, hk, rfl, hT, rfl⟩ := hrel
    clear HR
    by_cases hlt : k < 6
    · have hlt' : (k : Int) < 6 := by omega
      have hi := HIx.out k hlt wr
      have HJ : Hid (k + 1 ≤ 6) := hlt
      have hT2 : Hid (R = if (cWord k).data.toList = x then k else kFind cWord x (6 - (k + 1)) (k + 1)) := by
        show _ = _
        rw [hT.out, show 6 - k = (6 - (k + 1)) + 1 by omega, kFind]
      obtain ⟨W1, eW⟩ : ∃ v, v = cWord k := ⟨_, rfl⟩
      rw [← eW] at hi hT2
      clear eW hT HIx
      have eT : W1.toList = W1.data.toList := Go.ByteArray.toList_eq W1
      by_cases hE : W1.data.toList = x
      · have hE2 : (W1.toList == x) = true := by rw [eT, hE]; simp
        have hR : Hid (R = k) := by show _ = _; rw [hT2.out, if_pos hE]
        clear hT2 eT hE
        go_wp2
        all_goals first | (exact absurd ‹¬ _› (by assumption)) | skip
        go_ret
        exact ⟨by rw [hR.out]; rfl, rfl⟩
      · have hE2 : (W1.toList == x) = false := by rw [eT]; simpa using hE
        have hR : Hid (R = kFind cWord x (6 - (k + 1)) (k + 1)) := by show _ = _; rw [hT2.out, if_neg hE]
        clear hT2 eT hE
        go_wp2
        go_roundw
        case rel => exact ⟨k + 1, HJ.out, by go_num, hR, by first | rfl | trivial⟩
        case measure => have := HJ.out; simp [intOf]; omega
    · obtain rfl : k = 6 := by omega
      have hR : Hid (R = 0) := by show _ = _; rw [hT.out]; rfl
      clear hT HIx
      go_wp2
      go_ret
      exact ⟨by rw [hR.out]; rfl, rfl⟩
end Go.Proofs.YtlaagfnoepcnlaaDoor.Ln
/- lines' reader: numbers and kept. -/
namespace Go.Proofs.YtlaagfnoepcnlaaDoor.Ln
open Go.ChangeShapes Go.WideShapes Go.ChangeAt Go.RowKit
open Go.Proofs.YtlaagfnoepcnlaaDoor.St (BoxN boxn_new own_below IsRow Elem flat own_isRow)
set_option linter.unusedVariables false

/-- All that lay there lies there still, but for two blocks. -/
structure Sav2 (q p : Nat) (w w' : World) : Prop where
  os : w'.os = w.os
  tape : w'.tape = w.tape
  output : w'.output = w.output
  size : w.heap.size ≤ w'.heap.size
  block : ∀ k, k < w.heap.size → k ≠ q → k ≠ p → w'.heap[k]? = w.heap[k]?
theorem Sav2.of {q p : Nat} {u v : World} (h : Sav q u v) : Sav2 q p u v := ⟨h.os, h.tape, h.output, h.size, fun j hj h1 _ => h.block j hj h1⟩
theorem Sav2.trans {q p : Nat} {u v z : World} (h : Sav2 q p u v) (k : Sav2 q p v z) : Sav2 q p u z :=
  ⟨k.os.trans h.os, k.tape.trans h.tape, k.output.trans h.output, Nat.le_trans h.size k.size, fun j hj hq hp => (k.block j (Nat.lt_of_lt_of_le hj h.size) hq hp).trans (h.block j hj hq hp)⟩
theorem Sav2.set {q p k : Nat} {u v : World} {x : Value} (h : Sav2 q p u v) : Sav2 q p u (v.setCell ⟨p, k, none⟩ x) := by
  have b := (Below.refl p v).setCell (p := ⟨p, k, none⟩) (Nat.le_refl p) x
  exact ⟨b.os.trans h.os, b.tape.trans h.tape, b.output.trans h.output, Nat.le_trans h.size b.size, fun j hj hq hp => (Below.heap_setCell v _ _ j (fun e => hp e)).trans (h.block j hj hq hp)⟩
/-- What was there before stays, where the second block is new. -/
theorem Sav2.sav {q p : Nat} {u v z : World} (h : Sav q u v) (k : Sav2 q p v z) (hp : u.heap.size ≤ p) : Sav q u z :=
  ⟨k.os.trans h.os, k.tape.trans h.tape, k.output.trans h.output, Nat.le_trans h.size k.size, fun j hj hq => (k.block j (Nat.lt_of_lt_of_le hj h.size) hq (by omega)).trans (h.block j hj hq)⟩
theorem Sav2.cell {q p : Nat} {u v : World} (h : Sav2 q p u v) {a : Addr} (ha : a.block < u.heap.size) (hq : a.block ≠ q) (hp : a.block ≠ p) : v.cell? a = u.cell? a := World.cell?_of_block (h.block a.block ha hq hp)
theorem Rd.far {L q p k : Nat} {u : World} {st : Option WS} {x : Value} (h : Rd L q u st) (hp : q ≠ p) : Rd L q (u.setCell ⟨p, k, none⟩ x) st := by
  obtain ⟨r, en, wr, h, h2⟩ := h
  exact ⟨r, en, wr, h.far hp, h2⟩
/-- What numbers' loop has read. -/
def NumsRel (hs : List Bool) (st st' : Option WS) (k : Nat) (pre : List Int) : Prop := match st with
  | none => st' = none
  | some ws0 => stNums hs ws0 = match st' with
    | none => none
    | some ws => (stNums (hs.drop k) ws).map fun p => (pre ++ p.1, p.2)
theorem NumsRel.start (hs : List Bool) (st : Option WS) : NumsRel hs st st 0 [] := by
  cases st with
  | none => rfl
  | some ws =>
    show stNums hs ws = (stNums hs ws).map _
    cases stNums hs ws <;> rfl
theorem NumsRel.num {hs : List Bool} {st st' : Option WS} {k : Nat} {pre : List Int} {n : Int} (h : NumsRel hs st st' k pre) (hk : k < hs.length) (hb : hs.getD k false = true) (hn : ∀ ws v, st' = some ws → numL (ws.headD []) = some v → n = v) : NumsRel hs st (st'.bind stNum) (k + 1) (pre ++ [n]) := by
  have hd : hs.drop k = true :: hs.drop (k + 1) := by
    rw [List.drop_eq_getElem_cons hk]
    have : hs[k] = true := by simpa [List.getD, hk] using hb
    rw [this]
  cases st with
  | none =>
    have : st' = none := h
    subst this
    rfl
  | some ws0 =>
    cases st' with
    | none => exact h
    | some ws =>
      have h1 : stNums hs ws0 = (stNums (hs.drop k) ws).map fun p => (pre ++ p.1, p.2) := h
      rw [hd, stNums, if_pos rfl] at h1
      show stNums hs ws0 = match stNum ws with | none => none | some ws => (stNums (hs.drop (k + 1)) ws).map fun p => ((pre ++ [n]) ++ p.1, p.2)
      rw [h1]
      unfold stNum
      cases e : numL (ws.headD []) with
      | none => rfl
      | some v =>
        have := hn ws v rfl e
        subst this
        show Option.map _ (Option.map _ _) = Option.map _ _
        cases stNums (hs.drop (k + 1)) ws.tail with
        | none => rfl
        | some p => simp
theorem NumsRel.skip {hs : List Bool} {st st' : Option WS} {k : Nat} {pre : List Int} (h : NumsRel hs st st' k pre) (hk : k < hs.length) (hb : hs.getD k false = false) : NumsRel hs st st' (k + 1) (pre ++ [0]) := by
  have hd : hs.drop k = false :: hs.drop (k + 1) := by
    rw [List.drop_eq_getElem_cons hk]
    have : hs[k] = false := by simpa [List.getD, hk] using hb
    rw [this]
  cases st with
  | none => exact h
  | some ws0 =>
    cases st' with
    | none => exact h
    | some ws =>
      have h1 : stNums hs ws0 = (stNums (hs.drop k) ws).map fun p => (pre ++ p.1, p.2) := h
      rw [hd, stNums, if_neg (by simp)] at h1
      show stNums hs ws0 = (stNums (hs.drop (k + 1)) ws).map fun p => ((pre ++ [0]) ++ p.1, p.2)
      rw [h1]
      cases stNums (hs.drop (k + 1)) ws with
      | none => rfl
      | some p => simp
theorem NumsRel.fin {hs : List Bool} {st st' : Option WS} {k : Nat} {pre : List Int} (h : NumsRel hs st st' k pre) (hk : hs.length ≤ k) : st' = (st.bind fun ws => (stNums hs ws).map (·.2)) ∧ ∀ ws p, st = some ws → stNums hs ws = some p → pre = p.1 := by
  cases st with
  | none => exact ⟨h, (fun ws p e => by cases e)⟩
  | some ws0 =>
    cases st' with
    | none =>
      have h1 : stNums hs ws0 = none := h
      refine ⟨by show _ = (stNums hs ws0).map _; rw [h1]; rfl, fun ws p e e2 => ?_⟩
      cases e
      rw [h1] at e2
      cases e2
    | some ws =>
      have h1 : stNums hs ws0 = (stNums (hs.drop k) ws).map fun p => (pre ++ p.1, p.2) := h
      rw [List.drop_of_length_le hk] at h1
      have h2 : stNums hs ws0 = some (pre, ws) := by rw [h1]; simp [stNums]
      refine ⟨by show _ = (stNums hs ws0).map _; rw [h2]; rfl, fun ws p e e2 => ?_⟩
      cases e
      rw [h2] at e2
      cases e2
      rfl
def intV (n : Int) : Value := .int .i64 n
theorem set_mid {α : Type} (a : List α) (x y : α) (b : List α) : (a ++ x :: b).set a.length y = a ++ y :: b := by
  induction a with
  | nil => rfl
  | cons z r ih => simp [ih]
theorem set_num (pre : List Int) (n : Int) (k : Nat) (hp : pre.length = k) (hk : k < 4) : ((pre ++ List.replicate (4 - k) 0).map intV).set k (intV n) = ((pre ++ [n]) ++ List.replicate (4 - (k + 1)) 0).map intV := by
  subst hp
  rw [show 4 - pre.length = (4 - (pre.length + 1)) + 1 by omega, List.replicate_succ, List.map_append, List.map_cons]
  have := set_mid (pre.map intV) (intV 0) (intV n) ((List.replicate (4 - (pre.length + 1)) 0).map intV)
  rw [List.length_map] at this
  rw [this]
  simp
theorem skip_num (pre : List Int) (k : Nat) (hp : pre.length = k) (hk : k < 4) : (pre ++ List.replicate (4 - k) 0).map intV = ((pre ++ [0]) ++ List.replicate (4 - (k + 1)) 0).map intV := by
  rw [show 4 - k = (4 - (k + 1)) + 1 by omega, List.replicate_succ]
  simp
theorem BoxN.num {u : World} {b : Nat} {vs : List Value} (h : BoxN u b 4 vs) (k : Nat) (hk : k < 4) : ∃ v, u.cell? ⟨b, k, none⟩ = some v ∧ u.frozen? ⟨b, k, none⟩ = false := ⟨_, (h.c k hk).1, (h.c k hk).2⟩
/-- Numbers of a reader, in their places. -/
def NumsTo (L q bp : Nat) (hs : List Bool) (st : Option WS) (u u' : World) (ps : List Int) : Prop :=
  BoxN u' bp 4 (ps.map intV) ∧ ps.length = 4 ∧ Rd L q u' (st.bind fun ws => (stNums hs ws).map (·.2)) ∧ (∀ ws p, st = some ws → stNums hs ws = some p → ps = p.1) ∧ Sav2 q bp u u'
set_option maxRecDepth 100000 in
set_option maxHeartbeats 4000000 in
theorem numbers_rd (L q bh bp hc pc : Nat) (hs : List Bool) (st : Option WS) (u : World) (h : Rd L q u st) (hL : L ≤ 140737488355328) (h4 : hs.length = 4)
    (bx : BoxN u bp 4 ([0, 0, 0, 0].map intV)) (zh : bh < u.heap.size) (hqh : bh ≠ q) (hph : bh ≠ bp) (hqp : q ≠ bp)
    (ch : ∀ i, i < 4 → u.cell? ⟨bh, i, none⟩ = some (.bool (hs.getD i false))) (hT : ∀ U, Sav2 q bp u U → RdW U) :
    Calls Tryd.prog 76 #[.pointer (some ⟨q, 0, none⟩), .slice (some ⟨bh, 0, none⟩) 4 hc, .slice (some ⟨bp, 0, none⟩) 4 pc] u fun e u' => e = .returned (.tuple #[]) ∧ ∃ ps, NumsTo L q bp hs st u u' ps := by
  have HC : Hid (∀ U, Sav2 q bp u U → ∀ i, i < 4 → U.cell? ⟨bh, i, none⟩ = some (.bool (hs.getD i false))) := fun U hU i hi => (hU.cell (a := ⟨bh, i, none⟩) zh hqh hph).trans (ch i hi)
  have HT : Hid (∀ U, Sav2 q bp u U → RdW U) := hT
  have s0 : Sav2 q bp u u := Sav2.of (Sav.refl q u)
  have HN : Hid (NumsRel hs st st 0 []) := NumsRel.start hs st
  have HB : Hid (BoxN u bp 4 (([] ++ List.replicate (4 - 0) 0 : List Int).map intV)) := bx
  have HR : Hid (Rd L q u st) := h
  clear ch hT bx zh hqh hph h
  go_enter Tryd.func76, Tryd.ntmps76
  go_wp2
  go_loopw [9] (fun s9 wr => ∃ (k : Nat) (st' : Option WS) (pre : List Int), k ≤ 4 ∧ s9 = .int .i64 k ∧ Hid (pre.length = k) ∧ Hid (NumsRel hs st st' k pre) ∧ Hid (Rd L q wr st') ∧ Hid (BoxN wr bp 4 ((pre ++ List.replicate (4 - k) 0).map intV)) ∧ Hid (Sav2 q bp u wr)) (fun s9 _ => 4 - (intOf s9).toNat)
  case atStart => exact ⟨0, st, [], by omega, rfl, rfl, HN, HR, HB, s0⟩
  case round =>
    clear HN HR HB s0
    obtain ⟨k, st', pre, hk, rfl, hp, HN, HR, HB, hS⟩ := hrel
    obtain ⟨wo, ewo⟩ : ∃ X : World, X = wr := ⟨_, rfl⟩
    subst ewo
    by_cases hlt : k < 4
    · have hlt' : (k : Int) < 4 := by omega
      have HJ : Hid (k + 1 ≤ 4) := hlt
      have c1 := HC.out wo hS.out k hlt
      cases hb : hs.getD k false with
      | false =>
        rw [hb] at c1
        have HN2 : Hid (NumsRel hs st st' (k + 1) (pre ++ [0])) := HN.out.skip (by omega) hb
        have HB2 : Hid (BoxN wo bp 4 (((pre ++ [0]) ++ List.replicate (4 - (k + 1)) 0).map intV)) := by show BoxN _ _ _ _; rw [← skip_num pre k hp.out hlt]; exact HB.out
        clear HN HB hb
        go_wp2
        go_roundw
        case rel => exact ⟨k + 1, st', pre ++ [0], HJ.out, by go_num, by show _ = _; rw [List.length_append, hp.out]; rfl, HN2, HR, HB2, hS⟩
        case measure => have := HJ.out; simp [intOf]; omega
      | true =>
        rw [hb] at c1
        have hnum := number_rd L q st' wo HR.out hL (fun U hU => HT.out U (hS.out.trans (Sav2.of hU)))
        have HN2 : Hid (∀ n, (∀ ws v, st' = some ws → numL (ws.headD []) = some v → n = v) → NumsRel hs st (st'.bind stNum) (k + 1) (pre ++ [n])) := fun n hn => HN.out.num (by omega) hb hn
        have HX : Hid (∀ U, Sav q wo U → BoxN U bp 4 ((pre ++ List.replicate (4 - k) 0).map intV)) := fun U hU => hU.box HB.out (fun e => hqp e.symm)
        clear HN HB hb
        go_upto_region 4 with (fail)
        go_wp2_with (go_at_call 89; refine hnum.mono ?_; rintro e u1 ⟨n, rfl, hi, hn, r1, s1⟩; have HB1 : Hid (BoxN u1 bp 4 ((pre ++ List.replicate (4 - k) 0).map intV)) := HX.out u1 s1; obtain ⟨v5, c5, f5⟩ := BoxN.num HB1.out k hlt; have z5 := HB1.out.lt; have HS5 : Hid (Sav q wo u1) := s1; have HR5 : Hid (Rd L q u1 (st'.bind stNum)) := r1; have HN5 : Hid (∀ ws v, st' = some ws → numL (ws.headD []) = some v → n = v) := hn; clear s1 r1 hn)
        go_roundw
        case rel => exact ⟨k + 1, st'.bind stNum, pre ++ [n], HJ.out, by go_num, by show _ = _; rw [List.length_append, hp.out]; rfl, HN2.out n HN5.out, HR5.out.far hqp, (by show BoxN _ _ _ _; rw [← set_num pre n k hp.out hlt]; exact HB1.out.set k hlt (intV n)), (hS.out.trans (Sav2.of HS5.out)).set⟩
        case measure => have := HJ.out; simp [intOf]; omega
    · obtain rfl : k = 4 := by omega
      have hnl : ¬ ((4 : Int) < (4 : Int)) := by omega
      obtain ⟨e1, e2⟩ := HN.out.fin (by omega)
      have HF : Hid (NumsTo L q bp hs st u wo pre) := ⟨by simpa using HB.out, hp.out, e1 ▸ HR.out, e2, hS.out⟩
      clear HN HR HB e1 e2 hp
      go_wp2
      exact bodyPost_end (v := .tuple #[]) (by simp [results, Tryd.results76, go_sem]) rfl ⟨rfl, pre, HF.out⟩
end Go.Proofs.YtlaagfnoepcnlaaDoor.Ln
