/- Texts of this claim, one behind the other. -/
import Derived.Test.YtgohpgollpjlnaaDoorA13ShowHidden
import Derived.Lib.SplitLaws
import Derived.Lib.AtoiAll
import Derived.Lib.ItoaMem
import Derived.Test.YtgohpgollpjlnaaDoorShelf
import Derived.Test.YtgohpgollpjlnaaDoorA1ShowHidden
import Derived.Test.YtgohpgollpjlnaaDoorM20ShowHidden
import Derived.Test.YtgohpgollpjlnaaDoorM3ShowHidden
import Derived.LoopTactic
import Derived.Deep.Cut
import Derived.Deep.DeepCutAuto
import Derived.Deep.CutBlock
import Derived.Lib.AtoiErrMem
import Derived.Deep.RegionHeld3
import Derived.OwnWalk
/- The contract of store.Writes. -/
namespace Go.Proofs.YtgohpgollpjlnaaDoor.St
open Go.ChangeShapes Go.WideShapes Go.ChangeAt Go.RowKit
set_option linter.unusedVariables false

set_option maxHeartbeats 2000000 in
theorem writes_count (s : SV) (t : Int × Int) (w : World) (h : IsStore w s) (hwf : ∀ t ∈ s.over, TxWf t) :
    Calls Tryd.prog 18 #[s.val, .agg #[.int .i64 t.1, .int .i64 t.2]] w fun e w' => e = .returned (.tuple #[.int .i64 (cntIs s t), .int .i64 (cntErr s t)]) ∧ Below w.heap.size w w' := by
  have hC := fun w' h1 => refuseTxn_any s t w' h1 hwf
  have hWo := fun w' h1 h2 => writesOf_any s t w' h1 h2
  have hl24 : cntErr s t = 0 → s.ll ≤ 24 := fun e => by
    rw [← h.locks.1]
    apply ok_24
    cases hs : storeOK s with
    | true => rfl
    | false => simp [cntErr, hs] at e
  obtain ⟨E, e6⟩ : ∃ R : Int, R = cntErr s t := ⟨_, rfl⟩
  have e6' : E = if storeOK s then (if txOK t then 0 else 2) else 9 := e6
  obtain ⟨R, e7⟩ : ∃ R, R = cntIs s t := ⟨_, rfl⟩
  have eR : Hid (R = if E = 0 then ((s.locks.filter (wOf t)).length : Int) else 0) := by rw [e6]; exact e7
  rw [← e6, ← e7]
  rw [← e6] at hl24
  rw [← e6'] at hC
  clear e6 e7 e6'
  obtain ⟨F, eF⟩ : ∃ F, F = s.locks.filter (wOf t) := ⟨_, rfl⟩
  rw [← eF] at hWo eR
  clear eF
  have hh := h
  obtain ⟨ia, il, ic, la, ll, lc, da, dl, dc, oa, ol, oc, items, locks, doubts, over⟩ := s
  obtain ⟨ts, tn⟩ := t
  simp only [SV.val] at *
  obtain ⟨W, hW⟩ : ∃ W : World, W = (w.alloc (.cells #[.slice ia il ic, .slice la ll lc, .slice da dl dc, .slice oa ol oc] 55)).alloc (.cells #[.int .i64 ts, .int .i64 tn] 23) := ⟨_, rfl⟩
  have hB : Below w.heap.size w W := by rw [hW]; exact ((Below.refl _ _).alloc (Nat.le_refl _) _).alloc (by simp) _
  have zW : W.heap.size = w.heap.size + 2 := by rw [hW]; simp
  have z0 : w.heap.size < W.heap.size := by omega
  have z1 : w.heap.size + 1 < W.heap.size := by omega
  clear zW
  have c0 : W.cell? ⟨w.heap.size, 0, none⟩ = some (.slice ia il ic) := by rw [hW]; go_simp
  have c1 : W.cell? ⟨w.heap.size, 1, none⟩ = some (.slice la ll lc) := by rw [hW]; go_simp
  have c2 : W.cell? ⟨w.heap.size, 2, none⟩ = some (.slice da dl dc) := by rw [hW]; go_simp
  have c3 : W.cell? ⟨w.heap.size, 3, none⟩ = some (.slice oa ol oc) := by rw [hW]; go_simp
  have c4 : W.cell? ⟨w.heap.size + 1, 0, none⟩ = some (.int .i64 ts) := by rw [hW]; go_simp
  have c5 : W.cell? ⟨w.heap.size + 1, 1, none⟩ = some (.int .i64 tn) := by rw [hW]; go_simp
  have KA : Hid (∀ U : World, Below W.heap.size W U → U.cell? ⟨w.heap.size, 0, none⟩ = some (.slice ia il ic) ∧ U.cell? ⟨w.heap.size, 1, none⟩ = some (.slice la ll lc) ∧ U.cell? ⟨w.heap.size, 2, none⟩ = some (.slice da dl dc) ∧ U.cell? ⟨w.heap.size, 3, none⟩ = some (.slice oa ol oc) ∧ U.cell? ⟨w.heap.size + 1, 0, none⟩ = some (.int .i64 ts) ∧ U.cell? ⟨w.heap.size + 1, 1, none⟩ = some (.int .i64 tn)) := fun U hU =>
    ⟨(hU.cell (p := ⟨w.heap.size, 0, none⟩) z0).trans c0, (hU.cell (p := ⟨w.heap.size, 1, none⟩) z0).trans c1, (hU.cell (p := ⟨w.heap.size, 2, none⟩) z0).trans c2, (hU.cell (p := ⟨w.heap.size, 3, none⟩) z0).trans c3, (hU.cell (p := ⟨w.heap.size + 1, 0, none⟩) z1).trans c4, (hU.cell (p := ⟨w.heap.size + 1, 1, none⟩) z1).trans c5⟩
  have hSW := hh.below hB
  go_enter Tryd.func18, Tryd.ntmps18
  go_upto_region 1 with (fail)
  rw [← hW]
  clear hW
  by_cases hE : E = 0
  · subst hE
    have hl := hl24 rfl
    go_wp2_with (first
      | (go_at_call 37; refine (hC _ hSW).mono ?_; rintro e w1 ⟨rfl, hb1⟩; clear c0 c1 c2 c3 c4 c5; obtain ⟨c0, c1, c2, c3, c4, c5⟩ := KA.out _ hb1; have hL1 := (hSW.below hb1).locks)
      | (go_at_call 38; refine (hWo _ hL1 hl).mono ?_; rintro e w2 ⟨ao, cp, rfl, _, _, hb2⟩))
    go_ret2
    exact ⟨by rw [eR.out]; rfl, hB.trans ((hb1.trans (hb2.mono hb1.size)).mono hB.size)⟩
  · go_wp2_with (go_at_call 37; refine (hC _ hSW).mono ?_; rintro e w1 ⟨rfl, hb1⟩)
    go_ret2
    exact ⟨by rw [eR.out, if_neg hE]; rfl, hB.trans (hb1.mono hB.size)⟩
end Go.Proofs.YtgohpgollpjlnaaDoor.St
/- What an operator types, on plain data: words parted by blanks, numbers as they are written. -/
namespace Go.Proofs.YtgohpgollpjlnaaDoor.Cn
open Go
set_option linter.unusedVariables false

/-- Words, parted by single blanks. -/
def spl : List UInt8 → List (List UInt8)
  | [] => [[]]
  | c :: r => if c = 32 then [] :: spl r else match spl r with
    | [] => [[c]]
    | x :: xs => (c :: x) :: xs
theorem spl_ne (l : List UInt8) : spl l ≠ [] := by
  cases l with
  | nil => simp [spl]
  | cons c r =>
    rw [spl]
    split
    · simp
    · split <;> simp
theorem spl_none {l : List UInt8} (h : ∀ c ∈ l, c ≠ 32) : spl l = [l] := by
  induction l with
  | nil => rfl
  | cons c r ih =>
    rw [spl, if_neg (h c (by simp)), ih (fun x hx => h x (by simp [hx]))]
theorem spl_blank (a r : List UInt8) (h : ∀ c ∈ a, c ≠ 32) : spl (a ++ 32 :: r) = a :: spl r := by
  induction a with
  | nil => simp [spl]
  | cons c t ih =>
    rw [List.cons_append, spl, if_neg (h c (by simp)), ih (fun x hx => h x (by simp [hx]))]
theorem index_none {l : List UInt8} (h : ∀ c ∈ l, c ≠ 32) : Lib.index l [32] = -1 := by
  induction l with
  | nil => rfl
  | cons c r ih =>
    have hp : ([32] : List UInt8).isPrefixOf (c :: r) = false := by simp [List.isPrefixOf, Ne.symm (h c (by simp))]
    rw [Lib.index, hp, ih (fun x hx => h x (by simp [hx]))]
    rfl
theorem index_blank (a r : List UInt8) (h : ∀ c ∈ a, c ≠ 32) : Lib.index (a ++ 32 :: r) [32] = (a.length : Int) := by
  induction a with
  | nil =>
    rw [List.nil_append, Lib.index]
    simp [List.isPrefixOf]
  | cons c t ih =>
    have hp : ([32] : List UInt8).isPrefixOf (c :: (t ++ 32 :: r)) = false := by simp [List.isPrefixOf, Ne.symm (h c (by simp))]
    rw [List.cons_append, Lib.index, hp, ih (fun x hx => h x (by simp [hx]))]
    have : ¬ ((t.length : Int) == -1) = true := fun e => by have := beq_iff_eq.1 e; omega
    simp only [Bool.false_eq_true, if_false, if_neg this, List.length_cons]
    omega
theorem first_blank (l : List UInt8) : (∀ c ∈ l, c ≠ 32) ∨ ∃ a r, l = a ++ 32 :: r ∧ ∀ c ∈ a, c ≠ 32 := by
  induction l with
  | nil => exact Or.inl (by simp)
  | cons c t ih =>
    by_cases hc : c = 32
    · exact Or.inr ⟨[], t, by simp [hc], by simp⟩
    · rcases ih with h | ⟨a, r, rfl, h⟩
      · exact Or.inl fun x hx => by rcases List.mem_cons.1 hx with rfl | hx; exact hc; exact h x hx
      · exact Or.inr ⟨c :: a, r, by simp, fun x hx => by rcases List.mem_cons.1 hx with rfl | hx; exact hc; exact h x hx⟩
theorem split_spl : ∀ (n : Nat) (l : List UInt8), l.length ≤ n → Lib.splitK [32] 0 (Lib.count l [32]) l = spl l := by
  intro n
  induction n with
  | zero =>
    intro l hl
    cases l with
    | nil => rfl
    | cons c r => simp at hl
  | succ n ih =>
    intro l hl
    rcases first_blank l with h | ⟨a, r, rfl, h⟩
    · rw [Lib.count_miss (index_none h), spl_none h]
      rfl
    · have hi := index_blank a r h
      have hd : (a ++ 32 :: r).drop (a.length + ([32] : List UInt8).length) = r := by simp
      rw [Lib.count_hit (by simp) hi, hd, Nat.add_comm, Lib.splitK, hi]
      have hm : ¬ ((a.length : Int) == -1) = true := fun e => by have := beq_iff_eq.1 e; omega
      rw [if_neg hm, spl_blank a r h]
      simp only [Int.toNat_natCast, Nat.add_zero]
      rw [hd, ih r (by simp at hl; omega)]
      simp
/-- A number, as it is written, from 0 to most. -/
def numOf (l : List UInt8) (most : Int) : Option Int := match Lib.atoiAll l with
  | .ok v => if Lib.itoa v = l ∧ 0 ≤ v ∧ v ≤ most then some v else none
  | _ => none
structure Cmd where
  kind : Int
  label : Int
  site : Int
  num : Int
  yes : Bool
  deriving DecidableEq
def Cmd.nil : Cmd := ⟨0, 0, 0, 0, false⟩
def Cmd.val (c : Cmd) : Value := .agg #[.int .i64 c.kind, .int .i64 c.label, .int .i64 c.site, .int .i64 c.num, .bool c.yes]
def aboutOf (kind : Int) (yes : Bool) : List (List UInt8) → Option Cmd
  | [a, b, c] => match numOf a 5, numOf b 3, numOf c 1048576 with
    | some x, some y, some z => some ⟨kind, x, y, z, yes⟩
    | _, _, _ => none
  | _ => none
def wList : List UInt8 := [108, 105, 115, 116]
def wAudit : List UInt8 := [97, 117, 100, 105, 116]
def wStatus : List UInt8 := [115, 116, 97, 116, 117, 115]
def wForce : List UInt8 := [102, 111, 114, 99, 101]
def wCommit : List UInt8 := [99, 111, 109, 109, 105, 116]
def wAbort : List UInt8 := [97, 98, 111, 114, 116]
def forceOf : List (List UInt8) → Option Cmd
  | [a, b, c, d] => if d = wCommit then aboutOf 3 true [a, b, c] else if d = wAbort then aboutOf 3 false [a, b, c] else none
  | _ => none
def wordsOf : List (List UInt8) → Option Cmd
  | [] => none
  | name :: ws => if name = wList then (if ws = [] then some ⟨1, 0, 0, 0, false⟩ else none)
    else if name = wAudit then (if ws = [] then some ⟨4, 0, 0, 0, false⟩ else none)
    else if name = wStatus then aboutOf 2 false ws
    else if name = wForce then forceOf ws
    else none
/-- What a line means, and why it is refused. -/
def lineErr (l : List UInt8) : Int := if 60 < l.length then 1 else if (wordsOf (spl l)).isSome then 0 else 4
def lineCmd (l : List UInt8) : Cmd := if 60 < l.length then Cmd.nil else (wordsOf (spl l)).getD Cmd.nil
/-- A number's digits are read as that number. -/
theorem digit_ok (d : Nat) (h : d < 10) : 48 ≤ (UInt8.ofNat (48 + d)).toNat ∧ (UInt8.ofNat (48 + d)).toNat ≤ 57 ∧ (UInt8.ofNat (48 + d)).toNat - 48 = d := by
  have : (UInt8.ofNat (48 + d)).toNat = 48 + d := by simp; omega
  rw [this]
  omega
theorem parse_snoc (l : List UInt8) (c : UInt8) : ∀ (acc u : Nat), Lib.parseUint10 acc l = .ok u → Lib.parseUint10 acc (l ++ [c]) = Lib.parseUint10 u [c] := by
  induction l with
  | nil => intro acc u h; simp only [Lib.parseUint10] at h; injection h with h; subst h; rfl
  | cons x r ih =>
    intro acc u h
    rw [List.cons_append]
    simp only [Lib.parseUint10] at h ⊢
    split at h
    · split at h
      · cases h
      · split at h
        · cases h
        · rename_i h1 h2 h3
          rw [if_pos h1, if_neg h2, if_neg h3]
          have := ih _ _ h
          rw [this]
          simp only [Lib.parseUint10]
    · cases h
theorem parse_dec : ∀ (n u : Nat), u ≤ n → u < 18446744073709551616 → Lib.parseUint10 0 (Lib.decDigits u) = .ok u := by
  intro n
  induction n with
  | zero =>
    intro u hu _
    obtain rfl : u = 0 := by omega
    rw [Lib.decDigits, dif_pos (by omega)]
    rfl
  | succ n ih =>
    intro u hu h64
    by_cases h : u < 10
    · obtain ⟨a1, a2, a3⟩ := digit_ok u h
      rw [Lib.decDigits, dif_pos h]
      simp only [Lib.parseUint10]
      rw [if_pos ⟨a1, a2⟩, if_neg (by omega), if_neg (by omega)]
      simp only [a3]
      congr 1
      omega
    · obtain ⟨a1, a2, a3⟩ := digit_ok (u % 10) (by omega)
      rw [Lib.decDigits, dif_neg h, parse_snoc _ _ 0 (u / 10) (ih (u / 10) (by omega) (by omega))]
      simp only [Lib.parseUint10]
      rw [if_pos ⟨a1, a2⟩, if_neg (by omega), if_neg (by omega)]
      simp only [a3]
      congr 1
      omega
theorem dec_digit : ∀ (n u : Nat), u ≤ n → ∀ c ∈ Lib.decDigits u, 48 ≤ c.toNat ∧ c.toNat ≤ 57 := by
  intro n
  induction n with
  | zero =>
    intro u hu c hc
    obtain rfl : u = 0 := by omega
    rw [Lib.decDigits, dif_pos (by omega)] at hc
    simp at hc
    subst hc
    decide
  | succ n ih =>
    intro u hu c hc
    by_cases h : u < 10
    · rw [Lib.decDigits, dif_pos h] at hc
      simp only [List.mem_cons, List.not_mem_nil, or_false] at hc
      subst hc
      exact ⟨(digit_ok u h).1, (digit_ok u h).2.1⟩
    · rw [Lib.decDigits, dif_neg h] at hc
      rcases List.mem_append.1 hc with hc | hc
      · exact ih (u / 10) (by omega) c hc
      · simp only [List.mem_cons, List.not_mem_nil, or_false] at hc
        subst hc
        exact ⟨(digit_ok (u % 10) (by omega)).1, (digit_ok (u % 10) (by omega)).2.1⟩
theorem dec_ne (u : Nat) : Lib.decDigits u ≠ [] := fun h => by
  have := Lib.decDigits_length u
  rw [h] at this
  have := Lib.nDigits_pos u
  simp at *
  omega
theorem atoi_dec {u : Nat} (h : u < 9223372036854775808) : Lib.atoiAll (Lib.decDigits u) = .ok (u : Int) := by
  have hd := dec_digit u u (Nat.le_refl _)
  have hp := parse_dec u u (Nat.le_refl _) (by omega)
  have hne := dec_ne u
  revert hd hp hne
  generalize Lib.decDigits u = l
  intro hd hp hne
  cases l with
  | nil => exact absurd rfl hne
  | cons c r =>
    have hc := hd c (by simp)
    unfold Lib.atoiAll
    simp only
    rw [if_neg (by omega)]
    unfold Lib.parseMag
    rw [if_neg (by simp), hp]
    simp only
    rw [if_neg (by omega), if_neg (by omega), if_neg (by omega)]
theorem num_itoa {v most : Int} (h0 : 0 ≤ v) (h1 : v ≤ most) (h2 : most ≤ 9223372036854775807) : numOf (Lib.itoa v) most = some v := by
  obtain ⟨u, rfl⟩ : ∃ u : Nat, v = (u : Int) := ⟨v.toNat, by omega⟩
  have e : Lib.itoa (u : Int) = Lib.decDigits u := Lib.itoa_nonneg u
  unfold numOf
  rw [e, atoi_dec (by omega)]
  simp only
  rw [if_pos ⟨e, by omega, h1⟩]
theorem itoa_noblank {v : Int} (h0 : 0 ≤ v) : ∀ c ∈ Lib.itoa v, c ≠ 32 := by
  obtain ⟨u, rfl⟩ : ∃ u : Nat, v = (u : Int) := ⟨v.toNat, by omega⟩
  rw [Lib.itoa_nonneg u]
  intro c hc e
  have := dec_digit u u (Nat.le_refl _) c hc
  subst e
  simp at this
end Go.Proofs.YtgohpgollpjlnaaDoor.Cn
/- What console.Read answers. -/
namespace Go.Proofs.YtgohpgollpjlnaaDoor.Cn
open Go.ChangeShapes Go.WideShapes Go.ChangeAt Go.RowKit
open Go.Proofs.YtgohpgollpjlnaaDoor.St (BoxN boxn_new)
set_option linter.unusedVariables false

/-- What lies in the library's variables. -/
structure CnW (w : World) : Prop where
  tab : Lib.TabIs Tryd.prog w "internal/strconv.uint64pow10" .u64 Lib.pow10Tab
  syn : ∃ ev, w.cell? ⟨4, 0, none⟩ = some ev ∧ (ev = .nilIface ∨ ∃ te pe, ev = .iface te pe)
  rng : ∃ ev, w.cell? ⟨5, 0, none⟩ = some ev ∧ (ev = .nilIface ∨ ∃ te pe, ev = .iface te pe)
  mx : ∃ m, w.cell? ⟨0, 0, none⟩ = some (.int .i64 m)
theorem ok_range {l : List UInt8} {v : Int} (h : Lib.atoiAll l = .ok v) : -9223372036854775808 ≤ v ∧ v ≤ 9223372036854775807 := by
  unfold Lib.atoiAll at h
  split at h
  · cases h
  · simp only at h
    split at h
    · cases h
    · cases h
    · split at h
      · cases h
      · split at h
        · cases h
        · injection h with h
          subst h
          split <;> omega
theorem below_bw (w : World) (e : TypeId) (s : ByteArray) : Below w.heap.size w (Lib.bytesWorld w e s) := Lib.bytesWorld_below w e s
theorem below_grow (w : World) (k : Nat) (os : Array Obj) : Below w.heap.size w (Go.Sort.grow (w.drewN k) os) := by
  refine ⟨rfl, rfl, rfl, ?_, fun j hj => ?_⟩
  · simp [Go.Sort.grow, World.drewN]
  · simp only [Go.Sort.grow, World.drewN]
    rw [Array.getElem?_append_left hj]
set_option maxRecDepth 100000 in
set_option maxHeartbeats 4000000 in
theorem number_any (s : ByteArray) (most : Int) (w : World) (hs : s.size ≤ 100) (hT : ∀ U, Below w.heap.size w U → CnW U) :
    Calls Tryd.prog 77 #[.string s, .int .i64 most] w fun e w' => ∃ n, e = .returned (.tuple #[.int .i64 n, .bool (numOf s.data.toList most).isSome]) ∧ (∀ v, numOf s.data.toList most = some v → n = v) ∧ Below w.heap.size w w' := by
  have HT : Hid (∀ U, Below w.heap.size w U → CnW U) := hT
  clear hT
  cases hA : Lib.atoiAll s.data.toList with
  | «syntax» =>
    have HN : Hid (numOf s.data.toList most = none) := by show _ = _; unfold numOf; rw [hA]
    obtain ⟨ev, hv, hev⟩ := (HT.out w (Below.refl _ _)).syn
    have hc := Tryd.strconv_Atoi_syntax s (by omega) hA ev w hv hev
    clear hv hev
    go_enter Tryd.func77, Tryd.ntmps77
    go_wp2_with (go_at_call 109; refine hc.mono ?_; rintro e u ⟨N, rfl, -, -, hu⟩)
    refine bodyPost_ret (v := .tuple #[.int .i64 0, .bool false]) (by simp [results, Tryd.results77, go_sem]) rfl ?_
    exact ⟨0, by rw [HN.out]; rfl, (fun v h => by rw [HN.out] at h; cases h), hu⟩
  | range =>
    have HN : Hid (numOf s.data.toList most = none) := by show _ = _; unfold numOf; rw [hA]
    obtain ⟨ev, hv, hev⟩ := (HT.out w (Below.refl _ _)).rng
    have hc := Tryd.strconv_Atoi_range s (by omega) hA ev w hv hev
    clear hv hev
    go_enter Tryd.func77, Tryd.ntmps77
    go_wp2_with (go_at_call 109; refine hc.mono ?_; rintro e u ⟨N, rfl, -, -, hu⟩)
    refine bodyPost_ret (v := .tuple #[.int .i64 (Lib.atoiSat s.data.toList), .bool false]) (by simp [results, Tryd.results77, go_sem]) rfl ?_
    exact ⟨_, by rw [HN.out]; rfl, (fun v h => by rw [HN.out] at h; cases h), hu⟩
  | ok v =>
    obtain ⟨v1, v2⟩ := ok_range hA
    have HN : Hid (numOf s.data.toList most = if Lib.itoa v = s.data.toList ∧ 0 ≤ v ∧ v ≤ most then some v else none) := by show _ = _; unfold numOf; rw [hA]
    have hc := Tryd.strconv_Atoi_ok s (by omega) v hA w
    have hI : ∀ U, Below w.heap.size w U → Calls Tryd.prog 50 #[.int .i64 v] U fun e w' => e = .returned (.string ⟨(Lib.itoa v).toArray⟩) ∧ Below U.heap.size U w' := fun U hU => by
      refine (Tryd.strconv_Itoa v v1 v2 U (HT.out U hU).tab).mono ?_
      rintro e w' ⟨rfl, k, os, rfl⟩
      exact ⟨rfl, below_grow U k os⟩
    have hW := fun U => within_any v 0 most U
    go_enter Tryd.func77, Tryd.ntmps77
    go_upto_region 2 with (go_at_call 109; refine hc.mono ?_; rintro e u ⟨rfl, hu'⟩; have hu : Below w.heap.size w u := hu'.elim (fun h8 => by rw [h8]; exact Below.refl _ _) (fun ⟨t, h8⟩ => by rw [h8]; exact below_bw _ _ _); clear hu')
    have hIu := hI u hu
    clear hc hI
    have eT : s.toList = s.data.toList := Go.ByteArray.toList_eq s
    by_cases hE : Lib.itoa v = s.data.toList
    · have hE2 : (Lib.itoa v == s.toList) = true := by rw [eT, hE]; simp
      have HN2 : Hid ((numOf s.data.toList most).isSome = inR v 0 most ∧ ∀ x, numOf s.data.toList most = some x → v = x) := by
        rw [HN.out]
        by_cases hr : 0 ≤ v ∧ v ≤ most
        · rw [if_pos ⟨hE, hr⟩]
          exact ⟨by simp [inR, hr], fun x hx => by injection hx⟩
        · rw [if_neg (fun h => hr h.2)]
          exact ⟨by simp [inR]; omega, fun x hx => by cases hx⟩
      clear hA HN eT hE v1 v2
      go_wp2_with (first | (go_at_call 50; refine hIu.mono ?_; rintro e z ⟨rfl, hz⟩) | (go_at_call 78; refine (hW _).mono ?_; rintro e z2 ⟨rfl, hz2⟩; rw [hz2]; clear hz2))
      all_goals first | (exact absurd ‹¬ _› (by assumption)) | skip
      refine bodyPost_ret (v := .tuple #[.int .i64 v, .bool (inR v 0 most)]) (by simp [results, Tryd.results77, go_sem]) rfl ?_
      exact ⟨v, by rw [HN2.out.1], HN2.out.2, hu.trans (hz.mono hu.size)⟩
    · have hE2 : (Lib.itoa v == s.toList) = false := by rw [eT]; simpa using hE
      have HN2 : Hid (numOf s.data.toList most = none) := by show _ = _; rw [HN.out, if_neg (fun h => hE h.1)]
      clear hA HN eT hE v1 v2
      go_wp2_with (first | (go_at_call 50; refine hIu.mono ?_; rintro e z ⟨rfl, hz⟩) | (go_at_call 78; refine (hW _).mono ?_; rintro e z2 ⟨rfl, hz2⟩; rw [hz2]; clear hz2))
      refine bodyPost_ret (v := .tuple #[.int .i64 v, .bool false]) (by simp [results, Tryd.results77, go_sem]) rfl ?_
      exact ⟨v, by rw [HN2.out]; rfl, (fun x h => by rw [HN2.out] at h; cases h), hu.trans (hz.mono hu.size)⟩
/-- Words in memory, one behind the other. -/
def IsStrs (w : World) (a : Option Addr) (n c : Nat) (ws : List ByteArray) : Prop :=
  ws.length = n ∧ n ≤ c ∧ c ≤ maxLen ∧ (0 < n → ∃ b off, a = some ⟨b, off, none⟩ ∧ b < w.heap.size ∧ ∀ i, i < n → w.cell? ⟨b, off + i, none⟩ = some (.string (ws.getD i .empty)))
theorem IsStrs.below {w u : World} {a : Option Addr} {n c : Nat} {ws : List ByteArray} (h : IsStrs w a n c ws) (hb : Below w.heap.size w u) : IsStrs u a n c ws := by
  obtain ⟨h1, h2, h3, h4⟩ := h
  refine ⟨h1, h2, h3, fun h0 => ?_⟩
  obtain ⟨b, off, e, hl, hc⟩ := h4 h0
  exact ⟨b, off, e, Nat.lt_of_lt_of_le hl hb.size, fun i hi => (hb.cell (p := ⟨b, off + i, none⟩) hl).trans (hc i hi)⟩
def txt (ws : List ByteArray) : List (List UInt8) := ws.map (·.data.toList)
def CmdIs (w w' : World) (e : Ending) (o : Option Cmd) : Prop := ∃ x : Cmd, e = .returned (.tuple #[x.val, .bool o.isSome]) ∧ (∀ c, o = some c → x = c) ∧ Below w.heap.size w w'
set_option maxRecDepth 100000 in
set_option maxHeartbeats 4000000 in
theorem about_any (kind : Int) (a : Option Addr) (n c : Nat) (ws : List ByteArray) (w : World) (h : IsStrs w a n c ws) (hz : ∀ x ∈ ws, x.size ≤ 100) (hT : ∀ U, Below w.heap.size w U → CnW U) :
    Calls Tryd.prog 40 #[.int .i64 kind, .slice a n c] w fun e w' => CmdIs w w' e (aboutOf kind false (txt ws)) := by
  obtain ⟨W, hW⟩ : ∃ W : World, W = w.alloc (.cells #[.int .i64 0, .int .i64 0, .int .i64 0, .int .i64 0, .bool false] 25) := ⟨_, rfl⟩
  have bx : BoxN W w.heap.size 5 [.int .i64 0, .int .i64 0, .int .i64 0, .int .i64 0, .bool false] := by rw [hW]; exact boxn_new w #[.int .i64 0, .int .i64 0, .int .i64 0, .int .i64 0, .bool false] 25 5 rfl
  have bW : Below w.heap.size w W := by rw [hW]; exact (Below.refl _ _).alloc (Nat.le_refl _) _
  have HB : Hid (∀ U, Below W.heap.size W U → BoxN U w.heap.size 5 [.int .i64 0, .int .i64 0, .int .i64 0, .int .i64 0, .bool false] ∧ Below w.heap.size w U) := fun U hU => ⟨bx.below hU bx.lt, bW.trans (hU.mono bW.size)⟩
  have hlen := h.1
  have hnc := h.2.1
  have hcm := h.2.2.1
  unfold maxLen at hcm
  by_cases h3 : n = 3
  · subst h3
    obtain ⟨b, off, rfl, hb, hc⟩ := h.2.2.2 (by omega)
    match ws, hlen with
    | [x, y, z], _ =>
      have hx := hz x (by simp)
      have hy := hz y (by simp)
      have hzz := hz z (by simp)
      have k0 := hc 0 (by omega)
      have k1 := hc 1 (by omega)
      have k2 := hc 2 (by omega)
      simp only [List.getD_cons_zero, List.getD_cons_succ, Nat.add_zero] at k0 k1 k2
      have HK : Hid (∀ U, Below w.heap.size w U → U.cell? ⟨b, off, none⟩ = some (.string x) ∧ U.cell? ⟨b, off + 1, none⟩ = some (.string y) ∧ U.cell? ⟨b, off + 2, none⟩ = some (.string z) ∧ b < U.heap.size) := fun U hU => ⟨(hU.cell (p := ⟨b, off, none⟩) hb).trans k0, (hU.cell (p := ⟨b, off + 1, none⟩) hb).trans k1, (hU.cell (p := ⟨b, off + 2, none⟩) hb).trans k2, Nat.lt_of_lt_of_le hb hU.size⟩
      have HN : Hid (∀ (s : ByteArray) (most : Int) (U : World), s.size ≤ 100 → Below w.heap.size w U → Calls Tryd.prog 77 #[.string s, .int .i64 most] U fun e w' => ∃ n, e = .returned (.tuple #[.int .i64 n, .bool (numOf s.data.toList most).isSome]) ∧ (∀ v, numOf s.data.toList most = some v → n = v) ∧ Below U.heap.size U w') := fun s most U h1 h2 => number_any s most U h1 (fun V hV => hT V (h2.trans (hV.mono h2.size)))
      obtain ⟨j0, j1, j2, jb⟩ := HK.out W bW
      have q1 := HN.out x 5 W hx bW
      clear k0 k1 k2 hc h hT hz bx
      have HO : Hid (aboutOf kind false (txt [x, y, z]) = match numOf x.data.toList 5, numOf y.data.toList 3, numOf z.data.toList 1048576 with | some p, some q, some r => some ⟨kind, p, q, r, false⟩ | _, _, _ => none) := rfl
      obtain ⟨O, eO⟩ : ∃ O, O = aboutOf kind false (txt [x, y, z]) := ⟨_, rfl⟩
      rw [← eO] at HO ⊢
      clear eO
      go_enter Tryd.func40, Tryd.ntmps40
      go_upto_region 3 with (fail)
      rw [← hW]
      clear hW
      go_upto_region 4 with (go_at_call 77; refine q1.mono ?_; rintro e u1 ⟨n1, rfl, hn1, hu1⟩)
      have b1 : Below w.heap.size w u1 := bW.trans (hu1.mono bW.size)
      clear j0 j1 j2 jb q1
      obtain ⟨j0, j1, j2, jb⟩ := HK.out u1 b1
      have q2 := HN.out y 3 u1 hy b1
      go_upto_region 5 with (go_at_call 77; refine q2.mono ?_; rintro e u2 ⟨n2, rfl, hn2, hu2⟩)
      have b2 : Below w.heap.size w u2 := b1.trans (hu2.mono b1.size)
      clear j0 j1 j2 jb q2
      obtain ⟨j0, j1, j2, jb⟩ := HK.out u2 b2
      have q3 := HN.out z 1048576 u2 hzz b2
      go_upto_region 6 with (go_at_call 77; refine q3.mono ?_; rintro e u3 ⟨n3, rfl, hn3, hu3⟩)
      clear j0 j1 j2 jb q3
      have hWu : Below W.heap.size W u3 := hu1.trans ((hu2.trans (hu3.mono hu2.size)).mono hu1.size)
      obtain ⟨bxu, bwu⟩ := HB.out u3 hWu
      have s0 := (bxu.c 0 (by decide)).1
      have s1 := (bxu.c 1 (by decide)).1
      have s2 := (bxu.c 2 (by decide)).1
      have s3 := (bxu.c 3 (by decide)).1
      have s4 := (bxu.c 4 (by decide)).1
      have f0 := (bxu.c 0 (by decide)).2
      have f1 := (bxu.c 1 (by decide)).2
      have f2 := (bxu.c 2 (by decide)).2
      have f3 := (bxu.c 3 (by decide)).2
      have f4 := (bxu.c 4 (by decide)).2
      have bz := bxu.lt
      simp only [List.getD_cons_zero, List.getD_cons_succ] at s0 s1 s2 s3 s4
      clear HB HK HN hu1 hu2 hu3 b1 b2 bW hWu hx hy hzz
      obtain ⟨F, hF⟩ : ∃ F : World, F = ((((u3.setCell ⟨w.heap.size, 0, none⟩ (.int .i64 kind)).setCell ⟨w.heap.size, 1, none⟩ (.int .i64 n1)).setCell ⟨w.heap.size, 2, none⟩ (.int .i64 n2)).setCell ⟨w.heap.size, 3, none⟩ (.int .i64 n3)).setCell ⟨w.heap.size, 4, none⟩ (.bool false) := ⟨_, rfl⟩
      have k0 : F.cell? ⟨w.heap.size, 0, none⟩ = some (.int .i64 kind) := by rw [hF]; go_simp
      have k1 : F.cell? ⟨w.heap.size, 1, none⟩ = some (.int .i64 n1) := by rw [hF]; go_simp
      have k2 : F.cell? ⟨w.heap.size, 2, none⟩ = some (.int .i64 n2) := by rw [hF]; go_simp
      have k3 : F.cell? ⟨w.heap.size, 3, none⟩ = some (.int .i64 n3) := by rw [hF]; go_simp
      have k4 : F.cell? ⟨w.heap.size, 4, none⟩ = some (.bool false) := by rw [hF]; go_simp
      have hFb : Below w.heap.size w F := by rw [hF]; exact ((((bwu.setCell (by simp) _).setCell (by simp) _).setCell (by simp) _).setCell (by simp) _).setCell (by simp) _
      have HD : Hid (∀ B : Bool, B = O.isSome → CmdIs w F (.returned (.tuple #[.agg #[.int .i64 kind, .int .i64 n1, .int .i64 n2, .int .i64 n3, .bool false], .bool B])) O) := fun B hB => by
        refine ⟨⟨kind, n1, n2, n3, false⟩, by rw [hB]; rfl, fun d hd => ?_, hFb⟩
        rw [HO.out] at hd
        cases e1 : numOf x.data.toList 5 with
        | none => rw [e1] at hd; cases hd
        | some p =>
          cases e2 : numOf y.data.toList 3 with
          | none => rw [e1, e2] at hd; cases hd
          | some q =>
            cases e3 : numOf z.data.toList 1048576 with
            | none => rw [e1, e2, e3] at hd; cases hd
            | some r =>
              rw [e1, e2, e3] at hd
              injection hd with hd
              rw [← hd, hn1 p e1, hn2 q e2, hn3 r e3]
      have HO2 : Hid (O.isSome = ((numOf x.data.toList 5).isSome && ((numOf y.data.toList 3).isSome && (numOf z.data.toList 1048576).isSome))) := by
        show _ = _
        rw [HO.out]
        cases numOf x.data.toList 5 <;> cases numOf y.data.toList 3 <;> cases numOf z.data.toList 1048576 <;> rfl
      clear HO hFb
      obtain ⟨B1, e1⟩ : ∃ B, B = (numOf x.data.toList 5).isSome := ⟨_, rfl⟩
      obtain ⟨B2, e2⟩ : ∃ B, B = (numOf y.data.toList 3).isSome := ⟨_, rfl⟩
      obtain ⟨B3, e3⟩ : ∃ B, B = (numOf z.data.toList 1048576).isSome := ⟨_, rfl⟩
      rw [← e1, ← e2, ← e3] at HO2 ⊢
      clear e1 e2 e3 hn1 hn2 hn3 bxu bwu
      cases B1 <;> cases B2 <;> cases B3
      all_goals
        go_wp2
        rw [← hF]
        refine bodyPost_ret (v := .tuple #[.agg #[.int .i64 kind, .int .i64 n1, .int .i64 n2, .int .i64 n3, .bool false], .bool _]) (by simp [results, Tryd.results40, go_sem, k0, k1, k2, k3, k4]) rfl (HD.out _ HO2.out.symm)
  · have hne : ((n : Int) != 3) = true := by simp; omega
    have HO : Hid (aboutOf kind false (txt ws) = none) := by
      show _ = _
      match ws, hlen with
      | [], _ => rfl
      | [_], _ => rfl
      | [_, _], _ => rfl
      | [_, _, _], hl => exact absurd hl (by simp; omega)
      | _ :: _ :: _ :: _ :: _, _ => rfl
    obtain ⟨O, eO⟩ : ∃ O, O = aboutOf kind false (txt ws) := ⟨_, rfl⟩
    rw [← eO] at HO ⊢
    clear eO
    have s0 := (bx.c 0 (by decide)).1
    have s1 := (bx.c 1 (by decide)).1
    have s2 := (bx.c 2 (by decide)).1
    have s3 := (bx.c 3 (by decide)).1
    have s4 := (bx.c 4 (by decide)).1
    have f0 := (bx.c 0 (by decide)).2
    have f1 := (bx.c 1 (by decide)).2
    have f2 := (bx.c 2 (by decide)).2
    have f3 := (bx.c 3 (by decide)).2
    have f4 := (bx.c 4 (by decide)).2
    have bz := bx.lt
    simp only [List.getD_cons_zero, List.getD_cons_succ] at s0 s1 s2 s3 s4
    obtain ⟨F, hF⟩ : ∃ F : World, F = ((((W.setCell ⟨w.heap.size, 0, none⟩ (.int .i64 0)).setCell ⟨w.heap.size, 1, none⟩ (.int .i64 0)).setCell ⟨w.heap.size, 2, none⟩ (.int .i64 0)).setCell ⟨w.heap.size, 3, none⟩ (.int .i64 0)).setCell ⟨w.heap.size, 4, none⟩ (.bool false) := ⟨_, rfl⟩
    have k0 : F.cell? ⟨w.heap.size, 0, none⟩ = some (.int .i64 0) := by rw [hF]; go_simp
    have k1 : F.cell? ⟨w.heap.size, 1, none⟩ = some (.int .i64 0) := by rw [hF]; go_simp
    have k2 : F.cell? ⟨w.heap.size, 2, none⟩ = some (.int .i64 0) := by rw [hF]; go_simp
    have k3 : F.cell? ⟨w.heap.size, 3, none⟩ = some (.int .i64 0) := by rw [hF]; go_simp
    have k4 : F.cell? ⟨w.heap.size, 4, none⟩ = some (.bool false) := by rw [hF]; go_simp
    have HFb : Hid (Below w.heap.size w F) := by rw [hF]; exact ((((bW.setCell (by simp) _).setCell (by simp) _).setCell (by simp) _).setCell (by simp) _).setCell (by simp) _
    clear bW HB h hT hz bx h3 hlen
    go_enter Tryd.func40, Tryd.ntmps40
    go_upto_region 1 with (fail)
    rw [← hW]
    clear hW
    go_wp2
    rw [← hF]
    refine bodyPost_ret (v := .tuple #[.agg #[.int .i64 0, .int .i64 0, .int .i64 0, .int .i64 0, .bool false], .bool false]) (by simp [results, Tryd.results40, go_sem, k0, k1, k2, k3, k4]) rfl ?_
    exact ⟨Cmd.nil, by rw [HO.out]; rfl, (fun d hd => by rw [HO.out] at hd; cases hd), HFb.out⟩
end Go.Proofs.YtgohpgollpjlnaaDoor.Cn
