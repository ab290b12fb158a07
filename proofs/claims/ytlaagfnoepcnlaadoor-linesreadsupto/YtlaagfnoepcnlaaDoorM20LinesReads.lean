/- Texts of this claim, one behind the other. -/
import Derived.Test.YtlaagfnoepcnlaaDoorM17LinesReads
import Derived.Test.YtlaagfnoepcnlaaDoorM15LinesReads
import Derived.Lib.Join
import GoSem.Op.String
import Derived.Test.YtlaagfnoepcnlaaDoorM13LinesReads
import Derived.Deep.DeepCutAuto
/- What is shown is read, and what is read is shown so: on plain data. -/
namespace Go.Proofs.YtlaagfnoepcnlaaDoor.Ln
open Go.Proofs.YtlaagfnoepcnlaaDoor.Cn (atoi_dec dec_digit)
set_option linter.unusedVariables false

/-! ### numbers -/
theorem numL_itoa {n : Int} (h0 : 0 ≤ n) (h1 : n ≤ 9223372036854775807) : numL (Lib.itoa n) = some n := by
  obtain ⟨u, rfl⟩ : ∃ u : Nat, n = (u : Int) := ⟨n.toNat, by omega⟩
  have e : Lib.itoa (u : Int) = Lib.decDigits u := Lib.itoa_nonneg u
  unfold numL
  rw [e, atoi_dec (by omega)]
  simp only
  rw [if_pos e]
theorem numL_back {l : List UInt8} {n : Int} (h : numL l = some n) : Lib.itoa n = l := by
  unfold numL at h
  split at h
  · split at h
    · rename_i hc
      cases h
      exact hc
    · cases h
  · cases h
theorem numL_nil : numL [] = none := rfl
theorem itoa_word {n : Int} (h0 : 0 ≤ n) : ∀ c ∈ Lib.itoa n, c ≠ 32 ∧ c ≠ 10 := by
  obtain ⟨u, rfl⟩ : ∃ u : Nat, n = (u : Int) := ⟨n.toNat, by omega⟩
  rw [Lib.itoa_nonneg]
  intro c hc
  have := dec_digit u u (Nat.le_refl _) c hc
  constructor <;> (intro e; subst e; simp at this)
/-! ### digits of a text -/
theorem dgt_hex : ∀ n : Fin 16, dgt (hexD n.val) = (n.val : Int) := by decide
theorem hex_dgt : ∀ (l : List UInt8) (k : Nat) (c : UInt8), 0 ≤ Lib.indexByte l c → l.getD (Lib.indexByte l c).toNat 0 = c
  | [], _, c, h => by simp [Lib.indexByte] at h
  | x :: r, k, c, h => by
    unfold Lib.indexByte at h ⊢
    by_cases hx : (x == c) = true
    · rw [if_pos hx]
      simpa using hx
    · rw [if_neg hx] at h ⊢
      by_cases hi : (Lib.indexByte r c == -1) = true
      · rw [if_pos hi] at h; omega
      · rw [if_neg hi] at h ⊢
        have hg := Lib.indexByte_ge r c
        have hn : ¬ Lib.indexByte r c = -1 := by simpa using hi
        have := hex_dgt r k c (by omega)
        rw [show (Lib.indexByte r c + 1).toNat = (Lib.indexByte r c).toNat + 1 by omega, List.getD_cons_succ]
        exact this
theorem digs_hex : ∀ n : Fin 16, digs.getD n.val 0 = hexD n.val := by decide
theorem hexD_dgt {c : UInt8} (h : 0 ≤ dgt c) : hexD (dgt c).toNat = c ∧ (dgt c).toNat < 16 := by
  have h1 := hex_dgt digs 0 c h
  have h2 : (dgt c).toNat < 16 := by
    have hl : ∀ (l : List UInt8), Lib.indexByte l c < (l.length : Int) := by
      intro l
      induction l with
      | nil => simp [Lib.indexByte]
      | cons x r ih =>
        unfold Lib.indexByte
        simp only [List.length_cons]
        split
        · omega
        · split <;> omega
    have h3 : dgt c < 16 := hl digs
    omega
  refine ⟨?_, h2⟩
  rw [← digs_hex ⟨(dgt c).toNat, h2⟩]
  exact h1
theorem hexD_word : ∀ n : Fin 16, hexD n.val ≠ 32 ∧ hexD n.val ≠ 10 := by decide
theorem unhex_hexes : ∀ (l : List UInt8), unhex (hexes l) = some l
  | [] => rfl
  | c :: r => by
    have hc : c.toNat < 256 := c.toNat_lt
    have h1 := dgt_hex ⟨c.toNat / 16, by omega⟩
    have h2 := dgt_hex ⟨c.toNat % 16, by omega⟩
    simp only at h1 h2
    rw [hexes, unhex, h1, h2, unhex_hexes r, if_neg (by omega)]
    simp only [Option.map_some, Int.toNat_natCast]
    have e : 16 * (c.toNat / 16) + c.toNat % 16 = c.toNat := by omega
    rw [e]
    simp
theorem hexes_unhex : ∀ (l t : List UInt8), unhex l = some t → hexes t = l
  | [], t, h => by cases h; rfl
  | [_], t, h => by cases h
  | a :: b :: r, t, h => by
    rw [unhex] at h
    split at h
    · cases h
    · rename_i hn
      cases e : unhex r with
      | none => rw [e] at h; cases h
      | some t2 =>
        rw [e] at h
        cases h
        have ha := hexD_dgt (c := a) (by omega)
        have hb := hexD_dgt (c := b) (by omega)
        have hv : (UInt8.ofNat (16 * (dgt a).toNat + (dgt b).toNat)).toNat = 16 * (dgt a).toNat + (dgt b).toNat := by
          rw [UInt8.toNat_ofNat']
          omega
        rw [hexes, hv, show (16 * (dgt a).toNat + (dgt b).toNat) / 16 = (dgt a).toNat by omega, show (16 * (dgt a).toNat + (dgt b).toNat) % 16 = (dgt b).toNat by omega, ha.1, hb.1, hexes_unhex r t2 e]
theorem hexes_word : ∀ (l : List UInt8), ∀ c ∈ hexes l, c ≠ 32 ∧ c ≠ 10
  | [], c, h => by cases h
  | x :: r, c, h => by
    have hx : x.toNat < 256 := x.toNat_lt
    rw [hexes] at h
    rcases List.mem_cons.1 h with rfl | h
    · exact hexD_word ⟨x.toNat / 16, by omega⟩
    · rcases List.mem_cons.1 h with rfl | h
      · exact hexD_word ⟨x.toNat % 16, by omega⟩
      · exact hexes_word r c h
theorem stText_txt (l : List UInt8) : stText (txtL l) = some l := by
  rw [txtL, stText, if_pos rfl, unhex_hexes]
theorem txt_stText {w t : List UInt8} (h : stText w = some t) : w = txtL t := by
  cases w with
  | nil => cases h
  | cons c r =>
    rw [stText] at h
    split at h
    · rename_i hc
      rw [txtL, hexes_unhex r t h, hc]
    · cases h
/-! ### words -/
theorem join_spc {d : UInt8} : ∀ (ws : WS), ws ≠ [] → (∀ w ∈ ws, ∀ c ∈ w, c ≠ d) → spc d (Lib.join ws [d]) = ws
  | [], h, _ => absurd rfl h
  | [w], _, h => by
    rw [show Lib.join [w] [d] = w by simp [Lib.join]]
    exact spc_none (h w (by simp))
  | w :: x :: r, _, h => by
    have e : Lib.join (w :: x :: r) [d] = w ++ d :: Lib.join (x :: r) [d] := by simp [Lib.join, List.intercalate]
    rw [e, spc_cut w _ (h w (by simp)), join_spc (x :: r) (by simp) (fun y hy => h y (by simp [hy]))]
theorem spc_join (d : UInt8) : ∀ (n : Nat) (l : List UInt8), l.length ≤ n → Lib.join (spc d l) [d] = l := by
  intro n
  induction n with
  | zero =>
    intro l hl
    have : l = [] := List.length_eq_zero_iff.1 (by omega)
    subst this
    simp [spc, Lib.join]
  | succ n ih =>
    intro l hl
    rcases spc_first d l with h | ⟨a, r, rfl, h⟩
    · rw [spc_none h]
      simp [Lib.join]
    · rw [spc_cut a r h]
      have := ih r (by simp at hl; omega)
      cases e : spc d r with
      | nil => exact absurd e (spc_ne d r)
      | cons x q =>
        rw [e] at this
        have e2 : Lib.join (a :: x :: q) [d] = a ++ d :: Lib.join (x :: q) [d] := by simp [Lib.join, List.intercalate]
        rw [e2, this]
/-! ### what kinds have -/
theorem kindA_word : ∀ k : Fin 9, kindA (aWord k.val).data.toList = k.val := by decide
theorem kindC_word : ∀ k : Fin 6, kindC (cWord k.val).data.toList = k.val := by decide
theorem kFind_word {f : Nat → ByteArray} {w : List UInt8} : ∀ (m k : Nat), kFind f w m k ≠ 0 → (f (kFind f w m k)).data.toList = w
  | 0, k, h => absurd rfl h
  | m + 1, k, h => by
    unfold kFind at h ⊢
    split
    · rename_i hc
      exact hc
    · rename_i hc
      rw [if_neg hc] at h
      exact kFind_word m (k + 1) h
def bts (l : List UInt8) : ByteArray := ⟨l.toArray⟩
def wds (ws : List ByteArray) : WS := ws.map (·.data.toList)
/-- Numbers that a kind has not are 0. -/
theorem stNums_words : ∀ (hs : List Bool) (ps : List Int) (r : WS), hs.length = ps.length → only hs ps = true → (∀ p ∈ ps, 0 ≤ p ∧ p ≤ 9223372036854775807) → stNums hs (wds (numsW hs ps) ++ r) = some (ps, r)
  | [], [], r, _, _, _ => rfl
  | [], _ :: _, r, h, _, _ => by simp at h
  | _ :: _, [], r, h, _, _ => by simp at h
  | h :: hs, p :: ps, r, hl, ho, hp => by
    rw [only, Bool.and_eq_true] at ho
    have ih := stNums_words hs ps r (by simpa using hl) ho.2 (fun q hq => hp q (by simp [hq]))
    have hp0 := hp p (by simp)
    cases h with
    | true =>
      rw [stNums, if_pos rfl]
      have e : wds (numsW (true :: hs) (p :: ps)) ++ r = Lib.itoa p :: (wds (numsW hs ps) ++ r) := by simp [numsW, wds, wNum]
      rw [e, List.headD_cons, List.tail_cons, numL_itoa hp0.1 hp0.2, ih]
      rfl
    | false =>
      rw [stNums, if_neg (by simp)]
      have e : wds (numsW (false :: hs) (p :: ps)) ++ r = wds (numsW hs ps) ++ r := by simp [numsW]
      rw [e, ih]
      have : p = 0 := by simpa using ho.1
      rw [this]
      rfl
theorem words_stNums : ∀ (hs : List Bool) (ws : WS) (ps : List Int) (r : WS), stNums hs ws = some (ps, r) → ws = wds (numsW hs ps) ++ r ∧ ps.length = hs.length
  | [], ws, ps, r, h => by
    cases h
    exact ⟨rfl, rfl⟩
  | h :: hs, ws, ps, r, e => by
    cases h with
    | true =>
      rw [stNums, if_pos rfl] at e
      cases ws with
      | nil => rw [List.headD_nil, numL_nil] at e; cases e
      | cons w q =>
        rw [List.headD_cons, List.tail_cons] at e
        cases e1 : numL w with
        | none => rw [e1] at e; cases e
        | some n =>
          rw [e1] at e
          cases e2 : stNums hs q with
          | none => simp only [e2] at e; cases e
          | some p =>
            simp only [e2] at e
            cases e
            obtain ⟨h1, h2⟩ := words_stNums hs q p.1 p.2 e2
            refine ⟨?_, by simp [h2]⟩
            rw [h1, ← numL_back e1]
            simp [numsW, wds, wNum]
    | false =>
      rw [stNums, if_neg (by simp)] at e
      cases e2 : stNums hs ws with
      | none => rw [e2] at e; cases e
      | some p =>
        rw [e2] at e
        cases e
        obtain ⟨h1, h2⟩ := words_stNums hs ws p.1 p.2 e2
        refine ⟨?_, by simp [h2]⟩
        rw [h1]
        simp [numsW, wds]
theorem stKept_words : ∀ (zs : List Int), (∀ z ∈ zs, 0 ≤ z ∧ z ≤ 9223372036854775807) → stKept (wds (zs.map wNum)) = some zs
  | [], _ => rfl
  | z :: r, h => by
    have h0 := h z (by simp)
    have e : wds ((z :: r).map wNum) = Lib.itoa z :: wds (r.map wNum) := by simp [wds, wNum]
    rw [e, stKept, numL_itoa h0.1 h0.2, stKept_words r (fun y hy => h y (by simp [hy]))]
    rfl
theorem words_stKept : ∀ (ws : WS) (zs : List Int), stKept ws = some zs → ws = wds (zs.map wNum)
  | [], zs, h => by cases h; rfl
  | w :: r, zs, h => by
    rw [stKept] at h
    cases e1 : numL w with
    | none => rw [e1] at h; cases h
    | some n =>
      rw [e1] at h
      cases e2 : stKept r with
      | none => simp only [e2] at h; cases h
      | some l =>
        simp only [e2] at h
        cases h
        have := words_stKept r l e2
        rw [this, ← numL_back e1]
        simp [wds, wNum]
end Go.Proofs.YtlaagfnoepcnlaaDoor.Ln
/- The document's whole number of a word: the program's number. Plain data. -/
namespace Go.Proofs.YtlaagfnoepcnlaaDoor.Ln
open Go.Proofs.YtlaagfnoepcnlaaDoor.Cn (atoi_dec dec_digit dec_ne parse_dec digit_ok)
set_option linter.unusedVariables false

def dgs (l : List UInt8) : Prop := ∀ c ∈ l, 48 ≤ c.toNat ∧ c.toNat ≤ 57
def dvf (n : Nat) (l : List UInt8) : Nat := l.foldl (fun n c => 10 * n + (c.toNat - 48)) n
theorem dvf_nil (n : Nat) : dvf n [] = n := rfl
theorem dvf_cons (n : Nat) (c : UInt8) (r : List UInt8) : dvf n (c :: r) = dvf (10 * n + (c.toNat - 48)) r := by
  unfold dvf
  rw [List.foldl_cons]
theorem dvf_eq : ∀ (l : List UInt8) (n : Nat), dvf n l = n * 10 ^ l.length + dvf 0 l
  | [], n => by simp [dvf_nil]
  | c :: r, n => by
    rw [dvf_cons, dvf_cons, dvf_eq r (10 * n + (c.toNat - 48)), dvf_eq r (10 * 0 + (c.toNat - 48)), List.length_cons, Nat.pow_succ]
    rw [Nat.add_mul, Nat.mul_zero, Nat.zero_add]
    have : 10 * n * 10 ^ r.length = n * (10 ^ r.length * 10) := by rw [Nat.mul_comm 10 n, Nat.mul_assoc, Nat.mul_comm 10]
    omega
theorem dvf_lt : ∀ (l : List UInt8), dgs l → dvf 0 l < 10 ^ l.length
  | [], _ => by simp [dvf_nil]
  | c :: r, h => by
    have hc := h c (by simp)
    have ih := dvf_lt r (fun x hx => h x (by simp [hx]))
    rw [dvf_cons, dvf_eq, List.length_cons, Nat.pow_succ]
    have : (10 * 0 + (c.toNat - 48)) * 10 ^ r.length ≤ 9 * 10 ^ r.length := Nat.mul_le_mul_right _ (by omega)
    omega
theorem dvf_snoc : ∀ (l : List UInt8) (n : Nat) (c : UInt8), dvf n (l ++ [c]) = 10 * dvf n l + (c.toNat - 48)
  | [], n, c => rfl
  | x :: r, n, c => by rw [List.cons_append, dvf_cons, dvf_cons, dvf_snoc r]
theorem dec_small {u : Nat} (h : u < 10) : Lib.decDigits u = [UInt8.ofNat (48 + u)] := Lib.decDigits_one h
theorem dec_big {u : Nat} (h : ¬ u < 10) : Lib.decDigits u = Lib.decDigits (u / 10) ++ [UInt8.ofNat (48 + u % 10)] := by rw [Lib.decDigits, dif_neg h]
theorem dig_back {c : UInt8} (h : 48 ≤ c.toNat ∧ c.toNat ≤ 57) : UInt8.ofNat (48 + (c.toNat - 48)) = c := by
  rw [show 48 + (c.toNat - 48) = c.toNat by omega]
  simp
/-- Digits without a nought ahead are the number's. -/
theorem dec_of : ∀ (n : Nat) (l : List UInt8), l.length ≤ n → dgs l → l ≠ [] → (l.headD 0 ≠ 48 ∨ l.length = 1) → Lib.decDigits (dvf 0 l) = l := by
  intro n
  induction n with
  | zero => intro l hl _ h0 _; exact absurd (List.length_eq_zero_iff.1 (by omega)) h0
  | succ n ih =>
    intro l hl hd h0 hh
    rcases List.eq_nil_or_concat l with h | ⟨e, c, h⟩
    · exact absurd h h0
    · rw [List.concat_eq_append] at h
      subst h
      have hc := hd c (by simp)
      rw [dvf_snoc]
      by_cases he : e = []
      · subst he
        show Lib.decDigits (10 * 0 + (c.toNat - 48)) = [c]
        rw [dec_small (by omega), show 10 * 0 + (c.toNat - 48) = c.toNat - 48 by omega, dig_back hc]
      · have hhe : e.headD 0 ≠ 48 := by
          rcases hh with hh | hh
          · cases e with
            | nil => exact absurd rfl he
            | cons x y => exact hh
          · cases e with
            | nil => exact absurd rfl he
            | cons x y => simp at hh
        have hI := ih e (by simp at hl; omega) (fun x hx => hd x (by simp [hx])) he (Or.inl hhe)
        have hpos : 0 < dvf 0 e := by
          cases h : dvf 0 e with
          | zero =>
            rw [h, dec_small (by omega)] at hI
            rw [← hI] at hhe
            exact absurd rfl hhe
          | succ m => omega
        rw [dec_big (by omega), show (10 * dvf 0 e + (c.toNat - 48)) / 10 = dvf 0 e by omega, show (10 * dvf 0 e + (c.toNat - 48)) % 10 = c.toNat - 48 by omega, hI, dig_back hc]
theorem dv_dec : ∀ (n u : Nat), u ≤ n → dvf 0 (Lib.decDigits u) = u := by
  intro n
  induction n with
  | zero =>
    intro u hu
    obtain rfl : u = 0 := by omega
    rw [dec_small (by omega)]
    rfl
  | succ n ih =>
    intro u hu
    by_cases h : u < 10
    · rw [dec_small h]
      show 10 * 0 + ((UInt8.ofNat (48 + u)).toNat - 48) = u
      have := digit_ok u h
      omega
    · rw [dec_big h, dvf_snoc, ih (u / 10) (by omega)]
      have := digit_ok (u % 10) (by omega)
      omega
theorem dec_head : ∀ (n u : Nat), u ≤ n → u ≠ 0 → (Lib.decDigits u).headD 0 ≠ 48 := by
  intro n
  induction n with
  | zero => intro u hu h0; omega
  | succ n ih =>
    intro u hu h0
    by_cases h : u < 10
    · rw [dec_small h]
      show UInt8.ofNat (48 + u) ≠ 48
      intro e
      have := congrArg UInt8.toNat e
      have h3 := digit_ok u h
      have h48 : (48 : UInt8).toNat = 48 := rfl
      omega
    · rw [dec_big h]
      have := ih (u / 10) (by omega) (by omega)
      cases e : Lib.decDigits (u / 10) with
      | nil => exact absurd e (dec_ne _)
      | cons x y => rw [e] at this; exact this
/-- Digits of one length are compared as their numbers are. -/
theorem less_dv : ∀ (a b : List UInt8), a.length = b.length → dgs a → dgs b → Op.bytesLess a b = decide (dvf 0 a < dvf 0 b)
  | [], [], _, _, _ => rfl
  | [], _ :: _, h, _, _ => by simp at h
  | _ :: _, [], h, _, _ => by simp at h
  | x :: a, y :: b, h, ha, hb => by
    have hx := ha x (by simp)
    have hy := hb y (by simp)
    have hl : a.length = b.length := by simpa using h
    have la := dvf_lt a (fun z hz => ha z (by simp [hz]))
    have lb := dvf_lt b (fun z hz => hb z (by simp [hz]))
    have ih := less_dv a b hl (fun z hz => ha z (by simp [hz])) (fun z hz => hb z (by simp [hz]))
    rw [Op.bytesLess, ih, dvf_cons, dvf_cons, dvf_eq a (10 * 0 + (x.toNat - 48)), dvf_eq b (10 * 0 + (y.toNat - 48)), hl]
    rw [hl] at la
    have e1 : (x < y) = (x.toNat < y.toNat) := propext (UInt8.lt_iff_toNat_lt)
    have e2 : (x == y) = decide (x.toNat = y.toNat) := by
      by_cases hxy : x = y
      · subst hxy; simp
      · have : ¬ x.toNat = y.toNat := fun e => hxy (UInt8.toNat_inj.1 e)
        simp [hxy, this]
    rw [e2]
    generalize 10 ^ b.length = P at *
    rcases Nat.lt_trichotomy x.toNat y.toNat with hlt | heq | hgt
    · have hm : (x.toNat - 48 + 1) * P ≤ (y.toNat - 48) * P := Nat.mul_le_mul_right _ (by omega)
      rw [Nat.add_mul, Nat.one_mul] at hm
      have d1 : decide (x < y) = true := decide_eq_true (by rw [e1]; exact hlt)
      rw [d1, Bool.true_or]
      symm
      apply decide_eq_true
      rw [Nat.mul_zero, Nat.zero_add, Nat.zero_add]
      omega
    · have d1 : decide (x < y) = false := decide_eq_false (by rw [e1]; omega)
      have d2 : decide (x.toNat = y.toNat) = true := decide_eq_true heq
      rw [d1, d2, heq, Bool.false_or, Bool.true_and]
      apply decide_eq_decide.2
      omega
    · have hm : (y.toNat - 48 + 1) * P ≤ (x.toNat - 48) * P := Nat.mul_le_mul_right _ (by omega)
      rw [Nat.add_mul, Nat.one_mul] at hm
      have d1 : decide (x < y) = false := decide_eq_false (by rw [e1]; omega)
      have d2 : decide (x.toNat = y.toNat) = false := decide_eq_false (by omega)
      rw [d1, d2, Bool.false_and, Bool.false_or]
      symm
      apply decide_eq_false
      rw [Nat.mul_zero, Nat.zero_add, Nat.zero_add]
      omega
theorem pow_len : ∀ (l : List UInt8), dgs l → l.headD 48 ≠ 48 → 10 ^ (l.length - 1) ≤ dvf 0 l
  | [], _, h => absurd rfl h
  | c :: r, hd, h => by
    have hc := hd c (by simp)
    have h48 : (48 : UInt8).toNat = 48 := rfl
    have hne : c.toNat ≠ 48 := fun e => h (show c = 48 from UInt8.toNat_inj.1 (by rw [e, h48]))
    rw [dvf_cons, dvf_eq, List.length_cons, Nat.add_sub_cancel]
    have : 1 * 10 ^ r.length ≤ (10 * 0 + (c.toNat - 48)) * 10 ^ r.length := Nat.mul_le_mul_right _ (by omega)
    omega
def mostP : List UInt8 := [57, 50, 50, 51, 51, 55, 50, 48, 51, 54, 56, 53, 52, 55, 55, 53, 56, 48, 55]
def mostN : List UInt8 := [57, 50, 50, 51, 51, 55, 50, 48, 51, 54, 56, 53, 52, 55, 55, 53, 56, 48, 56]
def magOf (l : List UInt8) : List UInt8 := if l.headD 0 = 45 then l.tail else l
def bigOf (l : List UInt8) : List UInt8 := if l.headD 0 = 45 then mostN else mostP
def gtB (x y : List UInt8) : Bool := !(Op.bytesLess x y || x == y)
def sgn (l : List UInt8) (n : Nat) : Int := if l.headD 0 = 45 then -(n : Int) else (n : Int)
def badW (l : List UInt8) : Prop := magOf l = [] ∨ ((magOf l).headD 0 = 48 ∧ l ≠ [48]) ∨ 19 < (magOf l).length ∨ ((magOf l).length = 19 ∧ gtB (magOf l) (bigOf l) = true) ∨ ¬ dgs (magOf l)
instance (l : List UInt8) : Decidable (dgs l) := inferInstanceAs (Decidable (∀ c ∈ l, 48 ≤ c.toNat ∧ c.toNat ≤ 57))
instance (l : List UInt8) : Decidable (badW l) := by unfold badW; infer_instance
/-- The document's whole. -/
def refWhole (l : List UInt8) : Option Int := if badW l then none else some (sgn l (dvf 0 (magOf l)))
theorem big_dgs (l : List UInt8) : dgs (bigOf l) ∧ (bigOf l).length = 19 ∧ dvf 0 (bigOf l) = if l.headD 0 = 45 then 9223372036854775808 else 9223372036854775807 := by
  unfold bigOf
  split
  · exact ⟨by decide, rfl, rfl⟩
  · exact ⟨by decide, rfl, rfl⟩
theorem gt_dv {d : List UInt8} (l : List UInt8) (hd : dgs d) (h : d.length = 19) : gtB d (bigOf l) = decide (dvf 0 (bigOf l) < dvf 0 d) := by
  obtain ⟨b1, b2, -⟩ := big_dgs l
  unfold gtB
  rw [less_dv d (bigOf l) (by rw [h, b2]) hd b1]
  by_cases e : d = bigOf l
  · subst e
    simp
  · have hne : dvf 0 d ≠ dvf 0 (bigOf l) := fun h2 => by
      have x1 := less_dv d (bigOf l) (by rw [h, b2]) hd b1
      have x2 := less_dv (bigOf l) d (by rw [h, b2]) b1 hd
      rw [h2] at x1 x2
      have : ∀ (a b : List UInt8), a.length = b.length → Op.bytesLess a b = false → Op.bytesLess b a = false → a = b := by
        intro a
        induction a with
        | nil => intro b hl _ _; exact (List.length_eq_zero_iff.1 hl.symm).symm
        | cons x a ih =>
          intro b hl g1 g2
          cases b with
          | nil => simp at hl
          | cons y b =>
            rw [Op.bytesLess, Bool.or_eq_false_iff] at g1 g2
            have n1 : ¬ x < y := of_decide_eq_false g1.1
            have n2 : ¬ y < x := of_decide_eq_false g2.1
            rw [UInt8.lt_iff_toNat_lt] at n1 n2
            have hxy : x = y := UInt8.toNat_inj.1 (by omega)
            subst hxy
            rw [ih b (by simpa using hl) (by simpa using g1.2) (by simpa using g2.2)]
      exact e (this d (bigOf l) (by rw [h, b2]) (by rw [x1]; simp) (by rw [x2]; simp))
    have e2 : (d == bigOf l) = false := by simpa using e
    rw [e2, Bool.or_false]
    by_cases hlt : dvf 0 d < dvf 0 (bigOf l)
    · rw [decide_eq_true hlt, decide_eq_false (by omega)]; rfl
    · rw [decide_eq_false hlt, decide_eq_true (by omega)]; rfl
theorem atoi_neg {u : Nat} (h : u ≤ 9223372036854775808) : Lib.atoiAll (45 :: Lib.decDigits u) = .ok (-(u : Int)) := by
  have hp := parse_dec u u (Nat.le_refl _) (by omega)
  have hne := dec_ne u
  unfold Lib.atoiAll
  simp only
  have h45 : (45 : UInt8).toNat = 45 := rfl
  rw [if_pos (Or.inr h45)]
  unfold Lib.parseMag
  rw [if_neg hne, hp]
  simp only
  rw [if_neg (by simp [h45]), if_neg (by omega)]
  simp [h45]
theorem numL_neg {u : Nat} (h0 : u ≠ 0) (h : u ≤ 9223372036854775808) : numL (45 :: Lib.decDigits u) = some (-(u : Int)) := by
  have e : Lib.itoa (-(u : Int)) = 45 :: Lib.decDigits u := by
    unfold Lib.itoa
    rw [if_pos (by omega)]
    simp
  unfold numL
  rw [atoi_neg h]
  simp only
  rw [if_pos e]
/-- They are one. -/
theorem whole_num (l : List UInt8) : refWhole l = numL l := by
  by_cases hb : badW l
  · unfold refWhole
    rw [if_pos hb]
    symm
    cases hn : numL l with
    | none => rfl
    | some n =>
      exfalso
      have hi := numL_back hn
      have hr : -9223372036854775808 ≤ n ∧ n ≤ 9223372036854775807 := by
        unfold numL at hn
        split at hn
        · rename_i v e
          split at hn
          · cases hn; exact atoi_range e
          · cases hn
        · cases hn
      -- the digits of a number that there is
      have key : ∀ u : Nat, magOf l = Lib.decDigits u → (u = 0 → l = [48]) → u ≤ dvf 0 (bigOf l) → False := fun u hm h0 hu => by
        have hdg : dgs (magOf l) := by rw [hm]; exact dec_digit u u (Nat.le_refl _)
        have hdv : dvf 0 (magOf l) = u := by rw [hm]; exact dv_dec u u (Nat.le_refl _)
        have hbg := big_dgs l
        have hbl : dvf 0 (bigOf l) ≤ 9223372036854775808 := by rw [hbg.2.2]; split <;> omega
        rcases hb with hb | ⟨hb, hb2⟩ | hb | ⟨hb, hb2⟩ | hb
        · rw [hm] at hb; exact dec_ne u hb
        · by_cases hu0 : u = 0
          · exact hb2 (h0 hu0)
          · rw [hm] at hb
            exact dec_head u u (Nat.le_refl _) hu0 hb
        · by_cases hu0 : u = 0
          · rw [hm, hu0, dec_small (by omega)] at hb; simp at hb
          · have h48 : (magOf l).headD 48 ≠ 48 := by
              have := dec_head u u (Nat.le_refl _) hu0
              rw [hm]
              cases e : Lib.decDigits u with
              | nil => exact absurd e (dec_ne u)
              | cons x y => rw [e] at this; exact this
            have := pow_len _ hdg h48
            have hp : 10 ^ 19 ≤ 10 ^ ((magOf l).length - 1) := Nat.pow_le_pow_right (by omega) (by omega)
            omega
        · rw [gt_dv l hdg hb] at hb2
          have := of_decide_eq_true hb2
          omega
        · exact hb hdg
      by_cases hneg : n < 0
      · obtain ⟨u, hu⟩ : ∃ u : Nat, n = -(u : Int) := ⟨n.natAbs, by omega⟩
        have hl : l = 45 :: Lib.decDigits u := by
          rw [← hi, hu]
          unfold Lib.itoa
          rw [if_pos (by omega)]
          simp
        refine key u (by rw [hl]; rfl) (by omega) ?_
        rw [(big_dgs l).2.2, hl]
        show u ≤ if (45 : UInt8) = 45 then _ else _
        rw [if_pos rfl]
        omega
      · obtain ⟨u, hu⟩ : ∃ u : Nat, n = (u : Int) := ⟨n.toNat, by omega⟩
        have hl : l = Lib.decDigits u := by rw [← hi, hu, Lib.itoa_nonneg]
        have h45 : l.headD 0 ≠ 45 := by
          intro e
          have hd := dec_digit u u (Nat.le_refl _)
          rw [← hl] at hd
          cases l with
          | nil => cases e
          | cons x y =>
            have := hd x (by simp)
            have e : x = 45 := e
            subst e
            have h45 : (45 : UInt8).toNat = 45 := rfl
            omega
        refine key u (by unfold magOf; rw [if_neg h45]; exact hl) (fun h0 => by rw [hl, h0, dec_small (by omega)]; rfl) ?_
        rw [(big_dgs l).2.2, if_neg h45]
        omega
  · have hb' := hb
    unfold refWhole
    rw [if_neg hb]
    unfold badW at hb'
    simp only [not_or, Decidable.not_not] at hb'
    obtain ⟨h1, h2, h3, h4, h5⟩ := hb'
    have hval : dvf 0 (magOf l) ≤ dvf 0 (bigOf l) := by
      by_cases h19 : (magOf l).length = 19
      · have : ¬ gtB (magOf l) (bigOf l) = true := fun h => h4 ⟨h19, h⟩
        rw [gt_dv l h5 h19] at this
        have h9 : decide (dvf 0 (bigOf l) < dvf 0 (magOf l)) = false := by simpa only [Bool.not_eq_true] using this
        have := of_decide_eq_false h9
        omega
      · have hlt := dvf_lt _ h5
        have hp : 10 ^ (magOf l).length ≤ 10 ^ 18 := Nat.pow_le_pow_right (by omega) (by omega)
        have : 9223372036854775807 ≤ dvf 0 (bigOf l) := by rw [(big_dgs l).2.2]; split <;> omega
        omega
    by_cases h45 : l.headD 0 = 45
    · have hl : l = 45 :: magOf l := by
        cases l with
        | nil => cases h45
        | cons x y =>
          have h45 : x = 45 := h45
          subst h45
          rfl
      have h48 : (magOf l).headD 0 ≠ 48 := fun h => h2 ⟨h, by rw [hl]; simp⟩
      have hdec := dec_of _ (magOf l) (Nat.le_refl _) h5 h1 (Or.inl h48)
      have h0 : dvf 0 (magOf l) ≠ 0 := fun h => by
        rw [h, dec_small (by omega)] at hdec
        rw [← hdec] at h48
        exact h48 rfl
      rw [(big_dgs l).2.2, if_pos h45] at hval
      have := numL_neg h0 hval
      rw [hdec, ← hl] at this
      rw [this]
      unfold sgn
      rw [if_pos h45]
    · have hm : magOf l = l := by unfold magOf; rw [if_neg h45]
      rw [(big_dgs l).2.2, if_neg h45] at hval
      unfold sgn
      rw [if_neg h45]
      rw [hm] at h1 h2 h5 hval ⊢
      have hh : l.headD 0 ≠ 48 ∨ l.length = 1 := by
        by_cases h48 : l.headD 0 = 48
        · right
          have : l = [48] := Decidable.not_not.1 fun h => h2 ⟨h48, h⟩
          rw [this]; rfl
        · exact Or.inl h48
      have hdec := dec_of _ l (Nat.le_refl _) h5 h1 hh
      have := numL_itoa (n := (dvf 0 l : Int)) (by omega) (by omega)
      rw [Lib.itoa_nonneg, hdec] at this
      exact this.symm
end Go.Proofs.YtlaagfnoepcnlaaDoor.Ln
/- The document's partsOf: words, parted by single blanks. -/
namespace Go.Proofs.YtlaagfnoepcnlaaDoor.Ln
open Go.ChangeShapes Go.WideShapes Go.ChangeAt Go.RowKit
open Go.Proofs.YtlaagfnoepcnlaaDoor.St (BoxN boxn_new own_below IsRow Elem flat flat_append own_isRow)
open Go.Proofs.YtlaagfnoepcnlaaDoor.Cn (spl spl_ne spl_none spl_blank)
set_option linter.unusedVariables false

/-- A word begun, and the rest. -/
def spl2 (cur : List UInt8) (r : List UInt8) : List (List UInt8) := match spl r with
  | [] => [cur]
  | x :: xs => (cur ++ x) :: xs
theorem spl2_nil (l : List UInt8) : spl2 [] l = spl l := by
  unfold spl2
  cases h : spl l with
  | nil => exact absurd h (spl_ne l)
  | cons x xs => rfl
theorem spl2_end (cur : List UInt8) : spl2 cur [] = [cur] := by simp [spl2, spl]
theorem spl2_blank (cur r : List UInt8) : spl2 cur (32 :: r) = cur :: spl r := by simp [spl2, spl]
theorem spl2_more (cur r : List UInt8) (c : UInt8) (h : c ≠ 32) : spl2 cur (c :: r) = spl2 (cur ++ [c]) r := by
  unfold spl2
  rw [spl, if_neg h]
  cases hq : spl r with
  | nil => exact absurd hq (spl_ne r)
  | cons x xs => simp
theorem ext_list (s : ByteArray) (f k : Nat) (hf : f ≤ k) (hk : k ≤ s.size) : (s.extract f k).data.toList = (s.data.toList.take k).drop f := by
  rw [ByteArray.data_extract, Array.toList_extract, List.extract_eq_drop_take']
theorem slice_at (s : ByteArray) (f k : Nat) (hf : f ≤ k) (hk : k ≤ s.size) (U : World) : (Instr.slice 9 (.string s) (some (.int .i64 (f : Int))) (some (.int .i64 (k : Int))) none).run Tryd.prog U = .ok (.string (s.extract f k)) U := by
  rw [run_slice_string (P := Tryd.prog) U 9 s .i64 .i64 (f : Int) (k : Int) (by kernel_rfl) (by omega) (by omega) (by omega)]
  rfl
theorem str_at (s : ByteArray) (k : Nat) (hk : k < s.size) : ∃ C : Nat, C ≤ 255 ∧ (∀ U : World, (Instr.index 9 (.string s) (.int .i64 (k : Int))).run Tryd.prog U = .ok (.int .u8 (C : Int)) U) ∧ ∃ c : UInt8, c.toNat = C ∧ s.data.toList.drop k = c :: s.data.toList.drop (k + 1) := by
  have hl : k < s.data.toList.length := hk
  refine ⟨(s.data.toList[k]).toNat, ?_, fun U => ?_, s.data.toList[k], rfl, List.drop_eq_getElem_cons hl⟩
  · have := (s.data.toList[k]).toNat_lt; omega
  · rw [run_index_string (P := Tryd.prog) U 9 s .i64 (k : Int) (by kernel_rfl), dif_pos ⟨by omega, by omega⟩]
    rfl
def IsStrs (w : World) (a : Option Addr) (n c : Nat) (ws : List ByteArray) : Prop :=
  ws.length = n ∧ n ≤ c ∧ c ≤ maxLen ∧ (0 < n → ∃ b off, a = some ⟨b, off, none⟩ ∧ b < w.heap.size ∧ ∀ i, i < n → w.cell? ⟨b, off + i, none⟩ = some (.string (ws.getD i .empty)))
theorem IsStrs.below {w u : World} {a : Option Addr} {n c : Nat} {ws : List ByteArray} (h : IsStrs w a n c ws) (hb : Below w.heap.size w u) : IsStrs u a n c ws := by
  obtain ⟨h1, h2, h3, h4⟩ := h
  refine ⟨h1, h2, h3, fun h0 => ?_⟩
  obtain ⟨b, off, e, hl, hc⟩ := h4 h0
  exact ⟨b, off, e, Nat.lt_of_lt_of_le hl hb.size, fun i hi => (hb.cell (p := ⟨b, off + i, none⟩) hl).trans (hc i hi)⟩
def txt (ws : List ByteArray) : List (List UInt8) := ws.map (·.data.toList)
theorem strs_of {w : World} {a : Option Addr} {n c : Nat} {ws : List ByteArray} (h : IsRow 1 stC w a n c ws) : IsStrs w a n c ws := by
  obtain ⟨h1, h2, h3, _, h4⟩ := h
  refine ⟨h1, h2, h3, fun h0 => ?_⟩
  obtain ⟨b, off, e, hl, hc⟩ := h4 h0
  refine ⟨b, off, e, hl, fun i hi => ?_⟩
  have := hc i hi 0 (by decide)
  rw [Nat.mul_one, Nat.add_zero] at this
  rw [this]
  have hi2 : i < ws.length := by omega
  simp [stC, List.getD, hi2]
set_option maxRecDepth 100000 in
set_option maxHeartbeats 4000000 in
theorem parts_any (s : ByteArray) (w : World) (hs : s.size ≤ 8000000000000) :
    Calls Tryd.prog 58 #[.string s] w fun e w' => ∃ a n c ws, e = .returned (.slice a n c) ∧ IsStrs w' a n c ws ∧ txt ws = spl s.data.toList ∧ Below w.heap.size w w' := by
  obtain ⟨iE, ES⟩ := stElem
  obtain ⟨R, eR⟩ : ∃ R, R = spl s.data.toList := ⟨_, rfl⟩
  have HR : Hid (R = txt [] ++ (if (0 : Nat) ≤ s.size then spl2 ((s.data.toList.take 0).drop 0) (s.data.toList.drop 0) else [])) := by
    show _ = _
    rw [eR, if_pos (by omega)]
    simp [txt, spl2_nil]
  rw [← eR]
  clear eR
  go_enter Tryd.func58, Tryd.ntmps58
  go_wp2
  go_loopw [3, 4, 5] (fun s3 s4 s5 wr => ∃ (k fr n : Nat) (pa : Option Addr) (pc : Nat) (ws : List ByteArray), s3 = .slice pa n pc ∧ s4 = .int .i64 (fr : Int) ∧ s5 = .int .i64 (k : Int) ∧ fr ≤ k ∧ k ≤ s.size + 1 ∧ n ≤ k ∧ ws.length = n ∧ wr.ownsRow w.heap.size 9 1 (.slice pa n pc) n (St.flat stC ws) ∧ Hid (R = txt ws ++ (if k ≤ s.size then spl2 ((s.data.toList.take k).drop fr) (s.data.toList.drop k) else [])) ∧ Below w.heap.size w wr) (fun _ _ s5 _ => s.size + 1 - (intOf s5).toNat)
  case atStart => exact ⟨0, 0, 0, none, 0, [], rfl, rfl, rfl, by omega, by omega, by omega, rfl, World.ownsRow_nil _ _ _ _, HR, Below.refl _ _⟩
  case round =>
    obtain ⟨k, fr, n, pa, pc, ws, rfl, rfl, rfl, hf, hk, hn, hws, hO, hP, hb⟩ := hrel
    clear HR
    by_cases hle : k ≤ s.size
    · have hle' : (k : Int) ≤ (s.size : Int) := by omega
      have hsl := slice_at s fr k hf hle
      have hk1 : IntKind.i64.wrap ((k : Int) + 1) = (k : Int) + 1 := by simp [IntKind.wrap, IntKind.bits, IntKind.signed]; omega
      have HP1 : Hid (R = txt ws ++ spl2 ((s.data.toList.take k).drop fr) (s.data.toList.drop k)) := by show _ = _; rw [hP.out, if_pos hle]
      clear hP
      have hX := ext_list s fr k hf hle
      -- a word ends here
      have HW : Hid (∀ (r : List (List UInt8)), R = txt ws ++ ((s.data.toList.take k).drop fr :: r) → R = txt (ws ++ [s.extract fr k]) ++ r) := fun r h => by
        rw [h, txt, txt, List.map_append, List.append_assoc, ← hX]
        rfl
      obtain ⟨U, eU⟩ : ∃ U : World, U = wr.alloc (.cells #[.string (s.extract fr k)] 9) := ⟨_, rfl⟩
      have bU : Below wr.heap.size wr U := by rw [eU]; exact (Below.refl _ _).alloc (Nat.le_refl _) _
      have hbU : Below w.heap.size w U := hb.trans (bU.mono hb.size)
      have hone : IsRow 1 stC U (some ⟨wr.heap.size, 0, none⟩) 1 1 [s.extract fr k] := by rw [eU]; exact words1 wr (s.extract fr k) _ rfl
      have hOU : U.ownsRow w.heap.size 9 1 (.slice pa n pc) n (St.flat stC ws) := own_below hO bU
      have HEND : Hid (∀ a5 c5 w5, w5.ownsRow w.heap.size 9 1 (.slice a5 (n + 1) c5) (n + 1) (St.flat stC (ws ++ [s.extract fr k])) → U.grownBy w5 (Value.slice pa n pc).ownBlock → Below w.heap.size w w5) := fun a5 c5 w5 h5 hg => hbU.grown hg hbU.size (fun g eg => (hOU.lt g eg).1)
      clear hX
      by_cases hend : k = s.size
      · subst hend
        have HF : Hid (R = txt (ws ++ [s.extract fr s.size]) ++ []) := HW.out _ (by rw [HP1.out, List.drop_eq_nil_of_le (show s.data.toList.length ≤ s.size from Nat.le_refl _), spl2_end])
        clear HP1 HW
        go_wp2_with (at_builtin; go_loud (rw [← eU]; refine St.wpList_append_row ES (by rfl) _ _ (by rfl) w.heap.size (.slice pa n pc) n ws (by rfl) hOU _ 1 1 [s.extract fr s.size] (by rfl) hone (by unfold maxLen; omega) (by omega) hbU.size ?_; intro a5 c5 w5 own5 gr5 at5; have hb5 := HEND.out a5 c5 w5 own5 gr5))
        all_goals
          go_roundw
          case rel => exact ⟨s.size + 1, s.size + 1, n + 1, a5, c5, ws ++ [s.extract fr s.size], rfl, by go_num, by go_num, by omega, by omega, by omega, by simp [hws], own5, by show _ = _; rw [if_neg (by omega)]; exact HF.out, hb5⟩
          case measure => simp [intOf]
      · have hlt : k < s.size := by omega
        have hend' : ¬ (k : Int) = (s.size : Int) := by omega
        obtain ⟨C, hC, hx, c, hcc, hd⟩ := str_at s k hlt
        by_cases h32 : C = 32
        · have hc32 : c = 32 := UInt8.toNat_inj.1 (by rw [hcc, h32]; rfl)
          subst h32
          have HF : Hid (R = txt (ws ++ [s.extract fr k]) ++ (if k + 1 ≤ s.size then spl2 ((s.data.toList.take (k + 1)).drop (k + 1)) (s.data.toList.drop (k + 1)) else [])) := HW.out _ (by
            rw [HP1.out, hd, hc32, spl2_blank, if_pos (by omega)]
            rw [show (s.data.toList.take (k + 1)).drop (k + 1) = [] from List.drop_eq_nil_of_le (by simp; omega), spl2_nil])
          clear HP1 HW hd hcc hc32
          go_wp2_with (at_builtin; go_loud (rw [← eU]; refine St.wpList_append_row ES (by rfl) _ _ (by rfl) w.heap.size (.slice pa n pc) n ws (by rfl) hOU _ 1 1 [s.extract fr k] (by rfl) hone (by unfold maxLen; omega) (by omega) hbU.size ?_; intro a5 c5 w5 own5 gr5 at5; have hb5 := HEND.out a5 c5 w5 own5 gr5))
          all_goals
            go_roundw
            case rel => exact ⟨k + 1, k + 1, n + 1, a5, c5, ws ++ [s.extract fr k], rfl, by go_num, by go_num, by omega, by omega, by omega, by simp [hws], own5, HF, hb5⟩
            case measure => simp [intOf]; omega
        · have hc32 : c ≠ 32 := fun e => h32 (by rw [← hcc, e]; rfl)
          have hb1 : ((k : Int) == (s.size : Int)) = false := beq_eq_false_iff_ne.2 hend'
          have hb2 : ((C : Int) == 32) = false := beq_eq_false_iff_ne.2 (by omega)
          have HF : Hid (R = txt ws ++ (if k + 1 ≤ s.size then spl2 ((s.data.toList.take (k + 1)).drop fr) (s.data.toList.drop (k + 1)) else [])) := by
            show _ = _
            rw [HP1.out, hd, spl2_more _ _ _ hc32, if_pos (by omega)]
            congr 2
            have hl : k < s.data.toList.length := hlt
            have hc : c = s.data.toList[k] := by
              have := List.drop_eq_getElem_cons hl
              rw [hd] at this
              exact (List.cons.inj this).1
            rw [List.take_succ_eq_append_getElem hl, List.drop_append_of_le_length (by simp; omega), hc]
          clear HP1 HW hd hcc hc32 HEND hone hOU hbU bU eU
          go_wp2
          go_roundw
          case rel => exact ⟨k + 1, fr, n, pa, pc, ws, rfl, rfl, by go_num, by omega, by omega, by omega, hws, hO, HF, hb⟩
          case measure => simp [intOf]; omega
    · obtain rfl : k = s.size + 1 := by omega
      have hnl : ¬ (((s.size + 1 : Nat) : Int) ≤ (s.size : Int)) := by omega
      have HF : Hid (R = txt ws) := by show _ = _; rw [hP.out, if_neg (by omega), List.append_nil]
      have hrow := (own_isRow st_len hO hws).1
      clear hP
      go_wp2
      go_ret
      exact ⟨pa, n, pc, rfl, ws, strs_of hrow, HF.out.symm, hb⟩
end Go.Proofs.YtlaagfnoepcnlaaDoor.Ln
