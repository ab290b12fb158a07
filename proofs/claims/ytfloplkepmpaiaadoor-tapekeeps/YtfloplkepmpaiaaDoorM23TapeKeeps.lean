/- Texts of this claim, one behind the other. -/
import Derived.Test.YtfloplkepmpaiaaDoorM21TapeKeeps
import Derived.Test.YtfloplkepmpaiaaDoorM14TapeKeeps
import Derived.Test.YtfloplkepmpaiaaDoorM19TapeKeeps
import Derived.Test.YtfloplkepmpaiaaDoorM16TapeKeeps
import Derived.Test.YtfloplkepmpaiaaDoorM20TapeKeeps
/- Records off bytes, on plain data: what was written is read as it was, with a byte more it is none; what is read is written as it was; what is torn is short. -/
namespace Go.Proofs.YtfloplkepmpaiaaDoor
open Go.ChangeShapes Go.WideShapes Go.ChangeAt Go.RowKit
set_option linter.unusedVariables false

theorem kindR_eq {r : RS} {k : Nat} (hk : 1 ≤ k ∧ k ≤ 6) (h : (r.num 1).1 = k) : r.kind 7 = r.num 1 := by unfold RS.kind; rw [if_neg (by omega)]
theorem sites_zero (r : RS) : r.sites 0 = ([], r) := rfl

theorem decR_1 (r : RS) (h : (r.num 1).1 = ((1 : Nat) : Int)) : decRecRS r = (⟨1, (rdNums [1, 1, 3, 1, 4, 3] r).1.getD 1 0, (rdNums [1, 1, 3, 1, 4, 3] r).1.getD 2 0, (rdNums [1, 1, 3, 1, 4, 3] r).1.getD 3 0, (rdNums [1, 1, 3, 1, 4, 3] r).1.getD 4 0, (rdNums [1, 1, 3, 1, 4, 3] r).1.getD 5 0, false, none, 0, 0, []⟩, (rdNums [1, 1, 3, 1, 4, 3] r).2) := by
  unfold decRecRS
  rw [kindR_eq (k := 1) (by omega) h, h]
  simp [rHasOf, rHas, widL, decParts, part_no, recMk, rdNums, List.getD, RS.sites]
theorem decR_y (r : RS) (k : Nat) (hk : k = 2 ∨ k = 6) (h : (r.num 1).1 = (k : Int)) : decRecRS r = (⟨(k : Int), (rdNums [1, 1, 3, 1] r).1.getD 1 0, (rdNums [1, 1, 3, 1] r).1.getD 2 0, 0, 0, 0, decide ((rdNums [1, 1, 3, 1] r).1.getD 3 0 = 1), none, 0, 0, []⟩, (rdNums [1, 1, 3, 1] r).2.truth ((rdNums [1, 1, 3, 1] r).1.getD 3 0)) := by
  unfold decRecRS
  rw [kindR_eq (k := k) (by omega) h, h]
  rcases hk with rfl | rfl
  all_goals simp [rHasOf, rHas, widL, decParts, part_yes, recMk, rdNums, List.getD, RS.sites]
theorem decR_n (r : RS) (k : Nat) (hk : k = 4 ∨ k = 5) (h : (r.num 1).1 = (k : Int)) : decRecRS r = (⟨(k : Int), (rdNums [1, 1, 3] r).1.getD 1 0, (rdNums [1, 1, 3] r).1.getD 2 0, 0, 0, 0, false, none, 0, 0, []⟩, (rdNums [1, 1, 3] r).2) := by
  unfold decRecRS
  rw [kindR_eq (k := k) (by omega) h, h]
  rcases hk with rfl | rfl
  all_goals simp [rHasOf, rHas, widL, decParts, recMk, rdNums, List.getD, RS.sites]
theorem decR_3 (r : RS) (h : (r.num 1).1 = ((3 : Nat) : Int)) : decRecRS r = (⟨3, (rdNums [1, 1, 3, 1] r).1.getD 1 0, (rdNums [1, 1, 3, 1] r).1.getD 2 0, 0, 0, 0, false, none, ((rdNums [1, 1, 3, 1] r).2.sites ((rdNums [1, 1, 3, 1] r).1.getD 3 0)).1.length, 0, ((rdNums [1, 1, 3, 1] r).2.sites ((rdNums [1, 1, 3, 1] r).1.getD 3 0)).1⟩, ((rdNums [1, 1, 3, 1] r).2.sites ((rdNums [1, 1, 3, 1] r).1.getD 3 0)).2) := by
  unfold decRecRS
  rw [kindR_eq (k := 3) (by omega) h, h]
  simp [rHasOf, rHas, widL, decParts, part_no, recMk, rdNums, List.getD]

theorem decR_empty : (decRecRS ⟨[], 0⟩).2.wrong = 5 := by decide
theorem decR_nokind (r : RS) (h : r.wrong = 0) (hl : 0 < r.rest.length) (hk : (r.num 1).1 = 0 ∨ 7 ≤ (r.num 1).1) : (decRecRS r).2.wrong = 3 := by
  have hn := num_ok h (show 1 ≤ r.rest.length by omega)
  have hkd : r.kind 7 = (0, ⟨r.rest.drop 1, 3⟩) := by
    unfold RS.kind
    rw [if_pos hk, hn]
    simp [RS.refuse]
  obtain ⟨q, hq⟩ : ∃ q, q = r.rest.drop 1 := ⟨_, rfl⟩
  rw [← hq] at hkd
  clear hq
  have h1 : ∀ k, RS.num ⟨q, 3⟩ k = (0, ⟨q, 3⟩) := fun k => num_wrong (by simp)
  unfold decRecRS
  simp [hkd, h1, rHasOf, rHas, decParts, widL, RS.sites, rdNums]

/-- A record's bytes by its kind. -/
theorem recBytes_1 {r : RcV} (hk : r.kind = 1) (hs : r.sites = []) (h3 : 0 ≤ r.site ∧ r.site < 256) : recBytes r = wrNums [1, 1, 3, 1, 4, 3] [1, r.site, r.num, r.key, r.value, r.ask] := by
  rw [wr_one (by omega) (by omega), wr_one h3.1 h3.2]
  simp [recBytes, hk, hs, rHasOf, rHas, widL, encParts, RcV.parts, wrNums]
theorem recBytes_y {r : RcV} {k : Nat} (hk : r.kind = k) (hk' : k = 2 ∨ k = 6) (hs : r.sites = []) (h3 : 0 ≤ r.site ∧ r.site < 256) : recBytes r = wrNums [1, 1, 3, 1] [(k : Int), r.site, r.num, bit r.yes] := by
  rw [wr_one (by omega) (by omega), wr_one h3.1 h3.2]
  rcases hk' with rfl | rfl
  all_goals simp [recBytes, hk, hs, rHasOf, rHas, widL, encParts, RcV.parts, wrNums]
theorem recBytes_n {r : RcV} {k : Nat} (hk : r.kind = k) (hk' : k = 4 ∨ k = 5) (hs : r.sites = []) (h3 : 0 ≤ r.site ∧ r.site < 256) : recBytes r = wrNums [1, 1, 3] [(k : Int), r.site, r.num] := by
  rw [wr_one (by omega) (by omega), wr_one h3.1 h3.2]
  rcases hk' with rfl | rfl
  all_goals simp [recBytes, hk, hs, rHasOf, rHas, widL, encParts, RcV.parts, wrNums]
theorem wr_sites : ∀ (zs : List Int), (∀ z ∈ zs, 0 ≤ z ∧ z < 256) → wrNums (List.replicate zs.length 1) zs = zs := by
  intro zs
  induction zs with
  | nil => intro _; rfl
  | cons z zs ih =>
    intro h
    have hz := h z (by simp)
    rw [List.length_cons, List.replicate_succ, wr_one hz.1 hz.2, ih (fun x hx => h x (by simp [hx]))]
theorem fits_sites : ∀ (zs : List Int), (∀ z ∈ zs, 0 ≤ z ∧ z < 256) → fits (List.replicate zs.length 1) zs = true := by
  intro zs
  induction zs with
  | nil => intro _; rfl
  | cons z zs ih =>
    intro h
    have hz := h z (by simp)
    rw [List.length_cons, List.replicate_succ, fits, ih (fun x hx => h x (by simp [hx]))]
    simpa using hz
theorem fits_mem : ∀ (zs : List Int), fits (List.replicate zs.length 1) zs = true → ∀ z ∈ zs, 0 ≤ z ∧ z < 256 := by
  intro zs
  induction zs with
  | nil => intro _ z hz; cases hz
  | cons x zs ih =>
    intro h z hz
    rw [List.length_cons, List.replicate_succ, fits, Bool.and_eq_true, decide_eq_true_eq] at h
    rcases List.mem_cons.1 hz with rfl | hz
    · simpa using h.1
    · exact ih h.2 z hz
theorem width_rep : ∀ (n : Nat), widthOf (List.replicate n 1) = n := by
  intro n
  induction n with
  | zero => rfl
  | succ n ih => simp only [widthOf, List.replicate_succ, List.foldr_cons] at ih ⊢; omega
theorem recBytes_3 {r : RcV} (hk : r.kind = 3) (h3 : 0 ≤ r.site ∧ r.site < 256) : recBytes r = wrNums [1, 1, 3, 1] [3, r.site, r.num, (r.sl : Int)] ++ r.sites := by
  rw [wr_one (by omega) (by omega), wr_one h3.1 h3.2]
  simp [recBytes, hk, rHasOf, rHas, widL, encParts, RcV.parts, wrNums]

/-- What of a record that may be is known. -/
theorem may_rec2 {s : Int} {ls : List (Int × Int)} {p : Int} {r : RcV} (h : recFault s ls p r = 0) : cfgFault s ls p = 0 ∧ (1 ≤ r.kind ∧ r.kind ≤ 6) ∧ (0 ≤ r.site ∧ r.site < 256) ∧ (0 ≤ r.num ∧ r.num < 16777216) ∧ (0 ≤ r.key ∧ r.key < 256) ∧ (0 ≤ r.value ∧ r.value < 4294967296) ∧ (0 ≤ r.ask ∧ r.ask < 16777216) ∧ r.sl ≤ 4 ∧ (∀ z ∈ r.sites, 0 ≤ z ∧ z < 256) ∧ recForm r = true := by
  obtain ⟨hc, hk, hr, hf⟩ := may_rec h
  obtain ⟨s1, s4, n1, n6, _, _, _⟩ := cfg_zero hc
  have kb := inR_of hk
  simp only [recRange, txnOK, partsOK, inTops, topL, Bool.and_eq_true] at hr
  obtain ⟨⟨⟨a1, a2⟩, ⟨⟨a3, a4, a5, a6, a7, a8, a9, a10, _⟩, _⟩, _⟩, hri⟩ := hr
  have b1 := inR_of a1
  have b2 := inR_of a2
  have b4 := inR_of a4
  have b5 := inR_of a5
  have b7 := inR_of a7
  have b10 := inR_of a10
  exact ⟨hc, by omega, by omega, by omega, by omega, by omega, by omega, by omega, fun z hz => by have := rising_mem r.sites 0 hri (by omega) z hz; omega, hf⟩

/-- A RECORD IS READ AS IT WAS WRITTEN. -/
theorem decR_enc {s : Int} {ls : List (Int × Int)} {p : Int} {r : RcV} (h : recFault s ls p r = 0) (hl : r.sites.length = r.sl) (t : List Int) : decRecRS ⟨recBytes r ++ t, 0⟩ = (r.pl, ⟨t, 0⟩) := by
  obtain ⟨hc, hk, h3, hn, hkey, hv, ha, h4, hz, hf⟩ := may_rec2 h
  obtain ⟨kind, site, num, key, value, ask, yes, sa, sl, sc, sites⟩ := r
  simp only at hk h3 hn hkey hv ha h4 hz hl
  rcases (by omega : kind = 1 ∨ kind = 2 ∨ kind = 3 ∨ kind = 4 ∨ kind = 5 ∨ kind = 6) with rfl | rfl | rfl | rfl | rfl | rfl
  · have hs : sites = [] ∧ sl = 0 ∧ yes = false := by
      cases yes <;> simp [recForm, rHasOf, rHas, hasAll, bit] at hf
      obtain rfl := hf
      exact ⟨List.length_eq_zero_iff.1 hl, rfl, rfl⟩
    obtain ⟨rfl, rfl, rfl⟩ := hs
    rw [recBytes_1 rfl rfl h3]
    have hrd := rd_wr [1, 1, 3, 1, 4, 3] [1, site, num, key, value, ask] t (by simp [fits]; omega)
    have hf1 : (RS.num ⟨wrNums [1, 1, 3, 1, 4, 3] [1, site, num, key, value, ask] ++ t, 0⟩ 1).1 = ((1 : Nat) : Int) := by
      have := congrArg (fun x => x.1.getD 0 0) hrd
      simpa [rdNums] using this
    rw [decR_1 _ hf1, hrd]
    rfl
  · have hs : sites = [] ∧ sl = 0 ∧ key = 0 ∧ value = 0 ∧ ask = 0 := by
      cases yes <;> simp [recForm, rHasOf, rHas, hasAll, bit] at hf <;> exact ⟨List.length_eq_zero_iff.1 (by omega), by omega, by omega, by omega, by omega⟩
    obtain ⟨rfl, rfl, rfl, rfl, rfl⟩ := hs
    rw [recBytes_y (k := 2) rfl (.inl rfl) rfl h3]
    have hb : 0 ≤ bit yes ∧ bit yes < 256 := by cases yes <;> simp [bit]
    have hrd := rd_wr [1, 1, 3, 1] [((2 : Nat) : Int), site, num, bit yes] t (by simp [fits]; omega)
    have hf1 : (RS.num ⟨wrNums [1, 1, 3, 1] [((2 : Nat) : Int), site, num, bit yes] ++ t, 0⟩ 1).1 = ((2 : Nat) : Int) := by
      have := congrArg (fun x => x.1.getD 0 0) hrd
      simpa [rdNums] using this
    simp only at hrd hf1 ⊢
    rw [decR_y _ 2 (.inl rfl) hf1, hrd]
    simp only [List.getD_cons_succ, List.getD_cons_zero, truth_bit]
    cases yes <;> rfl
  · have hs : key = 0 ∧ value = 0 ∧ ask = 0 ∧ yes = false := by
      cases yes <;> simp [recForm, rHasOf, rHas, hasAll, bit] at hf
      exact ⟨by omega, by omega, by omega, rfl⟩
    obtain ⟨rfl, rfl, rfl, rfl⟩ := hs
    rw [recBytes_3 rfl h3, List.append_assoc]
    have hrd := rd_wr [1, 1, 3, 1] [3, site, num, (sl : Int)] (sites ++ t) (by simp [fits]; omega)
    have hf1 : (RS.num ⟨wrNums [1, 1, 3, 1] [3, site, num, (sl : Int)] ++ (sites ++ t), 0⟩ 1).1 = ((3 : Nat) : Int) := by
      have := congrArg (fun x => x.1.getD 0 0) hrd
      simpa [rdNums] using this
    have hrs := rd_wr (List.replicate sites.length 1) sites t (fits_sites sites hz)
    rw [wr_sites sites hz] at hrs
    simp only at hrd hf1 ⊢
    rw [decR_3 _ hf1, hrd]
    simp only [List.getD_cons_succ, List.getD_cons_zero, RS.sites, Int.toNat_natCast]
    rw [← hl, hrs]
    rfl
  · have hs : sites = [] ∧ sl = 0 ∧ key = 0 ∧ value = 0 ∧ ask = 0 ∧ yes = false := by
      cases yes <;> simp [recForm, rHasOf, rHas, hasAll, bit] at hf
      exact ⟨List.length_eq_zero_iff.1 (by omega), by omega, by omega, by omega, by omega, rfl⟩
    obtain ⟨rfl, rfl, rfl, rfl, rfl, rfl⟩ := hs
    rw [recBytes_n (k := 4) rfl (.inl rfl) rfl h3]
    have hrd := rd_wr [1, 1, 3] [((4 : Nat) : Int), site, num] t (by simp [fits]; omega)
    have hf1 : (RS.num ⟨wrNums [1, 1, 3] [((4 : Nat) : Int), site, num] ++ t, 0⟩ 1).1 = ((4 : Nat) : Int) := by
      have := congrArg (fun x => x.1.getD 0 0) hrd
      simpa [rdNums] using this
    simp only at hrd hf1 ⊢
    rw [decR_n _ 4 (.inl rfl) hf1, hrd]
    rfl
  · have hs : sites = [] ∧ sl = 0 ∧ key = 0 ∧ value = 0 ∧ ask = 0 ∧ yes = false := by
      cases yes <;> simp [recForm, rHasOf, rHas, hasAll, bit] at hf
      exact ⟨List.length_eq_zero_iff.1 (by omega), by omega, by omega, by omega, by omega, rfl⟩
    obtain ⟨rfl, rfl, rfl, rfl, rfl, rfl⟩ := hs
    rw [recBytes_n (k := 5) rfl (.inr rfl) rfl h3]
    have hrd := rd_wr [1, 1, 3] [((5 : Nat) : Int), site, num] t (by simp [fits]; omega)
    have hf1 : (RS.num ⟨wrNums [1, 1, 3] [((5 : Nat) : Int), site, num] ++ t, 0⟩ 1).1 = ((5 : Nat) : Int) := by
      have := congrArg (fun x => x.1.getD 0 0) hrd
      simpa [rdNums] using this
    simp only at hrd hf1 ⊢
    rw [decR_n _ 5 (.inr rfl) hf1, hrd]
    rfl
  · have hs : sites = [] ∧ sl = 0 ∧ key = 0 ∧ value = 0 ∧ ask = 0 := by
      cases yes <;> simp [recForm, rHasOf, rHas, hasAll, bit] at hf <;> exact ⟨List.length_eq_zero_iff.1 (by omega), by omega, by omega, by omega, by omega⟩
    obtain ⟨rfl, rfl, rfl, rfl, rfl⟩ := hs
    rw [recBytes_y (k := 6) rfl (.inr rfl) rfl h3]
    have hb : 0 ≤ bit yes ∧ bit yes < 256 := by cases yes <;> simp [bit]
    have hrd := rd_wr [1, 1, 3, 1] [((6 : Nat) : Int), site, num, bit yes] t (by simp [fits]; omega)
    have hf1 : (RS.num ⟨wrNums [1, 1, 3, 1] [((6 : Nat) : Int), site, num, bit yes] ++ t, 0⟩ 1).1 = ((6 : Nat) : Int) := by
      have := congrArg (fun x => x.1.getD 0 0) hrd
      simpa [rdNums] using this
    simp only at hrd hf1 ⊢
    rw [decR_y _ 6 (.inr rfl) hf1, hrd]
    simp only [List.getD_cons_succ, List.getD_cons_zero, truth_bit]
    cases yes <;> rfl

/-- NO RECORD HAS TWO FORMS. -/
theorem fin_zero {q : List Int} {e : Int} (h : (RS.fin ⟨q, e⟩).wrong = 0) : e = 0 ∧ q = [] := by
  unfold RS.fin RS.refuse at h
  split at h
  · split at h
    · simp at h
    · rename_i h1 h2
      simp only at h h1 h2
      first | exact absurd h h2 | exact absurd h2 (by omega)
  · rename_i h1
    exact ⟨h, List.length_eq_zero_iff.1 (by simpa using h1)⟩
theorem take_all {b : List Int} {n : Nat} (h : b.drop n = []) : b.take n = b := by
  have := List.take_append_drop n b
  rw [h, List.append_nil] at this
  exact this
theorem encR_dec {b : List Int} (hb : Byt b) (h : (decRecRS ⟨b, 0⟩).2.fin.wrong = 0) : recBytes (decRecRS ⟨b, 0⟩).1 = b := by
  by_cases hl : b.length = 0
  · obtain rfl := List.length_eq_zero_iff.1 hl
    rw [fin_wrong (by rw [decR_empty]; decide), decR_empty] at h
    cases h
  · by_cases hk : (RS.num ⟨b, 0⟩ 1).1 = 0 ∨ 7 ≤ (RS.num ⟨b, 0⟩ 1).1
    · have := decR_nokind ⟨b, 0⟩ rfl (by simp; omega) hk
      rw [fin_wrong (by rw [this]; decide), this] at h
      cases h
    · have hbd : 0 ≤ (RS.num ⟨b, 0⟩ 1).1 := by
        rw [num_ok rfl (show 1 ≤ b.length by omega)]
        exact (bval_bd 1 (b.take 1) (by simp; omega) (fun x hx => hb x (List.mem_of_mem_take hx))).1
      have e1 : ∀ ks, (rdNums (1 :: ks) ⟨b, 0⟩).1.getD 0 0 = (RS.num ⟨b, 0⟩ 1).1 := fun ks => rfl
      obtain ⟨k, ek⟩ : ∃ k : Nat, (RS.num ⟨b, 0⟩ 1).1 = k := ⟨(RS.num ⟨b, 0⟩ 1).1.toNat, by omega⟩
      rcases (by omega : k = 1 ∨ (k = 2 ∨ k = 6) ∨ (k = 4 ∨ k = 5) ∨ k = 3) with rfl | hkk | hkk | rfl
      · have e0 := e1 [1, 3, 1, 4, 3]
        rw [ek] at e0
        rw [decR_1 _ ek] at h ⊢
        simp only at h ⊢
        by_cases hw : widthOf [1, 1, 3, 1, 4, 3] ≤ b.length
        · obtain ⟨h1, h2, h3⟩ := rd_ok [1, 1, 3, 1, 4, 3] ⟨b, 0⟩ rfl hw hb
          have hln := rd_len [1, 1, 3, 1, 4, 3] ⟨b, 0⟩
          generalize hq : rdNums [1, 1, 3, 1, 4, 3] ⟨b, 0⟩ = q at h h1 h2 h3 hln e0 ⊢
          obtain ⟨q1, q2⟩ := q
          simp only at h h1 h2 h3 hln e0 ⊢
          subst h1
          have hall := take_all (fin_zero h).2
          match q1, hln with
          | [x0, x1, x2, x3, x4, x5], _ =>
            have e0' : x0 = 1 := e0
            subst e0'
            simp only [fits, Bool.and_eq_true, decide_eq_true_eq] at h2
            have g1 : 0 ≤ x1 ∧ x1 < 256 := by simpa using h2.2.1
            rw [recBytes_1 rfl rfl g1]
            exact h3.trans hall
        · have := rd_short [1, 1, 3, 1, 4, 3] ⟨b, 0⟩ rfl (by simp only; omega)
          rw [fin_wrong (by rw [this]; decide), this] at h
          cases h
      · have e0 := e1 [1, 3, 1]
        rw [ek] at e0
        rw [decR_y _ k hkk ek] at h ⊢
        simp only at h ⊢
        by_cases hw : widthOf [1, 1, 3, 1] ≤ b.length
        · obtain ⟨h1, h2, h3⟩ := rd_ok [1, 1, 3, 1] ⟨b, 0⟩ rfl hw hb
          have hln := rd_len [1, 1, 3, 1] ⟨b, 0⟩
          generalize hq : rdNums [1, 1, 3, 1] ⟨b, 0⟩ = q at h h1 h2 h3 hln e0 ⊢
          obtain ⟨q1, q2⟩ := q
          simp only at h h1 h2 h3 hln e0 ⊢
          subst h1
          match q1, hln with
          | [x0, x1, x2, x3], _ =>
            have e0' : x0 = (k : Int) := e0
            subst e0'
            simp only [fits, Bool.and_eq_true, decide_eq_true_eq] at h2
            have g1 : 0 ≤ x1 ∧ x1 < 256 := by simpa using h2.2.1
            have g3 : 0 ≤ x3 ∧ x3 < 256 := by simpa using h2.2.2.2.1
            have htr : ¬ 1 < x3 := by
              intro hlt
              simp [RS.truth, hlt, RS.refuse, RS.fin] at h
            have h' : (RS.fin ⟨b.drop (widthOf [1, 1, 3, 1]), 0⟩).wrong = 0 := by
              simpa [RS.truth, htr] using h
            have hall := take_all (fin_zero h').2
            have et : x3 = 0 ∨ x3 = 1 := by omega
            rw [recBytes_y rfl hkk rfl g1]
            rcases et with rfl | rfl <;> exact h3.trans hall
        · have := rd_short [1, 1, 3, 1] ⟨b, 0⟩ rfl (by simp only; omega)
          rw [truth_wrong (by rw [this]; decide), fin_wrong (by rw [this]; decide), this] at h
          cases h
      · have e0 := e1 [1, 3]
        rw [ek] at e0
        rw [decR_n _ k hkk ek] at h ⊢
        simp only at h ⊢
        by_cases hw : widthOf [1, 1, 3] ≤ b.length
        · obtain ⟨h1, h2, h3⟩ := rd_ok [1, 1, 3] ⟨b, 0⟩ rfl hw hb
          have hln := rd_len [1, 1, 3] ⟨b, 0⟩
          generalize hq : rdNums [1, 1, 3] ⟨b, 0⟩ = q at h h1 h2 h3 hln e0 ⊢
          obtain ⟨q1, q2⟩ := q
          simp only at h h1 h2 h3 hln e0 ⊢
          subst h1
          have hall := take_all (fin_zero h).2
          match q1, hln with
          | [x0, x1, x2], _ =>
            have e0' : x0 = (k : Int) := e0
            subst e0'
            simp only [fits, Bool.and_eq_true, decide_eq_true_eq] at h2
            have g1 : 0 ≤ x1 ∧ x1 < 256 := by simpa using h2.2.1
            rw [recBytes_n rfl hkk rfl g1]
            exact h3.trans hall
        · have := rd_short [1, 1, 3] ⟨b, 0⟩ rfl (by simp only; omega)
          rw [fin_wrong (by rw [this]; decide), this] at h
          cases h
      · have e0 := e1 [1, 3, 1]
        rw [ek] at e0
        rw [decR_3 _ ek] at h ⊢
        simp only at h ⊢
        by_cases hw : widthOf [1, 1, 3, 1] ≤ b.length
        · obtain ⟨h1, h2, h3⟩ := rd_ok [1, 1, 3, 1] ⟨b, 0⟩ rfl hw hb
          have hln := rd_len [1, 1, 3, 1] ⟨b, 0⟩
          generalize hq : rdNums [1, 1, 3, 1] ⟨b, 0⟩ = q at h h1 h2 h3 hln e0 ⊢
          obtain ⟨q1, q2⟩ := q
          simp only at h h1 h2 h3 hln e0 ⊢
          subst h1
          match q1, hln with
          | [x0, x1, x2, x3], _ =>
            have e0' : x0 = 3 := e0
            subst e0'
            simp only [fits, Bool.and_eq_true, decide_eq_true_eq] at h2
            have g1 : 0 ≤ x1 ∧ x1 < 256 := by simpa using h2.2.1
            have g3 : 0 ≤ x3 ∧ x3 < 256 := by simpa using h2.2.2.2.1
            simp only [List.getD_cons_succ, List.getD_cons_zero, RS.sites] at h ⊢
            have hbd : Byt (b.drop (widthOf [1, 1, 3, 1])) := fun x hx => hb x (List.mem_of_mem_drop hx)
            by_cases hw2 : widthOf (List.replicate x3.toNat 1) ≤ (b.drop (widthOf [1, 1, 3, 1])).length
            · obtain ⟨j1, j2, j3⟩ := rd_ok (List.replicate x3.toNat 1) ⟨b.drop (widthOf [1, 1, 3, 1]), 0⟩ rfl hw2 hbd
              have jln := rd_len (List.replicate x3.toNat 1) ⟨b.drop (widthOf [1, 1, 3, 1]), 0⟩
              generalize hz : rdNums (List.replicate x3.toNat 1) ⟨b.drop (widthOf [1, 1, 3, 1]), 0⟩ = z at h j1 j2 j3 jln ⊢
              obtain ⟨z1, z2⟩ := z
              simp only at h j1 j2 j3 jln ⊢
              subst j1
              have hall := take_all (fin_zero h).2
              rw [List.length_replicate] at jln
              rw [recBytes_3 rfl g1]
              simp only
              have hsl : ((z1.length : Nat) : Int) = x3 := by omega
              have hzz : z1 = b.drop (widthOf [1, 1, 3, 1]) := by
                rw [← hall, ← j3, ← jln, wr_sites]
                rw [← jln] at j2
                exact fits_mem z1 j2
              rw [hsl, h3, hzz, List.take_append_drop]
            · have := rd_short (List.replicate x3.toNat 1) ⟨b.drop (widthOf [1, 1, 3, 1]), 0⟩ rfl (by simp only; omega)
              rw [fin_wrong (by rw [this]; decide), this] at h
              cases h
        · have := rd_short [1, 1, 3, 1] ⟨b, 0⟩ rfl (by simp only; omega)
          have h5 : ∀ n, (RS.sites (rdNums [1, 1, 3, 1] ⟨b, 0⟩).2 n).2 = (rdNums [1, 1, 3, 1] ⟨b, 0⟩).2 := fun n => by
            unfold RS.sites
            rw [rd_wrong _ _ (by rw [this]; decide)]
          rw [h5, fin_wrong (by rw [this]; decide), this] at h
          cases h

/-- WHAT IS TORN IS SHORT. -/
theorem decR_torn {s : Int} {ls : List (Int × Int)} {p : Int} {r : RcV} (h : recFault s ls p r = 0) (hl : r.sites.length = r.sl) (j : Nat) (hj : j < (recBytes r).length) : (decRecRS ⟨(recBytes r).take j, 0⟩).2.wrong = 5 := by
  obtain ⟨hc, hk, h3, hn, hkey, hv, ha, h4, hz, hf⟩ := may_rec2 h
  cases j with
  | zero => simpa using decR_empty
  | succ j =>
    obtain ⟨k, ek⟩ : ∃ k : Nat, r.kind = k := ⟨r.kind.toNat, by omega⟩
    have hfst : (RS.num ⟨(recBytes r).take (j + 1), 0⟩ 1).1 = k := by
      have hl : 1 ≤ ((recBytes r).take (j + 1)).length := by simp; omega
      rw [num_ok rfl hl]
      simp [recBytes, bval, ek]
    rcases (by omega : k = 1 ∨ (k = 2 ∨ k = 6) ∨ (k = 4 ∨ k = 5) ∨ k = 3) with rfl | hkk | hkk | rfl
    · have hs : r.sites = [] := by
        obtain ⟨kind, site, num, key, value, ask, yes, sa, sl, sc, sites⟩ := r
        simp only at ek hl ⊢
        subst ek
        cases yes <;> simp [recForm, rHasOf, rHas, hasAll, bit] at hf
        exact List.length_eq_zero_iff.1 (by omega)
      rw [decR_1 _ hfst]
      have hw := wr_len [1, 1, 3, 1, 4, 3] [1, r.site, r.num, r.key, r.value, r.ask] rfl
      rw [← recBytes_1 ek hs h3] at hw
      have hsh := rd_short [1, 1, 3, 1, 4, 3] ⟨(recBytes r).take (j + 1), 0⟩ rfl (by simp only [List.length_take]; omega)
      simp only
      exact hsh
    · have hs : r.sites = [] := by
        obtain ⟨kind, site, num, key, value, ask, yes, sa, sl, sc, sites⟩ := r
        simp only at ek hl ⊢
        subst ek
        rcases hkk with rfl | rfl
        all_goals
          cases yes <;> simp [recForm, rHasOf, rHas, hasAll, bit] at hf <;> exact List.length_eq_zero_iff.1 (by omega)
      rw [decR_y _ k hkk hfst]
      have hw := wr_len [1, 1, 3, 1] [(k : Int), r.site, r.num, bit r.yes] rfl
      rw [← recBytes_y ek hkk hs h3] at hw
      have := rd_short [1, 1, 3, 1] ⟨(recBytes r).take (j + 1), 0⟩ rfl (by simp only [List.length_take]; omega)
      simp only
      rw [truth_wrong (by rw [this]; decide), this]
    · have hs : r.sites = [] := by
        obtain ⟨kind, site, num, key, value, ask, yes, sa, sl, sc, sites⟩ := r
        simp only at ek hl ⊢
        subst ek
        rcases hkk with rfl | rfl
        all_goals
          cases yes <;> simp [recForm, rHasOf, rHas, hasAll, bit] at hf
          exact List.length_eq_zero_iff.1 (by omega)
      rw [decR_n _ k hkk hfst]
      have hw := wr_len [1, 1, 3] [(k : Int), r.site, r.num] rfl
      rw [← recBytes_n ek hkk hs h3] at hw
      have hsh := rd_short [1, 1, 3] ⟨(recBytes r).take (j + 1), 0⟩ rfl (by simp only [List.length_take]; omega)
      simp only
      exact hsh
    · rw [decR_3 _ hfst]
      simp only
      have hw := wr_len [1, 1, 3, 1] [3, r.site, r.num, (r.sl : Int)] rfl
      have hlen : (recBytes r).length = widthOf [1, 1, 3, 1] + r.sl := by rw [recBytes_3 ek h3, List.length_append, hw, hl]
      by_cases hj2 : j + 1 < widthOf [1, 1, 3, 1]
      · have := rd_short [1, 1, 3, 1] ⟨(recBytes r).take (j + 1), 0⟩ rfl (by simp only [List.length_take]; omega)
        unfold RS.sites
        rw [rd_wrong _ _ (by rw [this]; decide), this]
      · have hrd := rd_wr [1, 1, 3, 1] [3, r.site, r.num, (r.sl : Int)] (r.sites.take (j + 1 - widthOf [1, 1, 3, 1])) (by simp [fits]; omega)
        have et : (recBytes r).take (j + 1) = wrNums [1, 1, 3, 1] [3, r.site, r.num, (r.sl : Int)] ++ r.sites.take (j + 1 - widthOf [1, 1, 3, 1]) := by
          rw [recBytes_3 ek h3, List.take_append, hw, List.take_of_length_le (by rw [hw]; omega)]
        rw [et, hrd]
        simp only [List.getD_cons_succ, List.getD_cons_zero, RS.sites, Int.toNat_natCast]
        exact rd_short (List.replicate r.sl 1) _ rfl (by rw [width_rep]; simp only [List.length_take]; omega)
end Go.Proofs.YtfloplkepmpaiaaDoor
/- What DecodeRecord answers, on plain data: of a record's bytes, of more, of fewer; and what is encoded again. -/
namespace Go.Proofs.YtfloplkepmpaiaaDoor
open Go.ChangeShapes Go.WideShapes Go.ChangeAt Go.RowKit
set_option linter.unusedVariables false

theorem recBytes_pos (r : RcV) : 5 ≤ (recBytes r).length := by simp [recBytes, be_len]
theorem recFault_sa (s : Int) (ls : List (Int × Int)) (p : Int) (r : RcV) (a : Option Addr) (c : Nat) : recFault s ls p { r with sa := a, sc := c } = recFault s ls p r := rfl
theorem recBytes_sa (r : RcV) (a : Option Addr) (c : Nat) : recBytes { r with sa := a, sc := c } = recBytes r := rfl
theorem recOf_back {s : Int} {ls : List (Int × Int)} {p : Int} {r : RcV} (h : recFault s ls p r = 0) (hl : r.sites.length = r.sl) : recOf s ls p (recBytes r) = (r.pl, 0) := by
  have hc := (may_rec h).1
  have hd := decR_enc h hl []
  rw [List.append_nil] at hd
  have h' : recFault s ls p r.pl = 0 := h
  unfold recOf
  rw [hd]
  simp [hc, h', RS.fin]
theorem recOf_more {s : Int} {ls : List (Int × Int)} {p : Int} {r : RcV} (h : recFault s ls p r = 0) (hl : r.sites.length = r.sl) (t : Int) : recOf s ls p (recBytes r ++ [t]) = (RcV.zero, 4) := by
  have hc := (may_rec h).1
  have hd := decR_enc h hl [t]
  unfold recOf
  rw [hd]
  simp [hc, RS.fin, RS.refuse]
theorem recOf_torn {s : Int} {ls : List (Int × Int)} {p : Int} {r : RcV} (h : recFault s ls p r = 0) (hl : r.sites.length = r.sl) (j : Nat) (hj : j < (recBytes r).length) : recOf s ls p ((recBytes r).take j) = (RcV.zero, 5) := by
  have hc := (may_rec h).1
  have hd := decR_torn h hl j hj
  have hf : (decRecRS ⟨(recBytes r).take j, 0⟩).2.fin.wrong = 5 := by rw [fin_wrong (by rw [hd]; decide), hd]
  unfold recOf
  rw [hf]
  simp [hc]
theorem recOf_nil {s : Int} {ls : List (Int × Int)} {p : Int} (hc : cfgFault s ls p = 0) : recOf s ls p [] = (RcV.zero, 5) := by
  have hf : (decRecRS ⟨[], 0⟩).2.fin.wrong = 5 := by rw [fin_wrong (by rw [decR_empty]; decide), decR_empty]
  unfold recOf
  rw [hf]
  simp [hc]
theorem recOf_fixed {s : Int} {ls : List (Int × Int)} {p : Int} {b : List Int} (hb : Byt b) (h : (recOf s ls p b).2 = 0) : recBytes (recOf s ls p b).1 = b ∧ recFault s ls p (recOf s ls p b).1 = 0 := by
  unfold recOf at h ⊢
  split at h
  · rename_i hc; exact absurd h hc
  · rename_i hc
    rw [if_neg hc]
    split at h
    · rename_i hw; exact absurd h hw
    · rename_i hw
      rw [if_neg hw]
      split at h
      · rename_i hm; exact absurd h hm
      · rename_i hm
        rw [if_neg hm]
        exact ⟨encR_dec hb (by simpa using hw), by simpa using hm⟩
theorem recOf_bad {s : Int} {ls : List (Int × Int)} {p : Int} {b : List Int} (h : (recOf s ls p b).2 ≠ 0) : (recOf s ls p b).1 = RcV.zero := by
  unfold recOf at h ⊢
  split
  · rfl
  · rename_i hc
    rw [if_neg hc] at h
    split
    · rfl
    · rename_i hw
      rw [if_neg hw] at h
      split
      · rfl
      · rename_i hm
        rw [if_neg hm] at h
        exact absurd rfl h

end Go.Proofs.YtfloplkepmpaiaaDoor
/- The records that are whole at a tape's beginning, on plain data: of a tape's bytes, torn anywhere, just those that are whole. -/
namespace Go.Proofs.YtfloplkepmpaiaaDoor
open Go.ChangeShapes Go.WideShapes Go.ChangeAt Go.RowKit
set_option linter.unusedVariables false

def wholeF (s : Int) (ls : List (Int × Int)) (p : Int) : Nat → List Int → List RcV × Nat
  | 0, _ => ([], 0)
  | _ + 1, [] => ([], 0)
  | f + 1, b :: bs =>
    if bs.length < b.toNat then ([], 0)
    else if (recOf s ls p (bs.take b.toNat)).2 ≠ 0 then ([], 0)
    else ((recOf s ls p (bs.take b.toNat)).1 :: (wholeF s ls p f (bs.drop b.toNat)).1, 1 + b.toNat + (wholeF s ls p f (bs.drop b.toNat)).2)
def wholeOf (s : Int) (ls : List (Int × Int)) (p : Int) (bs : List Int) : List RcV × Nat := wholeF s ls p bs.length bs

theorem tapeOf_cons (y : RcV) (l : List RcV) : tapeOf (y :: l) = ((recBytes y).length : Int) :: (recBytes y ++ tapeOf l) := by simp [tapeOf]

theorem wholeF_torn {s : Int} {ls : List (Int × Int)} {p : Int} : ∀ (ys : List RcV), (∀ y ∈ ys, recFault s ls p y = 0 ∧ y.sites.length = y.sl) → ∀ (m f : Nat), m ≤ f →
    ∃ j, j ≤ ys.length ∧ wholeF s ls p f ((tapeOf ys).take m) = ((ys.take j).map RcV.pl, (tapeOf (ys.take j)).length) ∧ (tapeOf (ys.take j)).length ≤ m ∧ (j < ys.length → m < (tapeOf (ys.take (j + 1))).length) := by
  intro ys
  induction ys with
  | nil =>
    intro _ m f _
    refine ⟨0, Nat.le_refl _, ?_, Nat.zero_le _, fun h => absurd h (by simp)⟩
    cases f <;> simp [tapeOf, wholeF]
  | cons y l ih =>
    intro hg m f hf
    obtain ⟨h1, h2⟩ := hg y (by simp)
    have hgl : ∀ z ∈ l, recFault s ls p z = 0 ∧ z.sites.length = z.sl := fun z hz => hg z (by simp [hz])
    cases m with
    | zero =>
      refine ⟨0, Nat.zero_le _, ?_, Nat.zero_le _, fun _ => ?_⟩
      · cases f <;> simp [tapeOf, wholeF]
      · simp [tapeOf]
    | succ m =>
      obtain ⟨f, rfl⟩ : ∃ f', f = f' + 1 := ⟨f - 1, by omega⟩
      rw [tapeOf_cons, List.take_succ_cons]
      by_cases hlt : m < (recBytes y).length
      · refine ⟨0, Nat.zero_le _, ?_, Nat.zero_le _, fun _ => ?_⟩
        · have hl : ((recBytes y ++ tapeOf l).take m).length < (((recBytes y).length : Int)).toNat := by simp; omega
          rw [wholeF, if_pos hl]
          simp [tapeOf]
        · simp [tapeOf]
          omega
      · have hn : ¬ ((recBytes y ++ tapeOf l).take m).length < (((recBytes y).length : Int)).toNat := by simp; omega
        have e1 : ((recBytes y ++ tapeOf l).take m).take (((recBytes y).length : Int)).toNat = recBytes y := by
          rw [List.take_take, Nat.min_eq_left (by simp; omega)]
          simp
        have e2 : ((recBytes y ++ tapeOf l).take m).drop (((recBytes y).length : Int)).toNat = (tapeOf l).take (m - (recBytes y).length) := by
          rw [List.drop_take]
          simp
        obtain ⟨j, hj, hw, hle, hgt⟩ := ih hgl (m - (recBytes y).length) f (by omega)
        refine ⟨j + 1, by simpa using hj, ?_, ?_, fun hh => ?_⟩
        · rw [wholeF, if_neg hn, e1, e2, recOf_back h1 h2, hw]
          simp [tapeOf_cons]
          omega
        · rw [List.take_succ_cons, tapeOf_cons]
          simp
          omega
        · have := hgt (by simpa using hh)
          rw [List.take_succ_cons, tapeOf_cons]
          simp
          omega
theorem whole_torn {s : Int} {ls : List (Int × Int)} {p : Int} (ys : List RcV) (hg : ∀ y ∈ ys, recFault s ls p y = 0 ∧ y.sites.length = y.sl) (m : Nat) (hm : m ≤ (tapeOf ys).length) :
    ∃ j, j ≤ ys.length ∧ wholeOf s ls p ((tapeOf ys).take m) = ((ys.take j).map RcV.pl, (tapeOf (ys.take j)).length) ∧ (tapeOf (ys.take j)).length ≤ m ∧ (j < ys.length → m < (tapeOf (ys.take (j + 1))).length) := by
  unfold wholeOf
  exact wholeF_torn ys hg m _ (by simp; omega)
end Go.Proofs.YtfloplkepmpaiaaDoor
