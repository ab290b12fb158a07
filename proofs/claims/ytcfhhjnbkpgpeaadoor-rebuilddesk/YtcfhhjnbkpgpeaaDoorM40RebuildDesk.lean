/- Texts of this claim, one behind the other. -/
import Derived.Test.YtcfhhjnbkpgpeaaDoorM39RebuildDesk
import Derived.Test.YtcfhhjnbkpgpeaaDoorM24RebuildDesk
import Derived.Test.YtcfhhjnbkpgpeaaDoorA34RebuildDesk
/- The contract of wire.readMessage. -/
namespace Go.Proofs.YtcfhhjnbkpgpeaaDoor
open Go.ChangeShapes Go.WideShapes Go.ChangeAt Go.RowKit
set_option linter.unusedVariables false

/-- A box of n cells. -/
structure BoxN (u : World) (b n : Nat) (vs : List Value) : Prop where
  len : vs.length = n
  lt : b < u.heap.size
  c : ∀ i, i < n → u.cell? ⟨b, i, none⟩ = some (vs.getD i (.bool false)) ∧ u.frozen? ⟨b, i, none⟩ = false

theorem BoxN.grown {u u' : World} {b n : Nat} {vs : List Value} {row : Option Nat} (h : BoxN u b n vs) (hg : u.grownBy u' row) (hne : some b ≠ row) : BoxN u' b n vs := by
  have e := hg.block b h.lt hne
  refine ⟨h.len, Nat.lt_of_lt_of_le h.lt hg.size, fun i hi => ⟨?_, ?_⟩⟩
  · rw [World.cell?_of_block (a := ⟨b, i, none⟩) e]; exact (h.c i hi).1
  · rw [World.frozen?_of_block (a := ⟨b, i, none⟩) e]; exact (h.c i hi).2
theorem BoxN.set {u : World} {b n : Nat} {vs : List Value} (h : BoxN u b n vs) (k : Nat) (hk : k < n) (v : Value) : BoxN (u.setCell ⟨b, k, none⟩ v) b n (vs.set k v) := by
  refine ⟨by simp [h.len], by simpa using h.lt, fun i hi => ⟨?_, ?_⟩⟩
  · by_cases hik : k = i
    · subst hik
      rw [World.cell?_setCell_same u ⟨b, k, none⟩ _ (h.c k hk).1]
      simp [List.getD, h.len, hk]
    · rw [rp_ne hik, (h.c i hi).1]
      simp [List.getD, hik]
  · rw [rp_frozen]; exact (h.c i hi).2
theorem BoxN.far {u : World} {b n c k : Nat} {vs : List Value} {v : Value} (h : BoxN u b n vs) (hne : b ≠ c) : BoxN (u.setCell ⟨c, k, none⟩ v) b n vs := by
  have e : (u.setCell ⟨c, k, none⟩ v).heap[b]? = u.heap[b]? := Below.heap_setCell u _ _ b hne
  refine ⟨h.len, by simpa using h.lt, fun i hi => ⟨?_, ?_⟩⟩
  · rw [World.cell?_of_block (a := ⟨b, i, none⟩) e]; exact (h.c i hi).1
  · rw [World.frozen?_of_block (a := ⟨b, i, none⟩) e]; exact (h.c i hi).2

/-- All that readMessage has in memory. -/
structure RMAt (w V : World) (M R L : Nat) (vs : List Value) (st : RS) : Prop where
  mb : BoxN V M 12 vs
  rb : BoxN V w.heap.size 12 [.int .i64 0, .int .i64 0, .int .i64 0, .int .i64 0, .int .i64 0, .int .i64 0, .int .i64 0, .int .i64 0, .int .i64 0, .int .i64 0, .bool false, .int .i64 0]
  rd : RdTo V R L st
  gr : w.grownBy V (some R)
  mlt : w.heap.size < M
  rlt : R < w.heap.size

theorem RMAt.set {w V : World} {M R L : Nat} {vs : List Value} {st : RS} (h : RMAt w V M R L vs st) (k : Nat) (hk : k < 12) (v : Value) : RMAt w (V.setCell ⟨M, k, none⟩ v) M R L (vs.set k v) st := by
  have hm := h.mlt
  have hr := h.rlt
  refine ⟨h.mb.set k hk v, h.rb.far (by omega), ?_, ?_, hm, hr⟩
  · refine h.rd.grown (grown_set (R := M) (grownR_refl V (some M))) (fun q hq => ?_)
    have := h.rd.hL
    simp at hq
    omega
  · have hg := h.gr
    refine ⟨hg.os, hg.tape, hg.output, by simpa using hg.size, fun q hq hne => ?_⟩
    rw [Below.heap_setCell V _ _ q (by show q ≠ M; omega)]
    exact hg.block q hq hne
theorem RMAt.call {w V V' : World} {M R L : Nat} {vs : List Value} {st st' : RS} (h : RMAt w V M R L vs st) (hg : V.grownBy V' (some R)) (hr' : RdTo V' R L st') : RMAt w V' M R L vs st' := by
  have hm := h.mlt
  have hr := h.rlt
  exact ⟨h.mb.grown hg (by simp; omega), h.rb.grown hg (by simp; omega), hr', grownR_trans h.gr hg, hm, hr⟩
theorem RMAt.alloc {w V : World} {M R L : Nat} {vs : List Value} {st : RS} (h : RMAt w V M R L vs st) (ob : Obj) : RMAt w (V.alloc ob) M R L vs st := by
  have ha := World.grownBy_alloc V ob none
  have hg := h.gr
  exact ⟨h.mb.grown ha (by simp), h.rb.grown ha (by simp), h.rd.grown ha (fun q hq => by cases hq), ⟨ha.os.trans hg.os, ha.tape.trans hg.tape, ha.output.trans hg.output, Nat.le_trans hg.size ha.size, fun q hq hne => (ha.block q (Nat.lt_of_lt_of_le hq hg.size) (by simp)).trans (hg.block q hq hne)⟩, h.mlt, h.rlt⟩

end Go.Proofs.YtcfhhjnbkpgpeaaDoor
/- Messages off bytes, on plain data: what was written is read as it was, with a byte more it is none; what is read is written as it was; what is torn is short. -/
namespace Go.Proofs.YtcfhhjnbkpgpeaaDoor
open Go.ChangeShapes Go.WideShapes Go.ChangeAt Go.RowKit
set_option linter.unusedVariables false

def MV.zero : MV := ⟨0, 0, 0, 0, 0, 0, 0, 0, 0, 0, false, 0⟩

/-- What DecodeMessage answers. -/
def msgOf (s : Int) (ls : List (Int × Int)) (p : Int) (b : List Int) : MV × Int :=
  if cfgFault s ls p ≠ 0 then (MV.zero, cfgFault s ls p)
  else if (decMsgRS ⟨b, 0⟩).2.fin.wrong ≠ 0 then (MV.zero, (decMsgRS ⟨b, 0⟩).2.fin.wrong)
  else if msgFault s ls p (decMsgRS ⟨b, 0⟩).1 ≠ 0 then (MV.zero, msgFault s ls p (decMsgRS ⟨b, 0⟩).1)
  else ((decMsgRS ⟨b, 0⟩).1, 0)

/-- The widths of a kind's numbers. -/
def mWid : Nat → List Nat
  | 1 => [1, 1, 1, 1, 3, 1, 1, 3]
  | 2 => [1, 1, 1, 1, 3, 1, 4, 3]
  | 3 => [1, 1, 1, 1, 3, 1, 1, 3]
  | 4 => [1, 1, 1, 1, 3, 1]
  | 5 => [1, 1, 1, 1, 3, 1, 1, 4, 3, 3, 1]
  | 6 => [1, 1, 1, 1, 3, 1, 3, 1]
  | 7 => [1, 1, 1, 1, 3, 1, 1, 3, 1]
  | _ => [1, 1, 1, 1, 3]
/-- A kind's numbers. -/
def mNums (k : Nat) (m : MV) : List Int :=
  [m.kind, m.frm, m.dst, m.site, m.num] ++ (match k with
  | 1 => [m.label, m.key, m.ask]
  | 2 => [m.key, m.value, m.ask]
  | 3 => [m.label, m.key, m.version]
  | 4 => [bit m.yes]
  | 5 => [m.label, m.key, m.value, m.version, m.ask, m.code]
  | 6 => [m.key, m.ask, m.code]
  | 7 => [m.label, m.key, m.version, bit m.yes]
  | _ => [])
/-- A message of a kind's numbers. -/
def mMake (k : Nat) (l : List Int) : MV :=
  match k with
  | 1 => ⟨1, l.getD 1 0, l.getD 2 0, l.getD 3 0, l.getD 4 0, l.getD 5 0, l.getD 6 0, 0, 0, l.getD 7 0, false, 0⟩
  | 2 => ⟨2, l.getD 1 0, l.getD 2 0, l.getD 3 0, l.getD 4 0, 0, l.getD 5 0, l.getD 6 0, 0, l.getD 7 0, false, 0⟩
  | 3 => ⟨3, l.getD 1 0, l.getD 2 0, l.getD 3 0, l.getD 4 0, l.getD 5 0, l.getD 6 0, 0, l.getD 7 0, 0, false, 0⟩
  | 4 => ⟨4, l.getD 1 0, l.getD 2 0, l.getD 3 0, l.getD 4 0, 0, 0, 0, 0, 0, decide (l.getD 5 0 = 1), 0⟩
  | 5 => ⟨5, l.getD 1 0, l.getD 2 0, l.getD 3 0, l.getD 4 0, l.getD 5 0, l.getD 6 0, l.getD 7 0, l.getD 8 0, l.getD 9 0, false, l.getD 10 0⟩
  | 6 => ⟨6, l.getD 1 0, l.getD 2 0, l.getD 3 0, l.getD 4 0, 0, l.getD 5 0, 0, 0, l.getD 6 0, false, l.getD 7 0⟩
  | 7 => ⟨7, l.getD 1 0, l.getD 2 0, l.getD 3 0, l.getD 4 0, l.getD 5 0, l.getD 6 0, 0, l.getD 7 0, 0, decide (l.getD 8 0 = 1), 0⟩
  | k => ⟨k, l.getD 1 0, l.getD 2 0, l.getD 3 0, l.getD 4 0, 0, 0, 0, 0, 0, false, 0⟩
/-- Where the truth stands, it is 0 or 1. -/
def mTruth (k : Nat) (l : List Int) : Int := match k with
  | 4 => l.getD 5 0
  | 7 => l.getD 8 0
  | _ => 0
def RS.truth (r : RS) (n : Int) : RS := if 1 < n then r.refuse 4 else r

theorem part_no {r : RS} {i k : Nat} (h : i ≠ 5) : r.part i k = r.num k := by simp [RS.part, h]
theorem part_yes (r : RS) (k : Nat) : r.part 5 k = ((r.num k).1, (r.num k).2.truth (r.num k).1) := by
  unfold RS.part RS.truth
  by_cases h : 1 < (r.num k).1 <;> simp [h]

theorem dec_kind (r : RS) (k : Nat) (hk : 1 ≤ k ∧ k ≤ 9) (h : (r.num 1).1 = k) :
    decMsgRS r = (mMake k (rdNums (mWid k) r).1, (rdNums (mWid k) r).2.truth (mTruth k (rdNums (mWid k) r).1)) := by
  have hkd : r.kind 10 = r.num 1 := by unfold RS.kind; rw [if_neg (by omega)]
  unfold decMsgRS
  rw [hkd, h]
  rcases (by omega : k = 1 ∨ k = 2 ∨ k = 3 ∨ k = 4 ∨ k = 5 ∨ k = 6 ∨ k = 7 ∨ k = 8 ∨ k = 9) with rfl | rfl | rfl | rfl | rfl | rfl | rfl | rfl | rfl
  all_goals simp [mHasOf, mHas, widL, decParts, part_no, part_yes, mMake, mWid, mTruth, rdNums, RS.truth, List.getD]

theorem make_nums {k : Nat} {m : MV} (hk : m.kind = k) (h9 : 1 ≤ k ∧ k ≤ 9) (hf : msgForm m = true) : mMake k (mNums k m) = m := by
  obtain ⟨kind, frm, dst, site, num, label, key, value, version, ask, yes, code⟩ := m
  simp only at hk
  subst hk
  rcases (by omega : k = 1 ∨ k = 2 ∨ k = 3 ∨ k = 4 ∨ k = 5 ∨ k = 6 ∨ k = 7 ∨ k = 8 ∨ k = 9) with rfl | rfl | rfl | rfl | rfl | rfl | rfl | rfl | rfl
  all_goals
    cases yes <;> simp_all [msgForm, mHasOf, mHas, hasAll, MV.parts, bit, mMake, mNums]

theorem wr_one {ks : List Nat} {n : Int} {ns : List Int} (h0 : 0 ≤ n) (h1 : n < 256) : wrNums (1 :: ks) (n :: ns) = n :: wrNums ks ns := by simp [wrNums, be_one h0 h1]

theorem bytes_nums {k : Nat} {m : MV} (hk : m.kind = k) (h9 : 1 ≤ k ∧ k ≤ 9) (h1 : 0 ≤ m.frm ∧ m.frm < 256) (h2 : 0 ≤ m.dst ∧ m.dst < 256) (h3 : 0 ≤ m.site ∧ m.site < 256) : msgBytes m = wrNums (mWid k) (mNums k m) := by
  obtain ⟨kind, frm, dst, site, num, label, key, value, version, ask, yes, code⟩ := m
  simp only at hk h1 h2 h3
  subst hk
  rcases (by omega : k = 1 ∨ k = 2 ∨ k = 3 ∨ k = 4 ∨ k = 5 ∨ k = 6 ∨ k = 7 ∨ k = 8 ∨ k = 9) with rfl | rfl | rfl | rfl | rfl | rfl | rfl | rfl | rfl
  all_goals
    simp only [mWid, mNums, List.cons_append, List.nil_append]
    rw [wr_one (by omega) (by omega), wr_one h1.1 h1.2, wr_one h2.1 h2.2, wr_one h3.1 h3.2]
    simp [msgBytes, wrNums, mHasOf, mHas, widL, encParts, MV.parts]

theorem fits_nums {s : Int} {n : Nat} {k : Nat} {m : MV} (hs : s ≤ 4) (hk : m.kind = k) (h9 : 1 ≤ k ∧ k ≤ 9) (hr : msgRange s n m = true) (hn : n ≤ 6) : fits (mWid k) (mNums k m) = true := by
  obtain ⟨kind, frm, dst, site, num, label, key, value, version, ask, yes, code⟩ := m
  simp only at hk
  subst hk
  simp only [msgRange, txnOK, partsOK, MV.parts, inTops, topL, Bool.and_eq_true, List.getD_cons_zero, List.getD_cons_succ] at hr
  obtain ⟨⟨⟨a1, a2⟩, a3, a4⟩, ⟨⟨a5, a6, a7, a8, a9, a10, a11, a12, _⟩, _⟩, a13⟩ := hr
  have b1 := inR_of a1
  have b2 := inR_of a2
  have b3 := inR_of a3
  have b4 := inR_of a4
  have b5 := inR_of a5
  have b6 := inR_of a6
  have b7 := inR_of a7
  have b8 := inR_of a8
  have b9 := inR_of a9
  have b10 := inR_of a10
  have b11 := inR_of a11
  rcases (by omega : k = 1 ∨ k = 2 ∨ k = 3 ∨ k = 4 ∨ k = 5 ∨ k = 6 ∨ k = 7 ∨ k = 8 ∨ k = 9) with rfl | rfl | rfl | rfl | rfl | rfl | rfl | rfl | rfl
  all_goals
    simp [mWid, mNums, fits]
    omega

theorem truth_bit (r : RS) (b : Bool) : r.truth (bit b) = r := by cases b <;> simp [RS.truth, bit]

/-- A MESSAGE IS READ AS IT WAS WRITTEN. -/
theorem dec_enc {s : Int} {ls : List (Int × Int)} {p : Int} {m : MV} (h : msgFault s ls p m = 0) (t : List Int) : decMsgRS ⟨msgBytes m ++ t, 0⟩ = (m, ⟨t, 0⟩) := by
  obtain ⟨hc, hk, hr, hf⟩ := may_msg h
  obtain ⟨s1, s4, n1, n6, _, _, _⟩ := cfg_zero hc
  have kb := inR_of hk
  obtain ⟨k, ek⟩ : ∃ k : Nat, m.kind = k := ⟨m.kind.toNat, by omega⟩
  have hr' := hr
  simp only [msgRange, txnOK, Bool.and_eq_true] at hr'
  have b1 := inR_of hr'.1.1.1
  have b2 := inR_of hr'.1.1.2
  have b3 := inR_of hr'.1.2.1
  have hfit := fits_nums s4 ek (by omega) hr n6
  have e := bytes_nums ek (by omega) (by omega) (by omega) (by omega)
  have hrd := rd_wr (mWid k) (mNums k m) t hfit
  rw [e]
  have hfst : (RS.num ⟨wrNums (mWid k) (mNums k m) ++ t, 0⟩ 1).1 = k := by
    have h1 : ∃ ks, mWid k = 1 :: ks := by
      rcases (by omega : k = 1 ∨ k = 2 ∨ k = 3 ∨ k = 4 ∨ k = 5 ∨ k = 6 ∨ k = 7 ∨ k = 8 ∨ k = 9) with rfl | rfl | rfl | rfl | rfl | rfl | rfl | rfl | rfl <;> exact ⟨_, rfl⟩
    obtain ⟨ks, hks⟩ := h1
    rw [hks] at hrd ⊢
    have := congrArg (fun x => x.1.getD 0 0) hrd
    simpa [rdNums, mNums, ek] using this
  rw [dec_kind _ k (by omega) hfst, hrd]
  have ht : mTruth k (mNums k m) = 0 ∨ mTruth k (mNums k m) = bit m.yes := by
    rcases (by omega : k = 1 ∨ k = 2 ∨ k = 3 ∨ k = 4 ∨ k = 5 ∨ k = 6 ∨ k = 7 ∨ k = 8 ∨ k = 9) with rfl | rfl | rfl | rfl | rfl | rfl | rfl | rfl | rfl
    all_goals first | exact .inl rfl | exact .inr rfl
  rw [make_nums ek (by omega) hf]
  rcases ht with ht | ht
  · rw [ht]; rfl
  · rw [ht, truth_bit]

theorem refuse_wrong {r : RS} {e : Int} (h : r.wrong ≠ 0) : r.refuse e = r := by simp [RS.refuse, h]
theorem fin_wrong {r : RS} (h : r.wrong ≠ 0) : r.fin = r := by unfold RS.fin; split; exact refuse_wrong h; rfl
theorem truth_wrong {r : RS} {n : Int} (h : r.wrong ≠ 0) : r.truth n = r := by unfold RS.truth; split; exact refuse_wrong h; rfl

/-- With a wrong start all stays. -/
theorem dec_stays (r : RS) (h : r.wrong ≠ 0) : (decMsgRS r).2 = r := by
  have h1 : ∀ k, r.num k = (0, r) := fun k => num_wrong h
  have hk : r.kind 10 = (0, r) := by simp [RS.kind, h1, refuse_wrong h]
  unfold decMsgRS
  simp [hk, h1, mHasOf, mHas, decParts, widL]

/-- The first byte is no kind: that is told, whatever stands behind. -/
theorem dec_nokind (r : RS) (h : r.wrong = 0) (hl : 0 < r.rest.length) (hk : (r.num 1).1 = 0 ∨ 10 ≤ (r.num 1).1) : (decMsgRS r).2.wrong = 3 := by
  have hn := num_ok h (show 1 ≤ r.rest.length by omega)
  have hkd : r.kind 10 = (0, ⟨r.rest.drop 1, 3⟩) := by
    unfold RS.kind
    rw [if_pos hk, hn]
    simp [RS.refuse]
  obtain ⟨q, hq⟩ : ∃ q, q = r.rest.drop 1 := ⟨_, rfl⟩
  rw [← hq] at hkd
  clear hq
  have h1 : ∀ k, RS.num ⟨q, 3⟩ k = (0, ⟨q, 3⟩) := fun k => num_wrong (by simp)
  unfold decMsgRS
  simp [hkd, h1, mHasOf, mHas, decParts, widL]

theorem dec_empty : (decMsgRS ⟨[], 0⟩).2.wrong = 5 := by decide

/-- WHAT IS TORN IS SHORT. -/
theorem dec_torn {s : Int} {ls : List (Int × Int)} {p : Int} {m : MV} (h : msgFault s ls p m = 0) (j : Nat) (hj : j < (msgBytes m).length) : (decMsgRS ⟨(msgBytes m).take j, 0⟩).2.wrong = 5 := by
  obtain ⟨hc, hk, hr, hf⟩ := may_msg h
  obtain ⟨s1, s4, n1, n6, _, _, _⟩ := cfg_zero hc
  have kb := inR_of hk
  obtain ⟨k, ek⟩ : ∃ k : Nat, m.kind = k := ⟨m.kind.toNat, by omega⟩
  have hr' := hr
  simp only [msgRange, txnOK, Bool.and_eq_true] at hr'
  have b1 := inR_of hr'.1.1.1
  have b2 := inR_of hr'.1.1.2
  have b3 := inR_of hr'.1.2.1
  have e := bytes_nums ek (by omega) (by omega) (by omega) (by omega)
  have hlen : (mNums k m).length = (mWid k).length := by
    rcases (by omega : k = 1 ∨ k = 2 ∨ k = 3 ∨ k = 4 ∨ k = 5 ∨ k = 6 ∨ k = 7 ∨ k = 8 ∨ k = 9) with rfl | rfl | rfl | rfl | rfl | rfl | rfl | rfl | rfl <;> rfl
  have hw := wr_len (mWid k) (mNums k m) hlen
  rw [← e] at hw
  cases j with
  | zero => simpa using dec_empty
  | succ j =>
    have hfst : (RS.num ⟨(msgBytes m).take (j + 1), 0⟩ 1).1 = k := by
      have hl : 1 ≤ ((msgBytes m).take (j + 1)).length := by simp; omega
      rw [num_ok rfl hl]
      simp [msgBytes, bval, ek]
    rw [dec_kind _ k (by omega) hfst]
    have := rd_short (mWid k) ⟨(msgBytes m).take (j + 1), 0⟩ rfl (by simp; omega)
    simp only
    rw [truth_wrong (by rw [this]; decide), this]

/-- NO MESSAGE HAS TWO FORMS. -/
theorem enc_dec {b : List Int} (hb : Byt b) (h : (decMsgRS ⟨b, 0⟩).2.fin.wrong = 0) : msgBytes (decMsgRS ⟨b, 0⟩).1 = b := by
  by_cases hl : b.length = 0
  · obtain rfl := List.length_eq_zero_iff.1 hl
    rw [fin_wrong (by rw [dec_empty]; decide), dec_empty] at h
    cases h
  · by_cases hk : (RS.num ⟨b, 0⟩ 1).1 = 0 ∨ 10 ≤ (RS.num ⟨b, 0⟩ 1).1
    · have := dec_nokind ⟨b, 0⟩ rfl (by simp; omega) hk
      rw [fin_wrong (by rw [this]; decide), this] at h
      cases h
    · have hbd : 0 ≤ (RS.num ⟨b, 0⟩ 1).1 := by
        rw [num_ok rfl (show 1 ≤ b.length by omega)]
        exact (bval_bd 1 (b.take 1) (by simp; omega) (fun x hx => hb x (List.mem_of_mem_take hx))).1
      obtain ⟨k, ek⟩ : ∃ k : Nat, (RS.num ⟨b, 0⟩ 1).1 = k := ⟨(RS.num ⟨b, 0⟩ 1).1.toNat, by omega⟩
      have k9 : 1 ≤ k ∧ k ≤ 9 := by omega
      have hd := dec_kind ⟨b, 0⟩ k k9 ek
      rw [hd] at h ⊢
      simp only at h ⊢
      by_cases hw : widthOf (mWid k) ≤ b.length
      · obtain ⟨h1, h2, h3⟩ := rd_ok (mWid k) ⟨b, 0⟩ rfl hw hb
        simp only at h1 h2 h3
        have hfst : (rdNums (mWid k) ⟨b, 0⟩).1.getD 0 0 = k := by
          have hx : ∃ ks, mWid k = 1 :: ks := by
            rcases (by omega : k = 1 ∨ k = 2 ∨ k = 3 ∨ k = 4 ∨ k = 5 ∨ k = 6 ∨ k = 7 ∨ k = 8 ∨ k = 9) with rfl | rfl | rfl | rfl | rfl | rfl | rfl | rfl | rfl <;> exact ⟨_, rfl⟩
          obtain ⟨ks, hks⟩ := hx
          rw [hks]
          simpa [rdNums] using ek
        have hln := rd_len (mWid k) ⟨b, 0⟩
        generalize hq : rdNums (mWid k) ⟨b, 0⟩ = q at h h1 h2 h3 hfst hln ⊢
        have htr : ¬ 1 < mTruth k q.1 := by
          intro hlt
          rw [h1] at h
          simp [RS.truth, hlt, RS.refuse, RS.fin] at h
        have hrest : b.drop (widthOf (mWid k)) = [] := by
          rw [h1] at h
          simp only [RS.truth, if_neg htr, RS.fin, RS.refuse] at h
          split at h
          · simp at h
          · rename_i hz
            exact List.length_eq_zero_iff.1 (by omega)
        have hall : b.take (widthOf (mWid k)) = b := by
          have := List.take_append_drop (widthOf (mWid k)) b
          rw [hrest, List.append_nil] at this
          exact this
        have hq1 : mNums k (mMake k q.1) = q.1 ∧ (mMake k q.1).kind = k ∧ (0 ≤ (mMake k q.1).frm ∧ (mMake k q.1).frm < 256) ∧ (0 ≤ (mMake k q.1).dst ∧ (mMake k q.1).dst < 256) ∧ (0 ≤ (mMake k q.1).site ∧ (mMake k q.1).site < 256) := by
          obtain ⟨q1, q2⟩ := q
          simp only at hfst hln htr h2 ⊢
          rcases (by omega : k = 1 ∨ k = 2 ∨ k = 3 ∨ k = 4 ∨ k = 5 ∨ k = 6 ∨ k = 7 ∨ k = 8 ∨ k = 9) with rfl | rfl | rfl | rfl | rfl | rfl | rfl | rfl | rfl
          · match q1, hln with
            | [x0, x1, x2, x3, x4, x5, x6, x7], _ =>
              simp only [fits, mWid, Bool.and_eq_true, decide_eq_true_eq] at h2
              have g1 : 0 ≤ x1 ∧ x1 < 256 := by simpa using h2.2.1
              have g2 : 0 ≤ x2 ∧ x2 < 256 := by simpa using h2.2.2.1
              have g3 : 0 ≤ x3 ∧ x3 < 256 := by simpa using h2.2.2.2.1
              have e0 : x0 = _ := hfst
              subst e0
              exact ⟨rfl, rfl, g1, g2, g3⟩
          · match q1, hln with
            | [x0, x1, x2, x3, x4, x5, x6, x7], _ =>
              simp only [fits, mWid, Bool.and_eq_true, decide_eq_true_eq] at h2
              have g1 : 0 ≤ x1 ∧ x1 < 256 := by simpa using h2.2.1
              have g2 : 0 ≤ x2 ∧ x2 < 256 := by simpa using h2.2.2.1
              have g3 : 0 ≤ x3 ∧ x3 < 256 := by simpa using h2.2.2.2.1
              have e0 : x0 = _ := hfst
              subst e0
              exact ⟨rfl, rfl, g1, g2, g3⟩
          · match q1, hln with
            | [x0, x1, x2, x3, x4, x5, x6, x7], _ =>
              simp only [fits, mWid, Bool.and_eq_true, decide_eq_true_eq] at h2
              have g1 : 0 ≤ x1 ∧ x1 < 256 := by simpa using h2.2.1
              have g2 : 0 ≤ x2 ∧ x2 < 256 := by simpa using h2.2.2.1
              have g3 : 0 ≤ x3 ∧ x3 < 256 := by simpa using h2.2.2.2.1
              have e0 : x0 = _ := hfst
              subst e0
              exact ⟨rfl, rfl, g1, g2, g3⟩
          · match q1, hln with
            | [x0, x1, x2, x3, x4, x5], _ =>
              simp only [fits, mWid, Bool.and_eq_true, decide_eq_true_eq] at h2
              have g1 : 0 ≤ x1 ∧ x1 < 256 := by simpa using h2.2.1
              have g2 : 0 ≤ x2 ∧ x2 < 256 := by simpa using h2.2.2.1
              have g3 : 0 ≤ x3 ∧ x3 < 256 := by simpa using h2.2.2.2.1
              have e0 : x0 = _ := hfst
              subst e0
              have gt : 0 ≤ x5 ∧ x5 < 256 := by simpa using h2.2.2.2.2.2.1
              have ht1 : ¬ 1 < x5 := htr
              have et : x5 = 0 ∨ x5 = 1 := by omega
              rcases et with rfl | rfl <;> exact ⟨rfl, rfl, g1, g2, g3⟩
          · match q1, hln with
            | [x0, x1, x2, x3, x4, x5, x6, x7, x8, x9, x10], _ =>
              simp only [fits, mWid, Bool.and_eq_true, decide_eq_true_eq] at h2
              have g1 : 0 ≤ x1 ∧ x1 < 256 := by simpa using h2.2.1
              have g2 : 0 ≤ x2 ∧ x2 < 256 := by simpa using h2.2.2.1
              have g3 : 0 ≤ x3 ∧ x3 < 256 := by simpa using h2.2.2.2.1
              have e0 : x0 = _ := hfst
              subst e0
              exact ⟨rfl, rfl, g1, g2, g3⟩
          · match q1, hln with
            | [x0, x1, x2, x3, x4, x5, x6, x7], _ =>
              simp only [fits, mWid, Bool.and_eq_true, decide_eq_true_eq] at h2
              have g1 : 0 ≤ x1 ∧ x1 < 256 := by simpa using h2.2.1
              have g2 : 0 ≤ x2 ∧ x2 < 256 := by simpa using h2.2.2.1
              have g3 : 0 ≤ x3 ∧ x3 < 256 := by simpa using h2.2.2.2.1
              have e0 : x0 = _ := hfst
              subst e0
              exact ⟨rfl, rfl, g1, g2, g3⟩
          · match q1, hln with
            | [x0, x1, x2, x3, x4, x5, x6, x7, x8], _ =>
              simp only [fits, mWid, Bool.and_eq_true, decide_eq_true_eq] at h2
              have g1 : 0 ≤ x1 ∧ x1 < 256 := by simpa using h2.2.1
              have g2 : 0 ≤ x2 ∧ x2 < 256 := by simpa using h2.2.2.1
              have g3 : 0 ≤ x3 ∧ x3 < 256 := by simpa using h2.2.2.2.1
              have e0 : x0 = _ := hfst
              subst e0
              have gt : 0 ≤ x8 ∧ x8 < 256 := by simpa using h2.2.2.2.2.2.2.2.2.1
              have ht1 : ¬ 1 < x8 := htr
              have et : x8 = 0 ∨ x8 = 1 := by omega
              rcases et with rfl | rfl <;> exact ⟨rfl, rfl, g1, g2, g3⟩
          · match q1, hln with
            | [x0, x1, x2, x3, x4], _ =>
              simp only [fits, mWid, Bool.and_eq_true, decide_eq_true_eq] at h2
              have g1 : 0 ≤ x1 ∧ x1 < 256 := by simpa using h2.2.1
              have g2 : 0 ≤ x2 ∧ x2 < 256 := by simpa using h2.2.2.1
              have g3 : 0 ≤ x3 ∧ x3 < 256 := by simpa using h2.2.2.2.1
              have e0 : x0 = _ := hfst
              subst e0
              exact ⟨rfl, rfl, g1, g2, g3⟩
          · match q1, hln with
            | [x0, x1, x2, x3, x4], _ =>
              simp only [fits, mWid, Bool.and_eq_true, decide_eq_true_eq] at h2
              have g1 : 0 ≤ x1 ∧ x1 < 256 := by simpa using h2.2.1
              have g2 : 0 ≤ x2 ∧ x2 < 256 := by simpa using h2.2.2.1
              have g3 : 0 ≤ x3 ∧ x3 < 256 := by simpa using h2.2.2.2.1
              have e0 : x0 = _ := hfst
              subst e0
              exact ⟨rfl, rfl, g1, g2, g3⟩
        rw [bytes_nums hq1.2.1 k9 hq1.2.2.1 hq1.2.2.2.1 hq1.2.2.2.2, hq1.1, h3, hall]
      · have := rd_short (mWid k) ⟨b, 0⟩ rfl (by simp only; omega)
        rw [truth_wrong (by rw [this]; decide), fin_wrong (by rw [this]; decide), this] at h
        cases h
end Go.Proofs.YtcfhhjnbkpgpeaaDoor
/- The contract of wire.DecodeMessage: what msgOf tells. -/
namespace Go.Proofs.YtcfhhjnbkpgpeaaDoor
open Go.ChangeShapes Go.WideShapes Go.ChangeAt Go.RowKit
set_option linter.unusedVariables false

theorem boxn_new (u : World) (cs : Array Value) (t : TypeId) (n : Nat) (hn : cs.size = n) : BoxN (u.alloc (.cells cs t)) u.heap.size n cs.toList := by
  refine ⟨by simpa using hn, by simp, fun i hi => ?_⟩
  have hb : (u.alloc (.cells cs t)).heap[u.heap.size]? = some (.cells cs t (0, 0)) := heap_alloc_new u _
  refine ⟨?_, ?_⟩
  · rw [cell_of_row _ u.heap.size i cs t (0, 0) hb]
    rw [Array.getElem?_eq_getElem (by omega)]
    simp [List.getD, show i < cs.size by omega]
  · simp only [World.frozen?, hb]
    simp
theorem BoxN.below {u u' : World} {b n B : Nat} {vs : List Value} (h : BoxN u b n vs) (hb : Below B u u') (hB : b < B) : BoxN u' b n vs := by
  have e := hb.block b hB
  refine ⟨h.len, Nat.lt_of_lt_of_le h.lt hb.size, fun i hi => ⟨?_, ?_⟩⟩
  · rw [World.cell?_of_block (a := ⟨b, i, none⟩) e]; exact (h.c i hi).1
  · rw [World.frozen?_of_block (a := ⟨b, i, none⟩) e]; exact (h.c i hi).2
theorem kind_nonneg (r : RS) (hb : Byt r.rest) (top : Int) : 0 ≤ (r.kind top).1 := by
  have hn : 0 ≤ (r.num 1).1 := by
    by_cases h0 : r.wrong = 0
    · by_cases hk : 1 ≤ r.rest.length
      · rw [num_ok h0 hk]
        exact (bval_bd 1 (r.rest.take 1) (by simp; omega) (hb.take 1)).1
      · rw [num_short h0 (by omega)]; exact Int.le_refl _
    · rw [num_wrong h0]; exact Int.le_refl _
  unfold RS.kind
  split
  · exact Int.le_refl _
  · exact hn

theorem isB_lt {w : World} {a : Option Addr} {len cap : Nat} {bs : List Int} (h : IsB w a len cap bs) : ∀ b off, 0 < len → a = some ⟨b, off, none⟩ → b < w.heap.size := by
  intro b off hl e
  obtain ⟨b', off', e', hlt, _⟩ := h.2.2.2.2.2 hl
  rw [e] at e'
  cases e'
  exact hlt

end Go.Proofs.YtcfhhjnbkpgpeaaDoor
