/- Texts of this claim, one behind the other. -/
import Derived.Test.YtcfhhjnbkpgpeaaDoorM9RebuildDesk
import Derived.Test.YtcfhhjnbkpgpeaaDoorM36RebuildDesk
import Derived.Test.YtcfhhjnbkpgpeaaDoorM24RebuildDesk
import Derived.Lib.LaidTab
import Derived.OpenShut
/- Messages and records read off bytes, on plain data: what was written is read as it was; what is read is written as it was; what is torn is short. -/
namespace Go.Proofs.YtcfhhjnbkpgpeaaDoor
open Go.ChangeShapes Go.WideShapes Go.ChangeAt Go.RowKit
set_option linter.unusedVariables false

/-! ### Numbers one behind the other -/
def rdNums : List Nat → RS → List Int × RS
  | [], r => ([], r)
  | k :: ks, r => ((r.num k).1 :: (rdNums ks (r.num k).2).1, (rdNums ks (r.num k).2).2)
def wrNums : List Nat → List Int → List Int
  | k :: ks, n :: ns => be n k ++ wrNums ks ns
  | _, _ => []
def fits : List Nat → List Int → Bool
  | k :: ks, n :: ns => decide (0 ≤ n ∧ n < 256 ^ k) && fits ks ns
  | [], [] => true
  | _, _ => false
def widthOf (ks : List Nat) : Nat := ks.foldr (· + ·) 0

theorem rd_wrong : ∀ (ks : List Nat) (r : RS), r.wrong ≠ 0 → rdNums ks r = (ks.map fun _ => 0, r) := by
  intro ks
  induction ks with
  | nil => intro r _; rfl
  | cons k ks ih => intro r h; simp [rdNums, num_wrong h, ih r h]
theorem rd_wr : ∀ (ks : List Nat) (ns t : List Int), fits ks ns = true → rdNums ks ⟨wrNums ks ns ++ t, 0⟩ = (ns, ⟨t, 0⟩) := by
  intro ks
  induction ks with
  | nil => intro ns t h; cases ns <;> simp_all [fits, rdNums, wrNums]
  | cons k ks ih =>
    intro ns t h
    cases ns with
    | nil => simp [fits] at h
    | cons n ns =>
      simp only [fits, Bool.and_eq_true, decide_eq_true_eq] at h
      simp only [rdNums, wrNums, List.append_assoc]
      rw [num_app h.1.1 h.1.2, ih ns t h.2]
theorem wr_len : ∀ (ks : List Nat) (ns : List Int), ns.length = ks.length → (wrNums ks ns).length = widthOf ks := by
  intro ks
  induction ks with
  | nil => intro ns h; simp [wrNums, widthOf]
  | cons k ks ih =>
    intro ns h
    cases ns with
    | nil => simp at h
    | cons n ns =>
      have := ih ns (by simpa using h)
      simp only [wrNums, List.length_append, be_len, widthOf, List.foldr_cons] at this ⊢
      omega
theorem rd_len : ∀ (ks : List Nat) (r : RS), (rdNums ks r).1.length = ks.length := by
  intro ks
  induction ks with
  | nil => intro r; rfl
  | cons k ks ih => intro r; simp [rdNums, ih]
/-- Too few bytes: short. -/
theorem rd_short : ∀ (ks : List Nat) (r : RS), r.wrong = 0 → r.rest.length < widthOf ks → (rdNums ks r).2.wrong = 5 := by
  intro ks
  induction ks with
  | nil => intro r _ h; simp [widthOf] at h
  | cons k ks ih =>
    intro r h0 h
    by_cases hk : k ≤ r.rest.length
    · simp only [rdNums, num_ok h0 hk]
      refine ih ⟨r.rest.drop k, 0⟩ rfl ?_
      simp only [widthOf, List.foldr_cons] at h
      simp only [List.length_drop, widthOf]
      omega
    · simp only [rdNums, num_short h0 (by omega : r.rest.length < k)]
      rw [rd_wrong _ _ (by simp)]
/-- Enough bytes: what is read is what stood there. -/
theorem rd_ok : ∀ (ks : List Nat) (r : RS), r.wrong = 0 → widthOf ks ≤ r.rest.length → Byt r.rest →
    (rdNums ks r).2 = ⟨r.rest.drop (widthOf ks), 0⟩ ∧ fits ks (rdNums ks r).1 = true ∧ wrNums ks (rdNums ks r).1 = r.rest.take (widthOf ks) := by
  intro ks
  induction ks with
  | nil => intro r h0 h hb; simp [rdNums, widthOf, fits, wrNums, ← h0]
  | cons k ks ih =>
    intro r h0 h hb
    simp only [widthOf, List.foldr_cons] at h ⊢
    have hk : k ≤ r.rest.length := by omega
    obtain ⟨h1, h2, h3⟩ := ih ⟨r.rest.drop k, 0⟩ rfl (by simp only [widthOf, List.length_drop]; omega) (fun b hb' => hb b (List.mem_of_mem_drop hb'))
    have hlen : (r.rest.take k).length = k := by simp; omega
    have hbt : Byt (r.rest.take k) := fun b hb' => hb b (List.mem_of_mem_take hb')
    simp only [rdNums, num_ok h0 hk, fits, wrNums, Bool.and_eq_true, decide_eq_true_eq]
    refine ⟨?_, ⟨bval_bd k _ hlen hbt, h2⟩, ?_⟩
    · rw [h1]
      simp only [List.drop_drop, widthOf]
    · rw [h3, be_bval k _ hlen hbt]
      simp only [widthOf]
      rw [← List.take_append_drop k (List.take (k + List.foldr (· + ·) 0 ks) r.rest), List.take_take, List.drop_take, Nat.min_eq_left (by omega)]
      congr 2
      omega
theorem rd_app (ks ls : List Nat) (r : RS) : rdNums (ks ++ ls) r = ((rdNums ks r).1 ++ (rdNums ls (rdNums ks r).2).1, (rdNums ls (rdNums ks r).2).2) := by
  induction ks generalizing r with
  | nil => rfl
  | cons k ks ih => simp [rdNums, ih]
theorem num_byt (r : RS) (k : Nat) (h : Byt r.rest) : Byt (r.num k).2.rest := by
  by_cases h0 : r.wrong = 0
  · by_cases hk : k ≤ r.rest.length
    · rw [num_ok h0 hk]; exact fun b hb => h b (List.mem_of_mem_drop hb)
    · rw [num_short h0 (by omega)]; exact h
  · rw [num_wrong h0]; exact h
theorem rd_byt : ∀ (ks : List Nat) (r : RS), Byt r.rest → Byt (rdNums ks r).2.rest := by
  intro ks
  induction ks with
  | nil => intro r h; exact h
  | cons k ks ih => intro r h; exact ih _ (num_byt r k h)

/-! ### Kinds, transactions, parts -/
def RS.kind (r : RS) (top : Int) : Int × RS := if (r.num 1).1 = 0 ∨ top ≤ (r.num 1).1 then (0, (r.num 1).2.refuse 3) else r.num 1
def RS.part (r : RS) (i k : Nat) : Int × RS := if i = 5 ∧ 1 < (r.num k).1 then ((r.num k).1, (r.num k).2.refuse 4) else r.num k
def decParts : Nat → List Bool → List Nat → RS → List Int × RS
  | i, h :: hs, k :: ks, r =>
    if h then ((r.part i k).1 :: (decParts (i + 1) hs ks (r.part i k).2).1, (decParts (i + 1) hs ks (r.part i k).2).2)
    else (0 :: (decParts (i + 1) hs ks r).1, (decParts (i + 1) hs ks r).2)
  | _, _, _, r => ([], r)
def RS.fin (r : RS) : RS := if 0 < r.rest.length then r.refuse 4 else r
end Go.Proofs.YtcfhhjnbkpgpeaaDoor
/- The contracts of wire's reader: refuse, number, kind, end. -/
namespace Go.Proofs.YtcfhhjnbkpgpeaaDoor
open Go.ChangeShapes Go.WideShapes Go.ChangeAt Go.RowKit
set_option linter.unusedVariables false

/-- A reader in memory: it lies at R; the bytes that it reads lie below L. -/
structure RdAt (w : World) (R L : Nat) (a : Option Addr) (len cap : Nat) (st : RS) : Prop where
  c0 : w.cell? ⟨R, 0, none⟩ = some (.slice a len cap)
  c1 : w.cell? ⟨R, 1, none⟩ = some (.int .i64 st.wrong)
  f0 : w.frozen? ⟨R, 0, none⟩ = false
  f1 : w.frozen? ⟨R, 1, none⟩ = false
  isb : IsB w a len cap st.rest
  far : ∀ b off, a = some ⟨b, off, none⟩ → b < L
  hL : L ≤ R
  e0 : 0 ≤ st.wrong ∧ st.wrong ≤ 100
def RdTo (w : World) (R L : Nat) (st : RS) : Prop := ∃ a len cap, RdAt w R L a len cap st

theorem RdAt.lt {w : World} {R L : Nat} {a : Option Addr} {len cap : Nat} {st : RS} (h : RdAt w R L a len cap st) : R < w.heap.size := World.block_lt_of_cell? w _ h.c0
theorem RdTo.lt {w : World} {R L : Nat} {st : RS} (h : RdTo w R L st) : R < w.heap.size := by obtain ⟨a, len, cap, h⟩ := h; exact h.lt
theorem RdTo.hL {w : World} {R L : Nat} {st : RS} (h : RdTo w R L st) : L ≤ R := by obtain ⟨a, len, cap, h⟩ := h; exact h.hL

theorem RdTo.grown {w w' : World} {R L : Nat} {st : RS} {row : Option Nat} (h : RdTo w R L st) (hg : w.grownBy w' row) (hr : ∀ k, row = some k → L ≤ k ∧ k ≠ R) : RdTo w' R L st := by
  obtain ⟨a, len, cap, h⟩ := h
  have hb := hg.block R h.lt (fun e => (hr R e.symm).2 rfl)
  refine ⟨a, len, cap, ?_, ?_, ?_, ?_, h.isb.grown hg (fun b off e e' => ?_), h.far, h.hL, h.e0⟩
  · rw [World.cell?_of_block (a := ⟨R, 0, none⟩) hb]; exact h.c0
  · rw [World.cell?_of_block (a := ⟨R, 1, none⟩) hb]; exact h.c1
  · rw [World.frozen?_of_block (a := ⟨R, 0, none⟩) hb]; exact h.f0
  · rw [World.frozen?_of_block (a := ⟨R, 1, none⟩) hb]; exact h.f1
  · have := h.far b off e
    have := (hr b e'.symm).1
    omega

theorem grown_set {w w' : World} {R i : Nat} {v : Value} (h : w.grownBy w' (some R)) : w.grownBy (w'.setCell ⟨R, i, none⟩ v) (some R) :=
  ⟨h.os, h.tape, h.output, by simpa using h.size, fun k hk hne => by
    rw [Below.heap_setCell w' ⟨R, i, none⟩ v k (by intro e; exact hne (by rw [e]))]
    exact h.block k hk hne⟩
theorem grownR_refl (w : World) (row : Option Nat) : w.grownBy w row := ⟨rfl, rfl, rfl, Nat.le_refl _, fun _ _ _ => rfl⟩
theorem grownR_trans {a b c : World} {row : Option Nat} (h : a.grownBy b row) (k : b.grownBy c row) : a.grownBy c row := h.trans k

theorem IsB.drop {w : World} {a : Option Addr} {len cap : Nat} {bs : List Int} (h : IsB w a len cap bs) (k : Nat) (hk : k ≤ len) (hk0 : 0 < k) : ∃ b off, a = some ⟨b, off, none⟩ ∧ IsB w (some ⟨b, off + k, none⟩) (len - k) (cap - k) (bs.drop k) := by
  obtain ⟨h1, h2, h3, hbd, hn, h4⟩ := h
  obtain ⟨b, off, e, hlt, hl⟩ := h4 (by omega)
  refine ⟨b, off, e, by simp; omega, by omega, by omega, hbd.drop k, fun e => by simp at e, fun hp => ⟨b, off + k, rfl, hlt, fun i hi => ?_⟩⟩
  have := hl (k + i) (by omega)
  rw [show off + k + i = off + (k + i) by omega, this]
  simp [List.getD]

theorem take_get {bs : List Int} {j : Nat} (h : j < bs.length) : bs.take (j + 1) = bs.take j ++ [bs.getD j 0] := by
  rw [List.take_succ_eq_append_getElem h]; simp [List.getD, h]

theorem refuse_e {st : RS} {e : Int} : (st.refuse e).rest = st.rest := by unfold RS.refuse; split <;> rfl

end Go.Proofs.YtcfhhjnbkpgpeaaDoor
/- What the listed tables of package wire hold, cell by cell, out of their reading as data. -/
namespace Go.Proofs.YtcfhhjnbkpgpeaaDoor
open Go.ChangeShapes Go.WideShapes Go.ChangeAt Go.RowKit

def bRow {H : Type} (bs : List Bool) : DataW H := .agg (bs.map fun b => .lit (.bool b))
def bTab {H : Type} (tb : List (List Bool)) : DataW H := .agg (tb.map bRow)

section
variable {H : Type} {enc : TypeId × Value → H} {W : World} {base : Nat} {sp : Nat → Bool} {held : Bool}

theorem c1b : Tryd.prog.cellsOf 4 = 1 := by kernel_rfl
theorem c8b : Tryd.prog.cellsOf 136 = 8 := by kernel_rfl

theorem row_of {fuel : Nat} {cs : List Value} {bs : List Bool} {p : List MemPlace} (hb : bs.length = 8) (h : DataW.trod enc Tryd.prog W base sp held fuel 136 cs = some (bRow bs, p)) (j : Nat) (hj : j < 8) : cs[j]? = some (.bool (bs.getD j false)) := by
  obtain ⟨xs, m, rfl, hx, hl, hn, hel⟩ := DataW.trod_array Tryd.underlying136 h
  have hxs : xs.map (·.1) = bs.map fun b => (DataW.lit (.bool b) : DataW H) := by
    have := congrArg Prod.fst hx
    simpa [bRow] using this.symm
  have h1 := hel j hj
  rw [c1b, List.getElem?_eq_getElem (by omega)] at h1
  obtain ⟨b, hc, hx1⟩ := DataW.trod_bool Tryd.underlying4 h1
  have e1 : cs[j]? = some (.bool b) := by
    have := congrArg (·[0]?) hc
    simpa [List.getElem?_take, List.getElem?_drop] using this
  have e2 : (xs.map (·.1))[j]? = some (DataW.lit (.bool b) : DataW H) := by
    rw [List.getElem?_map, List.getElem?_eq_getElem (by omega), hx1]; rfl
  rw [hxs] at e2
  have hjb : j < bs.length := by omega
  simp [hjb] at e2
  rw [e1]
  simp [List.getD, hjb, e2]

theorem tab_of {fuel n : Nat} {t : TypeId} {cs : List Value} {tb : List (List Bool)} {p : List MemPlace} (ht : Tryd.prog.underlying t = some (.array n 136)) (hn : tb.length = n) (hb : ∀ i, i < n → (tb.getD i []).length = 8) (h : DataW.trod enc Tryd.prog W base sp held fuel t cs = some (bTab tb, p)) (i j : Nat) (hi : i < n) (hj : j < 8) : cs[i * 8 + j]? = some (.bool ((tb.getD i []).getD j false)) := by
  obtain ⟨xs, m, rfl, hx, hl, hlen, hel⟩ := DataW.trod_array ht h
  have hxs : xs.map (·.1) = tb.map bRow := by
    have := congrArg Prod.fst hx
    simpa [bTab] using this.symm
  have h1 := hel i hi
  rw [c8b, List.getElem?_eq_getElem (by omega)] at h1
  have e2 : (xs.map (·.1))[i]? = (tb.map (bRow (H := H)))[i]? := by rw [hxs]
  have hit : i < tb.length := by omega
  have hix : i < xs.length := by omega
  simp [hix, hit] at e2
  obtain ⟨d, q, hxi⟩ : ∃ d q, xs[i] = (d, q) := ⟨_, _, rfl⟩
  have e3 : d = bRow (tb.getD i []) := by
    rw [hxi] at e2
    simp [List.getD, hit]
    exact e2
  rw [hxi, e3] at h1
  have := row_of (hb i hi) h1 j hj
  rw [List.getElem?_take, if_pos hj, List.getElem?_drop] at this
  exact this

theorem has_of {fuel n g : Nat} {t : TypeId} {cs : Array Value} {tb : List (List Bool)} {p : List MemPlace} {name : String} (hg : Tryd.prog.globalNamed name = some g) (hv : W.var? Tryd.prog name = some cs) (ht : Tryd.prog.underlying t = some (.array n 136)) (hn : tb.length = n) (hb : ∀ i, i < n → (tb.getD i []).length = 8)
    (h : DataW.trod enc Tryd.prog W base sp held fuel t cs.toList = some (bTab tb, p)) : HasAt W g tb := by
  intro i j hi hj
  rw [World.var?_cell hg hv, ← Array.getElem?_toList]
  exact tab_of ht hn hb h i j (by omega) hj

theorem mHas_rows : ∀ i, i < 10 → (mHas.getD i []).length = 8 := by decide
theorem rHas_rows : ∀ i, i < 7 → (rHas.getD i []).length = 8 := by decide

theorem tops_of {fuel : Nat} {cs : Array Value} {p : List MemPlace} {name : String} (hg : Tryd.prog.globalNamed name = some 1) (hv : W.var? Tryd.prog name = some cs)
    (h : DataW.trod enc Tryd.prog W base sp held fuel 128 cs.toList = some (Lib.tabData .i64 topL, p)) : TopsAt W := by
  have e := Lib.cells_of_tab Tryd.underlying128 Tryd.underlying3 (by kernel_rfl) (by kernel_rfl) h
  have c : ∀ i, W.cell? ⟨1, i, none⟩ = (topL.map fun z => Value.int .i64 z)[i]? := by
    intro i
    rw [World.var?_cell hg hv, ← Array.getElem?_toList, e]
  unfold TopsAt
  simp only [c]
  simp [topL]
end
end Go.Proofs.YtcfhhjnbkpgpeaaDoor
