/- Texts of this claim, one behind the other. -/
import Derived.Test.YtlaagfnoepcnlaaDoorM12LinesReads
import Derived.Test.YtlaagfnoepcnlaaDoorM6LinesReads
import Derived.Test.YtlaagfnoepcnlaaDoorShelf
import Derived.Lib.ItoaLen
import Derived.Test.YtlaagfnoepcnlaaDoorM9LinesReads
import Derived.Test.YtlaagfnoepcnlaaDoorM7LinesReads
/- Words in a row of the call's own; lines.appendNumbers. -/
namespace Go.Proofs.YtlaagfnoepcnlaaDoor.Ln
open Go.ChangeShapes Go.WideShapes Go.ChangeAt Go.RowKit
open Go.Proofs.YtlaagfnoepcnlaaDoor.St (BoxN boxn_new own_below IsRow Elem flat flat_append own_isRow)
set_option linter.unusedVariables false

def stC (s : ByteArray) : List Value := [.string s]
theorem st_len (x : ByteArray) : (stC x).length = 1 := rfl
theorem st_one (y : ByteArray) : ∀ u ∈ stC y, u.oneCell' = true := by
  intro u hu
  simp only [stC, List.mem_cons, List.not_mem_nil, or_false] at hu
  rcases hu with rfl
  rfl
theorem stInfo : (Tryd.prog.info? 9).map (fun i => (i.zero, i.size, i.bytes)) = some (some (.string ⟨#[]⟩), 1, 16) := by kernel_rfl
theorem stElem : ∃ i, Elem 1 stC 9 45 i (.string ⟨#[]⟩) 16 := by
  obtain ⟨j0, hj, lj0, lj1, lj2⟩ := info_parts stInfo
  exact ⟨j0, st_len, by decide, st_one, Tryd.underlying45, hj, lj0, lj1, lj2, rfl⟩
theorem flat_st : ∀ (vs : List ByteArray), (flat stC vs).length = vs.length
  | [] => rfl
  | x :: r => by
    have := flat_st r
    simp only [flat, List.flatMap_cons, List.length_append, List.length_cons] at *
    rw [this]
    simp [stC, Nat.add_comm]
theorem row_new (X : World) (t : TypeId) (vs : List ByteArray) (cs : Array Value) (n : Nat) (hn : vs.length = n) (hc : cs.toList = flat stC vs) (hm : n ≤ maxLen) (h0 : 0 < n) : (X.alloc (.cells cs t)).ownsRow X.heap.size t 1 (.slice (some ⟨X.heap.size, 0, none⟩) n n) n (flat stC vs) := by
  have hl : (flat stC vs).length = n := by rw [← hn]; exact flat_st vs
  have hs : cs.size = n := by rw [← Array.length_toList, hc, hl]
  refine ⟨by rw [hl]; omega, Or.inr ⟨X.heap.size, n, cs, rfl, Nat.le_refl _, heap_alloc_new X _, Nat.le_refl _, hm, by omega, ?_⟩⟩
  rw [Nat.mul_one, ← hc, List.take_of_length_le (by simp [hs])]
theorem ownB {w : World} {B C : Nat} {te : TypeId} {k : Nat} {v : Value} {n : Nat} {xs : List Value} (h : w.ownsRow C te k v n xs) (hB : B ≤ C) : w.ownsRow B te k v n xs := by
  obtain ⟨h1, h2⟩ := h
  refine ⟨h1, ?_⟩
  rcases h2 with h2 | ⟨g, cap, cur, e, hb, r⟩
  · exact .inl h2
  · exact .inr ⟨g, cap, cur, e, Nat.le_trans hB hb, r⟩
theorem words1 (X : World) (a : ByteArray) (q : Nat) (hq : q = X.heap.size) : IsRow 1 stC (X.alloc (.cells #[.string a] 9)) (some ⟨q, 0, none⟩) 1 1 [a] := hq ▸ (own_isRow st_len (row_new X 9 [a] #[.string a] 1 rfl rfl (by unfold maxLen; omega) (by decide)) rfl).1
/-- What a call does to memory that appends to a row v of its caller's: v' is the row behind it. -/
structure Gr (w w' : World) (v v' : Value) : Prop where
  size : w.heap.size ≤ w'.heap.size
  bel : ∀ B, B ≤ w.heap.size → (∀ g, v.ownBlock = some g → B ≤ g) → Below B w w'
  keep : ∀ b, b < w.heap.size → v.ownBlock ≠ some b → w'.heap[b]? = w.heap[b]?
  own : v'.ownBlock = v.ownBlock ∨ ∃ g, v'.ownBlock = some g ∧ w.heap.size ≤ g
theorem Gr.refl (w : World) (v : Value) : Gr w w v v := ⟨Nat.le_refl _, fun _ _ _ => Below.refl _ _, fun _ _ _ => rfl, Or.inl rfl⟩
theorem Gr.below {w w' : World} {v : Value} (h : Below w.heap.size w w') : Gr w w' v v := ⟨h.size, fun B hB _ => h.mono hB, fun b hb _ => h.block b hb, Or.inl rfl⟩
theorem Gr.grown {w w' : World} {v v' : Value} (h : w.grownBy w' v.ownBlock) (ho : v'.ownBlock = v.ownBlock ∨ v'.ownBlock = some w.heap.size) : Gr w w' v v' :=
  ⟨h.size, fun B hB hg => (Below.refl B w).grown h hB hg, fun b hb hne => h.block b hb (fun e => hne e.symm), ho.elim Or.inl (fun e => Or.inr ⟨_, e, Nat.le_refl _⟩)⟩
theorem Gr.trans {w u z : World} {v1 v2 v3 : Value} (h : Gr w u v1 v2) (k : Gr u z v2 v3) : Gr w z v1 v3 := by
  refine ⟨Nat.le_trans h.size k.size, fun B hB hg => (h.bel B hB hg).trans (k.bel B (Nat.le_trans hB h.size) (fun g e => ?_)), fun b hb hne => (k.keep b (Nat.lt_of_lt_of_le hb h.size) (fun e => ?_)).trans (h.keep b hb hne), ?_⟩
  · rcases h.own with e2 | ⟨g2, e2, h2⟩
    · exact hg g (e2 ▸ e)
    · rw [e2] at e
      cases e
      omega
  · rcases h.own with e2 | ⟨g2, e2, h2⟩
    · exact hne (e2 ▸ e)
    · rw [e2] at e
      cases e
      omega
  · rcases k.own with e2 | ⟨g2, e2, h2⟩
    · rcases h.own with e3 | ⟨g3, e3, h3⟩
      · exact Or.inl (e2.trans e3)
      · exact Or.inr ⟨g3, e2.trans e3, h3⟩
    · exact Or.inr ⟨g2, e2, Nat.le_trans h.size h2⟩
theorem Gr.cell {w w' : World} {v v' : Value} (h : Gr w w' v v') {p : Addr} (hp : p.block < w.heap.size) (hne : v.ownBlock ≠ some p.block) : w'.cell? p = w.cell? p := World.cell?_of_block (h.keep p.block hp hne)
def wNum (n : Int) : ByteArray := ⟨(Lib.itoa n).toArray⟩
def numsW : List Bool → List Int → List ByteArray
  | h :: hs, p :: ps => (if h then [wNum p] else []) ++ numsW hs ps
  | _, _ => []
theorem numsW_at {hs : List Bool} {ps : List Int} {k : Nat} (h1 : k < hs.length) (h2 : k < ps.length) : numsW (hs.drop k) (ps.drop k) = (if hs.getD k false then [wNum (ps.getD k 0)] else []) ++ numsW (hs.drop (k + 1)) (ps.drop (k + 1)) := by
  rw [List.drop_eq_getElem_cons h1, List.drop_eq_getElem_cons h2, numsW]
  simp [List.getD, h1, h2]
theorem numsW_end {hs : List Bool} {ps : List Int} {k : Nat} (h2 : ps.length ≤ k) : numsW (hs.drop k) (ps.drop k) = [] := by
  rw [List.drop_of_length_le h2]
  cases hs.drop k <;> rfl
def i64n (n : Int) : Prop := -9223372036854775808 ≤ n ∧ n ≤ 9223372036854775807
theorem itoa_gr {n : Int} (hn : i64n n) (U : World) (hT : Lib.TabIs Tryd.prog U "internal/strconv.uint64pow10" .u64 Lib.pow10Tab) : Calls Tryd.prog 46 #[.int .i64 n] U fun e w' => e = .returned (.string (wNum n)) ∧ Below U.heap.size U w' := by
  refine (Tryd.strconv_Itoa n hn.1 hn.2 U hT).mono ?_
  rintro e w' ⟨rfl, kk, os, rfl⟩
  refine ⟨rfl, ⟨rfl, rfl, rfl, by simp [Go.Sort.grow, World.drewN], fun j hj => ?_⟩⟩
  simp only [Go.Sort.grow, World.drewN]
  rw [Array.getElem?_append_left hj]
/-- Words of the call's own, with so many more. -/
def WordsTo (B : Nat) (w w' : World) (e : Ending) (v : Value) (ws : List ByteArray) : Prop := ∃ a c, e = .returned (.slice a ws.length c) ∧ w'.ownsRow B 9 1 (.slice a ws.length c) ws.length (flat stC ws) ∧ Gr w w' v (.slice a ws.length c)
set_option maxRecDepth 100000 in
set_option maxHeartbeats 4000000 in
theorem appendNumbers_any (B : Nat) (a : Option Addr) (c : Nat) (ws : List ByteArray) (bh oh hn hc bp op pn pc : Nat) (hs : List Bool) (ps : List Int) (w : World) (hB : B ≤ w.heap.size)
    (hO : w.ownsRow B 9 1 (.slice a ws.length c) ws.length (flat stC ws)) (hw : ws.length ≤ 1000) (hp7 : pn ≤ 7) (hph : pn ≤ hn) (h1 : hs.length = hn) (h2 : ps.length = pn) (hi : ∀ i, i < pn → i64n (ps.getD i 0))
    (zh : bh < w.heap.size) (zp : bp < w.heap.size) (ah : (Value.slice a ws.length c).ownBlock ≠ some bh) (ap : (Value.slice a ws.length c).ownBlock ≠ some bp)
    (ch : ∀ i, i < hn → w.cell? ⟨bh, oh + i, none⟩ = some (.bool (hs.getD i false))) (cp : ∀ i, i < pn → w.cell? ⟨bp, op + i, none⟩ = some (.int .i64 (ps.getD i 0)))
    (hT : ∀ U, Below B w U → Lib.TabIs Tryd.prog U "internal/strconv.uint64pow10" .u64 Lib.pow10Tab) :
    Calls Tryd.prog 45 #[.slice a ws.length c, .slice (some ⟨bh, oh, none⟩) hn hc, .slice (some ⟨bp, op, none⟩) pn pc] w fun e w' => WordsTo B w w' e (.slice a ws.length c) (ws ++ numsW hs ps) := by
  obtain ⟨iE, ES⟩ := stElem
  obtain ⟨R, eR⟩ : ∃ R, R = ws ++ numsW hs ps := ⟨_, rfl⟩
  have HR0 : Hid (R = ws ++ numsW (hs.drop 0) (ps.drop 0)) := eR
  obtain ⟨v0, ev0⟩ : ∃ v, v = Value.slice a ws.length c := ⟨_, rfl⟩
  have HG : Hid (∀ U v, Gr w U v0 v → (∀ i, i < hn → U.cell? ⟨bh, oh + i, none⟩ = some (.bool (hs.getD i false))) ∧ (∀ i, i < pn → U.cell? ⟨bp, op + i, none⟩ = some (.int .i64 (ps.getD i 0))) ∧ bh < U.heap.size ∧ bp < U.heap.size ∧ Below B w U ∧ B ≤ U.heap.size) := fun U v hU => by
    have hb := hU.bel B hB (fun g e => (hO.lt g (by rw [← ev0]; exact e)).1)
    exact ⟨fun i hi => (hU.cell zh (by rw [ev0]; exact ah)).trans (ch i hi), fun i hi => (hU.cell zp (by rw [ev0]; exact ap)).trans (cp i hi), Nat.lt_of_lt_of_le zh hU.size, Nat.lt_of_lt_of_le zp hU.size, hb, Nat.le_trans hB hU.size⟩
  have HIt : Hid (∀ U v i, Gr w U v0 v → i < pn → Calls Tryd.prog 46 #[.int .i64 (ps.getD i 0)] U fun e w' => e = .returned (.string (wNum (ps.getD i 0))) ∧ Below U.heap.size U w') := fun U v i hU hlt => itoa_gr (hi i hlt) U (hT U (HG.out U v hU).2.2.2.2.1)
  have HOwn : Hid (∀ U v, Gr w U v0 v → U.heap.size ≥ w.heap.size) := fun U v h => h.size
  rw [← eR]
  have g0 : Gr w w v0 (.slice a ws.length c) := ev0 ▸ Gr.refl w _
  rw [← ev0]
  have EV : Hid (v0 = Value.slice a ws.length c) := ev0
  clear eR ev0 hT ch cp ah ap zh zp hi
  go_enter Tryd.func45, Tryd.ntmps45
  go_wp2
  go_loopw [0, 11] (fun s0 s11 wr => ∃ (k : Nat) (a : Option Addr) (c : Nat) (us : List ByteArray), s0 = .slice a us.length c ∧ s11 = .int .i64 (k : Int) ∧ k ≤ pn ∧ us.length ≤ 1000 + k ∧ wr.ownsRow B 9 1 (.slice a us.length c) us.length (flat stC us) ∧ Gr w wr v0 (.slice a us.length c) ∧ Hid (R = us ++ numsW (hs.drop k) (ps.drop k))) (fun _ s11 _ => pn - (intOf s11).toNat)
  case atStart => exact ⟨0, a, c, ws, EV.out, rfl, by omega, by omega, hO, g0, HR0⟩
  case round =>
    clear hO g0 HR0 hw EV
    obtain ⟨k, a, c, us, rfl, rfl, hk, hul, hO, hG, hT⟩ := hrel
    obtain ⟨wo, ewo⟩ : ∃ X : World, X = wr := ⟨_, rfl⟩
    subst ewo
    by_cases hlt : k < pn
    · have hlt' : (k : Int) < (pn : Int) := by omega
      have hlh : (k : Int) < (hn : Int) := by omega
      have HJ : Hid (k + 1 ≤ pn) := hlt
      obtain ⟨ch, cp, zh, zp, hbB, hBo⟩ := HG.out wo _ hG
      have c1 := ch k (by omega)
      have c2 := cp k hlt
      have hT2 : Hid (R = us ++ ((if hs.getD k false then [wNum (ps.getD k 0)] else []) ++ numsW (hs.drop (k + 1)) (ps.drop (k + 1)))) := by show _ = _; rw [← numsW_at (by omega) (by omega)]; exact hT.out
      have hIt := HIt.out wo _ k hG hlt
      obtain ⟨HB, eHB⟩ : ∃ x, x = hs.getD k false := ⟨_, rfl⟩
      obtain ⟨P, eP⟩ : ∃ x, x = ps.getD k 0 := ⟨_, rfl⟩
      rw [← eHB] at c1 hT2
      rw [← eP] at c2 hT2 hIt
      clear eHB eP hT ch cp
      cases HB with
      | false =>
        have hT3 : Hid (R = us ++ numsW (hs.drop (k + 1)) (ps.drop (k + 1))) := hT2
        clear hT2 hIt
        go_wp2
        go_roundw
        case rel => exact ⟨k + 1, a, c, us, rfl, by go_num, HJ.out, by omega, hO, hG, hT3⟩
        case measure => have := HJ.out; simp [intOf]; omega
      | true =>
        have hT3 : Hid (R = (us ++ [wNum P]) ++ numsW (hs.drop (k + 1)) (ps.drop (k + 1))) := by show _ = _; rw [List.append_assoc]; exact hT2.out
        have HF : Hid (∀ (u1 w5 : World) (a5 : Option Addr) (c5 : Nat), Below wo.heap.size wo u1 → (u1.alloc (.cells #[.string (wNum P)] 9)).grownBy w5 (Value.slice a us.length c).ownBlock → ((Value.slice a5 (us.length + 1) c5).ownBlock = (Value.slice a us.length c).ownBlock ∨ (Value.slice a5 (us.length + 1) c5).ownBlock = some (u1.alloc (.cells #[.string (wNum P)] 9)).heap.size) → Gr w w5 v0 (.slice a5 (us.length + 1) c5)) := fun u1 w5 a5 c5 h8 h9 h10 =>
          (hG.trans ((Gr.below h8).trans (Gr.below ((Below.refl _ _).alloc (Nat.le_refl _) _)))).trans (Gr.grown h9 h10)
        clear hT2
        obtain ⟨W1, eW1⟩ : ∃ x, x = wNum P := ⟨_, rfl⟩
        rw [← eW1] at hIt hT3 HF
        clear eW1 HG HIt HOwn
        go_upto_region 5 with (fail)
        go_wp2_with (first | (go_at_call 46; refine hIt.mono ?_; rintro e u1 ⟨rfl, bu1⟩) | (at_builtin; go_loud (refine St.wpList_append_row ES (by rfl) _ _ (by rfl) B (.slice a us.length c) us.length us (by rfl) (own_below (own_below hO bu1) ((Below.refl _ _).alloc (Nat.le_refl _) _)) _ 1 1 [W1] (by rfl) (words1 u1 W1 _ rfl) (by unfold maxLen; omega) (by omega) (by have := bu1.size; simp; omega) ?_; intro a5 c5 w5 own5 gr5 at5; have hG5 := HF.out u1 w5 a5 c5 bu1 gr5 at5)))
        go_roundw
        case rel => exact ⟨k + 1, a5, c5, us ++ [W1], by rw [List.length_append]; rfl, by go_num, HJ.out, by rw [List.length_append, List.length_singleton]; omega, by rw [List.length_append]; exact own5, by rw [List.length_append]; exact hG5, hT3⟩
        case measure => have := HJ.out; simp [intOf]; omega
    · obtain rfl : k = pn := by omega
      have hnl : ¬ ((k : Int) < (k : Int)) := by omega
      have HE : Hid (R = us) := by show _ = _; rw [hT.out, numsW_end (by omega), List.append_nil]
      clear hT HG HIt HOwn
      go_wp2
      go_ret
      rw [HE.out]
      exact ⟨a, c, rfl, hO, hG⟩
end Go.Proofs.YtlaagfnoepcnlaaDoor.Ln
/- lines.appendCall: a call's words. -/
namespace Go.Proofs.YtlaagfnoepcnlaaDoor.Ln
open Go.ChangeShapes Go.WideShapes Go.ChangeAt Go.RowKit
open Go.Proofs.YtlaagfnoepcnlaaDoor.St (BoxN boxn_new own_below IsRow Elem flat flat_append own_isRow)
set_option linter.unusedVariables false

def cWord (k : Nat) : ByteArray := match k with
  | 1 => ⟨#[98, 101, 103, 105, 110]⟩
  | 2 => ⟨#[103, 101, 116]⟩
  | 3 => ⟨#[112, 117, 116]⟩
  | 4 => ⟨#[99, 111, 109, 109, 105, 116]⟩
  | 5 => ⟨#[114, 111, 108, 108, 98, 97, 99, 107]⟩
  | _ => ⟨#[]⟩
/-- The table of words. -/
def WTab (w : World) (g n : Nat) (f : Nat → ByteArray) : Prop := g < w.heap.size ∧ ∀ i, i < n → w.cell? ⟨g, i, none⟩ = some (.string (f i))
theorem WTab.below {w w' : World} {B g n : Nat} {f : Nat → ByteArray} (h : WTab w g n f) (hb : Below B w w') (hB : g < B) : WTab w' g n f :=
  ⟨Nat.lt_of_lt_of_le h.1 hb.size, fun i hi => (hb.cell (p := ⟨g, i, none⟩) hB).trans (h.2 i hi)⟩
def callW (c0 c1 c2 c3 c4 : Int) : List ByteArray := cWord c0.toNat :: numsW (cHas.getD c0.toNat []) [c1, c2, c3, c4]
set_option maxRecDepth 100000 in
set_option maxHeartbeats 8000000 in
theorem appendCall_any (B : Nat) (a : Option Addr) (c : Nat) (ws : List ByteArray) (k : Nat) (c1 c2 c3 c4 : Int) (w : World) (hB0 : B ≤ w.heap.size) (k6 : k < 6)
    (hO : w.ownsRow B 9 1 (.slice a ws.length c) ws.length (flat stC ws)) (hw : ws.length ≤ 900) (i1 : i64n c1) (i2 : i64n c2) (i3 : i64n c3) (i4 : i64n c4)
    (hT : ∀ U, Below B w U → Lib.TabIs Tryd.prog U "internal/strconv.uint64pow10" .u64 Lib.pow10Tab) (hh : Tab w 2 4 cHas) (hcw : WTab w 4 6 cWord) (hg1 : 2 < B) (hg2 : 4 < B) :
    Calls Tryd.prog 47 #[.slice a ws.length c, .agg #[.int .i64 (k : Int), .int .i64 c1, .int .i64 c2, .int .i64 c3, .int .i64 c4]] w fun e w' => WordsTo B w w' e (.slice a ws.length c) (ws ++ callW k c1 c2 c3 c4) := by
  obtain ⟨iE, ES⟩ := stElem
  have zh := hh.lt (by decide) (by decide)
  have k6' : (k : Int) < 6 := by omega
  obtain ⟨R, eR⟩ : ∃ R, R = ws ++ callW k c1 c2 c3 c4 := ⟨_, rfl⟩
  have HR : Hid (R = (ws ++ [cWord k]) ++ numsW (cHas.getD k []) [c1, c2, c3, c4]) := by show _ = _; rw [eR]; simp [callW]
  rw [← eR]
  clear eR
  obtain ⟨v0, ev0⟩ : ∃ v, v = Value.slice a ws.length c := ⟨_, rfl⟩
  have EV : Hid (v0 = Value.slice a ws.length c) := ev0
  rw [← ev0]
  clear ev0
  obtain ⟨W, hW⟩ : ∃ W : World, W = w.alloc (.cells #[.int .i64 (k : Int), .int .i64 c1, .int .i64 c2, .int .i64 c3, .int .i64 c4] 39) := ⟨_, rfl⟩
  have hB : Below w.heap.size w W := by rw [hW]; exact (Below.refl _ _).alloc (Nat.le_refl _) _
  have zW : w.heap.size < W.heap.size := by rw [hW]; simp
  have d0 : W.cell? ⟨w.heap.size, 0, none⟩ = some (.int .i64 (k : Int)) := by rw [hW]; go_simp
  have d1 : W.cell? ⟨w.heap.size, 1, none⟩ = some (.int .i64 c1) := by rw [hW]; go_simp
  have d2 : W.cell? ⟨w.heap.size, 2, none⟩ = some (.int .i64 c2) := by rw [hW]; go_simp
  have d3 : W.cell? ⟨w.heap.size, 3, none⟩ = some (.int .i64 c3) := by rw [hW]; go_simp
  have d4 : W.cell? ⟨w.heap.size, 4, none⟩ = some (.int .i64 c4) := by rw [hW]; go_simp
  have HCW : Hid (∀ U, Below w.heap.size w U → U.cell? ⟨4, k, none⟩ = some (.string (cWord k)) ∧ 4 < U.heap.size) := fun U hU => ⟨(hcw.below hU hcw.1).2 k k6, (hcw.below hU hcw.1).1⟩
  have HK : Hid (∀ U, Below W.heap.size W U → U.cell? ⟨w.heap.size, 0, none⟩ = some (.int .i64 (k : Int)) ∧ w.heap.size < U.heap.size) := fun U hU => ⟨(hU.cell (p := ⟨w.heap.size, 0, none⟩) zW).trans d0, Nat.lt_of_lt_of_le zW hU.size⟩
  have hhW : Tab W 2 4 cHas := hh.below hB zh
  go_enter Tryd.func47, Tryd.ntmps47
  go_upto_region 1 with (fail)
  rw [← hW]
  clear hW
  have EH := cHas_four k k6
  have f0 := (hhW) k 0 k6 (by decide)
  have f1 := (hhW) k 1 k6 (by decide)
  have f2 := (hhW) k 2 k6 (by decide)
  have f3 := (hhW) k 3 k6 (by decide)
  obtain ⟨h0, eh0⟩ : ∃ x, x = (cHas.getD k []).getD 0 false := ⟨_, rfl⟩
  obtain ⟨h1, eh1⟩ : ∃ x, x = (cHas.getD k []).getD 1 false := ⟨_, rfl⟩
  obtain ⟨h2, eh2⟩ : ∃ x, x = (cHas.getD k []).getD 2 false := ⟨_, rfl⟩
  obtain ⟨h3, eh3⟩ : ∃ x, x = (cHas.getD k []).getD 3 false := ⟨_, rfl⟩
  rw [← eh0, ← eh1, ← eh2, ← eh3] at EH
  rw [← eh0] at f0
  rw [← eh1] at f1
  rw [← eh2] at f2
  rw [← eh3] at f3
  clear eh0 eh1 eh2 eh3
  simp only [Nat.add_zero] at f0
  rw [EH] at HR
  clear EH
  have zhW : 2 < W.heap.size := by omega

  have KC : Hid (∀ U : World, Below W.heap.size W U → (U.cell? ⟨w.heap.size, 0, none⟩ = some (.int .i64 (k : Int)) ∧ U.cell? ⟨w.heap.size, 1, none⟩ = some (.int .i64 c1) ∧ U.cell? ⟨w.heap.size, 2, none⟩ = some (.int .i64 c2) ∧ U.cell? ⟨w.heap.size, 3, none⟩ = some (.int .i64 c3) ∧ U.cell? ⟨w.heap.size, 4, none⟩ = some (.int .i64 c4)) ∧ U.cell? ⟨2, k * 4, none⟩ = some (.bool h0) ∧ U.cell? ⟨2, k * 4 + 1, none⟩ = some (.bool h1) ∧ U.cell? ⟨2, k * 4 + 2, none⟩ = some (.bool h2) ∧ U.cell? ⟨2, k * 4 + 3, none⟩ = some (.bool h3)) := fun U hU => ⟨⟨(hU.cell (p := ⟨w.heap.size, 0, none⟩) zW).trans d0, (hU.cell (p := ⟨w.heap.size, 1, none⟩) zW).trans d1, (hU.cell (p := ⟨w.heap.size, 2, none⟩) zW).trans d2, (hU.cell (p := ⟨w.heap.size, 3, none⟩) zW).trans d3, (hU.cell (p := ⟨w.heap.size, 4, none⟩) zW).trans d4⟩, (hU.cell (p := ⟨2, k * 4, none⟩) zhW).trans f0, (hU.cell (p := ⟨2, k * 4 + 1, none⟩) zhW).trans f1, (hU.cell (p := ⟨2, k * 4 + 2, none⟩) zhW).trans f2, (hU.cell (p := ⟨2, k * 4 + 3, none⟩) zhW).trans f3⟩
  clear d0 d1 d2 d3 d4 f0 f1 f2 f3
  go_cut [5, 6] (fun s3 s4 wc => ∃ b3 b4 : Nat, s3 = .pointer (some ⟨b3, 0, none⟩) ∧ s4 = .pointer (some ⟨b4, 0, none⟩) ∧ Bools wc b3 [h0, h1, h2, h3] ∧ Nms wc b4 [c1, c2, c3, c4] ∧ Below W.heap.size W wc ∧ W.heap.size ≤ b3 ∧ W.heap.size ≤ b4)
  case first =>
    refine wp_region_inv (by kernel_rfl) [7, 8, 9, 10, 11, 12, 5, 6] (fun L T u => ∃ (b3 : Nat) (b4 : Nat), Below W.heap.size W u ∧ (L 0 = true → T 7 = .pointer (some ⟨w.heap.size, 0, none⟩)) ∧ (L 1 = true → T 8 = .int .i64 (k : Int)) ∧ (L 2 = true → T 9 = .pointer (some ⟨2, k * 4, none⟩)) ∧ (L 3 = true → T 10 = .agg #[.bool h0, .bool h1, .bool h2, .bool h3]) ∧ (L 4 = true → T 11 = .agg #[.int .i64 (k : Int), .int .i64 c1, .int .i64 c2, .int .i64 c3, .int .i64 c4]) ∧ (L 5 = true → T 12 = .agg #[.int .i64 c1, .int .i64 c2, .int .i64 c3, .int .i64 c4]) ∧ (L 6 = true → (T 5 = .pointer (some ⟨b3, 0, none⟩) ∧ W.heap.size ≤ b3 ∧ b3 < u.heap.size)) ∧ (L 7 = true → (T 6 = .pointer (some ⟨b4, 0, none⟩) ∧ W.heap.size ≤ b4 ∧ b4 < u.heap.size)) ∧ (L 6 = true → L 7 = true → b3 ≠ b4) ∧ (L 6 = true → L 8 = false → BoxN u b3 4 [.bool false, .bool false, .bool false, .bool false]) ∧ (L 7 = true → L 9 = false → BoxN u b4 4 [.int .i64 0, .int .i64 0, .int .i64 0, .int .i64 0]) ∧ (L 8 = true → BoxN u b3 4 [.bool h0, .bool h1, .bool h2, .bool h3]) ∧ (L 9 = true → BoxN u b4 4 [.int .i64 c1, .int .i64 c2, .int .i64 c3, .int .i64 c4])) (by decide) (by kernel_rfl) (by kernel_rfl) ?_ ?_ ?_
    · exact ⟨0, 0, (Below.refl _ _).drew, nofun, nofun, nofun, nofun, nofun, nofun, nofun, nofun, nofun, nofun, nofun, nofun, nofun⟩
    · refine ⟨?_, ?_, ?_, ?_, ?_, ?_, ?_, ?_, ?_, ?_, trivial⟩
      · rintro L T u hd hk hcl ⟨b3, b4, hb, p0, p1, p2, p3, p4, p5, p6, p7, ap, z3, z4, q3, q4⟩ K hK
        simp only [fr, Act.put, List.setIfInBounds_toArray, List.set_cons_zero, List.set_cons_succ, updO] at hK ⊢
        simp [Region.binds] at hd
        rw [if_pos (by rfl)]
        simp only [Oper.wpv]
        go_simp
        exact hK _ _ ⟨b3, b4, hb, fun _ => rfl, p1, p2, p3, p4, p5, p6, p7, ap, z3, z4, q3, q4⟩
      · rintro L T u hd hk hcl ⟨b3, b4, hb, p0, p1, p2, p3, p4, p5, p6, p7, ap, z3, z4, q3, q4⟩ K hK
        simp only [fr, Act.put, List.setIfInBounds_toArray, List.set_cons_zero, List.set_cons_succ, updO] at hK ⊢
        simp [Region.binds] at hd
        have e0 := p0 (by simp [hd])
        obtain ⟨⟨d0, d1, d2, d3, d4⟩, f0, f1, f2, f3⟩ := KC.out u hb
        rw [if_pos (by rfl)]
        simp only [Oper.wpv]
        go_simp
        exact hK _ _ ⟨b3, b4, hb, p0, fun _ => rfl, p2, p3, p4, p5, p6, p7, ap, z3, z4, q3, q4⟩
      · rintro L T u hd hk hcl ⟨b3, b4, hb, p0, p1, p2, p3, p4, p5, p6, p7, ap, z3, z4, q3, q4⟩ K hK
        simp only [fr, Act.put, List.setIfInBounds_toArray, List.set_cons_zero, List.set_cons_succ, updO] at hK ⊢
        simp [Region.binds] at hd
        have e0 := p1 (by simp [hd])
        have k0 : (0 : Int) ≤ (k : Int) := by omega
        rw [if_pos (by rfl)]
        simp only [Oper.wpv]
        go_simp
        exact hK _ _ ⟨b3, b4, hb, p0, p1, fun _ => rfl, p3, p4, p5, p6, p7, ap, z3, z4, q3, q4⟩
      · rintro L T u hd hk hcl ⟨b3, b4, hb, p0, p1, p2, p3, p4, p5, p6, p7, ap, z3, z4, q3, q4⟩ K hK
        simp only [fr, Act.put, List.setIfInBounds_toArray, List.set_cons_zero, List.set_cons_succ, updO] at hK ⊢
        simp [Region.binds] at hd
        have e0 := p2 (by simp [hd])
        obtain ⟨⟨d0, d1, d2, d3, d4⟩, f0, f1, f2, f3⟩ := KC.out u hb
        rw [if_pos (by rfl)]
        simp only [Oper.wpv]
        go_simp
        exact hK _ _ ⟨b3, b4, hb, p0, p1, p2, fun _ => rfl, p4, p5, p6, p7, ap, z3, z4, q3, q4⟩
      · rintro L T u hd hk hcl ⟨b3, b4, hb, p0, p1, p2, p3, p4, p5, p6, p7, ap, z3, z4, q3, q4⟩ K hK
        simp only [fr, Act.put, List.setIfInBounds_toArray, List.set_cons_zero, List.set_cons_succ, updO] at hK ⊢
        simp [Region.binds] at hd
        obtain ⟨⟨d0, d1, d2, d3, d4⟩, f0, f1, f2, f3⟩ := KC.out u hb
        rw [if_pos (by rfl)]
        simp only [Oper.wpv]
        go_simp
        exact hK _ _ ⟨b3, b4, hb, p0, p1, p2, p3, fun _ => rfl, p5, p6, p7, ap, z3, z4, q3, q4⟩
      · rintro L T u hd hk hcl ⟨b3, b4, hb, p0, p1, p2, p3, p4, p5, p6, p7, ap, z3, z4, q3, q4⟩ K hK
        simp only [fr, Act.put, List.setIfInBounds_toArray, List.set_cons_zero, List.set_cons_succ, updO] at hK ⊢
        simp [Region.binds] at hd
        have e0 := p4 (by simp [hd])
        rw [if_pos (by rfl)]
        simp only [Oper.wpv]
        go_simp
        refine (callParts_any _ _ _ _ _ _).mono ?_
        rintro e u1 ⟨rfl, hg⟩
        exact hK _ _ ⟨b3, b4, (nT hb hg), p0, p1, p2, p3, p4, fun _ => rfl, fun h0 => ⟨(p6 h0).1, (p6 h0).2.1, Nat.lt_of_lt_of_le (p6 h0).2.2 hg.size⟩, fun h0 => ⟨(p7 h0).1, (p7 h0).2.1, Nat.lt_of_lt_of_le (p7 h0).2.2 hg.size⟩, ap, fun h0 h1 => (z3 h0 h1).below hg (z3 h0 h1).lt, fun h0 h1 => (z4 h0 h1).below hg (z4 h0 h1).lt, fun h0 => (q3 h0).below hg (q3 h0).lt, fun h0 => (q4 h0).below hg (q4 h0).lt⟩
      · rintro L T u hd hk hcl ⟨b3, b4, hb, p0, p1, p2, p3, p4, p5, p6, p7, ap, z3, z4, q3, q4⟩ K hK
        simp only [fr, Act.put, List.setIfInBounds_toArray, List.set_cons_zero, List.set_cons_succ, updO] at hK ⊢
        simp [Region.binds] at hd
        have hg : Below u.heap.size u (u.alloc (.cells #[.bool false, .bool false, .bool false, .bool false] 111)) := (Below.refl _ _).alloc (Nat.le_refl _) _
        have c8 := hcl 8 _ rfl
        simp [Region.binds] at c8
        rw [if_pos (by rfl)]
        simp only [Oper.wpv]
        go_simp
        exact hK _ _ ⟨u.heap.size, b4, (nT hb hg), p0, p1, p2, p3, p4, p5, fun _ => ⟨rfl, hb.size, by simp⟩, fun h0 => ⟨(p7 h0).1, (p7 h0).2.1, Nat.lt_of_lt_of_le (p7 h0).2.2 hg.size⟩, fun _ h1 => (Nat.ne_of_lt (p7 h1).2.2).symm, fun _ _ => boxn_new u #[.bool false, .bool false, .bool false, .bool false] 111 4 rfl, fun h0 h1 => (z4 h0 h1).below hg (z4 h0 h1).lt, fun h => by have := c8 h; simp [hk] at this, fun h0 => (q4 h0).below hg (q4 h0).lt⟩
      · rintro L T u hd hk hcl ⟨b3, b4, hb, p0, p1, p2, p3, p4, p5, p6, p7, ap, z3, z4, q3, q4⟩ K hK
        simp only [fr, Act.put, List.setIfInBounds_toArray, List.set_cons_zero, List.set_cons_succ, updO] at hK ⊢
        simp [Region.binds] at hd
        have hg : Below u.heap.size u (u.alloc (.cells #[.int .i64 0, .int .i64 0, .int .i64 0, .int .i64 0] 113)) := (Below.refl _ _).alloc (Nat.le_refl _) _
        have c9 := hcl 9 _ rfl
        simp [Region.binds] at c9
        rw [if_pos (by rfl)]
        simp only [Oper.wpv]
        go_simp
        exact hK _ _ ⟨b3, u.heap.size, (nT hb hg), p0, p1, p2, p3, p4, p5, fun h0 => ⟨(p6 h0).1, (p6 h0).2.1, Nat.lt_of_lt_of_le (p6 h0).2.2 hg.size⟩, fun _ => ⟨rfl, hb.size, by simp⟩, fun h0 _ => Nat.ne_of_lt (p6 h0).2.2, fun h0 h1 => (z3 h0 h1).below hg (z3 h0 h1).lt, fun _ _ => boxn_new u #[.int .i64 0, .int .i64 0, .int .i64 0, .int .i64 0] 113 4 rfl, fun h0 => (q3 h0).below hg (q3 h0).lt, fun h => by have := c9 h; simp [hk] at this⟩
      · rintro L T u hd hk hcl ⟨b3, b4, hb, p0, p1, p2, p3, p4, p5, p6, p7, ap, z3, z4, q3, q4⟩ K hK
        simp only [fr, Act.put, List.setIfInBounds_toArray, List.set_cons_zero, List.set_cons_succ, updO] at hK ⊢
        simp [Region.binds] at hd
        have e3 := p3 (by simp [hd])
        obtain ⟨e0, l0, l1⟩ := p6 (by simp [hd])
        have bx := z3 (by simp [hd]) hk
        have x0 : _ = some _ := (bx.c 0 (by decide)).1
        have y0 := (bx.c 0 (by decide)).2
        have x1 : _ = some _ := (bx.c 1 (by decide)).1
        have y1 := (bx.c 1 (by decide)).2
        have x2 : _ = some _ := (bx.c 2 (by decide)).1
        have y2 := (bx.c 2 (by decide)).2
        have x3 : _ = some _ := (bx.c 3 (by decide)).1
        have y3 := (bx.c 3 (by decide)).2
        simp only [List.getD_cons_zero, List.getD_cons_succ] at x0 x1 x2 x3
        have c9 := hcl 9 _ rfl
        simp [Region.binds] at c9
        rw [if_pos (by rfl)]
        simp only [Oper.wpv]
        go_simp
        exact hK _ _ ⟨b3, b4, (nS (nS (nS (nS hb l0 _) l0 _) l0 _) l0 _), p0, p1, p2, p3, p4, p5, fun h0 => ⟨(p6 h0).1, (p6 h0).2.1, by simpa using (p6 h0).2.2⟩, fun h0 => ⟨(p7 h0).1, (p7 h0).2.1, by simpa using (p7 h0).2.2⟩, ap, fun _ h => Bool.noConfusion (show true = false from h), fun h0 h1 => (((((z4 h0 h1).far (Ne.symm (ap (by simp [hd]) h0))).far (Ne.symm (ap (by simp [hd]) h0))).far (Ne.symm (ap (by simp [hd]) h0))).far (Ne.symm (ap (by simp [hd]) h0))), fun _ => ((((bx.set 0 (by decide) (.bool h0)).set 1 (by decide) (.bool h1)).set 2 (by decide) (.bool h2)).set 3 (by decide) (.bool h3)), fun h0 => (((((q4 h0).far (Ne.symm (ap (by simp [hd]) (by simp [c9 h0])))).far (Ne.symm (ap (by simp [hd]) (by simp [c9 h0])))).far (Ne.symm (ap (by simp [hd]) (by simp [c9 h0])))).far (Ne.symm (ap (by simp [hd]) (by simp [c9 h0]))))⟩
      · rintro L T u hd hk hcl ⟨b3, b4, hb, p0, p1, p2, p3, p4, p5, p6, p7, ap, z3, z4, q3, q4⟩ K hK
        simp only [fr, Act.put, List.setIfInBounds_toArray, List.set_cons_zero, List.set_cons_succ, updO] at hK ⊢
        simp [Region.binds] at hd
        have e3 := p5 (by simp [hd])
        obtain ⟨e0, l0, l1⟩ := p7 (by simp [hd])
        have bx := z4 (by simp [hd]) hk
        have x0 : _ = some _ := (bx.c 0 (by decide)).1
        have y0 := (bx.c 0 (by decide)).2
        have x1 : _ = some _ := (bx.c 1 (by decide)).1
        have y1 := (bx.c 1 (by decide)).2
        have x2 : _ = some _ := (bx.c 2 (by decide)).1
        have y2 := (bx.c 2 (by decide)).2
        have x3 : _ = some _ := (bx.c 3 (by decide)).1
        have y3 := (bx.c 3 (by decide)).2
        simp only [List.getD_cons_zero, List.getD_cons_succ] at x0 x1 x2 x3
        have c8 := hcl 8 _ rfl
        simp [Region.binds] at c8
        rw [if_pos (by rfl)]
        simp only [Oper.wpv]
        go_simp
        exact hK _ _ ⟨b3, b4, (nS (nS (nS (nS hb l0 _) l0 _) l0 _) l0 _), p0, p1, p2, p3, p4, p5, fun h0 => ⟨(p6 h0).1, (p6 h0).2.1, by simpa using (p6 h0).2.2⟩, fun h0 => ⟨(p7 h0).1, (p7 h0).2.1, by simpa using (p7 h0).2.2⟩, ap, fun h0 h1 => (((((z3 h0 h1).far (ap h0 (by simp [hd]))).far (ap h0 (by simp [hd]))).far (ap h0 (by simp [hd]))).far (ap h0 (by simp [hd]))), fun _ h => Bool.noConfusion (show true = false from h), fun h0 => (((((q3 h0).far (ap (by simp [c8 h0]) (by simp [hd]))).far (ap (by simp [c8 h0]) (by simp [hd]))).far (ap (by simp [c8 h0]) (by simp [hd]))).far (ap (by simp [c8 h0]) (by simp [hd]))), fun _ => ((((bx.set 0 (by decide) (.int .i64 c1)).set 1 (by decide) (.int .i64 c2)).set 2 (by decide) (.int .i64 c3)).set 3 (by decide) (.int .i64 c4))⟩
    · rintro L T u hl ⟨b3, b4, hb, p0, p1, p2, p3, p4, p5, p6, p7, ap, z3, z4, q3, q4⟩
      simp only [fr, Act.put, List.setIfInBounds_toArray, List.set_cons_zero, List.set_cons_succ]
      obtain ⟨e3, l3, _⟩ := p6 (hl 6 (by decide))
      obtain ⟨e4, l4, _⟩ := p7 (hl 7 (by decide))
      have bx3 := q3 (hl 8 (by decide))
      have bx4 := q4 (hl 9 (by decide))
      have HE : Hid (T 5 = .pointer (some ⟨b3, 0, none⟩) ∧ T 6 = .pointer (some ⟨b4, 0, none⟩)) := ⟨e3, e4⟩
      clear e3 e4 p0 p1 p2 p3 p4 p5 p6 p7 ap z3 z4 q3 q4
      go_wp2_with fail
      go_meet
      case rel => exact ⟨b3, b4, HE.out.1, HE.out.2, Bools.of (hs := [h0, h1, h2, h3]) bx3, Nms.of (ps := [c1, c2, c3, c4]) bx4, hb, l3, l4⟩
  case rest =>
    obtain ⟨b5, b6, rfl, rfl, hB5, hN6, bX, l5, l6⟩ := hcut
    obtain ⟨X, eX⟩ : ∃ X, X = wc := ⟨_, rfl⟩
    rw [← eX] at hB5 hN6 bX ⊢
    clear eX KC
    obtain ⟨W1, eW1⟩ : ∃ x, x = cWord k := ⟨_, rfl⟩
    rw [← eW1] at HR HCW
    clear eW1
    have bwX : Below w.heap.size w X := hB.trans (bX.mono hB.size)
    have hO0 : w.ownsRow B 9 1 v0 ws.length (flat stC ws) := by rw [EV.out]; exact hO
    have HOX : Hid (∀ U, Below X.heap.size X U → U.ownsRow B 9 1 v0 ws.length (flat stC ws)) := fun U hU => own_below (own_below hO0 bwX) hU
    have HL : Hid (∀ g, v0.ownBlock = some g → B ≤ g ∧ g < w.heap.size) := fun g hg => hO0.lt g hg
    have HX0 : Hid (Gr w X v0 v0) := Gr.below bwX
    have HTa : Hid (∀ U, Below B w U → Lib.TabIs Tryd.prog U "internal/strconv.uint64pow10" .u64 Lib.pow10Tab) := hT
    have HKX : Hid (∀ U, Below X.heap.size X U → (U.cell? ⟨w.heap.size, 0, none⟩ = some (.int .i64 (k : Int)) ∧ w.heap.size < U.heap.size) ∧ U.cell? ⟨4, k, none⟩ = some (.string W1) ∧ 4 < U.heap.size) := fun U hU => ⟨HK.out U (bX.trans (hU.mono bX.size)), HCW.out U (bwX.trans (hU.mono bwX.size))⟩
    have HN : Hid (∀ (U : World) (a6 : Option Addr) (c6 : Nat), U.ownsRow B 9 1 (.slice a6 (ws.length + 1) c6) (ws.length + 1) (flat stC (ws ++ [W1])) → Gr X U v0 (.slice a6 (ws.length + 1) c6) → Calls Tryd.prog 45 #[.slice a6 (ws.length + 1) c6, .slice (some ⟨b5, 0, none⟩) 4 4, .slice (some ⟨b6, 0, none⟩) 4 4] U fun e w' => WordsTo B U w' e (.slice a6 (ws.length + 1) c6) ((ws ++ [W1]) ++ numsW [h0, h1, h2, h3] [c1, c2, c3, c4])) := fun U a6 c6 hOU hG => by
      have hl : (ws ++ [W1]).length = ws.length + 1 := by simp
      rw [← hl] at hOU hG ⊢
      have z5 : b5 < X.heap.size := hB5.1
      have z6 : b6 < X.heap.size := hN6.1
      have n5 : v0.ownBlock ≠ some b5 := fun e => by have := (HL.out b5 e).2; omega
      have n6 : v0.ownBlock ≠ some b6 := fun e => by have := (HL.out b6 e).2; omega
      have m5 : (Value.slice a6 (ws ++ [W1]).length c6).ownBlock ≠ some b5 := fun e => by
        rcases hG.own with e2 | ⟨g, e2, h2⟩
        · exact n5 (e2 ▸ e)
        · rw [e2] at e; cases e; omega
      have m6 : (Value.slice a6 (ws ++ [W1]).length c6).ownBlock ≠ some b6 := fun e => by
        rcases hG.own with e2 | ⟨g, e2, h2⟩
        · exact n6 (e2 ▸ e)
        · rw [e2] at e; cases e; omega
      have hGw := HX0.out.trans hG
      have hBU : Below B w U := hGw.bel B hB0 (fun g e => (HL.out g e).1)
      exact appendNumbers_any B a6 c6 (ws ++ [W1]) b5 0 4 4 b6 0 4 4 [h0, h1, h2, h3] [c1, c2, c3, c4] U (Nat.le_trans hB0 hBU.size) hOU (by simp; omega) (by omega) (by omega) rfl rfl (fun i hi => by
          rcases (by omega : i = 0 ∨ i = 1 ∨ i = 2 ∨ i = 3) with rfl | rfl | rfl | rfl
          · exact i1
          · exact i2
          · exact i3
          · exact i4) (Nat.lt_of_lt_of_le z5 hG.size) (Nat.lt_of_lt_of_le z6 hG.size) m5 m6 (fun i hi => by rw [Nat.zero_add]; exact (hG.cell (p := ⟨b5, i, none⟩) z5 n5).trans (hB5.2 i hi)) (fun i hi => by rw [Nat.zero_add]; exact (hG.cell (p := ⟨b6, i, none⟩) z6 n6).trans (hN6.2 i hi)) (fun Z hZ => HTa.out Z (hBU.trans hZ))
    have HF : Hid (∀ (U Z : World) (a6 : Option Addr) (c6 : Nat) (e : Ending), Gr X U v0 (.slice a6 (ws.length + 1) c6) → WordsTo B U Z e (.slice a6 (ws.length + 1) c6) ((ws ++ [W1]) ++ numsW [h0, h1, h2, h3] [c1, c2, c3, c4]) → ∃ a7 c7, e = .returned (.slice a7 R.length c7) ∧ Z.ownsRow B 9 1 (.slice a7 R.length c7) R.length (flat stC R) ∧ Gr w Z v0 (.slice a7 R.length c7)) := fun U Z a6 c6 e hG h => by
      rw [HR.out]
      obtain ⟨a7, c7, h1, h2, h3⟩ := h
      exact ⟨a7, c7, h1, h2, (HX0.out.trans hG).trans h3⟩
    have hlB : B ≤ X.heap.size := Nat.le_trans hB0 bwX.size
    clear hO hO0 hT hh hcw hhW HK HCW HR hB5 hN6 l5 l6 bX bwX hB zW zh EV i1 i2 i3 i4
    go_upto_region 2 with (fail)
    refine wp_region_inv (by kernel_rfl) [13, 14, 15, 16, 17, 18, 19, 20, 21, 22, 4] (fun L T u => ∃ (bA : Nat) (a6 : Option Addr) (c6 : Nat) (a7 : Option Addr) (c7 : Nat), True ∧ (L 0 = true → T 13 = v0) ∧ (L 1 = true → T 14 = .pointer (some ⟨w.heap.size, 0, none⟩)) ∧ (L 2 = true → T 15 = .int .i64 (k : Int)) ∧ (L 3 = true → T 16 = .pointer (some ⟨4, k, none⟩)) ∧ (L 4 = true → T 17 = .string W1) ∧ (L 5 = true → T 18 = .slice (some ⟨bA, 0, none⟩) 1 1) ∧ (L 6 = true → T 19 = .slice a6 (ws.length + 1) c6) ∧ (L 7 = true → T 20 = .slice (some ⟨b5, 0, none⟩) 4 4) ∧ (L 8 = true → T 21 = .slice (some ⟨b6, 0, none⟩) 4 4) ∧ (L 9 = true → T 22 = .slice a7 R.length c7) ∧ (L 10 = true → T 4 = .slice a7 R.length c7) ∧ (L 5 = true → L 6 = false → IsRow 1 stC u (some ⟨bA, 0, none⟩) 1 1 [W1]) ∧ (L 6 = false → Below X.heap.size X u) ∧ (L 6 = true → L 9 = false → (u.ownsRow B 9 1 (.slice a6 (ws.length + 1) c6) (ws.length + 1) (flat stC (ws ++ [W1])) ∧ Gr X u v0 (.slice a6 (ws.length + 1) c6))) ∧ (L 9 = true → (u.ownsRow B 9 1 (.slice a7 R.length c7) R.length (flat stC R) ∧ Gr w u v0 (.slice a7 R.length c7)))) (by decide) (by kernel_rfl) (by kernel_rfl) ?_ ?_ ?_
    · exact ⟨0, none, 0, none, 0, trivial, nofun, nofun, nofun, nofun, nofun, nofun, nofun, nofun, nofun, nofun, nofun, nofun, fun _ => (Below.refl _ _).drew, nofun, nofun⟩
    · refine ⟨?_, ?_, ?_, ?_, ?_, ?_, ?_, ?_, ?_, ?_, ?_, trivial⟩
      · rintro L T u hd hk hcl ⟨bA, a6, c6, a7, c7, hb, f0, f1, f2, f3, f4, f5, f6, f7, f8, f9, f10, r5, s0, s1, s2⟩ K hK
        simp only [fr, Act.put, List.setIfInBounds_toArray, List.set_cons_zero, List.set_cons_succ, updO] at hK ⊢
        simp [Region.binds] at hd
        rw [if_pos (by rfl)]
        simp only [Oper.wpv]
        go_simp
        exact hK _ _ ⟨bA, a6, c6, a7, c7, hb, fun _ => rfl, f1, f2, f3, f4, f5, f6, f7, f8, f9, f10, r5, s0, s1, s2⟩
      · rintro L T u hd hk hcl ⟨bA, a6, c6, a7, c7, hb, f0, f1, f2, f3, f4, f5, f6, f7, f8, f9, f10, r5, s0, s1, s2⟩ K hK
        simp only [fr, Act.put, List.setIfInBounds_toArray, List.set_cons_zero, List.set_cons_succ, updO] at hK ⊢
        simp [Region.binds] at hd
        rw [if_pos (by rfl)]
        simp only [Oper.wpv]
        go_simp
        exact hK _ _ ⟨bA, a6, c6, a7, c7, hb, f0, fun _ => rfl, f2, f3, f4, f5, f6, f7, f8, f9, f10, r5, s0, s1, s2⟩
      · rintro L T u hd hk hcl ⟨bA, a6, c6, a7, c7, hb, f0, f1, f2, f3, f4, f5, f6, f7, f8, f9, f10, r5, s0, s1, s2⟩ K hK
        simp only [fr, Act.put, List.setIfInBounds_toArray, List.set_cons_zero, List.set_cons_succ, updO] at hK ⊢
        simp [Region.binds] at hd
        have g1 := f1 (by simp [hd])
        have k3 := hcl 3 _ rfl
        simp [Region.binds] at k3
        have k4 := hcl 4 _ rfl
        simp [Region.binds] at k4
        have k5 := hcl 5 _ rfl
        simp [Region.binds] at k5
        have k6 := hcl 6 _ rfl
        simp [Region.binds] at k6
        have hE : L 6 = false := by cases h : L 6 with | false => rfl | true => have b6 := k6 h; have b5 := k5 (by simp [b6]); have b4 := k4 (by simp [b5]); have b3 := k3 (by simp [b4]); simp [hk] at b3
        obtain ⟨⟨x0, x1⟩, x2, x3⟩ := HKX.out u (s0 hE)
        rw [if_pos (by rfl)]
        simp only [Oper.wpv]
        go_simp
        exact hK _ _ ⟨bA, a6, c6, a7, c7, hb, f0, f1, fun _ => rfl, f3, f4, f5, f6, f7, f8, f9, f10, r5, s0, s1, s2⟩
      · rintro L T u hd hk hcl ⟨bA, a6, c6, a7, c7, hb, f0, f1, f2, f3, f4, f5, f6, f7, f8, f9, f10, r5, s0, s1, s2⟩ K hK
        simp only [fr, Act.put, List.setIfInBounds_toArray, List.set_cons_zero, List.set_cons_succ, updO] at hK ⊢
        simp [Region.binds] at hd
        have g2 := f2 (by simp [hd])
        have k0 : (0 : Int) ≤ (k : Int) := by omega
        rw [if_pos (by rfl)]
        simp only [Oper.wpv]
        go_simp
        exact hK _ _ ⟨bA, a6, c6, a7, c7, hb, f0, f1, f2, fun _ => rfl, f4, f5, f6, f7, f8, f9, f10, r5, s0, s1, s2⟩
      · rintro L T u hd hk hcl ⟨bA, a6, c6, a7, c7, hb, f0, f1, f2, f3, f4, f5, f6, f7, f8, f9, f10, r5, s0, s1, s2⟩ K hK
        simp only [fr, Act.put, List.setIfInBounds_toArray, List.set_cons_zero, List.set_cons_succ, updO] at hK ⊢
        simp [Region.binds] at hd
        have g3 := f3 (by simp [hd])
        have k5 := hcl 5 _ rfl
        simp [Region.binds] at k5
        have k6 := hcl 6 _ rfl
        simp [Region.binds] at k6
        have hE : L 6 = false := by cases h : L 6 with | false => rfl | true => have b6 := k6 h; have b5 := k5 (by simp [b6]); simp [hk] at b5
        obtain ⟨⟨x0, x1⟩, x2, x3⟩ := HKX.out u (s0 hE)
        rw [if_pos (by rfl)]
        simp only [Oper.wpv]
        go_simp
        exact hK _ _ ⟨bA, a6, c6, a7, c7, hb, f0, f1, f2, f3, fun _ => rfl, f5, f6, f7, f8, f9, f10, r5, s0, s1, s2⟩
      · rintro L T u hd hk hcl ⟨bA, a6, c6, a7, c7, hb, f0, f1, f2, f3, f4, f5, f6, f7, f8, f9, f10, r5, s0, s1, s2⟩ K hK
        simp only [fr, Act.put, List.setIfInBounds_toArray, List.set_cons_zero, List.set_cons_succ, updO] at hK ⊢
        simp [Region.binds] at hd
        have g4 := f4 (by simp [hd])
        have k6 := hcl 6 _ rfl
        simp [Region.binds] at k6
        have hE : L 6 = false := by cases h : L 6 with | false => rfl | true => have b6 := k6 h; simp [hk] at b6
        have hg : Below u.heap.size u (u.alloc (.cells #[.string W1] 9)) := (Below.refl _ _).alloc (Nat.le_refl _) _
        rw [if_pos (by rfl)]
        simp only [Oper.wpv]
        go_simp
        exact hK _ _ ⟨u.heap.size, a6, c6, a7, c7, trivial, f0, f1, f2, f3, f4, fun _ => rfl, f6, f7, f8, f9, f10, fun _ _ => words1 u W1 _ rfl, fun _ => sT (s0 hE) hg, fun h0 h1 => ⟨own_below ((s1 h0 h1)).1 hg, ((s1 h0 h1)).2.trans (Gr.below hg)⟩, fun h0 => ⟨own_below ((s2 h0)).1 hg, ((s2 h0)).2.trans (Gr.below hg)⟩⟩
      · rintro L T u hd hk hcl ⟨bA, a6, c6, a7, c7, hb, f0, f1, f2, f3, f4, f5, f6, f7, f8, f9, f10, r5, s0, s1, s2⟩ K hK
        simp only [fr, Act.put, List.setIfInBounds_toArray, List.set_cons_zero, List.set_cons_succ, updO] at hK ⊢
        simp [Region.binds] at hd
        have g0 := f0 (by simp [hd])
        have g5 := f5 (by simp [hd])
        have q5 := r5 (by simp [hd]) hk
        have q0 := s0 hk
        have hOu := HOX.out u q0
        have k9 := hcl 9 _ rfl
        simp [Region.binds] at k9
        have k10 := hcl 10 _ rfl
        simp [Region.binds] at k10
        rw [if_pos (by rfl)]
        simp only [Oper.wpv]
        refine St.wpv_append_row ES (.tmp 13) (.tmp 18) (by rfl) B v0 ws.length ws g0 hOu (some ⟨bA, 0, none⟩) 1 1 [W1] g5 q5 (by unfold maxLen; omega) (by omega) (Nat.le_trans hlB q0.size) ?_
        intro a8 c8 u6 own6 gr6 at6
        have hG6 : Gr X u6 v0 (.slice a8 (ws.length + 1) c8) := (Gr.below q0).trans (Gr.grown gr6 at6)
        exact hK _ _ ⟨bA, a8, c8, a7, c7, trivial, f0, f1, f2, f3, f4, f5, fun _ => rfl, f7, f8, f9, f10, fun _ h => Bool.noConfusion (show true = false from h), fun h => Bool.noConfusion (show true = false from h), fun _ _ => ⟨own6, hG6⟩, fun h => absurd (show L 9 = true from h) (by intro hh; have := k9 hh; simp [hk] at this)⟩
      · rintro L T u hd hk hcl ⟨bA, a6, c6, a7, c7, hb, f0, f1, f2, f3, f4, f5, f6, f7, f8, f9, f10, r5, s0, s1, s2⟩ K hK
        simp only [fr, Act.put, List.setIfInBounds_toArray, List.set_cons_zero, List.set_cons_succ, updO] at hK ⊢
        simp [Region.binds] at hd
        rw [if_pos (by rfl)]
        simp only [Oper.wpv]
        go_simp
        exact hK _ _ ⟨bA, a6, c6, a7, c7, hb, f0, f1, f2, f3, f4, f5, f6, fun _ => rfl, f8, f9, f10, r5, s0, s1, s2⟩
      · rintro L T u hd hk hcl ⟨bA, a6, c6, a7, c7, hb, f0, f1, f2, f3, f4, f5, f6, f7, f8, f9, f10, r5, s0, s1, s2⟩ K hK
        simp only [fr, Act.put, List.setIfInBounds_toArray, List.set_cons_zero, List.set_cons_succ, updO] at hK ⊢
        simp [Region.binds] at hd
        rw [if_pos (by rfl)]
        simp only [Oper.wpv]
        go_simp
        exact hK _ _ ⟨bA, a6, c6, a7, c7, hb, f0, f1, f2, f3, f4, f5, f6, f7, fun _ => rfl, f9, f10, r5, s0, s1, s2⟩
      · rintro L T u hd hk hcl ⟨bA, a6, c6, a7, c7, hb, f0, f1, f2, f3, f4, f5, f6, f7, f8, f9, f10, r5, s0, s1, s2⟩ K hK
        simp only [fr, Act.put, List.setIfInBounds_toArray, List.set_cons_zero, List.set_cons_succ, updO] at hK ⊢
        simp [Region.binds] at hd
        have g6 := f6 (by simp [hd])
        have g7 := f7 (by simp [hd])
        have g8 := f8 (by simp [hd])
        have q1 := s1 (by simp [hd]) hk
        have k10 := hcl 10 _ rfl
        simp [Region.binds] at k10
        rw [if_pos (by rfl)]
        simp only [Oper.wpv]
        go_simp
        refine (HN.out u a6 c6 q1.1 q1.2).mono ?_
        intro e u3 hWT
        obtain ⟨a8, c8, rfl, own8, gr8⟩ := HF.out u u3 a6 c6 e q1.2 hWT
        exact hK _ _ ⟨bA, a6, c6, a8, c8, trivial, f0, f1, f2, f3, f4, f5, f6, f7, f8, fun _ => rfl, fun h => absurd (show L 10 = true from h) (by intro hh; have := k10 hh; simp [hk] at this), fun _ h => absurd (show L 6 = false from h) (by simp [hd]), fun h => absurd (show L 6 = false from h) (by simp [hd]), fun _ h => Bool.noConfusion (show true = false from h), fun _ => ⟨own8, gr8⟩⟩
      · rintro L T u hd hk hcl ⟨bA, a6, c6, a7, c7, hb, f0, f1, f2, f3, f4, f5, f6, f7, f8, f9, f10, r5, s0, s1, s2⟩ K hK
        simp only [fr, Act.put, List.setIfInBounds_toArray, List.set_cons_zero, List.set_cons_succ, updO] at hK ⊢
        simp [Region.binds] at hd
        have g9 := f9 (by simp [hd])
        rw [if_pos (by rfl)]
        simp only [Oper.wpv]
        go_simp
        exact hK _ _ ⟨bA, a6, c6, a7, c7, hb, f0, f1, f2, f3, f4, f5, f6, f7, f8, f9, fun _ => rfl, r5, s0, s1, s2⟩
    · rintro L T u hl ⟨bA, a6, c6, a7, c7, hb, f0, f1, f2, f3, f4, f5, f6, f7, f8, f9, f10, r5, s0, s1, s2⟩
      simp only [fr, Act.put, List.setIfInBounds_toArray, List.set_cons_zero, List.set_cons_succ]
      have h4 := f10 (hl 10 (by decide))
      obtain ⟨o4, g4⟩ := s2 (hl 9 (by decide))
      clear f0 f1 f2 f3 f4 f5 f6 f7 f8 f9 f10 r5 s0 s1 s2 HOX HL HX0 HTa HKX HN HF
      rw [h4]
      clear h4
      go_wp2
      go_ret
      exact ⟨a7, c7, rfl, o4, g4⟩
end Go.Proofs.YtlaagfnoepcnlaaDoor.Ln
/- The contracts of bounds.Site, bounds.Label, of the test of a Keep's numbers, and of lines.inBounds. -/
namespace Go.Proofs.YtlaagfnoepcnlaaDoor.Ln
open Go.ChangeShapes Go.WideShapes Go.ChangeAt Go.RowKit
open Go.Proofs.YtlaagfnoepcnlaaDoor.St (BoxN boxn_new)
set_option linter.unusedVariables false

theorem site_any (s p : Int) (a : Option Addr) (len cap : Nat) (n : Int) (w : World) (hs : 1 ≤ s ∧ s ≤ 4) :
    Calls Tryd.prog 66 #[.agg #[.int .i64 s, .slice a len cap, .int .i64 p], .int .i64 n] w fun e w' => e = .returned (.bool (inR n 0 (s - 1))) ∧ Below w.heap.size w w' := by
  have hA : Below w.heap.size w (w.alloc (.cells #[.int .i64 s, .slice a len cap, .int .i64 p] 24)) := (Below.refl _ _).alloc (Nat.le_refl _) _
  obtain ⟨h1, h2⟩ := hs
  go_enter Tryd.func66, Tryd.ntmps66
  go_wp2_with (go_at_call 36; refine (within_any _ _ _ _).mono ?_; rintro e u1 ⟨rfl, hu1⟩; rw [hu1]; clear hu1)
  go_ret
  exact ⟨rfl, hA⟩
theorem plc_in (l : Int) (len : Nat) : plc l len = inR l 0 ((len : Int) - 1) := by unfold plc inR; rw [Bool.eq_iff_iff]; simp; omega
theorem label_any (s p : Int) (a : Option Addr) (len cap : Nat) (n : Int) (w : World) (hl : len ≤ 6) :
    Calls Tryd.prog 67 #[.agg #[.int .i64 s, .slice a len cap, .int .i64 p], .int .i64 n] w fun e w' => e = .returned (.bool (plc n len)) ∧ Below w.heap.size w w' := by
  have hA : Below w.heap.size w (w.alloc (.cells #[.int .i64 s, .slice a len cap, .int .i64 p] 24)) := (Below.refl _ _).alloc (Nat.le_refl _) _
  have h2 : (len : Int) ≤ 6 := by omega
  rw [plc_in]
  go_enter Tryd.func67, Tryd.ntmps67
  go_wp2_with (go_at_call 36; refine (within_any _ _ _ _).mono ?_; rintro e u1 ⟨rfl, hu1⟩; rw [hu1]; clear hu1)
  go_ret
  exact ⟨rfl, hA⟩
theorem keepFn_any (z : Int) (w : World) : Calls Tryd.prog 64 #[.int .i64 z] w fun e w' => e = .returned (.bool (!inR z 0 6000)) ∧ w' = w := by
  go_enter Tryd.func64, Tryd.ntmps64
  go_wp2_with (go_at_call 36; refine (within_any _ _ _ _).mono ?_; rintro e u1 ⟨rfl, hu1⟩; rw [hu1]; clear hu1)
  go_ret
  exact ⟨rfl, rfl⟩

theorem keep_at {zs : List Int} {k : Nat} (hk : k < zs.length) : keepIn (zs.drop k) = (inR (zs.getD k 0) 0 6000 && keepIn (zs.drop (k + 1))) := by
  unfold keepIn
  rw [List.drop_eq_getElem_cons hk, List.all_cons]
  simp [List.getD, hk]
set_option maxHeartbeats 1000000 in
theorem keepIdx_any (a : Option Addr) (len cap : Nat) (zs : List Int) (w : World) (h : IsInts w a len cap zs) :
    Calls Tryd.prog 82 #[.slice a len cap, .func (.func 64) #[] #[]] w fun e w' => ∃ i : Int, e = .returned (.int .i64 i) ∧ decide (0 ≤ i) = (!keepIn zs) ∧ w' = w := by
  obtain ⟨hlen, hcap, hmax, _, hmem⟩ := h
  have HL : Hid (zs.length = len) := hlen
  clear hlen
  unfold maxLen at hmax
  obtain ⟨R, eR⟩ : ∃ R, R = keepIn zs := ⟨_, rfl⟩
  have HR : Hid (R = keepIn (zs.drop 0)) := eR
  rw [← eR]
  clear eR
  go_enter Tryd.func82, Tryd.ntmps82
  go_wp2
  go_loop [5, 8] (fun _ s8 => ∃ (k : Nat), k ≤ len ∧ s8 = .int .i64 (k : Int) ∧ Hid (R = keepIn (zs.drop k))) (fun _ s8 => len - (intOf s8).toNat)
  case atStart => exact ⟨0, Nat.zero_le _, rfl, HR.out⟩
  case round =>
    obtain ⟨k, hk, rfl, hat⟩ := hrel
    by_cases hlt : k < len
    · have hlt' : (k : Int) < (len : Int) := by omega
      obtain ⟨b, off, rfl, zb, hc⟩ := hmem (by omega)
      have c1 := hc k hlt
      have hst : Hid (R = (inR (zs.getD k 0) 0 6000 && keepIn (zs.drop (k + 1)))) := by show _ = _; rw [hat.out]; exact keep_at (by rw [HL.out]; exact hlt)
      clear hat hc
      obtain ⟨X, eX⟩ : ∃ X, X = zs.getD k 0 := ⟨_, rfl⟩
      rw [← eX] at c1 hst
      clear eX
      cases hr : inR X 0 6000 with
      | true =>
        have hn : Hid (R = keepIn (zs.drop (k + 1))) := by show _ = _; rw [hst.out, hr]; rfl
        clear hst
        go_wp2_with (go_at_call 64; refine (keepFn_any _ _).mono ?_; rintro e u1 ⟨rfl, hu1⟩; rw [hu1]; clear hu1)
        go_round
        case rel => exact ⟨k + 1, by omega, by go_num, hn.out⟩
        case measure => simp [intOf]; omega
      | false =>
        have hn : Hid (R = false) := by show _ = _; rw [hst.out, hr]; rfl
        clear hst
        go_wp2_with (go_at_call 64; refine (keepFn_any _ _).mono ?_; rintro e u1 ⟨rfl, hu1⟩; rw [hu1]; clear hu1)
        go_ret
        exact ⟨k, rfl, by rw [hn.out]; simp, rfl⟩
    · have hn : Hid (R = true) := by show _ = _; rw [hat.out, List.drop_eq_nil_of_le (by rw [HL.out]; omega)]; rfl
      clear hat
      go_wp2
      go_ret
      exact ⟨-1, rfl, by rw [hn.out]; simp, rfl⟩
theorem keepAny_any (a : Option Addr) (len cap : Nat) (zs : List Int) (w : World) (h : IsInts w a len cap zs) :
    Calls Tryd.prog 65 #[.slice a len cap, .func (.func 64) #[] #[]] w fun e w' => e = .returned (.bool (!keepIn zs)) ∧ w' = w := by
  have hI := fun w' h1 => keepIdx_any a len cap zs w' h1
  obtain ⟨R, eR⟩ : ∃ R, R = !keepIn zs := ⟨_, rfl⟩
  rw [← eR] at hI ⊢
  clear eR
  go_enter Tryd.func65, Tryd.ntmps65
  go_wp2_with (go_at_call 82; refine (hI _ h).mono ?_; rintro e u1 ⟨i, rfl, hi, hu1⟩; rw [hu1]; clear hu1)
  go_ret
  exact ⟨rfl, rfl⟩

set_option maxRecDepth 100000 in
set_option maxHeartbeats 4000000 in
theorem inBounds_any (s p : Int) (a : Option Addr) (len cap : Nat) (v : AV) (w : World) (hs : 1 ≤ s ∧ s ≤ 4) (hl : len ≤ 6) (hk : IsInts w v.ka v.kl v.kc v.keep) :
    Calls Tryd.prog 39 #[.agg #[.int .i64 s, .slice a len cap, .int .i64 p], .agg v.cells.toArray] w fun e w' => e = .returned (.bool (actIn s len v)) ∧ Below w.heap.size w w' := by
  have hS := fun n w' => site_any s p a len cap n w' hs
  have hLb := fun n w' => label_any s p a len cap n w' hl
  obtain ⟨kind, site, to1, label, pick, ka, kl, kc, c0, c1, c2, c3, c4, line, keep⟩ := v
  simp only [AV.cells] at *
  obtain ⟨R, eR⟩ : ∃ R, R = actIn s len ⟨kind, site, to1, label, pick, ka, kl, kc, c0, c1, c2, c3, c4, line, keep⟩ := ⟨_, rfl⟩
  have HR : Hid (R = (decide (kl ≤ len) && keepIn keep && decide (line.size ≤ 60) && inR pick 0 1048576 && (inR site 0 (s - 1) && inR to1 0 (s - 1) && plc label len))) := eR
  rw [← eR]
  clear eR
  obtain ⟨W, hW⟩ : ∃ W : World, W = (w.alloc (.cells #[.int .i64 s, .slice a len cap, .int .i64 p] 24)).alloc (.cells #[.int .i64 kind, .int .i64 site, .int .i64 to1, .int .i64 label, .int .i64 pick, .slice ka kl kc, .int .i64 c0, .int .i64 c1, .int .i64 c2, .int .i64 c3, .int .i64 c4, .string line] 41) := ⟨_, rfl⟩
  have hB : Below w.heap.size w W := by rw [hW]; exact ((Below.refl _ _).alloc (Nat.le_refl _) _).alloc (by simp) _
  have zW : w.heap.size + 1 < W.heap.size := by rw [hW]; simp
  have hkW := hk.below hB
  have hKp := fun w' h' => keepAny_any ka kl kc keep w' h'
  obtain ⟨KI, eKI⟩ : ∃ KI, KI = keepIn keep := ⟨_, rfl⟩
  rw [← eKI] at HR hKp
  clear eKI hk
  have d0 : W.cell? ⟨w.heap.size, 0, none⟩ = some (.int .i64 s) := by rw [hW]; go_simp
  have d1 : W.cell? ⟨w.heap.size, 1, none⟩ = some (.slice a len cap) := by rw [hW]; go_simp
  have d2 : W.cell? ⟨w.heap.size, 2, none⟩ = some (.int .i64 p) := by rw [hW]; go_simp
  have e0 : W.cell? ⟨w.heap.size + 1, 0, none⟩ = some (.int .i64 kind) := by rw [hW]; go_simp
  have e1 : W.cell? ⟨w.heap.size + 1, 1, none⟩ = some (.int .i64 site) := by rw [hW]; go_simp
  have e2 : W.cell? ⟨w.heap.size + 1, 2, none⟩ = some (.int .i64 to1) := by rw [hW]; go_simp
  have e3 : W.cell? ⟨w.heap.size + 1, 3, none⟩ = some (.int .i64 label) := by rw [hW]; go_simp
  have e4 : W.cell? ⟨w.heap.size + 1, 4, none⟩ = some (.int .i64 pick) := by rw [hW]; go_simp
  have e5 : W.cell? ⟨w.heap.size + 1, 5, none⟩ = some (.slice ka kl kc) := by rw [hW]; go_simp
  have e6 : W.cell? ⟨w.heap.size + 1, 6, none⟩ = some (.int .i64 c0) := by rw [hW]; go_simp
  have e7 : W.cell? ⟨w.heap.size + 1, 7, none⟩ = some (.int .i64 c1) := by rw [hW]; go_simp
  have e8 : W.cell? ⟨w.heap.size + 1, 8, none⟩ = some (.int .i64 c2) := by rw [hW]; go_simp
  have e9 : W.cell? ⟨w.heap.size + 1, 9, none⟩ = some (.int .i64 c3) := by rw [hW]; go_simp
  have e10 : W.cell? ⟨w.heap.size + 1, 10, none⟩ = some (.int .i64 c4) := by rw [hW]; go_simp
  have e11 : W.cell? ⟨w.heap.size + 1, 11, none⟩ = some (.string line) := by rw [hW]; go_simp
  have KC : Hid (∀ U : World, Below W.heap.size W U → U.cell? ⟨w.heap.size, 0, none⟩ = some (.int .i64 s) ∧ U.cell? ⟨w.heap.size, 1, none⟩ = some (.slice a len cap) ∧ U.cell? ⟨w.heap.size, 2, none⟩ = some (.int .i64 p) ∧ U.cell? ⟨w.heap.size + 1, 0, none⟩ = some (.int .i64 kind) ∧ U.cell? ⟨w.heap.size + 1, 1, none⟩ = some (.int .i64 site) ∧ U.cell? ⟨w.heap.size + 1, 2, none⟩ = some (.int .i64 to1) ∧ U.cell? ⟨w.heap.size + 1, 3, none⟩ = some (.int .i64 label) ∧ U.cell? ⟨w.heap.size + 1, 4, none⟩ = some (.int .i64 pick) ∧ U.cell? ⟨w.heap.size + 1, 5, none⟩ = some (.slice ka kl kc) ∧ U.cell? ⟨w.heap.size + 1, 6, none⟩ = some (.int .i64 c0) ∧ U.cell? ⟨w.heap.size + 1, 7, none⟩ = some (.int .i64 c1) ∧ U.cell? ⟨w.heap.size + 1, 8, none⟩ = some (.int .i64 c2) ∧ U.cell? ⟨w.heap.size + 1, 9, none⟩ = some (.int .i64 c3) ∧ U.cell? ⟨w.heap.size + 1, 10, none⟩ = some (.int .i64 c4) ∧ U.cell? ⟨w.heap.size + 1, 11, none⟩ = some (.string line)) := fun U hU => ⟨(hU.cell (p := ⟨w.heap.size, 0, none⟩) (by show w.heap.size < _; omega)).trans d0, (hU.cell (p := ⟨w.heap.size, 1, none⟩) (by show w.heap.size < _; omega)).trans d1, (hU.cell (p := ⟨w.heap.size, 2, none⟩) (by show w.heap.size < _; omega)).trans d2, (hU.cell (p := ⟨w.heap.size + 1, 0, none⟩) zW).trans e0, (hU.cell (p := ⟨w.heap.size + 1, 1, none⟩) zW).trans e1, (hU.cell (p := ⟨w.heap.size + 1, 2, none⟩) zW).trans e2, (hU.cell (p := ⟨w.heap.size + 1, 3, none⟩) zW).trans e3, (hU.cell (p := ⟨w.heap.size + 1, 4, none⟩) zW).trans e4, (hU.cell (p := ⟨w.heap.size + 1, 5, none⟩) zW).trans e5, (hU.cell (p := ⟨w.heap.size + 1, 6, none⟩) zW).trans e6, (hU.cell (p := ⟨w.heap.size + 1, 7, none⟩) zW).trans e7, (hU.cell (p := ⟨w.heap.size + 1, 8, none⟩) zW).trans e8, (hU.cell (p := ⟨w.heap.size + 1, 9, none⟩) zW).trans e9, (hU.cell (p := ⟨w.heap.size + 1, 10, none⟩) zW).trans e10, (hU.cell (p := ⟨w.heap.size + 1, 11, none⟩) zW).trans e11⟩
  go_enter Tryd.func39, Tryd.ntmps39
  go_upto_region 2 with (fail)
  rw [← hW]
  clear hW
  by_cases h1 : kl ≤ len
  case neg =>
    have g1 : (len : Int) < (kl : Int) := by omega
    have hf : Hid (R = false) := by show _ = _; rw [HR.out]; simp [h1]
    go_wp2_with (fail)
    go_ret
    exact ⟨ret_bool hf.out.symm, hB⟩
  have g1 : ¬ (len : Int) < (kl : Int) := by omega
  cases KI with
  | false =>
    have hf : Hid (R = false) := by show _ = _; rw [HR.out]; simp
    go_wp2_with (first | (go_at_call 65; refine (hKp _ hkW).mono ?_; rintro e u1 ⟨rfl, hu1⟩; rw [hu1]; clear hu1))
    go_ret
    exact ⟨ret_bool hf.out.symm, hB⟩
  | true =>
    have HR1 : Hid (R = (decide (line.size ≤ 60) && inR pick 0 1048576 && (inR site 0 (s - 1) && inR to1 0 (s - 1) && plc label len))) := by show _ = _; rw [HR.out]; simp [h1]
    clear HR
    go_upto_region 4 with (first | (go_at_call 65; refine (hKp _ hkW).mono ?_; rintro e u1 ⟨rfl, hu1⟩; rw [hu1]; clear hu1))
    by_cases h2 : line.size ≤ 60
    case neg =>
      have g2 : (60 : Int) < (line.size : Int) := by omega
      have hf : Hid (R = false) := by show _ = _; rw [HR1.out]; simp [h2]
      go_wp2_with (fail)
      go_ret
      exact ⟨ret_bool hf.out.symm, hB⟩
    have g2 : ¬ (60 : Int) < (line.size : Int) := by omega
    cases h3 : inR pick 0 1048576 with
    | false =>
      have hf : Hid (R = false) := by show _ = _; rw [HR1.out, h3]; simp
      go_wp2_with (go_at_call 36; refine (within_any _ _ _ _).mono ?_; rintro e u1 ⟨rfl, hu1⟩; rw [hu1]; clear hu1)
      go_ret
      exact ⟨ret_bool hf.out.symm, hB⟩
    | true =>
      have HR2 : Hid (R = (inR site 0 (s - 1) && inR to1 0 (s - 1) && plc label len)) := by show _ = _; rw [HR1.out, h3]; simp [h2]
      clear HR1
      go_upto_region 6 with (go_at_call 36; refine (within_any _ _ _ _).mono ?_; rintro e u1 ⟨rfl, hu1⟩; rw [hu1]; clear hu1)
      have hbv : Below W.heap.size W W := Below.refl _ _
      cases h4 : inR site 0 (s - 1) with
      | false =>
        have hf : Hid (R = false) := by show _ = _; rw [HR2.out, h4]; simp
        clear HR2
        go_wp2_with (go_at_call 66; refine (hS _ _).mono ?_; rintro e u1 ⟨rfl, hb1⟩; replace hbv := hbv.trans (hb1.mono hbv.size); clear d0 d1 d2 e0 e1 e2 e3 e4 e5 e6 e7 e8 e9 e10 e11; obtain ⟨d0, d1, d2, e0, e1, e2, e3, e4, e5, e6, e7, e8, e9, e10, e11⟩ := KC.out _ hbv)
        go_ret
        exact ⟨ret_bool hf.out.symm, hB.trans (hbv.mono hB.size)⟩
      | true =>
        cases h5 : inR to1 0 (s - 1) with
        | false =>
          have hf : Hid (R = false) := by show _ = _; rw [HR2.out, h4, h5]; simp
          clear HR2
          go_wp2_with (go_at_call 66; refine (hS _ _).mono ?_; rintro e u1 ⟨rfl, hb1⟩; replace hbv := hbv.trans (hb1.mono hbv.size); clear d0 d1 d2 e0 e1 e2 e3 e4 e5 e6 e7 e8 e9 e10 e11; obtain ⟨d0, d1, d2, e0, e1, e2, e3, e4, e5, e6, e7, e8, e9, e10, e11⟩ := KC.out _ hbv)
          go_ret
          exact ⟨ret_bool hf.out.symm, hB.trans (hbv.mono hB.size)⟩
        | true =>
          have hf : Hid (R = plc label len) := by show _ = _; rw [HR2.out, h4, h5]; simp
          clear HR2
          go_wp2_with (first | (go_at_call 66; refine (hS _ _).mono ?_; rintro e u1 ⟨rfl, hb1⟩; replace hbv := hbv.trans (hb1.mono hbv.size); clear d0 d1 d2 e0 e1 e2 e3 e4 e5 e6 e7 e8 e9 e10 e11; obtain ⟨d0, d1, d2, e0, e1, e2, e3, e4, e5, e6, e7, e8, e9, e10, e11⟩ := KC.out _ hbv) | (go_at_call 67; refine (hLb _ _).mono ?_; rintro e u1 ⟨rfl, hb1⟩; replace hbv := hbv.trans (hb1.mono hbv.size)))
          go_ret
          exact ⟨ret_bool hf.out.symm, hB.trans (hbv.mono hB.size)⟩
end Go.Proofs.YtlaagfnoepcnlaaDoor.Ln
