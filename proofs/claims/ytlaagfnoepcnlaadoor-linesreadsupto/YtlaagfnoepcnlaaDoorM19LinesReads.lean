/- Texts of this claim, one behind the other. -/
import Derived.Test.YtlaagfnoepcnlaaDoorM18LinesReads
import Derived.BigQuiet
import Derived.Lib.QuietBelow
import Derived.Test.YtlaagfnoepcnlaaDoorM15LinesReads
import Derived.Deep.DeepCutAuto
/- lines' reader: text. -/
namespace Go.Proofs.YtlaagfnoepcnlaaDoor.Ln
open Go.ChangeShapes Go.WideShapes Go.ChangeAt Go.RowKit
open Go.Proofs.YtlaagfnoepcnlaaDoor.St (BoxN boxn_new own_below IsRow Elem flat own_isRow)
set_option linter.unusedVariables false

theorem digIx_b (c : UInt8) (w : World) : Calls Tryd.prog 92 #[.string ⟨#[48, 49, 50, 51, 52, 53, 54, 55, 56, 57, 97, 98, 99, 100, 101, 102]⟩, .int .u8 (c.toNat : Int)] w fun e w' => e = .returned (.int .i64 (dgt c)) ∧ Below w.heap.size w w' :=
  (digIx_any c w).mono fun e u ⟨h1, h2⟩ => ⟨h1, by rw [h2]; exact Below.refl _ _⟩
theorem Rd.wrong {L q : Nat} {u : World} {st : Option WS} (h : Rd L q u st) : Rd L q (u.setCell ⟨q, 2, none⟩ (.bool true)) none := by
  obtain ⟨r, en, wr, h, h2, h3⟩ := h
  exact ⟨r, en, true, h.set 2 (by decide) (.bool true), h2, rfl⟩
theorem Rd.wrongCell {L q : Nat} {u : World} {st : Option WS} (h : Rd L q u st) : (∃ wr, u.cell? ⟨q, 2, none⟩ = some (.bool wr)) ∧ u.frozen? ⟨q, 2, none⟩ = false := by
  obtain ⟨r, en, wr, h, h2, h3⟩ := h
  exact ⟨⟨wr, (h.c 2 (by decide)).1⟩, (h.c 2 (by decide)).2⟩
theorem unhex_odd : ∀ (n : Nat) (l : List UInt8), l.length = 2 * n + 1 → unhex l = none
  | 0, [x], _ => rfl
  | 0, [], h => by simp at h
  | 0, _ :: _ :: _, h => by simp at h
  | n + 1, [], h => by simp at h
  | n + 1, [_], h => by simp at h
  | n + 1, a :: b :: r, h => by
    rw [unhex, unhex_odd n r (by simp at h; omega)]
    split <;> rfl
theorem stText_dot (x : List UInt8) : stText x = if (dotC x).2 then unhex (dotC x).1 else none := by
  cases x with
  | nil => rfl
  | cons c r =>
    unfold stText dotC
    by_cases h : c = 46
    · simp [h]
    · simp [h]
theorem or_join : ∀ (a b : Fin 16), bits .or .i64 ((a.val : Int) * 16) (b.val : Int) % 256 = ((UInt8.ofNat (16 * a.val + b.val)).toNat : Int) := by decide
theorem u81 (X : World) (g : UInt8) (q : Nat) (hq : q = X.heap.size) : IsRow 1 u8C (X.alloc (.cells #[.int .u8 (g.toNat : Int)] 5)) (some ⟨q, 0, none⟩) 1 1 [g] := by
  subst hq
  have b := boxn_new X #[.int .u8 (g.toNat : Int)] 5 1 rfl
  refine ⟨rfl, Nat.le_refl _, by unfold maxLen; omega, nofun, fun _ => ⟨_, 0, rfl, b.lt, fun i hi j hj => ?_⟩⟩
  obtain rfl : i = 0 := by omega
  obtain rfl : j = 0 := by omega
  exact (b.c 0 (by decide)).1
/-- A text that is read. -/
def TextTo (L q : Nat) (st : Option WS) (u u' : World) (e : Ending) : Prop := ∃ t : List UInt8, e = .returned (.string ⟨t.toArray⟩) ∧ t.length ≤ L ∧ Rd L q u' (st.bind fun ws => (stText (ws.headD [])).map fun _ => ws.tail) ∧ (∀ ws t', st = some ws → stText (ws.headD []) = some t' → t = t') ∧ Sav q u u'
theorem unhex_at {l : List UInt8} {i : Nat} {a b : UInt8} {r : List UInt8} (h : l.drop i = a :: b :: r) : unhex (l.drop i) = if dgt a < 0 ∨ dgt b < 0 then none else (unhex (l.drop (i + 2))).map (UInt8.ofNat (16 * (dgt a).toNat + (dgt b).toNat) :: ·) := by
  have h2 : l.drop (i + 2) = r := by
    have : l.drop (i + 2) = (l.drop i).drop 2 := by rw [List.drop_drop]
    rw [this, h]; rfl
  rw [h, unhex, h2]
theorem text_fin {st : Option WS} {X : List UInt8} {L q : Nat} {u u' : World} (hX : ∀ ws, st = some ws → X = ws.headD []) (hn : stText X = none) (hr : Rd L q u' none) (hs : Sav q u u') : TextTo L q st u u' (.returned (.string ⟨#[]⟩)) := by
  refine ⟨[], rfl, by simp, ?_, fun ws t' e e2 => ?_, hs⟩
  · cases st with
    | none => exact hr
    | some ws =>
      show Rd L q u' ((stText (ws.headD [])).map _)
      rw [← hX ws rfl, hn]
      exact hr
  · rw [← hX ws e, hn] at e2
    cases e2
theorem text_ok {st : Option WS} {X t : List UInt8} {L q : Nat} {u u' : World} (hX : ∀ ws, st = some ws → X = ws.headD []) (hn : stText X = some t) (hl : t.length ≤ L) (hr : Rd L q u' (st.map List.tail)) (hs : Sav q u u') : TextTo L q st u u' (.returned (.string ⟨t.toArray⟩)) := by
  refine ⟨t, rfl, hl, ?_, fun ws t' e e2 => ?_, hs⟩
  · cases st with
    | none => exact hr
    | some ws =>
      show Rd L q u' ((stText (ws.headD [])).map _)
      rw [← hX ws rfl, hn]
      exact hr
  · rw [← hX ws e, hn] at e2
    cases e2
    rfl
set_option maxRecDepth 100000 in
set_option maxHeartbeats 4000000 in
theorem text_rd (L q : Nat) (st : Option WS) (u : World) (h : Rd L q u st) (hL : L ≤ 140737488355328) :
    Calls Tryd.prog 79 #[.pointer (some ⟨q, 0, none⟩)] u fun e u' => TextTo L q st u u' e := by
  obtain ⟨iE, EU⟩ := u8Elem
  have hq := h.lt
  have hw := word_rd L q st u h (by omega)
  have hC := fun (x : List UInt8) (hx : x.length ≤ 9223372036854775807) U => cutPrefix_any x U hx
  clear h
  go_enter Tryd.func79, Tryd.ntmps79
  go_upto_region 2 with (first | (go_at_call 75; refine hw.mono ?_; rintro e u1 ⟨X, rfl, hXl, hX, r1, s1⟩) | (go_at_call 91; refine (hC _ (by omega) _).mono ?_; rintro e u2 ⟨rfl, rfl⟩))
  have HX : Hid (∀ ws, st = some ws → X = ws.headD []) := hX
  have HR : Hid (Rd L q u2 (st.map List.tail)) := r1
  have HS : Hid (Sav q u u2) := s1
  have hdl : (dotC X).1.length ≤ X.length := by
    cases X with
    | nil => simp [dotC]
    | cons c r => by_cases h : c = 46 <;> simp [dotC, h]
  have HT : Hid (stText X = if (dotC X).2 then unhex (dotC X).1 else none) := stText_dot X
  obtain ⟨l, el⟩ : ∃ l, l = (dotC X).1 := ⟨_, rfl⟩
  obtain ⟨D, eD⟩ : ∃ D, D = (dotC X).2 := ⟨_, rfl⟩
  rw [← el, ← eD] at HT ⊢
  rw [← el] at hdl
  clear el eD hX r1 s1 hw hC
  have HF0 : Hid (stText X = none → TextTo L q st u (u2.setCell ⟨q, 2, none⟩ (.bool true)) (.returned (.string ⟨#[]⟩))) := fun h => text_fin HX.out h HR.out.wrong HS.out.set
  have zq := HR.out.lt
  cases D with
  | false =>
    have HE := HF0.out (by rw [HT.out]; rfl)
    obtain ⟨⟨wg, c2⟩, f2⟩ := HR.out.wrongCell
    clear HT HF0
    go_wp2
    go_ret
    exact HE
  | true =>
    have HT2 : Hid (stText X = unhex l) := HT.out
    obtain ⟨H, eH⟩ : ∃ H : ByteArray, H = ⟨l.toArray⟩ := ⟨_, rfl⟩
    have hz : H.size = l.length := by rw [eH]; show l.toArray.size = _; simp
    have hd : H.data.toList = l := by rw [eH]
    rw [← eH]
    clear HT eH
    by_cases hm : l.length % 2 = 0
    · obtain ⟨m, em⟩ : ∃ m, l.length = 2 * m := ⟨l.length / 2, by omega⟩
      have HT0 : Hid (stText X = (unhex (l.drop 0)).map (([] : List UInt8) ++ ·)) := by show _ = _; rw [HT2.out]; simp
      have HO : Hid (u2.ownsRow u.heap.size 5 1 (.slice none 0 0) 0 (St.flat u8C [])) := ⟨rfl, Or.inl ⟨rfl, rfl⟩⟩
      have HM : Hid (H.size = 2 * m ∧ l.length = 2 * m ∧ l.length ≤ L) := ⟨by omega, em, by omega⟩
      have hm1 : ¬ (H.size : Int) % 2 ≠ 0 := by omega
      have hm2 : (H.size : Int) % 2 = 0 := by omega
      clear HT2 hm hz em hdl hXl HF0
      go_upto_region 7 with (fail)
      go_loopw [5, 6] (fun s5 s6 wr => ∃ (a : Option Addr) (c k i : Nat) (bs : List UInt8), s5 = .slice a bs.length c ∧ s6 = .int .i64 (i : Int) ∧ Hid (i = 2 * k ∧ k ≤ m ∧ bs.length = k) ∧ Hid (wr.ownsRow u.heap.size 5 1 (.slice a bs.length c) bs.length (St.flat u8C bs)) ∧ Hid (stText X = (unhex (l.drop i)).map (bs ++ ·)) ∧ Hid (Rd L q wr (st.map List.tail)) ∧ Hid (Sav q u wr)) (fun _ s6 _ => 2 * m - (intOf s6).toNat)
      case atStart => exact ⟨none, 0, 0, 0, [], rfl, rfl, ⟨rfl, by omega, rfl⟩, HO, HT0, HR, HS⟩
      case round =>
        clear HO HT0 HR HS zq
        obtain ⟨a, c, k, i, bs, rfl, rfl, HK, HO, HT, HR, HS⟩ := hrel
        obtain ⟨wo, ewo⟩ : ∃ X : World, X = wr := ⟨_, rfl⟩
        subst ewo
        have HF0 : Hid (∀ v, Below wo.heap.size wo v → stText X = none → TextTo L q st u (v.setCell ⟨q, 2, none⟩ (.bool true)) (.returned (.string ⟨#[]⟩)) ∧ (∃ wr, v.cell? ⟨q, 2, none⟩ = some (.bool wr)) ∧ v.frozen? ⟨q, 2, none⟩ = false ∧ q < v.heap.size) := fun v hv h =>
          have hr := HR.out.below hv
          ⟨text_fin HX.out h hr.wrong (HS.out.trans (Sav.of hv)).set, hr.wrongCell.1, hr.wrongCell.2, hr.lt⟩
        obtain ⟨hi, hk, hbl⟩ := HK.out
        obtain ⟨hz, hlm, hlL⟩ := HM.out
        by_cases hlt : i < H.size
        · have hlt' : (i : Int) < (H.size : Int) := by omega
          obtain ⟨ch1, hx1, hd1, -⟩ := ch_at H i hlt
          obtain ⟨ch2, hx2, hd2, -⟩ := ch_at H (i + 1) (by omega)
          rw [show (((i + 1 : Nat)) : Int) = (i : Int) + 1 by omega] at hx2
          rw [hd] at hd1 hd2
          have hI1 := fun U => digIx_b ch1 U
          have hI2 := fun U => digIx_b ch2 U
          have hdd : l.drop i = ch1 :: ch2 :: l.drop (i + 2) := by rw [hd1, hd2]
          have HU : Hid (stText X = (if dgt ch1 < 0 ∨ dgt ch2 < 0 then none else (unhex (l.drop (i + 2))).map (UInt8.ofNat (16 * (dgt ch1).toNat + (dgt ch2).toNat) :: ·)).map (bs ++ ·)) := by show _ = _; rw [← unhex_at hdd]; exact HT.out
          have hw1 : IntKind.i64.wrap ((i : Int) + 1) = (i : Int) + 1 := by rw [IntKind.wrap_i64]; omega
          have hw2 : IntKind.i64.wrap ((i : Int) + 2) = ((i + 2 : Nat) : Int) := by rw [IntKind.wrap_i64]; omega
          have HJ : Hid (i + 2 = 2 * (k + 1) ∧ k + 1 ≤ m ∧ i + 2 ≤ 2 * m) := ⟨by omega, by omega, by omega⟩
          have L1 := dgt_lt ch1
          have L2 := dgt_lt ch2
          have HBl : Hid (bs.length = k) := hbl
          have HBz : bs.length ≤ 140737488355320 := by omega
          obtain ⟨D1, eD1⟩ : ∃ x, x = dgt ch1 := ⟨_, rfl⟩
          obtain ⟨D2, eD2⟩ : ∃ x, x = dgt ch2 := ⟨_, rfl⟩
          rw [← eD1] at hI1 HU L1
          rw [← eD2] at hI2 HU L2
          obtain ⟨C1, eC1⟩ : ∃ x : Nat, x = ch1.toNat := ⟨_, rfl⟩
          obtain ⟨C2, eC2⟩ : ∃ x : Nat, x = ch2.toNat := ⟨_, rfl⟩
          rw [← eC1] at hI1 hx1
          rw [← eC2] at hI2 hx2
          clear eD1 eD2 eC1 eC2 hdd hd1 hd2 HK HM hlm hlL hz hi hk hbl HT
          go_upto_region 9 with (fail)
          refine wp_region_quiet_below (by kernel_rfl) (by kernel_rfl) ?_
          repeat (go_big_quiet_step (first | (go_at_call 92; first | exact Calls.regrown_of (hI1 _) | exact Calls.regrown_of (hI2 _))))
          refine wpQuiet_nil ?_
          intro _ hw'
          obtain ⟨⟨dq, osq⟩, hw''⟩ := hw'
          subst hw''
          have bQ := below_regrown wo dq osq
          obtain ⟨Z, eZ⟩ : ∃ X : World, X = Go.Sort.grow (Go.redrawn wo dq) osq := ⟨_, rfl⟩
          rw [← eZ] at bQ ⊢
          clear eZ
          by_cases h1 : D1 < 0
          · obtain ⟨hE, ⟨wg, c2⟩, f2, zq⟩ := HF0.out Z bQ (by rw [HU.out, if_pos (Or.inl h1)]; rfl)
            have HE : Hid (TextTo L q st u (Z.setCell ⟨q, 2, none⟩ (.bool true)) (.returned (.string ⟨#[]⟩))) := hE
            clear hE HU HF0 HO HR HS HJ hI1 hI2 hx1 hx2 bQ hw1 hw2
            go_wp2
            go_ret
            exact HE.out
          · by_cases h2 : D2 < 0
            · obtain ⟨hE, ⟨wg, c2⟩, f2, zq⟩ := HF0.out Z bQ (by rw [HU.out, if_pos (Or.inr h2)]; rfl)
              have HE : Hid (TextTo L q st u (Z.setCell ⟨q, 2, none⟩ (.bool true)) (.returned (.string ⟨#[]⟩))) := hE
              clear hE HU HF0 HO HR HS HJ hI1 hI2 hx1 hx2 bQ hw1 hw2
              go_wp2
              go_ret
              exact HE.out
            · obtain ⟨d1, rfl⟩ : ∃ d : Nat, D1 = d := ⟨D1.toNat, by omega⟩
              obtain ⟨d2, rfl⟩ : ∃ d : Nat, D2 = d := ⟨D2.toNat, by omega⟩
              clear hI1 hI2 hx1 hx2 hw1
              have hor : bits .or .i64 ((d1 : Int) * 16) (d2 : Int) % 256 = ((UInt8.ofNat (16 * d1 + d2)).toNat : Int) := or_join ⟨d1, by omega⟩ ⟨d2, by omega⟩
              have HU2 : Hid (stText X = (unhex (l.drop (i + 2))).map ((bs ++ [UInt8.ofNat (16 * d1 + d2)]) ++ ·)) := by
                show _ = _
                rw [HU.out, if_neg (by omega)]
                simp only [Int.toNat_natCast]
                cases unhex (l.drop (i + 2)) with
                | none => rfl
                | some t => simp
              obtain ⟨G, eG⟩ : ∃ g, g = UInt8.ofNat (16 * d1 + d2) := ⟨_, rfl⟩
              rw [← eG] at hor HU2
              have hsh : wrap64 ((d1 : Int) * 16) = (d1 : Int) * 16 := by unfold wrap64; omega
              have hO1 := own_below HO.out bQ
              have HOl : Hid (∀ g, (Value.slice a bs.length c).ownBlock = some g → u.heap.size ≤ g) := fun g e => (HO.out.lt g e).1
              have hz1 : u.heap.size ≤ Z.heap.size := Nat.le_trans HS.out.size bQ.size
              have HFn : Hid (∀ (w5 : World) (a5 : Option Addr) (c5 : Nat), (Z.alloc (.cells #[.int .u8 (G.toNat : Int)] 5)).grownBy w5 (Value.slice a bs.length c).ownBlock → Rd L q w5 (st.map List.tail) ∧ Sav q u w5) := fun w5 a5 c5 h8 =>
                ⟨((HR.out.below bQ).below ((Below.refl _ _).alloc (Nat.le_refl _) _)).grown h8 (fun e => by have := HOl.out q e.symm; omega), ((HS.out.trans (Sav.of bQ)).trans (Sav.of ((Below.refl _ _).alloc (Nat.le_refl _) _))).grown h8 HOl.out⟩
              clear HU eG HF0 L1 L2 HR HS HO
              go_wp2_with (at_builtin; go_loud (refine St.wpList_append_row EU (by rfl) _ _ (by rfl) u.heap.size (.slice a bs.length c) bs.length bs (by rfl) (own_below hO1 ((Below.refl _ _).alloc (Nat.le_refl _) _)) _ 1 1 [G] (by rfl) (u81 Z G _ rfl) (by unfold maxLen; omega) (by omega) (by simp; omega) ?_; intro a5 c5 w5 own5 gr5 at5; have HF5 : Hid (Rd L q w5 (st.map List.tail) ∧ Sav q u w5) := HFn.out w5 a5 c5 gr5))
              go_roundw
              case rel => exact ⟨u2, .slice a5 (bs.length + 1) c5, .int .i64 ((i : Int) + 2), ⟨a5, c5, k + 1, i + 2, bs ++ [G], by rw [List.length_append]; rfl, by go_num, ⟨HJ.out.1, HJ.out.2.1, by rw [List.length_append, HBl.out]; rfl⟩, by rw [List.length_append]; exact own5, HU2, HF5.out.1, HF5.out.2⟩, rfl, rfl, rfl⟩
              case measure => have := HJ.out; simp [intOf]; omega
        · obtain rfl : i = H.size := by omega
          have hnl : ¬ ((H.size : Int) < (H.size : Int)) := by omega
          have HE : Hid (TextTo L q st u wo (.returned (.string ⟨bs.toArray⟩))) := by
            refine text_ok HX.out ?_ (by omega) HR.out HS.out
            rw [HT.out, List.drop_of_length_le (by omega)]
            simp [unhex]
          have HCv : Hid ((convert 52 9 (.slice a bs.length c)).run Tryd.prog wo = .ok (.string ⟨bs.toArray⟩) wo) := by
            show _ = _
            by_cases h0 : bs.length = 0
            · obtain rfl : bs = [] := List.length_eq_zero_iff.1 h0
              rcases HO.out.2 with ⟨h, -⟩ | ⟨g, cap, cur, h, -⟩
              · rw [h]
                kernel_rfl
              · rw [h]
                exact run_convert_bytes_back (P := Tryd.prog) wo 52 9 5 ⟨g, 0, none⟩ cap [] Tryd.underlying52 Tryd.underlying5 Tryd.underlying9 (fun j hj => by simp at hj)
            · obtain ⟨⟨_, _, _, _, h5⟩, -⟩ := own_isRow u8_len HO.out rfl
              obtain ⟨b, off, rfl, _, hc⟩ := h5 (by omega)
              have := run_convert_bytes_back (P := Tryd.prog) wo 52 9 5 ⟨b, off, none⟩ c bs Tryd.underlying52 Tryd.underlying5 Tryd.underlying9 (fun j hj => by
                have h8 := hc j hj 0 (by decide)
                rw [Nat.mul_one, Nat.add_zero] at h8
                have e1 : ((⟨b, off, none⟩ : Addr).add j) = ⟨b, off + j, none⟩ := by unfold Addr.add; by_cases h : j = 0 <;> simp [h]
                rw [e1, h8]
                simp [u8C, List.getD, hj])
              rw [this]
          have hcv := HCv.out
          clear HF0 HT HO HR HS HK HM hbl hz hlm hlL hi hk hlt
          go_wp2
          go_ret
          exact HE.out
    · have hm1 : (H.size : Int) % 2 = 1 := by omega
      have HE := HF0.out (by rw [HT2.out]; exact unhex_odd (l.length / 2) l (by omega))
      obtain ⟨⟨wg, c2⟩, f2⟩ := HR.out.wrongCell
      clear HT2 HF0 hd hz hm
      go_wp2
      go_ret
      exact HE
end Go.Proofs.YtlaagfnoepcnlaaDoor.Ln
/- lines' reader: call. -/
namespace Go.Proofs.YtlaagfnoepcnlaaDoor.Ln
open Go.ChangeShapes Go.WideShapes Go.ChangeAt Go.RowKit
open Go.Proofs.YtlaagfnoepcnlaaDoor.St (BoxN boxn_new own_below IsRow Elem flat own_isRow)
set_option linter.unusedVariables false

/-- The tables of the program and of the library. -/
structure RdT (w : World) : Prop where
  ln : LnT w
  rd : RdW w
theorem callHas_len : ∀ k, k < 6 → (cHas.getD k []).length = 4 := by decide
/-- Which words are left behind a call. -/
def CallTo (L q : Nat) (st : Option WS) (u u' : World) (e : Ending) : Prop := ∃ (k : Nat) (p0 p1 p2 p3 : Int), e = .returned (.agg #[.int .i64 (k : Int), .int .i64 p0, .int .i64 p1, .int .i64 p2, .int .i64 p3]) ∧ Rd L q u' (st.bind fun ws => (stCall ws).map (·.2)) ∧ (∀ ws p, st = some ws → stCall ws = some p → p.1 = ⟨k, [p0, p1, p2, p3]⟩) ∧ Sav q u u'
set_option maxRecDepth 100000 in
set_option maxHeartbeats 4000000 in
theorem call_rd (L q : Nat) (st : Option WS) (u : World) (h : Rd L q u st) (hL : L ≤ 140737488355328) (hT : ∀ U, Sav q u U → RdT U) :
    Calls Tryd.prog 78 #[.pointer (some ⟨q, 0, none⟩)] u fun e u' => CallTo L q st u u' e := by
  have zq := h.lt
  have HT : Hid (∀ U, Sav q u U → RdT U) := hT
  obtain ⟨W, hW⟩ : ∃ W : World, W = u.alloc (.cells #[.int .i64 0, .int .i64 0, .int .i64 0, .int .i64 0, .int .i64 0] 39) := ⟨_, rfl⟩
  have bW : Below u.heap.size u W := by rw [hW]; exact (Below.refl _ _).alloc (Nat.le_refl _) _
  have bxR : BoxN W u.heap.size 5 [.int .i64 0, .int .i64 0, .int .i64 0, .int .i64 0, .int .i64 0] := by rw [hW]; exact boxn_new u #[.int .i64 0, .int .i64 0, .int .i64 0, .int .i64 0, .int .i64 0] 39 5 rfl
  have hw := word_rd L q st W (h.below bW) (by omega)
  have HB : Hid (∀ U, Sav q W U → BoxN U u.heap.size 5 [.int .i64 0, .int .i64 0, .int .i64 0, .int .i64 0, .int .i64 0] ∧ Sav q u U) := fun U hU => ⟨hU.box bxR (by omega), (Sav.of bW).trans hU⟩
  have hK := fun (x : List UInt8) (U : World) (hU : Sav q W U) => callKind_any x U (HT.out U ((Sav.of bW).trans hU)).ln.2.2.2.2.1
  clear hT h bxR bW
  go_enter Tryd.func78, Tryd.ntmps78
  go_upto_region 1 with (fail)
  rw [← hW]
  clear hW
  go_upto_region 2 with (first | (go_at_call 75; refine hw.mono ?_; rintro e u1 ⟨X, rfl, hXl, hX, r1, s1⟩) | (go_at_call 90; refine (hK X _ s1).mono ?_; rintro e u2 ⟨rfl, rfl⟩))
  obtain ⟨K, eK⟩ : ∃ K, K = kindC X := ⟨_, rfl⟩
  have hK6 : K < 6 := by rw [eK]; exact kindC_lt X
  rw [← eK]
  have HK : Hid (K = kindC X) := eK
  have HX : Hid (∀ ws, st = some ws → X = ws.headD []) := hX
  have HR : Hid (Rd L q u2 (st.map List.tail)) := r1
  have HS : Hid (Sav q W u2) := s1
  clear eK hX r1 s1 hw hK
  obtain ⟨st2, e2⟩ : ∃ st2, st2 = (if K = 0 then none else st.map List.tail) := ⟨_, rfl⟩
  have HE2 : Hid (st2 = (if K = 0 then none else st.map List.tail)) := e2
  clear e2
  go_upto_if 10 with (fail)
  go_cut [] from 11 to 14 (fun wc => Rd L q wc st2 ∧ Sav q W wc)
  case first =>
    by_cases h0 : K = 0
    · have h0' : ((K : Int) == 0) = true := by simp [h0]
      obtain ⟨⟨wg, c2⟩, f2⟩ := HR.out.wrongCell
      have z2 := HR.out.lt
      have HF : Hid (Rd L q (u2.setCell ⟨q, 2, none⟩ (.bool true)) st2 ∧ Sav q W (u2.setCell ⟨q, 2, none⟩ (.bool true))) := ⟨by rw [HE2.out, if_pos h0]; exact HR.out.wrong, HS.out.set⟩
      go_wp2
      go_meet
      case rel => exact HF.out
    · have h0' : ((K : Int) == 0) = false := by simp; omega
      have HF : Hid (Rd L q u2 st2 ∧ Sav q W u2) := ⟨by rw [HE2.out, if_neg h0]; exact HR.out, HS.out⟩
      go_wp2
      go_meet
      case rel => exact HF.out
  case rest =>
    obtain ⟨r3, s3⟩ := hcut
    have HR3 : Hid (Rd L q wc st2) := r3
    have HS3 : Hid (Sav q W wc) := s3
    have tc := (HT.out wc ((HB.out wc s3).2)).ln.2.2.2.1
    have zt := tc.lt (by decide) (by decide)
    clear r3 s3
    have EH := cHas_four K hK6
    have f0 := tc K 0 hK6 (by decide)
    have f1 := tc K 1 hK6 (by decide)
    have f2 := tc K 2 hK6 (by decide)
    have f3 := tc K 3 hK6 (by decide)
    obtain ⟨h0, eh0⟩ : ∃ x, x = (cHas.getD K []).getD 0 false := ⟨_, rfl⟩
    obtain ⟨h1, eh1⟩ : ∃ x, x = (cHas.getD K []).getD 1 false := ⟨_, rfl⟩
    obtain ⟨h2, eh2⟩ : ∃ x, x = (cHas.getD K []).getD 2 false := ⟨_, rfl⟩
    obtain ⟨h3, eh3⟩ : ∃ x, x = (cHas.getD K []).getD 3 false := ⟨_, rfl⟩
    rw [← eh0, ← eh1, ← eh2, ← eh3] at EH
    rw [← eh0] at f0
    rw [← eh1] at f1
    rw [← eh2] at f2
    rw [← eh3] at f3
    clear eh0 eh1 eh2 eh3
    simp only [Nat.add_zero] at f0
    have HEH : Hid (cHas.getD K [] = [h0, h1, h2, h3]) := EH
    have hKi : (K : Int) < 6 := by omega
    clear tc EH
    go_upto_region 6 with (fail)
    obtain ⟨Y, hY⟩ : ∃ Y : World, Y = (wc.alloc (.cells #[.bool h0, .bool h1, .bool h2, .bool h3] 111)).alloc (.cells #[.int .i64 0, .int .i64 0, .int .i64 0, .int .i64 0] 113) := ⟨_, rfl⟩
    have bY : Below wc.heap.size wc Y := by rw [hY]; exact ((Below.refl _ _).alloc (Nat.le_refl _) _).alloc (by simp) _
    have bx1 : BoxN Y wc.heap.size 4 [.bool h0, .bool h1, .bool h2, .bool h3] := by
      rw [hY]
      exact (boxn_new wc #[.bool h0, .bool h1, .bool h2, .bool h3] 111 4 rfl).below ((Below.refl _ _).alloc (Nat.le_refl _) _) (by simp)
    have bx2 : BoxN Y (wc.heap.size + 1) 4 ([0, 0, 0, 0].map intV) := by
      rw [hY]
      have := boxn_new (wc.alloc (.cells #[.bool h0, .bool h1, .bool h2, .bool h3] 111)) #[.int .i64 0, .int .i64 0, .int .i64 0, .int .i64 0] 113 4 rfl
      rw [show (wc.alloc (.cells #[.bool h0, .bool h1, .bool h2, .bool h3] 111)).heap.size = wc.heap.size + 1 by simp] at this
      exact this
    rw [← hY]
    clear hY
    have hzq : q < wc.heap.size := HR3.out.lt
    have HNum : Hid (∀ U, Below Y.heap.size Y U → Calls Tryd.prog 76 #[.pointer (some ⟨q, 0, none⟩), .slice (some ⟨wc.heap.size, 0, none⟩) 4 4, .slice (some ⟨wc.heap.size + 1, 0, none⟩) 4 4] U fun e u' => e = .returned (.tuple #[]) ∧ ∃ ps, NumsTo L q (wc.heap.size + 1) [h0, h1, h2, h3] st2 Y u' ps) := fun U hU => by
      have b1 := bx1.below hU bx1.lt
      have b2 := bx2.below hU bx2.lt
      have sU : Sav q u U := ((HB.out wc HS3.out).2.trans (Sav.of bY)).trans (Sav.of hU)
      refine (numbers_rd L q wc.heap.size (wc.heap.size + 1) 4 4 [h0, h1, h2, h3] st2 U ((HR3.out.below bY).below hU) hL rfl b2 b1.lt (by omega) (by omega) (by omega) (fun i hi => ?_) (fun V hV => (HT.out V (Sav2.sav sU hV (by have := (HB.out wc HS3.out).2.size; omega))).rd)).mono (fun e u' ⟨e1, ps, n1, n2, n3, n4, n5⟩ => ⟨e1, ps, n1, n2, n3, n4, (Sav2.of (Sav.of hU)).trans n5⟩)
      rw [(b1.c i hi).1]
      rcases (by omega : i = 0 ∨ i = 1 ∨ i = 2 ∨ i = 3) with rfl | rfl | rfl | rfl <;> rfl
    have HSY : Hid (Sav q W Y) := HS3.out.trans (Sav.of bY)
    have zWc := HS3.out.size
    clear f0 f1 f2 f3
    go_region_with (first | (go_at_call 76; refine (HNum.out _ (by first | exact Below.refl _ _ | exact (Below.refl _ _).drew)).mono ?_; rintro e u5 ⟨rfl, ps, hps⟩))
    obtain ⟨hb5, hpl, hR5, hV5, hS5⟩ := hps
    obtain ⟨hbx, hsu⟩ := HB.out u5 (Sav2.sav HSY.out hS5 (by omega))
    match ps, hpl with
    | [p0, p1, p2, p3], _ =>
    have g0 : u5.cell? ⟨wc.heap.size + 1, 0, none⟩ = some (.int .i64 p0) := (hb5.c 0 (by decide)).1
    have g1 : u5.cell? ⟨wc.heap.size + 1, 1, none⟩ = some (.int .i64 p1) := (hb5.c 1 (by decide)).1
    have g2 : u5.cell? ⟨wc.heap.size + 1, 2, none⟩ = some (.int .i64 p2) := (hb5.c 2 (by decide)).1
    have g3 : u5.cell? ⟨wc.heap.size + 1, 3, none⟩ = some (.int .i64 p3) := (hb5.c 3 (by decide)).1
    have b0 := (hbx.c 0 (by decide)).1
    have b1 := (hbx.c 1 (by decide)).1
    have b2 := (hbx.c 2 (by decide)).1
    have b3 := (hbx.c 3 (by decide)).1
    have b4 := (hbx.c 4 (by decide)).1
    have e0 := (hbx.c 0 (by decide)).2
    have e1 := (hbx.c 1 (by decide)).2
    have e2 := (hbx.c 2 (by decide)).2
    have e3 := (hbx.c 3 (by decide)).2
    have e4 := (hbx.c 4 (by decide)).2
    have z5 := hbx.lt
    simp only [List.getD_cons_zero, List.getD_cons_succ] at b0 b1 b2 b3 b4
    obtain ⟨F, hF⟩ : ∃ F : World, F = ((((u5.setCell ⟨u.heap.size, 0, none⟩ (.int .i64 (K : Int))).setCell ⟨u.heap.size, 1, none⟩ (.int .i64 p0)).setCell ⟨u.heap.size, 2, none⟩ (.int .i64 p1)).setCell ⟨u.heap.size, 3, none⟩ (.int .i64 p2)).setCell ⟨u.heap.size, 4, none⟩ (.int .i64 p3) := ⟨_, rfl⟩
    have k0 : F.cell? ⟨u.heap.size, 0, none⟩ = some (.int .i64 (K : Int)) := by rw [hF]; go_simp
    have k1 : F.cell? ⟨u.heap.size, 1, none⟩ = some (.int .i64 p0) := by rw [hF]; go_simp
    have k2 : F.cell? ⟨u.heap.size, 2, none⟩ = some (.int .i64 p1) := by rw [hF]; go_simp
    have k3 : F.cell? ⟨u.heap.size, 3, none⟩ = some (.int .i64 p2) := by rw [hF]; go_simp
    have k4 : F.cell? ⟨u.heap.size, 4, none⟩ = some (.int .i64 p3) := by rw [hF]; go_simp
    have HFin : Hid (CallTo L q st u F (.returned (.agg #[.int .i64 (K : Int), .int .i64 p0, .int .i64 p1, .int .i64 p2, .int .i64 p3]))) := by
      refine ⟨K, p0, p1, p2, p3, rfl, ?_, fun ws p ew ep => ?_, ?_⟩
      · have hr : Rd L q F (st2.bind fun ws => (stNums [h0, h1, h2, h3] ws).map (·.2)) := by rw [hF]; exact ((((hR5.far (by omega)).far (by omega)).far (by omega)).far (by omega)).far (by omega)
        have e : (st2.bind fun ws => (stNums [h0, h1, h2, h3] ws).map (·.2)) = (st.bind fun ws => (stCall ws).map (·.2)) := by
          rw [HE2.out]
          cases st with
          | none => split <;> rfl
          | some ws =>
            have hx := HX.out ws rfl
            rw [hx] at HK
            have hk := HK.out
            show _ = (stCall ws).map _
            unfold stCall
            rw [← hk]
            by_cases hK0 : K = 0
            · rw [if_pos hK0, if_pos hK0]; rfl
            · rw [if_neg hK0, if_neg hK0, HEH.out]
              show (stNums [h0, h1, h2, h3] ws.tail).map _ = Option.map _ (Option.map _ _)
              cases stNums [h0, h1, h2, h3] ws.tail <;> rfl
        rw [← e]
        exact hr
      · subst ew
        have hx := HX.out ws rfl
        rw [hx] at HK
        have hk := HK.out
        unfold stCall at ep
        rw [← hk] at ep
        by_cases hK0 : K = 0
        · rw [if_pos hK0] at ep; cases ep
        · rw [if_neg hK0, HEH.out] at ep
          cases es : stNums [h0, h1, h2, h3] ws.tail with
          | none => rw [es] at ep; cases ep
          | some r =>
            rw [es] at ep
            cases ep
            have := hV5 ws.tail r (by rw [HE2.out, if_neg hK0]; rfl) es
            show CV.mk K r.1 = _
            rw [← this]
      · rw [hF]
        have : ∀ {v : World} {i : Nat} {x : Value}, Sav q u v → Sav q u (v.setCell ⟨u.heap.size, i, none⟩ x) := fun {v i x} hv => by
          have b := (Below.refl u.heap.size v).setCell (p := ⟨u.heap.size, i, none⟩) (Nat.le_refl _) x
          exact ⟨b.os.trans hv.os, b.tape.trans hv.tape, b.output.trans hv.output, Nat.le_trans hv.size b.size, fun j hj hq => (b.block j hj).trans (hv.block j hj hq)⟩
        exact this (this (this (this (this hsu))))
    clear HE2 HEH HK HX HR HS HB HT HR3 HS3 HSY HNum hb5 hR5 hV5 hS5 hbx hsu
    go_wp2
    rw [← hF]
    refine bodyPost_ret (v := .agg #[.int .i64 (K : Int), .int .i64 p0, .int .i64 p1, .int .i64 p2, .int .i64 p3]) (by simp [results, Tryd.results78, go_sem, k0, k1, k2, k3, k4]) rfl HFin.out
end Go.Proofs.YtlaagfnoepcnlaaDoor.Ln
/- What lies in the library's and the package's variables, for lines.Read, in every later world. -/
namespace Go.Proofs.YtlaagfnoepcnlaaDoor.Ln
open Go.ChangeShapes Go.WideShapes Go.ChangeAt Go.RowKit
set_option linter.unusedVariables false

def IfAt (w : World) (g : Nat) : Prop := ∃ ev, w.cell? ⟨g, 0, none⟩ = some ev ∧ (ev = .nilIface ∨ ∃ te pe, ev = .iface te pe)
theorem cell_lt {w : World} {g : Nat} {v : Value} (h : w.cell? ⟨g, 0, none⟩ = some v) : g < w.heap.size := by
  unfold World.cell? at h
  simp only at h
  by_cases hg : g < w.heap.size
  · exact hg
  · rw [Array.getElem?_eq_none (by omega)] at h
    simp at h
theorem rdt_all {w : World} (h1 : Lib.TabIs Tryd.prog w "internal/strconv.uint64pow10" .u64 Lib.pow10Tab) (h2 : Tab w 0 7 aHas) (h3 : WTab w 1 9 aWord) (h4 : Tab w 2 4 cHas) (h5 : WTab w 4 6 cWord) (h6 : CTops w) (h7 : IfAt w 10) (h8 : IfAt w 9) : ∀ U, Below w.heap.size w U → RdT U := fun U hU => by
  have h := lnt_all h1 h2 h3 h4 h5 h6 U hU
  obtain ⟨e2, c2, d2⟩ := h7
  obtain ⟨e3, c3, d3⟩ := h8
  exact ⟨h, h.1, ⟨e3, (hU.cell (p := ⟨9, 0, none⟩) (cell_lt c3)).trans c3, d3⟩, ⟨e2, (hU.cell (p := ⟨10, 0, none⟩) (cell_lt c2)).trans c2, d2⟩⟩
end Go.Proofs.YtlaagfnoepcnlaaDoor.Ln
