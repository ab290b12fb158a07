/- Texts of this claim, one behind the other. -/
import Derived.Test.YtlaagfnoepcnlaaDoorM23LinesBad
import Derived.Test.YtlaagfnoepcnlaaDoorM20LinesBad
import Derived.Deep.DeepCutAuto
import Derived.Test.YtlaagfnoepcnlaaDoorM22LinesBad
import Derived.Lib.Join
/- lines' reader: call. -/
namespace Go.Proofs.YtlaagfnoepcnlaaDoor.Ln
open Go.ChangeShapes Go.WideShapes Go.ChangeAt Go.RowKit
open Go.Proofs.YtlaagfnoepcnlaaDoor.St (BoxN boxn_new own_below IsRow Elem flat own_isRow)
set_option linter.unusedVariables false

/-- The tables of the program and of the library. -/
structure RdT (w : World) : Prop where
  ln : LnT w
  rd : RdW w
theorem callHas_len : ∀ k, k < 6 → (cHas.getD k []).length = 4 := by decide
/-- Which words are left behind a call. -/
def CallTo (L q : Nat) (st : Option WS) (u u' : World) (e : Ending) : Prop := ∃ (k : Nat) (p0 p1 p2 p3 : Int), e = .returned (.agg #[.int .i64 (k : Int), .int .i64 p0, .int .i64 p1, .int .i64 p2, .int .i64 p3]) ∧ Rd L q u' (st.bind fun ws => (stCall ws).map (·.2)) ∧ (∀ ws p, st = some ws → stCall ws = some p → p.1 = ⟨k, [p0, p1, p2, p3]⟩) ∧ Sav q u u'
set_option maxRecDepth 100000 in
set_option maxHeartbeats 4000000 in
theorem call_rd (L q : Nat) (st : Option WS) (u : World) (h : Rd L q u st) (hL : L ≤ 140737488355328) (hT : ∀ U, Sav q u U → RdT U) :
    Calls Tryd.prog 78 #[.pointer (some ⟨q, 0, none⟩)] u fun e u' => CallTo L q st u u' e := by
  have zq := h.lt
  have HT : Hid (∀ U, Sav q u U → RdT U) := hT
  obtain ⟨W, hW⟩ : ∃ W : World, W = u.alloc (.cells #[.int .i64 0, .int .i64 0, .int .i64 0, .int .i64 0, .int .i64 0] 39) := ⟨_, rfl⟩
  have bW : Below u.heap.size u W := by rw [hW]; exact (Below.refl _ _).alloc (Nat.le_refl _) _
  have bxR : BoxN W u.heap.size 5 [.int .i64 0, .int .i64 0, .int .i64 0, .int .i64 0, .int .i64 0] := by rw [hW]; exact boxn_new u #[.int .i64 0, .int .i64 0, .int .i64 0, .int .i64 0, .int .i64 0] 39 5 rfl
  have hw := word_rd L q st W (h.below bW) (by omega)
  have HB : Hid (∀ U, Sav q W U → BoxN U u.heap.size 5 [.int .i64 0, .int .i64 0, .int .i64 0, .int .i64 0, .int .i64 0] ∧ Sav q u U) := fun U hU => ⟨hU.box bxR (by omega), (Sav.of bW).trans hU⟩
  have hK := fun (x : List UInt8) (U : World) (hU : Sav q W U) => callKind_any x U (HT.out U ((Sav.of bW).trans hU)).ln.2.2.2.2.1
  clear hT h bxR bW
  go_enter Tryd.func78, Tryd.ntmps78
  go_upto_region 1 with (fail)
  rw [← hW]
  clear hW
  go_upto_region 2 with (first | (go_at_call 75; refine hw.mono ?_; rintro e u1 ⟨X, rfl, hXl, hX, r1, s1⟩) | (go_at_call 90; refine (hK X _ s1).mono ?_; rintro e u2 ⟨rfl, rfl⟩))
  obtain ⟨K, eK⟩ : ∃ K, K = kindC X := ⟨_, rfl⟩
  have hK6 : K < 6 := by rw [eK]; exact kindC_lt X
  rw [← eK]
  have HK : Hid (K = kindC X) := eK
  have HX : Hid (∀ ws, st = some ws → X = ws.headD []) := hX
  have HR : Hid (Rd L q u2 (st.map List.tail)) := r1
  have HS : Hid (Sav q W u2) := s1
  clear eK hX r1 s1 hw hK
  obtain ⟨st2, e2⟩ : ∃ st2, st2 = (if K = 0 then none else st.map List.tail) := ⟨_, rfl⟩
  have HE2 : Hid (st2 = (if K = 0 then none else st.map List.tail)) := e2
  clear e2
  go_upto_if 10 with (fail)
  go_cut [] from 11 to 14 (fun wc => Rd L q wc st2 ∧ Sav q W wc)
  case first =>
    by_cases h0 : K = 0
    · have h0' : ((K : Int) == 0) = true := by simp [h0]
      obtain ⟨⟨wg, c2⟩, f2⟩ := HR.out.wrongCell
      have z2 := HR.out.lt
      have HF : Hid (Rd L q (u2.setCell ⟨q, 2, none⟩ (.bool true)) st2 ∧ Sav q W (u2.setCell ⟨q, 2, none⟩ (.bool true))) := ⟨by rw [HE2.out, if_pos h0]; exact HR.out.wrong, HS.out.set⟩
      go_wp2
      go_meet
      case rel => exact HF.out
    · have h0' : ((K : Int) == 0) = false := by simp; omega
      have HF : Hid (Rd L q u2 st2 ∧ Sav q W u2) := ⟨by rw [HE2.out, if_neg h0]; exact HR.out, HS.out⟩
      go_wp2
      go_meet
      case rel => exact HF.out
  case rest =>
    obtain ⟨r3, s3⟩ := hcut
    have HR3 : Hid (Rd L q wc st2) := r3
    have HS3 : Hid (Sav q W wc) := s3
    have tc := (HT.out wc ((HB.out wc s3).2)).ln.2.2.2.1
    have zt := tc.lt (by decide) (by decide)
    clear r3 s3
    have EH := cHas_four K hK6
    have f0 := tc K 0 hK6 (by decide)
    have f1 := tc K 1 hK6 (by decide)
    have f2 := tc K 2 hK6 (by decide)
    have f3 := tc K 3 hK6 (by decide)
    obtain ⟨h0, eh0⟩ : ∃ x, x = (cHas.getD K []).getD 0 false := ⟨_, rfl⟩
    obtain ⟨h1, eh1⟩ : ∃ x, x = (cHas.getD K []).getD 1 false := ⟨_, rfl⟩
    obtain ⟨h2, eh2⟩ : ∃ x, x = (cHas.getD K []).getD 2 false := ⟨_, rfl⟩
    obtain ⟨h3, eh3⟩ : ∃ x, x = (cHas.getD K []).getD 3 false := ⟨_, rfl⟩
    rw [← eh0, ← eh1, ← eh2, ← eh3] at EH
    rw [← eh0] at f0
    rw [← eh1] at f1
    rw [← eh2] at f2
    rw [← eh3] at f3
    clear eh0 eh1 eh2 eh3
    simp only [Nat.add_zero] at f0
    have HEH : Hid (cHas.getD K [] = [h0, h1, h2, h3]) := EH
    have hKi : (K : Int) < 6 := by omega
    clear tc EH
    go_upto_region 6 with (fail)
    obtain ⟨Y, hY⟩ : ∃ Y : World, Y = (wc.alloc (.cells #[.bool h0, .bool h1, .bool h2, .bool h3] 111)).alloc (.cells #[.int .i64 0, .int .i64 0, .int .i64 0, .int .i64 0] 113) := ⟨_, rfl⟩
    have bY : Below wc.heap.size wc Y := by rw [hY]; exact ((Below.refl _ _).alloc (Nat.le_refl _) _).alloc (by simp) _
    have bx1 : BoxN Y wc.heap.size 4 [.bool h0, .bool h1, .bool h2, .bool h3] := by
      rw [hY]
      exact (boxn_new wc #[.bool h0, .bool h1, .bool h2, .bool h3] 111 4 rfl).below ((Below.refl _ _).alloc (Nat.le_refl _) _) (by simp)
    have bx2 : BoxN Y (wc.heap.size + 1) 4 ([0, 0, 0, 0].map intV) := by
      rw [hY]
      have := boxn_new (wc.alloc (.cells #[.bool h0, .bool h1, .bool h2, .bool h3] 111)) #[.int .i64 0, .int .i64 0, .int .i64 0, .int .i64 0] 113 4 rfl
      rw [show (wc.alloc (.cells #[.bool h0, .bool h1, .bool h2, .bool h3] 111)).heap.size = wc.heap.size + 1 by simp] at this
      exact this
    rw [← hY]
    clear hY
    have hzq : q < wc.heap.size := HR3.out.lt
    have HNum : Hid (∀ U, Below Y.heap.size Y U → Calls Tryd.prog 76 #[.pointer (some ⟨q, 0, none⟩), .slice (some ⟨wc.heap.size, 0, none⟩) 4 4, .slice (some ⟨wc.heap.size + 1, 0, none⟩) 4 4] U fun e u' => e = .returned (.tuple #[]) ∧ ∃ ps, NumsTo L q (wc.heap.size + 1) [h0, h1, h2, h3] st2 Y u' ps) := fun U hU => by
      have b1 := bx1.below hU bx1.lt
      have b2 := bx2.below hU bx2.lt
      have sU : Sav q u U := ((HB.out wc HS3.out).2.trans (Sav.of bY)).trans (Sav.of hU)
      refine (numbers_rd L q wc.heap.size (wc.heap.size + 1) 4 4 [h0, h1, h2, h3] st2 U ((HR3.out.below bY).below hU) hL rfl b2 b1.lt (by omega) (by omega) (by omega) (fun i hi => ?_) (fun V hV => (HT.out V (Sav2.sav sU hV (by have := (HB.out wc HS3.out).2.size; omega))).rd)).mono (fun e u' ⟨e1, ps, n1, n2, n3, n4, n5⟩ => ⟨e1, ps, n1, n2, n3, n4, (Sav2.of (Sav.of hU)).trans n5⟩)
      rw [(b1.c i hi).1]
      rcases (by omega : i = 0 ∨ i = 1 ∨ i = 2 ∨ i = 3) with rfl | rfl | rfl | rfl <;> rfl
    have HSY : Hid (Sav q W Y) := HS3.out.trans (Sav.of bY)
    have zWc := HS3.out.size
    clear f0 f1 f2 f3
    go_region_with (first | (go_at_call 76; refine (HNum.out _ (by first | exact Below.refl _ _ | exact (Below.refl _ _).drew)).mono ?_; rintro e u5 ⟨rfl, ps, hps⟩))
    obtain ⟨hb5, hpl, hR5, hV5, hS5⟩ := hps
    obtain ⟨hbx, hsu⟩ := HB.out u5 (Sav2.sav HSY.out hS5 (by omega))
    match ps, hpl with
    | [p0, p1, p2, p3], _ =>
    have g0 : u5.cell? ⟨wc.heap.size + 1, 0, none⟩ = some (.int .i64 p0) := (hb5.c 0 (by decide)).1
    have g1 : u5.cell? ⟨wc.heap.size + 1, 1, none⟩ = some (.int .i64 p1) := (hb5.c 1 (by decide)).1
    have g2 : u5.cell? ⟨wc.heap.size + 1, 2, none⟩ = some (.int .i64 p2) := (hb5.c 2 (by decide)).1
    have g3 : u5.cell? ⟨wc.heap.size + 1, 3, none⟩ = some (.int .i64 p3) := (hb5.c 3 (by decide)).1
    have b0 := (hbx.c 0 (by decide)).1
    have b1 := (hbx.c 1 (by decide)).1
    have b2 := (hbx.c 2 (by decide)).1
    have b3 := (hbx.c 3 (by decide)).1
    have b4 := (hbx.c 4 (by decide)).1
    have e0 := (hbx.c 0 (by decide)).2
    have e1 := (hbx.c 1 (by decide)).2
    have e2 := (hbx.c 2 (by decide)).2
    have e3 := (hbx.c 3 (by decide)).2
    have e4 := (hbx.c 4 (by decide)).2
    have z5 := hbx.lt
    simp only [List.getD_cons_zero, List.getD_cons_succ] at b0 b1 b2 b3 b4
    obtain ⟨F, hF⟩ : ∃ F : World, F = ((((u5.setCell ⟨u.heap.size, 0, none⟩ (.int .i64 (K : Int))).setCell ⟨u.heap.size, 1, none⟩ (.int .i64 p0)).setCell ⟨u.heap.size, 2, none⟩ (.int .i64 p1)).setCell ⟨u.heap.size, 3, none⟩ (.int .i64 p2)).setCell ⟨u.heap.size, 4, none⟩ (.int .i64 p3) := ⟨_, rfl⟩
    have k0 : F.cell? ⟨u.heap.size, 0, none⟩ = some (.int .i64 (K : Int)) := by rw [hF]; go_simp
    have k1 : F.cell? ⟨u.heap.size, 1, none⟩ = some (.int .i64 p0) := by rw [hF]; go_simp
    have k2 : F.cell? ⟨u.heap.size, 2, none⟩ = some (.int .i64 p1) := by rw [hF]; go_simp
    have k3 : F.cell? ⟨u.heap.size, 3, none⟩ = some (.int .i64 p2) := by rw [hF]; go_simp
    have k4 : F.cell? ⟨u.heap.size, 4, none⟩ = some (.int .i64 p3) := by rw [hF]; go_simp
    have HFin : Hid (CallTo L q st u F (.returned (.agg #[.int .i64 (K : Int), .int .i64 p0, .int .i64 p1, .int .i64 p2, .int .i64 p3]))) := by
      refine ⟨K, p0, p1, p2, p3, rfl, ?_, fun ws p ew ep => ?_, ?_⟩
      · have hr : Rd L q F (st2.bind fun ws => (stNums [h0, h1, h2, h3] ws).map (·.2)) := by rw [hF]; exact ((((hR5.far (by omega)).far (by omega)).far (by omega)).far (by omega)).far (by omega)
        have e : (st2.bind fun ws => (stNums [h0, h1, h2, h3] ws).map (·.2)) = (st.bind fun ws => (stCall ws).map (·.2)) := by
          rw [HE2.out]
          cases st with
          | none => split <;> rfl
          | some ws =>
            have hx := HX.out ws rfl
            rw [hx] at HK
            have hk := HK.out
            show _ = (stCall ws).map _
            unfold stCall
            rw [← hk]
            by_cases hK0 : K = 0
            · rw [if_pos hK0, if_pos hK0]; rfl
            · rw [if_neg hK0, if_neg hK0, HEH.out]
              show (stNums [h0, h1, h2, h3] ws.tail).map _ = Option.map _ (Option.map _ _)
              cases stNums [h0, h1, h2, h3] ws.tail <;> rfl
        rw [← e]
        exact hr
      · subst ew
        have hx := HX.out ws rfl
        rw [hx] at HK
        have hk := HK.out
        unfold stCall at ep
        rw [← hk] at ep
        by_cases hK0 : K = 0
        · rw [if_pos hK0] at ep; cases ep
        · rw [if_neg hK0, HEH.out] at ep
          cases es : stNums [h0, h1, h2, h3] ws.tail with
          | none => rw [es] at ep; cases ep
          | some r =>
            rw [es] at ep
            cases ep
            have := hV5 ws.tail r (by rw [HE2.out, if_neg hK0]; rfl) es
            show CV.mk K r.1 = _
            rw [← this]
      · rw [hF]
        have : ∀ {v : World} {i : Nat} {x : Value}, Sav q u v → Sav q u (v.setCell ⟨u.heap.size, i, none⟩ x) := fun {v i x} hv => by
          have b := (Below.refl u.heap.size v).setCell (p := ⟨u.heap.size, i, none⟩) (Nat.le_refl _) x
          exact ⟨b.os.trans hv.os, b.tape.trans hv.tape, b.output.trans hv.output, Nat.le_trans hv.size b.size, fun j hj hq => (b.block j hj).trans (hv.block j hj hq)⟩
        exact this (this (this (this (this hsu))))
    clear HE2 HEH HK HX HR HS HB HT HR3 HS3 HSY HNum hb5 hR5 hV5 hS5 hbx hsu
    go_wp2
    rw [← hF]
    refine bodyPost_ret (v := .agg #[.int .i64 (K : Int), .int .i64 p0, .int .i64 p1, .int .i64 p2, .int .i64 p3]) (by simp [results, Tryd.results78, go_sem, k0, k1, k2, k3, k4]) rfl HFin.out
end Go.Proofs.YtlaagfnoepcnlaaDoor.Ln
/- What lies in the library's and the package's variables, for lines.Read, in every later world. -/
namespace Go.Proofs.YtlaagfnoepcnlaaDoor.Ln
open Go.ChangeShapes Go.WideShapes Go.ChangeAt Go.RowKit
set_option linter.unusedVariables false

def IfAt (w : World) (g : Nat) : Prop := ∃ ev, w.cell? ⟨g, 0, none⟩ = some ev ∧ (ev = .nilIface ∨ ∃ te pe, ev = .iface te pe)
theorem cell_lt {w : World} {g : Nat} {v : Value} (h : w.cell? ⟨g, 0, none⟩ = some v) : g < w.heap.size := by
  unfold World.cell? at h
  simp only at h
  by_cases hg : g < w.heap.size
  · exact hg
  · rw [Array.getElem?_eq_none (by omega)] at h
    simp at h
theorem rdt_all {w : World} (h1 : Lib.TabIs Tryd.prog w "internal/strconv.uint64pow10" .u64 Lib.pow10Tab) (h2 : Tab w 0 7 aHas) (h3 : WTab w 1 9 aWord) (h4 : Tab w 2 4 cHas) (h5 : WTab w 4 6 cWord) (h6 : CTops w) (h7 : IfAt w 10) (h8 : IfAt w 9) : ∀ U, Below w.heap.size w U → RdT U := fun U hU => by
  have h := lnt_all h1 h2 h3 h4 h5 h6 U hU
  obtain ⟨e2, c2, d2⟩ := h7
  obtain ⟨e3, c3, d3⟩ := h8
  exact ⟨h, h.1, ⟨e3, (hU.cell (p := ⟨9, 0, none⟩) (cell_lt c3)).trans c3, d3⟩, ⟨e2, (hU.cell (p := ⟨10, 0, none⟩) (cell_lt c2)).trans c2, d2⟩⟩
end Go.Proofs.YtlaagfnoepcnlaaDoor.Ln
/- What is shown is read, and what is read is shown so: on plain data. -/
namespace Go.Proofs.YtlaagfnoepcnlaaDoor.Ln
open Go.Proofs.YtlaagfnoepcnlaaDoor.Cn (atoi_dec dec_digit)
set_option linter.unusedVariables false

/-! ### numbers -/
theorem numL_itoa {n : Int} (h0 : 0 ≤ n) (h1 : n ≤ 9223372036854775807) : numL (Lib.itoa n) = some n := by
  obtain ⟨u, rfl⟩ : ∃ u : Nat, n = (u : Int) := ⟨n.toNat, by omega⟩
  have e : Lib.itoa (u : Int) = Lib.decDigits u := Lib.itoa_nonneg u
  unfold numL
  rw [e, atoi_dec (by omega)]
  simp only
  rw [if_pos e]
theorem numL_back {l : List UInt8} {n : Int} (h : numL l = some n) : Lib.itoa n = l := by
  unfold numL at h
  split at h
  · split at h
    · rename_i hc
      cases h
      exact hc
    · cases h
  · cases h
theorem numL_nil : numL [] = none := rfl
theorem itoa_word {n : Int} (h0 : 0 ≤ n) : ∀ c ∈ Lib.itoa n, c ≠ 32 ∧ c ≠ 10 := by
  obtain ⟨u, rfl⟩ : ∃ u : Nat, n = (u : Int) := ⟨n.toNat, by omega⟩
  rw [Lib.itoa_nonneg]
  intro c hc
  have := dec_digit u u (Nat.le_refl _) c hc
  constructor <;> (intro e; subst e; simp at this)
/-! ### digits of a text -/
theorem dgt_hex : ∀ n : Fin 16, dgt (hexD n.val) = (n.val : Int) := by decide
theorem hex_dgt : ∀ (l : List UInt8) (k : Nat) (c : UInt8), 0 ≤ Lib.indexByte l c → l.getD (Lib.indexByte l c).toNat 0 = c
  | [], _, c, h => by simp [Lib.indexByte] at h
  | x :: r, k, c, h => by
    unfold Lib.indexByte at h ⊢
    by_cases hx : (x == c) = true
    · rw [if_pos hx]
      simpa using hx
    · rw [if_neg hx] at h ⊢
      by_cases hi : (Lib.indexByte r c == -1) = true
      · rw [if_pos hi] at h; omega
      · rw [if_neg hi] at h ⊢
        have hg := Lib.indexByte_ge r c
        have hn : ¬ Lib.indexByte r c = -1 := by simpa using hi
        have := hex_dgt r k c (by omega)
        rw [show (Lib.indexByte r c + 1).toNat = (Lib.indexByte r c).toNat + 1 by omega, List.getD_cons_succ]
        exact this
theorem digs_hex : ∀ n : Fin 16, digs.getD n.val 0 = hexD n.val := by decide
theorem hexD_dgt {c : UInt8} (h : 0 ≤ dgt c) : hexD (dgt c).toNat = c ∧ (dgt c).toNat < 16 := by
  have h1 := hex_dgt digs 0 c h
  have h2 : (dgt c).toNat < 16 := by
    have hl : ∀ (l : List UInt8), Lib.indexByte l c < (l.length : Int) := by
      intro l
      induction l with
      | nil => simp [Lib.indexByte]
      | cons x r ih =>
        unfold Lib.indexByte
        simp only [List.length_cons]
        split
        · omega
        · split <;> omega
    have h3 : dgt c < 16 := hl digs
    omega
  refine ⟨?_, h2⟩
  rw [← digs_hex ⟨(dgt c).toNat, h2⟩]
  exact h1
theorem hexD_word : ∀ n : Fin 16, hexD n.val ≠ 32 ∧ hexD n.val ≠ 10 := by decide
theorem unhex_hexes : ∀ (l : List UInt8), unhex (hexes l) = some l
  | [] => rfl
  | c :: r => by
    have hc : c.toNat < 256 := c.toNat_lt
    have h1 := dgt_hex ⟨c.toNat / 16, by omega⟩
    have h2 := dgt_hex ⟨c.toNat % 16, by omega⟩
    simp only at h1 h2
    rw [hexes, unhex, h1, h2, unhex_hexes r, if_neg (by omega)]
    simp only [Option.map_some, Int.toNat_natCast]
    have e : 16 * (c.toNat / 16) + c.toNat % 16 = c.toNat := by omega
    rw [e]
    simp
theorem hexes_unhex : ∀ (l t : List UInt8), unhex l = some t → hexes t = l
  | [], t, h => by cases h; rfl
  | [_], t, h => by cases h
  | a :: b :: r, t, h => by
    rw [unhex] at h
    split at h
    · cases h
    · rename_i hn
      cases e : unhex r with
      | none => rw [e] at h; cases h
      | some t2 =>
        rw [e] at h
        cases h
        have ha := hexD_dgt (c := a) (by omega)
        have hb := hexD_dgt (c := b) (by omega)
        have hv : (UInt8.ofNat (16 * (dgt a).toNat + (dgt b).toNat)).toNat = 16 * (dgt a).toNat + (dgt b).toNat := by
          rw [UInt8.toNat_ofNat']
          omega
        rw [hexes, hv, show (16 * (dgt a).toNat + (dgt b).toNat) / 16 = (dgt a).toNat by omega, show (16 * (dgt a).toNat + (dgt b).toNat) % 16 = (dgt b).toNat by omega, ha.1, hb.1, hexes_unhex r t2 e]
theorem hexes_word : ∀ (l : List UInt8), ∀ c ∈ hexes l, c ≠ 32 ∧ c ≠ 10
  | [], c, h => by cases h
  | x :: r, c, h => by
    have hx : x.toNat < 256 := x.toNat_lt
    rw [hexes] at h
    rcases List.mem_cons.1 h with rfl | h
    · exact hexD_word ⟨x.toNat / 16, by omega⟩
    · rcases List.mem_cons.1 h with rfl | h
      · exact hexD_word ⟨x.toNat % 16, by omega⟩
      · exact hexes_word r c h
theorem stText_txt (l : List UInt8) : stText (txtL l) = some l := by
  rw [txtL, stText, if_pos rfl, unhex_hexes]
theorem txt_stText {w t : List UInt8} (h : stText w = some t) : w = txtL t := by
  cases w with
  | nil => cases h
  | cons c r =>
    rw [stText] at h
    split at h
    · rename_i hc
      rw [txtL, hexes_unhex r t h, hc]
    · cases h
/-! ### words -/
theorem join_spc {d : UInt8} : ∀ (ws : WS), ws ≠ [] → (∀ w ∈ ws, ∀ c ∈ w, c ≠ d) → spc d (Lib.join ws [d]) = ws
  | [], h, _ => absurd rfl h
  | [w], _, h => by
    rw [show Lib.join [w] [d] = w by simp [Lib.join]]
    exact spc_none (h w (by simp))
  | w :: x :: r, _, h => by
    have e : Lib.join (w :: x :: r) [d] = w ++ d :: Lib.join (x :: r) [d] := by simp [Lib.join, List.intercalate]
    rw [e, spc_cut w _ (h w (by simp)), join_spc (x :: r) (by simp) (fun y hy => h y (by simp [hy]))]
theorem spc_join (d : UInt8) : ∀ (n : Nat) (l : List UInt8), l.length ≤ n → Lib.join (spc d l) [d] = l := by
  intro n
  induction n with
  | zero =>
    intro l hl
    have : l = [] := List.length_eq_zero_iff.1 (by omega)
    subst this
    simp [spc, Lib.join]
  | succ n ih =>
    intro l hl
    rcases spc_first d l with h | ⟨a, r, rfl, h⟩
    · rw [spc_none h]
      simp [Lib.join]
    · rw [spc_cut a r h]
      have := ih r (by simp at hl; omega)
      cases e : spc d r with
      | nil => exact absurd e (spc_ne d r)
      | cons x q =>
        rw [e] at this
        have e2 : Lib.join (a :: x :: q) [d] = a ++ d :: Lib.join (x :: q) [d] := by simp [Lib.join, List.intercalate]
        rw [e2, this]
/-! ### what kinds have -/
theorem kindA_word : ∀ k : Fin 9, kindA (aWord k.val).data.toList = k.val := by decide
theorem kindC_word : ∀ k : Fin 6, kindC (cWord k.val).data.toList = k.val := by decide
theorem kFind_word {f : Nat → ByteArray} {w : List UInt8} : ∀ (m k : Nat), kFind f w m k ≠ 0 → (f (kFind f w m k)).data.toList = w
  | 0, k, h => absurd rfl h
  | m + 1, k, h => by
    unfold kFind at h ⊢
    split
    · rename_i hc
      exact hc
    · rename_i hc
      rw [if_neg hc] at h
      exact kFind_word m (k + 1) h
def bts (l : List UInt8) : ByteArray := ⟨l.toArray⟩
def wds (ws : List ByteArray) : WS := ws.map (·.data.toList)
/-- Numbers that a kind has not are 0. -/
theorem stNums_words : ∀ (hs : List Bool) (ps : List Int) (r : WS), hs.length = ps.length → only hs ps = true → (∀ p ∈ ps, 0 ≤ p ∧ p ≤ 9223372036854775807) → stNums hs (wds (numsW hs ps) ++ r) = some (ps, r)
  | [], [], r, _, _, _ => rfl
  | [], _ :: _, r, h, _, _ => by simp at h
  | _ :: _, [], r, h, _, _ => by simp at h
  | h :: hs, p :: ps, r, hl, ho, hp => by
    rw [only, Bool.and_eq_true] at ho
    have ih := stNums_words hs ps r (by simpa using hl) ho.2 (fun q hq => hp q (by simp [hq]))
    have hp0 := hp p (by simp)
    cases h with
    | true =>
      rw [stNums, if_pos rfl]
      have e : wds (numsW (true :: hs) (p :: ps)) ++ r = Lib.itoa p :: (wds (numsW hs ps) ++ r) := by simp [numsW, wds, wNum]
      rw [e, List.headD_cons, List.tail_cons, numL_itoa hp0.1 hp0.2, ih]
      rfl
    | false =>
      rw [stNums, if_neg (by simp)]
      have e : wds (numsW (false :: hs) (p :: ps)) ++ r = wds (numsW hs ps) ++ r := by simp [numsW]
      rw [e, ih]
      have : p = 0 := by simpa using ho.1
      rw [this]
      rfl
theorem words_stNums : ∀ (hs : List Bool) (ws : WS) (ps : List Int) (r : WS), stNums hs ws = some (ps, r) → ws = wds (numsW hs ps) ++ r ∧ ps.length = hs.length
  | [], ws, ps, r, h => by
    cases h
    exact ⟨rfl, rfl⟩
  | h :: hs, ws, ps, r, e => by
    cases h with
    | true =>
      rw [stNums, if_pos rfl] at e
      cases ws with
      | nil => rw [List.headD_nil, numL_nil] at e; cases e
      | cons w q =>
        rw [List.headD_cons, List.tail_cons] at e
        cases e1 : numL w with
        | none => rw [e1] at e; cases e
        | some n =>
          rw [e1] at e
          cases e2 : stNums hs q with
          | none => simp only [e2] at e; cases e
          | some p =>
            simp only [e2] at e
            cases e
            obtain ⟨h1, h2⟩ := words_stNums hs q p.1 p.2 e2
            refine ⟨?_, by simp [h2]⟩
            rw [h1, ← numL_back e1]
            simp [numsW, wds, wNum]
    | false =>
      rw [stNums, if_neg (by simp)] at e
      cases e2 : stNums hs ws with
      | none => rw [e2] at e; cases e
      | some p =>
        rw [e2] at e
        cases e
        obtain ⟨h1, h2⟩ := words_stNums hs ws p.1 p.2 e2
        refine ⟨?_, by simp [h2]⟩
        rw [h1]
        simp [numsW, wds]
theorem stKept_words : ∀ (zs : List Int), (∀ z ∈ zs, 0 ≤ z ∧ z ≤ 9223372036854775807) → stKept (wds (zs.map wNum)) = some zs
  | [], _ => rfl
  | z :: r, h => by
    have h0 := h z (by simp)
    have e : wds ((z :: r).map wNum) = Lib.itoa z :: wds (r.map wNum) := by simp [wds, wNum]
    rw [e, stKept, numL_itoa h0.1 h0.2, stKept_words r (fun y hy => h y (by simp [hy]))]
    rfl
theorem words_stKept : ∀ (ws : WS) (zs : List Int), stKept ws = some zs → ws = wds (zs.map wNum)
  | [], zs, h => by cases h; rfl
  | w :: r, zs, h => by
    rw [stKept] at h
    cases e1 : numL w with
    | none => rw [e1] at h; cases h
    | some n =>
      rw [e1] at h
      cases e2 : stKept r with
      | none => simp only [e2] at h; cases h
      | some l =>
        simp only [e2] at h
        cases h
        have := words_stKept r l e2
        rw [this, ← numL_back e1]
        simp [wds, wNum]
end Go.Proofs.YtlaagfnoepcnlaaDoor.Ln
