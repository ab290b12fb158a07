/- Texts of this claim, one behind the other. -/
import Derived.Test.YtlaagfnoepcnlaaDoorM20LinesReads
import Derived.Test.YtlaagfnoepcnlaaDoorM7LinesReads
import Derived.Test.YtlaagfnoepcnlaaDoorProg
import Derived.WalkKit
import Derived.ProofKit
import Derived.Below
import Derived.OpenShut
import Derived.Test.YtlaagfnoepcnlaaDoorA0LinesReads
/- The document's whole: the number of a word. -/
namespace Go.Proofs.YtlaagfnoepcnlaaDoor.Ln
open Go.ChangeShapes Go.WideShapes Go.ChangeAt Go.RowKit
set_option linter.unusedVariables false

def optN (o : Option Int) : Value := .tuple #[.int .i64 (o.getD 0), .bool o.isSome]
theorem slice_1 (c : UInt8) (r : List UInt8) (U : World) : (Instr.slice 9 (.string ⟨(c :: r).toArray⟩) (some (.int .i64 1)) none none).run Tryd.prog U = .ok (.string ⟨r.toArray⟩) U := by
  have h : (1 : Int) ≤ ((⟨(c :: r).toArray⟩ : ByteArray).size : Int) := by show (1 : Int) ≤ (((c :: r).length : Nat) : Int); simp; omega
  rw [run_slice_string_from_if (P := Tryd.prog) U 9 _ .i64 1 (by kernel_rfl), if_pos ⟨by omega, h⟩]
  congr 2
  apply ByteArray.ext
  simp [ByteArray.data_extract]
  apply List.take_of_length_le
  show r.length ≤ (c :: r).length - 1
  simp
theorem idx_at (l : List UInt8) (k : Nat) (hk : k < l.length) : ∃ C : Nat, C ≤ 255 ∧ (∀ U : World, (Instr.index 9 (.string ⟨l.toArray⟩) (.int .i64 (k : Int))).run Tryd.prog U = .ok (.int .u8 (C : Int)) U) ∧ ∃ c : UInt8, c.toNat = C ∧ l.drop k = c :: l.drop (k + 1) := str_at ⟨l.toArray⟩ k hk
theorem ref_bad {L D : List UInt8} (hm : magOf L = D) (h : D = [] ∨ (D.headD 0 = 48 ∧ L ≠ [48]) ∨ 19 < D.length ∨ (D.length = 19 ∧ gtB D (bigOf L) = true) ∨ ¬ dgs D) : refWhole L = none := by
  subst hm
  exact if_pos (show badW L from h)
theorem ref_good {L D : List UInt8} (hm : magOf L = D) (h : ¬ (D = [] ∨ (D.headD 0 = 48 ∧ L ≠ [48]) ∨ 19 < D.length ∨ (D.length = 19 ∧ gtB D (bigOf L) = true) ∨ ¬ dgs D)) : refWhole L = some (sgn L (dvf 0 D)) := by
  subst hm
  exact if_neg (show ¬ badW L from h)
theorem ref_prefix {L D : List UInt8} (h19 : ¬ 19 < D.length) (hG : ¬ (D.length = 19 ∧ gtB D (bigOf L) = true)) (k : Nat) (hk : k ≤ D.length) (hd : dgs (D.take k)) : dvf 0 (D.take k) ≤ if L.headD 0 = 45 then 9223372036854775808 else 9223372036854775807 := by
  rw [← (big_dgs L).2.2]
  by_cases hf : k = 19
  · have hl : D.length = 19 := by omega
    rw [List.take_of_length_le (by omega)] at hd ⊢
    have h1 : ¬ gtB D (bigOf L) = true := fun h => hG ⟨hl, h⟩
    rw [gt_dv L hd hl] at h1
    have h9 : decide (dvf 0 (bigOf L) < dvf 0 D) = false := by simpa only [Bool.not_eq_true] using h1
    have := of_decide_eq_false h9
    omega
  · have hlt := dvf_lt _ hd
    rw [List.length_take] at hlt
    have hp : 10 ^ (min k D.length) ≤ 10 ^ 18 := Nat.pow_le_pow_right (by omega) (by omega)
    have : 9223372036854775807 ≤ dvf 0 (bigOf L) := by rw [(big_dgs L).2.2]; split <;> omega
    omega
theorem gt_op (D : List UInt8) (B : List UInt8) (t : TypeId) : binOp .gtr t (.string ⟨D.toArray⟩) (.string ⟨B.toArray⟩) = pure (.bool (gtB D B)) := by
  have e : ∀ x : List UInt8, (⟨x.toArray⟩ : ByteArray).toList = x := fun x => by rw [Go.ByteArray.toList_eq]
  simp [binOp, Op.stringOp, e, gtB]
theorem nil_op (O : Option Int) (h : O = none) : optN O = .tuple #[.int .i64 0, .bool false] := by rw [h]; rfl
theorem idx_48 (U : World) : (Instr.index 9 (.string ⟨#[48]⟩) (.int .i64 0)).run Tryd.prog U = .ok (.int .u8 48) U := by
  obtain ⟨C, hC, hx, c, hcc, hd⟩ := idx_at [48] 0 (by decide)
  have e : c = 48 := ((List.cons.inj hd).1).symm
  subst e
  have hC2 : (C : Int) = 48 := by rw [← hcc]; rfl
  rw [← hC2]
  exact hx U
theorem whole_0 (w : World) : Calls Tryd.prog 80 #[.string ⟨#[48]⟩] w fun e w' => e = .returned (.tuple #[.int .i64 0, .bool true]) ∧ w' = w := by
  have h48 := idx_48
  have hin : inR 48 48 57 = true := by decide
  go_enter Tryd.func80, Tryd.ntmps80
  go_upto_region 13 with (fail)
  go_loopw [6, 7] (fun s6 s7 wr => ∃ (k : Nat), s6 = .int .i64 0 ∧ s7 = .int .i64 (k : Int) ∧ k ≤ 1 ∧ wr = w) (fun _ s7 _ => 1 - (intOf s7).toNat)
  case atStart => exact ⟨0, rfl, rfl, by omega, rfl⟩
  case round =>
    obtain ⟨k, rfl, rfl, hk, rfl⟩ := hrel
    by_cases hlt : k = 0
    · subst hlt
      go_wp2_with (go_at_call 49; refine (in_any _ _ _ _).mono ?_; rintro e u ⟨rfl, hu⟩; rw [hu, hin]; clear hu)
      go_roundw
      case rel => exact ⟨1, by first | rfl | trivial, by go_num, by omega, by first | rfl | trivial⟩
      case measure => simp [intOf]
    · obtain rfl : k = 1 := by omega
      go_wp2
      go_ret2
      exact ⟨rfl, by first | rfl | trivial⟩
set_option maxRecDepth 100000 in
set_option maxHeartbeats 8000000 in
theorem whole_any (l : List UInt8) (w : World) (hl : l.length ≤ 140737488355328) :
    Calls Tryd.prog 80 #[.string ⟨l.toArray⟩] w fun e w' => e = .returned (optN (refWhole l)) ∧ w' = w := by
  by_cases hz48 : l = [48]
  · subst hz48
    exact whole_0 w
  obtain ⟨O, eO⟩ : ∃ O, O = refWhole l := ⟨_, rfl⟩
  have HO : Hid (O = refWhole l) := eO
  rw [← eO]
  clear eO
  by_cases h0 : l = []
  · subst h0
    have HE := nil_op O (by rw [HO.out]; rfl)
    clear HO
    go_enter Tryd.func80, Tryd.ntmps80
    go_wp2
    go_ret2
    exact ⟨by first | (rw [HE]; rfl) | rfl, by first | rfl | trivial⟩
  · obtain ⟨c, r, rfl⟩ : ∃ c r, l = c :: r := by cases l with | nil => exact absurd rfl h0 | cons c r => exact ⟨c, r, rfl⟩
    obtain ⟨C, hC, hx, c', hcc, hd⟩ := idx_at (c :: r) 0 (by simp)
    have hx : ∀ U : World, (Instr.index 9 (.string ⟨(c :: r).toArray⟩) (.int .i64 0)).run Tryd.prog U = .ok (.int .u8 (C : Int)) U := hx
    have hs1 := slice_1 c r
    obtain rfl : c' = c := by simpa using hd.symm
    clear hd h0
    have hpos : (0 : Int) < (((c' :: r).length : Nat) : Int) := by simp
    go_enter Tryd.func80, Tryd.ntmps80
    by_cases h45 : C = 45
    · have hc45 : c' = 45 := UInt8.toNat_inj.1 (by rw [hcc, h45]; rfl)
      subst hc45 h45
      have HM : Hid (magOf (45 :: r) = r) := rfl
      have HB : Hid (bigOf (45 :: r) = mostN) := rfl
      have HS : Hid ((45 :: r : List UInt8).headD 0 = 45) := rfl
      have hrl : r.length + 1 ≤ 140737488355328 := by simpa using hl
      by_cases hr : r = []
      · have HE := nil_op O (by rw [HO.out]; exact ref_bad HM.out (Or.inl hr))
        subst hr
        clear HO HM HB HS hC hcc
        go_wp2
        go_ret2
        exact ⟨by first | (rw [HE]; rfl) | rfl, by first | rfl | trivial⟩
      · go_upto_region 4 with (fail)
        clear hx hs1 hpos hC hcc hl
        have hll : ((r.length : Nat) : Int) < (((45 :: r : List UInt8).length : Nat) : Int) := by simp; omega
        have hle : ¬ ((r.length : Nat) : Int) = (((45 :: r : List UInt8).length : Nat) : Int) := by simp; omega
        have hDn : 0 < r.length := List.length_pos_iff.2 hr
        obtain ⟨X, hX, hx0, x, hxx, hdx⟩ := idx_at r 0 hDn
        have hx0 : ∀ U : World, (Instr.index 9 (.string ⟨r.toArray⟩) (.int .i64 0)).run Tryd.prog U = .ok (.int .u8 (X : Int)) U := hx0
        have HX : Hid (X = 48 → r.headD 0 = 48) := fun h => by
          rw [List.drop_zero] at hdx
          rw [hdx]
          show x = 48
          exact UInt8.toNat_inj.1 (by rw [hxx, h]; rfl)
        have HX2 : Hid (¬ X = 48 → r.headD 0 ≠ 48) := fun h e => by
          rw [List.drop_zero] at hdx
          rw [hdx] at e
          have e : x = 48 := e
          exact h (by rw [← hxx, e]; rfl)
        clear hdx hxx
        by_cases hbad : X = 48 ∧ (45 :: r : List UInt8) ≠ [48]
        · have HE := nil_op O (by rw [HO.out]; exact ref_bad HM.out (Or.inr (Or.inl ⟨HX.out hbad.1, hbad.2⟩)))
          obtain ⟨hb1, hb2⟩ := hbad
          subst hb1
          clear HO HX HX2 HM HB HS
          go_wp2
          go_ret2
          exact ⟨by first | (rw [HE]; rfl) | rfl, by first | rfl | trivial⟩
        · have HN48 : Hid (¬ (r.headD 0 = 48 ∧ (45 :: r : List UInt8) ≠ [48])) := fun h => by
            by_cases hx48 : X = 48
            · exact hbad ⟨hx48, h.2⟩
            · exact HX2.out hx48 h.1
          clear HX HX2
          by_cases h19 : 19 < r.length
          · have HE := nil_op O (by rw [HO.out]; exact ref_bad HM.out (Or.inr (Or.inr (Or.inl h19))))
            have h19' : (19 : Int) < (r.length : Int) := by omega
            clear HO HM HB HS HN48
            by_cases hx48 : X = 48
            · have hL48 : (45 :: r : List UInt8) = [48] := Decidable.not_not.1 fun h => hbad ⟨hx48, h⟩
              exact absurd (List.cons.inj hL48).1 (by decide)
            · clear hbad
              go_wp2
              go_ret2
              exact ⟨by first | (rw [HE]; rfl) | rfl, by first | rfl | trivial⟩
          · have h19' : ¬ (19 : Int) < (r.length : Int) := by omega
            have HH : Hid (X = 48 → (45 :: r : List UInt8) = [48]) := fun hx48 => Decidable.not_not.1 fun h => hbad ⟨hx48, h⟩
            clear hbad
            have REST : ∀ (b : Bool), b = decide (X = 48) → True := fun _ _ => trivial
            clear REST
            obtain ⟨G, eG⟩ : ∃ G, G = gtB r (bigOf (45 :: r : List UInt8)) := ⟨_, rfl⟩
            have HG : Hid (G = gtB r (bigOf (45 :: r : List UInt8))) := eG
            have hgt : ∀ t, binOp .gtr t (.string ⟨r.toArray⟩) (.string ⟨#[57, 50, 50, 51, 51, 55, 50, 48, 51, 54, 56, 53, 52, 55, 55, 53, 56, 48, 56]⟩) = pure (.bool G) := fun t => by
              rw [eG, HB.out]
              exact gt_op r mostN t
            clear eG
            by_cases hgg : r.length = 19 ∧ G = true
            · have HE := nil_op O (by rw [HO.out]; exact ref_bad HM.out (Or.inr (Or.inr (Or.inr (Or.inl ⟨hgg.1, by rw [← HG.out]; exact hgg.2⟩)))))
              obtain ⟨hg1, hg2⟩ := hgg
              have hg1' : (r.length : Int) = 19 := by omega
              subst hg2
              clear HO HM HB HS HN48 HG
              by_cases hx48 : X = 48
              · have hL48 := HH.out hx48
                exact absurd (List.cons.inj hL48).1 (by decide)
              · clear HH
                go_wp2
                go_ret2
                exact ⟨by first | (rw [HE]; rfl) | rfl, by first | rfl | trivial⟩
            · have HNG : Hid (¬ (r.length = 19 ∧ gtB r (bigOf (45 :: r : List UInt8)) = true)) := fun h => hgg ⟨h.1, by rw [HG.out]; exact h.2⟩
              have HP : Hid (∀ k, k ≤ r.length → dgs (r.take k) → dvf 0 (r.take k) ≤ 9223372036854775808) := fun k hk hd => by
                have h := ref_prefix (L := (45 :: r : List UInt8)) h19 HNG.out k hk hd
                rw [if_pos HS.out] at h
                exact h
              have HGood : Hid (dgs r → O = some (-(dvf 0 r : Int))) := fun hd => by
                rw [HO.out, ref_good HM.out (by
                  rintro (h | h | h | h | h)
                  · exact hr h
                  · exact HN48.out h
                  · exact h19 h
                  · exact HNG.out h
                  · exact h hd)]
                unfold sgn
                rw [if_pos HS.out]
              have HNone : Hid (¬ dgs r → optN O = .tuple #[.int .i64 0, .bool false]) := fun hd => nil_op O (by rw [HO.out]; exact ref_bad HM.out (Or.inr (Or.inr (Or.inr (Or.inr hd)))))
              clear HO HM HB HS HN48 HG HNG
              have hg9 : (r.length : Int) = 19 → G = false := fun h => by
                cases hG : G with
                | false => rfl
                | true => exact absurd ⟨by omega, hG⟩ hgg
              clear hgg
              by_cases hx48 : X = 48
              · have hL48 := HH.out hx48
                clear HH
                exact absurd (List.cons.inj hL48).1 (by decide)
              · clear HH
                by_cases hg1 : (r.length : Int) = 19
                · have hg2 := hg9 hg1
                  subst hg2
                  clear hg9
                  go_upto_region 13 with (fail)
                  clear hx0 hx48 hgt hX
                  go_loopw [6, 7] (fun s6 s7 wr => ∃ (k n : Nat) (m : Int), s6 = .int .i64 m ∧ s7 = .int .i64 (k : Int) ∧ k ≤ r.length ∧ m = -(n : Int) ∧ Hid (n = dvf 0 (r.take k)) ∧ Hid (dgs (r.take k)) ∧ wr = w) (fun _ s7 _ => r.length - (intOf s7).toNat)
                  case atStart => exact ⟨0, 0, 0, rfl, rfl, by omega, by simp, rfl, (by intro c hc; simp at hc), rfl⟩
                  case round =>
                    obtain ⟨k, n, m, rfl, rfl, hk, hm, hn, hdk, rfl⟩ := hrel
                    by_cases hlt : k < r.length
                    · have hlt' : (k : Int) < (r.length : Int) := by omega
                      obtain ⟨Y, hY, hyx, y, hyy, hdy⟩ := idx_at r k hlt
                      have htk : r.take (k + 1) = r.take k ++ [y] := by
                        have hg := List.drop_eq_getElem_cons hlt
                        rw [hdy] at hg
                        rw [List.take_succ_eq_append_getElem hlt, (List.cons.inj hg).1]
                      by_cases hin : inR (Y : Int) 48 57 = true
                      · have hi := inR_b hin
                        have HD2 : Hid (dgs (r.take (k + 1))) := by
                          intro z hz
                          rw [htk] at hz
                          rcases List.mem_append.1 hz with hz | hz
                          · exact hdk.out z hz
                          · simp only [List.mem_singleton] at hz
                            subst hz
                            omega
                        have HN2 : Hid (10 * n + (Y - 48) = dvf 0 (r.take (k + 1))) := by
                          show _ = _
                          rw [htk, dvf_snoc, ← hn.out, hyy]
                        have hlim : 10 * n + (Y - 48) ≤ 9223372036854775808 := by
                          rw [HN2.out]
                          exact HP.out (k + 1) (by omega) HD2.out
                        have w1 : IntKind.i64.wrap (10 * m) = 10 * m := by rw [IntKind.wrap_i64]; omega
                        have w2 : IntKind.u8.wrap ((Y : Int) - 48) = (Y : Int) - 48 := by simp [IntKind.wrap, IntKind.bits, IntKind.signed]; omega
                        have w3 : IntKind.i64.wrap ((Y : Int) - 48) = (Y : Int) - 48 := by rw [IntKind.wrap_i64]; omega
                        have w4 : IntKind.i64.wrap (10 * m - ((Y : Int) - 48)) = 10 * m - ((Y : Int) - 48) := by rw [IntKind.wrap_i64]; omega
                        have w5 : IntKind.i64.wrap (Y : Int) = (Y : Int) := by rw [IntKind.wrap_i64]; omega
                        clear hdk hn hdy htk hyy HGood HNone
                        go_wp2_with (go_at_call 49; refine (in_any _ _ _ _).mono ?_; rintro e u ⟨rfl, hu⟩; rw [hu, hin]; clear hu)
                        go_roundw
                        case rel => exact ⟨k + 1, 10 * n + (Y - 48), 10 * -(n : Int) - ((Y : Int) - 48), by first | rfl | (rw [hm]), by go_num, by omega, by omega, HN2, HD2, by first | rfl | trivial⟩
                        case measure => simp [intOf]; omega
                      · have hin : inR (Y : Int) 48 57 = false := by cases h : inR (Y : Int) 48 57 with | false => rfl | true => exact absurd h hin
                        have HE := HNone.out (fun hd => by
                          have hy : y ∈ r := List.mem_of_mem_drop (by rw [hdy]; exact List.mem_cons_self)
                          have := hd y hy
                          have h2 : inR (Y : Int) 48 57 = true := by unfold inR; simp; omega
                          rw [hin] at h2
                          cases h2)
                        have w5 : IntKind.i64.wrap (Y : Int) = (Y : Int) := by rw [IntKind.wrap_i64]; omega
                        clear hdk hn hdy htk hyy HGood HNone HP
                        go_wp2_with (go_at_call 49; refine (in_any _ _ _ _).mono ?_; rintro e u ⟨rfl, hu⟩; rw [hu, hin]; clear hu)
                        go_ret2
                        exact ⟨by first | (rw [HE]; rfl) | rfl, by first | rfl | trivial⟩
                    · obtain rfl : k = r.length := by omega
                      have hnl : ¬ ((r.length : Int) < (r.length : Int)) := by omega
                      have hd := hdk.out
                      have hnn := hn.out
                      rw [List.take_of_length_le (Nat.le_refl _)] at hd hnn
                      have hO := HGood.out hd
                      have hlim := HP.out r.length (Nat.le_refl _) (by rw [List.take_of_length_le (Nat.le_refl _)]; exact hd)
                      rw [List.take_of_length_le (Nat.le_refl _), ← hnn] at hlim
                      rw [← hnn, ← hm] at hO
                      clear hdk hn hd hnn HGood HNone HP hlim
                      go_wp2
                      go_ret2
                      exact ⟨by first | (rw [hO]; rfl) | rfl, by first | rfl | trivial⟩
          
                · clear hg9
                  go_upto_region 13 with (fail)
                  clear hx0 hx48 hgt hX
                  go_loopw [6, 7] (fun s6 s7 wr => ∃ (k n : Nat) (m : Int), s6 = .int .i64 m ∧ s7 = .int .i64 (k : Int) ∧ k ≤ r.length ∧ m = -(n : Int) ∧ Hid (n = dvf 0 (r.take k)) ∧ Hid (dgs (r.take k)) ∧ wr = w) (fun _ s7 _ => r.length - (intOf s7).toNat)
                  case atStart => exact ⟨0, 0, 0, rfl, rfl, by omega, by simp, rfl, (by intro c hc; simp at hc), rfl⟩
                  case round =>
                    obtain ⟨k, n, m, rfl, rfl, hk, hm, hn, hdk, rfl⟩ := hrel
                    by_cases hlt : k < r.length
                    · have hlt' : (k : Int) < (r.length : Int) := by omega
                      obtain ⟨Y, hY, hyx, y, hyy, hdy⟩ := idx_at r k hlt
                      have htk : r.take (k + 1) = r.take k ++ [y] := by
                        have hg := List.drop_eq_getElem_cons hlt
                        rw [hdy] at hg
                        rw [List.take_succ_eq_append_getElem hlt, (List.cons.inj hg).1]
                      by_cases hin : inR (Y : Int) 48 57 = true
                      · have hi := inR_b hin
                        have HD2 : Hid (dgs (r.take (k + 1))) := by
                          intro z hz
                          rw [htk] at hz
                          rcases List.mem_append.1 hz with hz | hz
                          · exact hdk.out z hz
                          · simp only [List.mem_singleton] at hz
                            subst hz
                            omega
                        have HN2 : Hid (10 * n + (Y - 48) = dvf 0 (r.take (k + 1))) := by
                          show _ = _
                          rw [htk, dvf_snoc, ← hn.out, hyy]
                        have hlim : 10 * n + (Y - 48) ≤ 9223372036854775808 := by
                          rw [HN2.out]
                          exact HP.out (k + 1) (by omega) HD2.out
                        have w1 : IntKind.i64.wrap (10 * m) = 10 * m := by rw [IntKind.wrap_i64]; omega
                        have w2 : IntKind.u8.wrap ((Y : Int) - 48) = (Y : Int) - 48 := by simp [IntKind.wrap, IntKind.bits, IntKind.signed]; omega
                        have w3 : IntKind.i64.wrap ((Y : Int) - 48) = (Y : Int) - 48 := by rw [IntKind.wrap_i64]; omega
                        have w4 : IntKind.i64.wrap (10 * m - ((Y : Int) - 48)) = 10 * m - ((Y : Int) - 48) := by rw [IntKind.wrap_i64]; omega
                        have w5 : IntKind.i64.wrap (Y : Int) = (Y : Int) := by rw [IntKind.wrap_i64]; omega
                        clear hdk hn hdy htk hyy HGood HNone
                        go_wp2_with (go_at_call 49; refine (in_any _ _ _ _).mono ?_; rintro e u ⟨rfl, hu⟩; rw [hu, hin]; clear hu)
                        go_roundw
                        case rel => exact ⟨k + 1, 10 * n + (Y - 48), 10 * -(n : Int) - ((Y : Int) - 48), by first | rfl | (rw [hm]), by go_num, by omega, by omega, HN2, HD2, by first | rfl | trivial⟩
                        case measure => simp [intOf]; omega
                      · have hin : inR (Y : Int) 48 57 = false := by cases h : inR (Y : Int) 48 57 with | false => rfl | true => exact absurd h hin
                        have HE := HNone.out (fun hd => by
                          have hy : y ∈ r := List.mem_of_mem_drop (by rw [hdy]; exact List.mem_cons_self)
                          have := hd y hy
                          have h2 : inR (Y : Int) 48 57 = true := by unfold inR; simp; omega
                          rw [hin] at h2
                          cases h2)
                        have w5 : IntKind.i64.wrap (Y : Int) = (Y : Int) := by rw [IntKind.wrap_i64]; omega
                        clear hdk hn hdy htk hyy HGood HNone HP
                        go_wp2_with (go_at_call 49; refine (in_any _ _ _ _).mono ?_; rintro e u ⟨rfl, hu⟩; rw [hu, hin]; clear hu)
                        go_ret2
                        exact ⟨by first | (rw [HE]; rfl) | rfl, by first | rfl | trivial⟩
                    · obtain rfl : k = r.length := by omega
                      have hnl : ¬ ((r.length : Int) < (r.length : Int)) := by omega
                      have hd := hdk.out
                      have hnn := hn.out
                      rw [List.take_of_length_le (Nat.le_refl _)] at hd hnn
                      have hO := HGood.out hd
                      have hlim := HP.out r.length (Nat.le_refl _) (by rw [List.take_of_length_le (Nat.le_refl _)]; exact hd)
                      rw [List.take_of_length_le (Nat.le_refl _), ← hnn] at hlim
                      rw [← hnn, ← hm] at hO
                      clear hdk hn hd hnn HGood HNone HP hlim
                      go_wp2
                      go_ret2
                      exact ⟨by first | (rw [hO]; rfl) | rfl, by first | rfl | trivial⟩
          

    · have hb : ((C : Int) == 45) = false := beq_eq_false_iff_ne.2 (by omega)
      have HM : Hid (magOf (c' :: r) = c' :: r) := by
        show _ = _
        unfold magOf
        rw [if_neg]
        intro e
        have e : c' = 45 := e
        subst e
        exact h45 (by rw [← hcc]; rfl)
      have HB : Hid (bigOf (c' :: r) = mostP) := by
        show _ = _
        unfold bigOf
        rw [if_neg]
        intro e
        have e : c' = 45 := e
        subst e
        exact h45 (by rw [← hcc]; rfl)
      have HS : Hid ((c' :: r : List UInt8).headD 0 ≠ 45) := by
        show _ ≠ _
        intro e
        have e : c' = 45 := e
        subst e
        exact h45 (by rw [← hcc]; rfl)
      go_upto_region 4 with (fail)
      clear hx hs1 hpos hC hcc hb h45
      obtain ⟨D, eD⟩ : ∃ D, D = c' :: r := ⟨_, rfl⟩
      have hr : ¬ D = [] := by rw [eD]; simp
      rw [← eD] at HM HB HS HO hl hz48 ⊢
      clear eD
      have hDn : 0 < D.length := List.length_pos_iff.2 hr
      obtain ⟨X, hX, hx0, x, hxx, hdx⟩ := idx_at D 0 hDn
      have hx0 : ∀ U : World, (Instr.index 9 (.string ⟨D.toArray⟩) (.int .i64 0)).run Tryd.prog U = .ok (.int .u8 (X : Int)) U := hx0
      have HX : Hid (X = 48 → D.headD 0 = 48) := fun h => by
        rw [List.drop_zero] at hdx
        rw [hdx]
        show x = 48
        exact UInt8.toNat_inj.1 (by rw [hxx, h]; rfl)
      have HX2 : Hid (¬ X = 48 → D.headD 0 ≠ 48) := fun h e => by
        rw [List.drop_zero] at hdx
        rw [hdx] at e
        have e : x = 48 := e
        exact h (by rw [← hxx, e]; rfl)
      clear hdx hxx
      by_cases hbad : X = 48 ∧ D ≠ [48]
      · have HE := nil_op O (by rw [HO.out]; exact ref_bad HM.out (Or.inr (Or.inl ⟨HX.out hbad.1, hbad.2⟩)))
        obtain ⟨hb1, hb2⟩ := hbad
        subst hb1
        clear HO HX HX2 HM HB HS
        go_wp2
        go_ret2
        exact ⟨by first | (rw [HE]; rfl) | rfl, by first | rfl | trivial⟩
      · have HN48 : Hid (¬ (D.headD 0 = 48 ∧ D ≠ [48])) := fun h => by
          by_cases hx48 : X = 48
          · exact hbad ⟨hx48, h.2⟩
          · exact HX2.out hx48 h.1
        clear HX HX2
        by_cases h19 : 19 < D.length
        · have HE := nil_op O (by rw [HO.out]; exact ref_bad HM.out (Or.inr (Or.inr (Or.inl h19))))
          have h19' : (19 : Int) < (D.length : Int) := by omega
          clear HO HM HB HS HN48
          by_cases hx48 : X = 48
          · have hL48 : D = [48] := Decidable.not_not.1 fun h => hbad ⟨hx48, h⟩
            exact absurd hL48 hz48
          · clear hbad
            go_wp2
            go_ret2
            exact ⟨by first | (rw [HE]; rfl) | rfl, by first | rfl | trivial⟩
        · have h19' : ¬ (19 : Int) < (D.length : Int) := by omega
          have HH : Hid (X = 48 → D = [48]) := fun hx48 => Decidable.not_not.1 fun h => hbad ⟨hx48, h⟩
          clear hbad
          have REST : ∀ (b : Bool), b = decide (X = 48) → True := fun _ _ => trivial
          clear REST
          obtain ⟨G, eG⟩ : ∃ G, G = gtB D (bigOf D) := ⟨_, rfl⟩
          have HG : Hid (G = gtB D (bigOf D)) := eG
          have hgt : ∀ t, binOp .gtr t (.string ⟨D.toArray⟩) (.string ⟨#[57, 50, 50, 51, 51, 55, 50, 48, 51, 54, 56, 53, 52, 55, 55, 53, 56, 48, 55]⟩) = pure (.bool G) := fun t => by
            rw [eG, HB.out]
            exact gt_op D mostP t
          clear eG
          by_cases hgg : D.length = 19 ∧ G = true
          · have HE := nil_op O (by rw [HO.out]; exact ref_bad HM.out (Or.inr (Or.inr (Or.inr (Or.inl ⟨hgg.1, by rw [← HG.out]; exact hgg.2⟩)))))
            obtain ⟨hg1, hg2⟩ := hgg
            have hg1' : (D.length : Int) = 19 := by omega
            subst hg2
            clear HO HM HB HS HN48 HG
            by_cases hx48 : X = 48
            · have hL48 := HH.out hx48
              exact absurd hL48 hz48
            · clear HH
              go_wp2
              go_ret2
              exact ⟨by first | (rw [HE]; rfl) | rfl, by first | rfl | trivial⟩
          · have HNG : Hid (¬ (D.length = 19 ∧ gtB D (bigOf D) = true)) := fun h => hgg ⟨h.1, by rw [HG.out]; exact h.2⟩
            have HP : Hid (∀ k, k ≤ D.length → dgs (D.take k) → dvf 0 (D.take k) ≤ 9223372036854775807) := fun k hk hd => by
              have h := ref_prefix (L := D) h19 HNG.out k hk hd
              rw [if_neg HS.out] at h
              exact h
            have HGood : Hid (dgs D → O = some ((dvf 0 D : Nat) : Int)) := fun hd => by
              rw [HO.out, ref_good HM.out (by
                rintro (h | h | h | h | h)
                · exact hr h
                · exact HN48.out h
                · exact h19 h
                · exact HNG.out h
                · exact h hd)]
              unfold sgn
              rw [if_neg HS.out]
            have HNone : Hid (¬ dgs D → optN O = .tuple #[.int .i64 0, .bool false]) := fun hd => nil_op O (by rw [HO.out]; exact ref_bad HM.out (Or.inr (Or.inr (Or.inr (Or.inr hd)))))
            clear HO HM HB HS HN48 HG HNG
            have hg9 : (D.length : Int) = 19 → G = false := fun h => by
              cases hG : G with
              | false => rfl
              | true => exact absurd ⟨by omega, hG⟩ hgg
            clear hgg
            by_cases hx48 : X = 48
            · have hL48 := HH.out hx48
              clear HH
              exact absurd hL48 hz48
            · clear HH
              by_cases hg1 : (D.length : Int) = 19
              · have hg2 := hg9 hg1
                subst hg2
                clear hg9
                go_upto_region 13 with (fail)
                clear hx0 hx48 hgt hX
                go_loopw [6, 7] (fun s6 s7 wr => ∃ (k n : Nat) (m : Int), s6 = .int .i64 m ∧ s7 = .int .i64 (k : Int) ∧ k ≤ D.length ∧ m = -(n : Int) ∧ Hid (n = dvf 0 (D.take k)) ∧ Hid (dgs (D.take k)) ∧ wr = w) (fun _ s7 _ => D.length - (intOf s7).toNat)
                case atStart => exact ⟨0, 0, 0, rfl, rfl, by omega, by simp, rfl, (by intro c hc; simp at hc), rfl⟩
                case round =>
                  obtain ⟨k, n, m, rfl, rfl, hk, hm, hn, hdk, rfl⟩ := hrel
                  by_cases hlt : k < D.length
                  · have hlt' : (k : Int) < (D.length : Int) := by omega
                    obtain ⟨Y, hY, hyx, y, hyy, hdy⟩ := idx_at D k hlt
                    have htk : D.take (k + 1) = D.take k ++ [y] := by
                      have hg := List.drop_eq_getElem_cons hlt
                      rw [hdy] at hg
                      rw [List.take_succ_eq_append_getElem hlt, (List.cons.inj hg).1]
                    by_cases hin : inR (Y : Int) 48 57 = true
                    · have hi := inR_b hin
                      have HD2 : Hid (dgs (D.take (k + 1))) := by
                        intro z hz
                        rw [htk] at hz
                        rcases List.mem_append.1 hz with hz | hz
                        · exact hdk.out z hz
                        · simp only [List.mem_singleton] at hz
                          subst hz
                          omega
                      have HN2 : Hid (10 * n + (Y - 48) = dvf 0 (D.take (k + 1))) := by
                        show _ = _
                        rw [htk, dvf_snoc, ← hn.out, hyy]
                      have hlim : 10 * n + (Y - 48) ≤ 9223372036854775807 := by
                        rw [HN2.out]
                        exact HP.out (k + 1) (by omega) HD2.out
                      have w1 : IntKind.i64.wrap (10 * m) = 10 * m := by rw [IntKind.wrap_i64]; omega
                      have w2 : IntKind.u8.wrap ((Y : Int) - 48) = (Y : Int) - 48 := by simp [IntKind.wrap, IntKind.bits, IntKind.signed]; omega
                      have w3 : IntKind.i64.wrap ((Y : Int) - 48) = (Y : Int) - 48 := by rw [IntKind.wrap_i64]; omega
                      have w4 : IntKind.i64.wrap (10 * m - ((Y : Int) - 48)) = 10 * m - ((Y : Int) - 48) := by rw [IntKind.wrap_i64]; omega
                      have w5 : IntKind.i64.wrap (Y : Int) = (Y : Int) := by rw [IntKind.wrap_i64]; omega
                      clear hdk hn hdy htk hyy HGood HNone
                      go_wp2_with (go_at_call 49; refine (in_any _ _ _ _).mono ?_; rintro e u ⟨rfl, hu⟩; rw [hu, hin]; clear hu)
                      go_roundw
                      case rel => exact ⟨k + 1, 10 * n + (Y - 48), 10 * -(n : Int) - ((Y : Int) - 48), by first | rfl | (rw [hm]), by go_num, by omega, by omega, HN2, HD2, by first | rfl | trivial⟩
                      case measure => simp [intOf]; omega
                    · have hin : inR (Y : Int) 48 57 = false := by cases h : inR (Y : Int) 48 57 with | false => rfl | true => exact absurd h hin
                      have HE := HNone.out (fun hd => by
                        have hy : y ∈ D := List.mem_of_mem_drop (by rw [hdy]; exact List.mem_cons_self)
                        have := hd y hy
                        have h2 : inR (Y : Int) 48 57 = true := by unfold inR; simp; omega
                        rw [hin] at h2
                        cases h2)
                      have w5 : IntKind.i64.wrap (Y : Int) = (Y : Int) := by rw [IntKind.wrap_i64]; omega
                      clear hdk hn hdy htk hyy HGood HNone HP
                      go_wp2_with (go_at_call 49; refine (in_any _ _ _ _).mono ?_; rintro e u ⟨rfl, hu⟩; rw [hu, hin]; clear hu)
                      go_ret2
                      exact ⟨by first | (rw [HE]; rfl) | rfl, by first | rfl | trivial⟩
                  · obtain rfl : k = D.length := by omega
                    have hnl : ¬ ((D.length : Int) < (D.length : Int)) := by omega
                    have hd := hdk.out
                    have hnn := hn.out
                    rw [List.take_of_length_le (Nat.le_refl _)] at hd hnn
                    have hO := HGood.out hd
                    have hlim := HP.out D.length (Nat.le_refl _) (by rw [List.take_of_length_le (Nat.le_refl _)]; exact hd)
                    rw [List.take_of_length_le (Nat.le_refl _), ← hnn] at hlim
                    rw [← hnn] at hO
                    have wn : IntKind.i64.wrap (n : Int) = (n : Int) := by rw [IntKind.wrap_i64]; omega
                    clear hdk hn hd hnn HGood HNone HP hlim
                    go_wp2
                    go_ret2
                    exact ⟨by first | (rw [hO]; rfl) | rfl, by first | rfl | trivial⟩
          
              · clear hg9
                go_upto_region 13 with (fail)
                clear hx0 hx48 hgt hX
                go_loopw [6, 7] (fun s6 s7 wr => ∃ (k n : Nat) (m : Int), s6 = .int .i64 m ∧ s7 = .int .i64 (k : Int) ∧ k ≤ D.length ∧ m = -(n : Int) ∧ Hid (n = dvf 0 (D.take k)) ∧ Hid (dgs (D.take k)) ∧ wr = w) (fun _ s7 _ => D.length - (intOf s7).toNat)
                case atStart => exact ⟨0, 0, 0, rfl, rfl, by omega, by simp, rfl, (by intro c hc; simp at hc), rfl⟩
                case round =>
                  obtain ⟨k, n, m, rfl, rfl, hk, hm, hn, hdk, rfl⟩ := hrel
                  by_cases hlt : k < D.length
                  · have hlt' : (k : Int) < (D.length : Int) := by omega
                    obtain ⟨Y, hY, hyx, y, hyy, hdy⟩ := idx_at D k hlt
                    have htk : D.take (k + 1) = D.take k ++ [y] := by
                      have hg := List.drop_eq_getElem_cons hlt
                      rw [hdy] at hg
                      rw [List.take_succ_eq_append_getElem hlt, (List.cons.inj hg).1]
                    by_cases hin : inR (Y : Int) 48 57 = true
                    · have hi := inR_b hin
                      have HD2 : Hid (dgs (D.take (k + 1))) := by
                        intro z hz
                        rw [htk] at hz
                        rcases List.mem_append.1 hz with hz | hz
                        · exact hdk.out z hz
                        · simp only [List.mem_singleton] at hz
                          subst hz
                          omega
                      have HN2 : Hid (10 * n + (Y - 48) = dvf 0 (D.take (k + 1))) := by
                        show _ = _
                        rw [htk, dvf_snoc, ← hn.out, hyy]
                      have hlim : 10 * n + (Y - 48) ≤ 9223372036854775807 := by
                        rw [HN2.out]
                        exact HP.out (k + 1) (by omega) HD2.out
                      have w1 : IntKind.i64.wrap (10 * m) = 10 * m := by rw [IntKind.wrap_i64]; omega
                      have w2 : IntKind.u8.wrap ((Y : Int) - 48) = (Y : Int) - 48 := by simp [IntKind.wrap, IntKind.bits, IntKind.signed]; omega
                      have w3 : IntKind.i64.wrap ((Y : Int) - 48) = (Y : Int) - 48 := by rw [IntKind.wrap_i64]; omega
                      have w4 : IntKind.i64.wrap (10 * m - ((Y : Int) - 48)) = 10 * m - ((Y : Int) - 48) := by rw [IntKind.wrap_i64]; omega
                      have w5 : IntKind.i64.wrap (Y : Int) = (Y : Int) := by rw [IntKind.wrap_i64]; omega
                      clear hdk hn hdy htk hyy HGood HNone
                      go_wp2_with (go_at_call 49; refine (in_any _ _ _ _).mono ?_; rintro e u ⟨rfl, hu⟩; rw [hu, hin]; clear hu)
                      go_roundw
                      case rel => exact ⟨k + 1, 10 * n + (Y - 48), 10 * -(n : Int) - ((Y : Int) - 48), by first | rfl | (rw [hm]), by go_num, by omega, by omega, HN2, HD2, by first | rfl | trivial⟩
                      case measure => simp [intOf]; omega
                    · have hin : inR (Y : Int) 48 57 = false := by cases h : inR (Y : Int) 48 57 with | false => rfl | true => exact absurd h hin
                      have HE := HNone.out (fun hd => by
                        have hy : y ∈ D := List.mem_of_mem_drop (by rw [hdy]; exact List.mem_cons_self)
                        have := hd y hy
                        have h2 : inR (Y : Int) 48 57 = true := by unfold inR; simp; omega
                        rw [hin] at h2
                        cases h2)
                      have w5 : IntKind.i64.wrap (Y : Int) = (Y : Int) := by rw [IntKind.wrap_i64]; omega
                      clear hdk hn hdy htk hyy HGood HNone HP
                      go_wp2_with (go_at_call 49; refine (in_any _ _ _ _).mono ?_; rintro e u ⟨rfl, hu⟩; rw [hu, hin]; clear hu)
                      go_ret2
                      exact ⟨by first | (rw [HE]; rfl) | rfl, by first | rfl | trivial⟩
                  · obtain rfl : k = D.length := by omega
                    have hnl : ¬ ((D.length : Int) < (D.length : Int)) := by omega
                    have hd := hdk.out
                    have hnn := hn.out
                    rw [List.take_of_length_le (Nat.le_refl _)] at hd hnn
                    have hO := HGood.out hd
                    have hlim := HP.out D.length (Nat.le_refl _) (by rw [List.take_of_length_le (Nat.le_refl _)]; exact hd)
                    rw [List.take_of_length_le (Nat.le_refl _), ← hnn] at hlim
                    rw [← hnn] at hO
                    have wn : IntKind.i64.wrap (n : Int) = (n : Int) := by rw [IntKind.wrap_i64]; omega
                    clear hdk hn hd hnn HGood HNone HP hlim
                    go_wp2
                    go_ret2
                    exact ⟨by first | (rw [hO]; rfl) | rfl, by first | rfl | trivial⟩
          

end Go.Proofs.YtlaagfnoepcnlaaDoor.Ln
/- The contract of picked: a number from 0 on below another one. -/
namespace Go.Proofs.YtlaagfnoepcnlaaDoor
open Go.ChangeShapes Go.WideShapes Go.ChangeAt Go.RowKit

def pk (n m : Int) : Int := (if n < 0 then -(n + 1) else n) % m
theorem pk_bd (n m : Int) (h : 0 < m) : 0 ≤ pk n m ∧ pk n m < m := ⟨Int.emod_nonneg _ (by omega), Int.emod_lt_of_pos _ h⟩
theorem pk_neg {n m : Int} (h : n < 0) : pk n m = (-(n + 1)) % m := by simp [pk, h]
theorem pk_pos {n m : Int} (h : ¬ n < 0) : pk n m = n % m := by simp [pk, h]

theorem i64_bd {n : Int} (h : (Lit.int .i64 n).wf = true) : -9223372036854775808 ≤ n ∧ n ≤ 9223372036854775807 := by
  have := bounds_i64 h
  omega

theorem picked_any (n m : Int) (w : World) (hn : -9223372036854775808 ≤ n ∧ n ≤ 9223372036854775807) (hm : 0 < m) (hm2 : m ≤ 9223372036854775807) :
    Calls Tryd.prog 18 #[.int .i64 n, .int .i64 m] w fun e w' => e = .returned (.int .i64 (pk n m)) ∧ w' = w := by
  obtain ⟨h1, h2⟩ := hn
  by_cases h : n < 0
  · rw [pk_neg h]
    go_enter Tryd.func18, Tryd.ntmps18
    go_wp2
    go_ret
    exact ⟨ret_int (by rw [← Int.tmod_eq_emod_of_nonneg (by omega), Int.neg_tmod]), rfl⟩
  · rw [pk_pos h]
    have h0 : 0 ≤ n := by omega
    go_enter Tryd.func18, Tryd.ntmps18
    go_wp2
    go_ret
    exact ⟨rfl, rfl⟩

end Go.Proofs.YtlaagfnoepcnlaaDoor
/- Contracts of picked and Lab: a number from 0 on below another one; a label of a raw number. -/
namespace Go.Proofs.YtlaagfnoepcnlaaDoor
open Go.ChangeShapes Go.WideShapes Go.ChangeAt Go.RowKit

def labL (n : Int) : Int := pk n 3
def labC (n : Int) : Int := pk (n.tdiv 3) 4
theorem labL_bd (n : Int) : 0 ≤ labL n ∧ labL n ≤ 2 := by have := pk_bd n 3 (by decide); unfold labL; omega
theorem labC_bd (n : Int) : 0 ≤ labC n ∧ labC n ≤ 3 := by have := pk_bd (n.tdiv 3) 4 (by decide); unfold labC; omega
theorem tdiv_bd {n m : Int} (hn : -9223372036854775808 ≤ n ∧ n ≤ 9223372036854775807) (hm : 0 < m) : -9223372036854775808 ≤ n.tdiv m ∧ n.tdiv m ≤ 9223372036854775807 := by
  rcases Int.le_total 0 n with h | h
  · have h1 : 0 ≤ n.tdiv m := Int.tdiv_nonneg h (by omega)
    have h2 : n.tdiv m ≤ n := Int.tdiv_le_self m h
    omega
  · have e : n.tdiv m = -((-n).tdiv m) := by rw [Int.neg_tdiv]; omega
    have h1 : 0 ≤ (-n).tdiv m := Int.tdiv_nonneg (by omega) (by omega)
    have h2 : (-n).tdiv m ≤ -n := Int.tdiv_le_self m (by omega)
    omega

theorem lab_any (n : Int) (w : World) (hn : -9223372036854775808 ≤ n ∧ n ≤ 9223372036854775807) :
    Calls Tryd.prog 32 #[.int .i64 n] w fun e w' => e = .returned (.agg #[.int .i64 (labL n), .int .i64 (labC n)]) ∧ Below w.heap.size w w' := by
  have hd := tdiv_bd hn (m := 3) (by decide)
  obtain ⟨_, _⟩ := id hn
  unfold labL labC
  go_enter Tryd.func32, Tryd.ntmps32
  go_wp2_with (go_at_call 18; refine (picked_any _ _ _ (by assumption) (by decide) (by decide)).mono ?_; rintro e w1 ⟨rfl, rfl⟩)
  exact bodyPost_ret (v := .agg #[.int .i64 (pk n 3), .int .i64 (pk (n.tdiv 3) 4)]) (by simp [results, Tryd.results32, go_sem]) rfl ⟨rfl, (Below.refl _ _).alloc (Nat.le_refl _) _⟩
end Go.Proofs.YtlaagfnoepcnlaaDoor
