/- Texts of this claim, one behind the other. -/
import Derived.Test.YtgohpgollpjlnaaDoorM8ConsoleReads
import Derived.Test.YtgohpgollpjlnaaDoorM5ConsoleReads
import Derived.Test.YtgohpgollpjlnaaDoorM9ConsoleReads
import Derived.Test.YtgohpgollpjlnaaDoorM2ConsoleReads
import Derived.Test.YtgohpgollpjlnaaDoorM6ConsoleReads
import Derived.OwnWalk
/- The document's partsOf: words, parted by single blanks. -/
namespace Go.Proofs.YtgohpgollpjlnaaDoor.Cn
open Go.ChangeShapes Go.WideShapes Go.ChangeAt Go.RowKit
open Go.Proofs.YtgohpgollpjlnaaDoor.St (BoxN boxn_new own_below IsRow Elem flat flat_append own_isRow)
set_option linter.unusedVariables false

/-- A word begun, and the rest. -/
def spl2 (cur : List UInt8) (r : List UInt8) : List (List UInt8) := match spl r with
  | [] => [cur]
  | x :: xs => (cur ++ x) :: xs
theorem spl2_nil (l : List UInt8) : spl2 [] l = spl l := by
  unfold spl2
  cases h : spl l with
  | nil => exact absurd h (spl_ne l)
  | cons x xs => rfl
theorem spl2_end (cur : List UInt8) : spl2 cur [] = [cur] := by simp [spl2, spl]
theorem spl2_blank (cur r : List UInt8) : spl2 cur (32 :: r) = cur :: spl r := by simp [spl2, spl]
theorem spl2_more (cur r : List UInt8) (c : UInt8) (h : c ≠ 32) : spl2 cur (c :: r) = spl2 (cur ++ [c]) r := by
  unfold spl2
  rw [spl, if_neg h]
  cases hq : spl r with
  | nil => exact absurd hq (spl_ne r)
  | cons x xs => simp
theorem ext_list (s : ByteArray) (f k : Nat) (hf : f ≤ k) (hk : k ≤ s.size) : (s.extract f k).data.toList = (s.data.toList.take k).drop f := by
  rw [ByteArray.data_extract, Array.toList_extract, List.extract_eq_drop_take']
theorem slice_at (s : ByteArray) (f k : Nat) (hf : f ≤ k) (hk : k ≤ s.size) (U : World) : (Instr.slice 9 (.string s) (some (.int .i64 (f : Int))) (some (.int .i64 (k : Int))) none).run Tryd.prog U = .ok (.string (s.extract f k)) U := by
  rw [run_slice_string (P := Tryd.prog) U 9 s .i64 .i64 (f : Int) (k : Int) (by kernel_rfl) (by omega) (by omega) (by omega)]
  rfl
theorem strs_of {w : World} {a : Option Addr} {n c : Nat} {ws : List ByteArray} (h : IsRow 1 stC w a n c ws) : IsStrs w a n c ws := by
  obtain ⟨h1, h2, h3, _, h4⟩ := h
  refine ⟨h1, h2, h3, fun h0 => ?_⟩
  obtain ⟨b, off, e, hl, hc⟩ := h4 h0
  refine ⟨b, off, e, hl, fun i hi => ?_⟩
  have := hc i hi 0 (by decide)
  rw [Nat.mul_one, Nat.add_zero] at this
  rw [this]
  have hi2 : i < ws.length := by omega
  simp [stC, List.getD, hi2]
set_option maxRecDepth 100000 in
set_option maxHeartbeats 4000000 in
theorem parts_any (s : ByteArray) (w : World) (hs : s.size ≤ 8000000000000) :
    Calls Tryd.prog 21 #[.string s] w fun e w' => ∃ a n c ws, e = .returned (.slice a n c) ∧ IsStrs w' a n c ws ∧ txt ws = spl s.data.toList ∧ Below w.heap.size w w' := by
  obtain ⟨iE, ES⟩ := stElem
  obtain ⟨R, eR⟩ : ∃ R, R = spl s.data.toList := ⟨_, rfl⟩
  have HR : Hid (R = txt [] ++ (if (0 : Nat) ≤ s.size then spl2 ((s.data.toList.take 0).drop 0) (s.data.toList.drop 0) else [])) := by
    show _ = _
    rw [eR, if_pos (by omega)]
    simp [txt, spl2_nil]
  rw [← eR]
  clear eR
  go_enter Tryd.func21, Tryd.ntmps21
  go_wp2
  go_loopw [3, 4, 5] (fun s3 s4 s5 wr => ∃ (k fr n : Nat) (pa : Option Addr) (pc : Nat) (ws : List ByteArray), s3 = .slice pa n pc ∧ s4 = .int .i64 (fr : Int) ∧ s5 = .int .i64 (k : Int) ∧ fr ≤ k ∧ k ≤ s.size + 1 ∧ n ≤ k ∧ ws.length = n ∧ wr.ownsRow w.heap.size 9 1 (.slice pa n pc) n (flat stC ws) ∧ Hid (R = txt ws ++ (if k ≤ s.size then spl2 ((s.data.toList.take k).drop fr) (s.data.toList.drop k) else [])) ∧ Below w.heap.size w wr) (fun _ _ s5 _ => s.size + 1 - (intOf s5).toNat)
  case atStart => exact ⟨0, 0, 0, none, 0, [], rfl, rfl, rfl, by omega, by omega, by omega, rfl, World.ownsRow_nil _ _ _ _, HR, Below.refl _ _⟩
  case round =>
    obtain ⟨k, fr, n, pa, pc, ws, rfl, rfl, rfl, hf, hk, hn, hws, hO, hP, hb⟩ := hrel
    clear HR
    by_cases hle : k ≤ s.size
    · have hle' : (k : Int) ≤ (s.size : Int) := by omega
      have hsl := slice_at s fr k hf hle
      have hk1 : IntKind.i64.wrap ((k : Int) + 1) = (k : Int) + 1 := by simp [IntKind.wrap, IntKind.bits, IntKind.signed]; omega
      have HP1 : Hid (R = txt ws ++ spl2 ((s.data.toList.take k).drop fr) (s.data.toList.drop k)) := by show _ = _; rw [hP.out, if_pos hle]
      clear hP
      have hX := ext_list s fr k hf hle
      -- a word ends here
      have HW : Hid (∀ (r : List (List UInt8)), R = txt ws ++ ((s.data.toList.take k).drop fr :: r) → R = txt (ws ++ [s.extract fr k]) ++ r) := fun r h => by
        rw [h, txt, txt, List.map_append, List.append_assoc, ← hX]
        rfl
      obtain ⟨U, eU⟩ : ∃ U : World, U = wr.alloc (.cells #[.string (s.extract fr k)] 9) := ⟨_, rfl⟩
      have bU : Below wr.heap.size wr U := by rw [eU]; exact (Below.refl _ _).alloc (Nat.le_refl _) _
      have hbU : Below w.heap.size w U := hb.trans (bU.mono hb.size)
      have hone : IsRow 1 stC U (some ⟨wr.heap.size, 0, none⟩) 1 1 [s.extract fr k] := by rw [eU]; exact words1 wr (s.extract fr k) _ rfl
      have hOU : U.ownsRow w.heap.size 9 1 (.slice pa n pc) n (flat stC ws) := own_below hO bU
      have HEND : Hid (∀ a5 c5 w5, w5.ownsRow w.heap.size 9 1 (.slice a5 (n + 1) c5) (n + 1) (flat stC (ws ++ [s.extract fr k])) → U.grownBy w5 (Value.slice pa n pc).ownBlock → Below w.heap.size w w5) := fun a5 c5 w5 h5 hg => hbU.grown hg hbU.size (fun g eg => (hOU.lt g eg).1)
      clear hX
      by_cases hend : k = s.size
      · subst hend
        have HF : Hid (R = txt (ws ++ [s.extract fr s.size]) ++ []) := HW.out _ (by rw [HP1.out, List.drop_eq_nil_of_le (show s.data.toList.length ≤ s.size from Nat.le_refl _), spl2_end])
        clear HP1 HW
        go_wp2_with (at_builtin; go_loud (rw [← eU]; refine St.wpList_append_row ES (by rfl) _ _ (by rfl) w.heap.size (.slice pa n pc) n ws (by rfl) hOU _ 1 1 [s.extract fr s.size] (by rfl) hone (by unfold maxLen; omega) (by omega) hbU.size ?_; intro a5 c5 w5 own5 gr5 at5; have hb5 := HEND.out a5 c5 w5 own5 gr5))
        all_goals
          go_roundw
          case rel => exact ⟨s.size + 1, s.size + 1, n + 1, a5, c5, ws ++ [s.extract fr s.size], rfl, by go_num, by go_num, by omega, by omega, by omega, by simp [hws], own5, by show _ = _; rw [if_neg (by omega)]; exact HF.out, hb5⟩
          case measure => simp [intOf]
      · have hlt : k < s.size := by omega
        have hend' : ¬ (k : Int) = (s.size : Int) := by omega
        obtain ⟨C, hC, hx, c, hcc, hd⟩ := str_at s k hlt
        by_cases h32 : C = 32
        · have hc32 : c = 32 := UInt8.toNat_inj.1 (by rw [hcc, h32]; rfl)
          subst h32
          have HF : Hid (R = txt (ws ++ [s.extract fr k]) ++ (if k + 1 ≤ s.size then spl2 ((s.data.toList.take (k + 1)).drop (k + 1)) (s.data.toList.drop (k + 1)) else [])) := HW.out _ (by
            rw [HP1.out, hd, hc32, spl2_blank, if_pos (by omega)]
            rw [show (s.data.toList.take (k + 1)).drop (k + 1) = [] from List.drop_eq_nil_of_le (by simp; omega), spl2_nil])
          clear HP1 HW hd hcc hc32
          go_wp2_with (at_builtin; go_loud (rw [← eU]; refine St.wpList_append_row ES (by rfl) _ _ (by rfl) w.heap.size (.slice pa n pc) n ws (by rfl) hOU _ 1 1 [s.extract fr k] (by rfl) hone (by unfold maxLen; omega) (by omega) hbU.size ?_; intro a5 c5 w5 own5 gr5 at5; have hb5 := HEND.out a5 c5 w5 own5 gr5))
          all_goals
            go_roundw
            case rel => exact ⟨k + 1, k + 1, n + 1, a5, c5, ws ++ [s.extract fr k], rfl, by go_num, by go_num, by omega, by omega, by omega, by simp [hws], own5, HF, hb5⟩
            case measure => simp [intOf]; omega
        · have hc32 : c ≠ 32 := fun e => h32 (by rw [← hcc, e]; rfl)
          have hb1 : ((k : Int) == (s.size : Int)) = false := beq_eq_false_iff_ne.2 hend'
          have hb2 : ((C : Int) == 32) = false := beq_eq_false_iff_ne.2 (by omega)
          have HF : Hid (R = txt ws ++ (if k + 1 ≤ s.size then spl2 ((s.data.toList.take (k + 1)).drop fr) (s.data.toList.drop (k + 1)) else [])) := by
            show _ = _
            rw [HP1.out, hd, spl2_more _ _ _ hc32, if_pos (by omega)]
            congr 2
            have hl : k < s.data.toList.length := hlt
            have hc : c = s.data.toList[k] := by
              have := List.drop_eq_getElem_cons hl
              rw [hd] at this
              exact (List.cons.inj this).1
            rw [List.take_succ_eq_append_getElem hl, List.drop_append_of_le_length (by simp; omega), hc]
          clear HP1 HW hd hcc hc32 HEND hone hOU hbU bU eU
          go_wp2
          go_roundw
          case rel => exact ⟨k + 1, fr, n, pa, pc, ws, rfl, rfl, by go_num, by omega, by omega, by omega, hws, hO, HF, hb⟩
          case measure => simp [intOf]; omega
    · obtain rfl : k = s.size + 1 := by omega
      have hnl : ¬ (((s.size + 1 : Nat) : Int) ≤ (s.size : Int)) := by omega
      have HF : Hid (R = txt ws) := by show _ = _; rw [hP.out, if_neg (by omega), List.append_nil]
      have hrow := (own_isRow st_len hO hws).1
      clear hP
      go_wp2
      go_ret
      exact ⟨pa, n, pc, rfl, ws, strs_of hrow, HF.out.symm, hb⟩
end Go.Proofs.YtgohpgollpjlnaaDoor.Cn
/- The document's CommandOf: a line as a command. -/
namespace Go.Proofs.YtgohpgollpjlnaaDoor.Cn
open Go.ChangeShapes Go.WideShapes Go.ChangeAt Go.RowKit
open Go.Proofs.YtgohpgollpjlnaaDoor.St (BoxN boxn_new)
set_option linter.unusedVariables false

theorem about_get (kind : Int) (y : Bool) (a b c : List UInt8) : aboutOf kind y [a, b, c] = if ((numOf a 5).isSome && (numOf b 3).isSome && (numOf c 1048576).isSome) = true then some ⟨kind, (numOf a 5).getD 0, (numOf b 3).getD 0, (numOf c 1048576).getD 0, y⟩ else none := by
  simp only [aboutOf]
  cases numOf a 5 <;> cases numOf b 3 <;> cases numOf c 1048576 <;> rfl
theorem spl_len2 : ∀ (l : List UInt8), ∀ x ∈ spl l, x.length ≤ l.length := by
  intro l
  induction l with
  | nil => intro x hx; simp [spl] at hx; simp [hx]
  | cons c r ih =>
    intro x hx
    rw [spl] at hx
    split at hx
    · rcases List.mem_cons.1 hx with rfl | hx
      · simp
      · have := ih x hx; simp; omega
    · split at hx
      · simp at hx; simp [hx]
      · rename_i y ys e
        rcases List.mem_cons.1 hx with rfl | hx
        · have := ih y (by rw [e]; simp); simp; omega
        · have := ih x (by rw [e]; simp [hx]); simp; omega
def put5 (U : World) (q : Nat) (a b c d e : Value) : World := (((((U.setCell ⟨q, 0, none⟩ a).setCell ⟨q, 1, none⟩ b).setCell ⟨q, 2, none⟩ c).setCell ⟨q, 3, none⟩ d).setCell ⟨q, 4, none⟩ e)
theorem put5_box {U : World} {q : Nat} {a0 b0 c0 d0 e0 : Value} (h : BoxN U q 5 [a0, b0, c0, d0, e0]) (a b c d e : Value) : BoxN (put5 U q a b c d e) q 5 [a, b, c, d, e] :=
  (((((h.set 0 (by decide) a).set 1 (by decide) b).set 2 (by decide) c).set 3 (by decide) d).set 4 (by decide) e)
theorem put5_below {B : Nat} {w U : World} {q : Nat} (h : Below B w U) (hq : B ≤ q) (a b c d e : Value) : Below B w (put5 U q a b c d e) :=
  (((((h.setCell (p := ⟨q, 0, none⟩) hq a).setCell (p := ⟨q, 1, none⟩) hq b).setCell (p := ⟨q, 2, none⟩) hq c).setCell (p := ⟨q, 3, none⟩) hq d).setCell (p := ⟨q, 4, none⟩) hq e)
theorem lit_eq (a : ByteArray) (L : List UInt8) : (a.toList == L) = decide (a.data.toList = L) := by
  rw [Go.ByteArray.toList_eq]
  cases h : decide (a.data.toList = L)
  · exact beq_eq_false_iff_ne.2 (by simpa using h)
  · exact beq_iff_eq.2 (by simpa using h)
theorem dec_eq (a : ByteArray) (L : List UInt8) (B : Bool) (h : B = decide (a.data.toList = L)) : (a.toList == L) = B := by rw [lit_eq, h]
def isLine (w w' : World) (e : Ending) (C : Cmd) (E : Int) : Prop := e = .returned (.tuple #[C.val, .int .i64 E]) ∧ Below w.heap.size w w'
set_option maxRecDepth 100000 in
set_option maxHeartbeats 8000000 in
theorem commandRef_any (s : ByteArray) (w : World) :
    Calls Tryd.prog 10 #[.string s] w fun e w' => isLine w w' e (lineCmd s.data.toList) (lineErr s.data.toList) := by
  obtain ⟨W, hW⟩ : ∃ W : World, W = w.alloc (.cells #[.int .i64 0, .int .i64 0, .int .i64 0, .int .i64 0, .bool false] 25) := ⟨_, rfl⟩
  have bx : BoxN W w.heap.size 5 [.int .i64 0, .int .i64 0, .int .i64 0, .int .i64 0, .bool false] := by rw [hW]; exact boxn_new w #[.int .i64 0, .int .i64 0, .int .i64 0, .int .i64 0, .bool false] 25 5 rfl
  have bW : Below w.heap.size w W := by rw [hW]; exact (Below.refl _ _).alloc (Nat.le_refl _) _
  have zW := bx.lt
  have hsz : s.data.toList.length = s.size := rfl
  by_cases h60 : 60 < s.size
  · have hlt : (60 : Int) < (s.size : Int) := by omega
    have HL : Hid (lineCmd s.data.toList = Cmd.nil ∧ lineErr s.data.toList = 1) := by unfold lineCmd lineErr; rw [hsz, if_pos h60, if_pos h60]; exact ⟨rfl, rfl⟩
    go_enter Tryd.func10, Tryd.ntmps10
    go_upto_region 1 with (fail)
    rw [← hW]
    clear hW

    obtain ⟨F, hF⟩ : ∃ F : World, F = put5 W w.heap.size (.int .i64 0) (.int .i64 0) (.int .i64 0) (.int .i64 0) (.bool false) := ⟨_, rfl⟩
    have fb : BoxN F w.heap.size 5 [.int .i64 0, .int .i64 0, .int .i64 0, .int .i64 0, .bool false] := by rw [hF]; exact put5_box bx (.int .i64 0) (.int .i64 0) (.int .i64 0) (.int .i64 0) (.bool false)
    have bF : Below w.heap.size w F := by rw [hF]; exact put5_below bW (Nat.le_refl _) (.int .i64 0) (.int .i64 0) (.int .i64 0) (.int .i64 0) (.bool false)
    unfold put5 at hF
    have s0 := (bx.c 0 (by decide)).1
    have sf0 := (bx.c 0 (by decide)).2
    have s1 := (bx.c 1 (by decide)).1
    have sf1 := (bx.c 1 (by decide)).2
    have s2 := (bx.c 2 (by decide)).1
    have sf2 := (bx.c 2 (by decide)).2
    have s3 := (bx.c 3 (by decide)).1
    have sf3 := (bx.c 3 (by decide)).2
    have s4 := (bx.c 4 (by decide)).1
    have sf4 := (bx.c 4 (by decide)).2
    have sz := bx.lt
    have k0 : F.cell? ⟨w.heap.size, 0, none⟩ = some (.int .i64 0) := (fb.c 0 (by decide)).1
    have k1 : F.cell? ⟨w.heap.size, 1, none⟩ = some (.int .i64 0) := (fb.c 1 (by decide)).1
    have k2 : F.cell? ⟨w.heap.size, 2, none⟩ = some (.int .i64 0) := (fb.c 2 (by decide)).1
    have k3 : F.cell? ⟨w.heap.size, 3, none⟩ = some (.int .i64 0) := (fb.c 3 (by decide)).1
    have k4 : F.cell? ⟨w.heap.size, 4, none⟩ = some (.bool false) := (fb.c 4 (by decide)).1
    go_wp2
    rw [← hF]
    refine bodyPost_ret (v := .tuple #[.agg #[.int .i64 0, .int .i64 0, .int .i64 0, .int .i64 0, .bool false], .int .i64 1]) (by simp [results, Tryd.results10, go_sem, k0, k1, k2, k3, k4]) rfl ?_
    exact ⟨by rw [HL.out.1, HL.out.2]; rfl, bF⟩
  · have hlt : ¬ (60 : Int) < (s.size : Int) := by omega
    have HL : Hid (lineCmd s.data.toList = (wordsOf (spl s.data.toList)).getD Cmd.nil ∧ lineErr s.data.toList = if (wordsOf (spl s.data.toList)).isSome then 0 else 4) := by unfold lineCmd lineErr; rw [hsz, if_neg h60, if_neg h60]; exact ⟨rfl, rfl⟩
    have hP := parts_any s W (by omega)
    have HZ : Hid (∀ x ∈ spl s.data.toList, x.length ≤ 60) := fun x hx => by have := spl_len2 _ x hx; omega
    have HN : spl s.data.toList ≠ [] := spl_ne _
    obtain ⟨c, eC⟩ : ∃ c, c = lineCmd s.data.toList := ⟨_, rfl⟩
    obtain ⟨E, eE⟩ : ∃ c, c = lineErr s.data.toList := ⟨_, rfl⟩
    obtain ⟨R, eR⟩ : ∃ c, c = spl s.data.toList := ⟨_, rfl⟩
    rw [← eC, ← eE, ← eR] at HL
    rw [← eC, ← eE]
    rw [← eR] at HZ hP HN
    clear eC eE eR hsz
    have HBX : Hid (∀ U, Below W.heap.size W U → BoxN U w.heap.size 5 [.int .i64 0, .int .i64 0, .int .i64 0, .int .i64 0, .bool false] ∧ Below w.heap.size w U) := fun U hU => ⟨bx.below hU bx.lt, bW.trans (hU.mono bW.size)⟩
    clear bx h60
    go_enter Tryd.func10, Tryd.ntmps10
    go_upto_region 3 with (fail)
    rw [← hW]
    clear hW
    go_upto_region 4 with (go_at_call 21; refine hP.mono ?_; rintro e u1 ⟨ba, bn, bc, ws, rfl, hI, ht, bu1⟩)
    have HWD : Hid (∀ U, Below u1.heap.size u1 U → IsStrs U ba bn bc ws) := fun U hU => hI.below hU
    obtain ⟨rb, bu⟩ := HBX.out u1 bu1
    have HBY : Hid (∀ U, Below u1.heap.size u1 U → BoxN U w.heap.size 5 [.int .i64 0, .int .i64 0, .int .i64 0, .int .i64 0, .bool false] ∧ Below w.heap.size w U) := fun U hU => ⟨rb.below hU rb.lt, bu.trans (hU.mono bu.size)⟩
    have zu : w.heap.size < u1.heap.size := rb.lt
    have hlen := hI.1
    have hnc := hI.2.1
    have hcm := hI.2.2.1
    unfold maxLen at hcm
    have HNE : Hid (txt ws ≠ []) := by show _ ≠ _; rw [ht]; exact HN
    rw [← ht] at HL HZ
    have HZ2 : Hid (∀ x ∈ ws, x.size ≤ 100) := fun x hx => by have := HZ.out x.data.toList (by unfold txt; exact List.mem_map_of_mem hx); have e : x.data.toList.length = x.size := rfl; omega
    clear HZ ht hP bW bu1 HBX hI HN
    match ws, hlen with
    | [], hlen => exact absurd rfl HNE.out
    | [x0], hlen =>
      obtain rfl : bn = 1 := by simpa using hlen.symm
      obtain ⟨b, off, rfl, zb, hc⟩ := (HWD.out u1 (Below.refl _ _)).2.2.2 (by omega)
      have d0 : u1.cell? ⟨b, off, none⟩ = some (.string x0) := hc 0 (by omega)

      obtain ⟨L, eL⟩ : ∃ L, L = decide (x0.data.toList = wList) := ⟨_, rfl⟩
      obtain ⟨A, eA⟩ : ∃ L, L = decide (x0.data.toList = wAudit) := ⟨_, rfl⟩
      have gL : (x0.toList == [108, 105, 115, 116]) = L := dec_eq _ _ _ eL
      have gA : (x0.toList == [97, 117, 100, 105, 116]) = A := dec_eq _ _ _ eA
      have HO : Hid (wordsOf (txt [x0]) = if L = true then some ⟨1, 0, 0, 0, false⟩ else if A = true then some ⟨4, 0, 0, 0, false⟩ else none) := by
        show _ = _
        simp only [txt, List.map_cons, List.map_nil, wordsOf, eL, eA, decide_eq_true_eq]
        split
        · simp
        · split
          · simp
          · split
            · rfl
            · split <;> rfl
      rw [HO.out] at HL
      clear eL eA HO HZ2 hc hlen
      cases L with
      | true =>
        obtain ⟨F, hF⟩ : ∃ F : World, F = put5 u1 w.heap.size (.int .i64 1) (.int .i64 0) (.int .i64 0) (.int .i64 0) (.bool false) := ⟨_, rfl⟩
        have fb : BoxN F w.heap.size 5 [.int .i64 1, .int .i64 0, .int .i64 0, .int .i64 0, .bool false] := by rw [hF]; exact put5_box rb (.int .i64 1) (.int .i64 0) (.int .i64 0) (.int .i64 0) (.bool false)
        have bF : Below w.heap.size w F := by rw [hF]; exact put5_below bu (Nat.le_refl _) (.int .i64 1) (.int .i64 0) (.int .i64 0) (.int .i64 0) (.bool false)
        unfold put5 at hF
        have s0 := (rb.c 0 (by decide)).1
        have sf0 := (rb.c 0 (by decide)).2
        have s1 := (rb.c 1 (by decide)).1
        have sf1 := (rb.c 1 (by decide)).2
        have s2 := (rb.c 2 (by decide)).1
        have sf2 := (rb.c 2 (by decide)).2
        have s3 := (rb.c 3 (by decide)).1
        have sf3 := (rb.c 3 (by decide)).2
        have s4 := (rb.c 4 (by decide)).1
        have sf4 := (rb.c 4 (by decide)).2
        have sz := rb.lt
        have k0 : F.cell? ⟨w.heap.size, 0, none⟩ = some (.int .i64 1) := (fb.c 0 (by decide)).1
        have k1 : F.cell? ⟨w.heap.size, 1, none⟩ = some (.int .i64 0) := (fb.c 1 (by decide)).1
        have k2 : F.cell? ⟨w.heap.size, 2, none⟩ = some (.int .i64 0) := (fb.c 2 (by decide)).1
        have k3 : F.cell? ⟨w.heap.size, 3, none⟩ = some (.int .i64 0) := (fb.c 3 (by decide)).1
        have k4 : F.cell? ⟨w.heap.size, 4, none⟩ = some (.bool false) := (fb.c 4 (by decide)).1
        go_wp2
        rw [← hF]
        refine bodyPost_ret (v := .tuple #[.agg #[.int .i64 1, .int .i64 0, .int .i64 0, .int .i64 0, .bool false], .int .i64 0]) (by simp [results, Tryd.results10, go_sem, k0, k1, k2, k3, k4]) rfl ?_
        exact ⟨by rw [HL.out.1, HL.out.2]; rfl, bF⟩
      | false =>
        cases A with
        | true =>
          obtain ⟨F, hF⟩ : ∃ F : World, F = put5 u1 w.heap.size (.int .i64 4) (.int .i64 0) (.int .i64 0) (.int .i64 0) (.bool false) := ⟨_, rfl⟩
          have fb : BoxN F w.heap.size 5 [.int .i64 4, .int .i64 0, .int .i64 0, .int .i64 0, .bool false] := by rw [hF]; exact put5_box rb (.int .i64 4) (.int .i64 0) (.int .i64 0) (.int .i64 0) (.bool false)
          have bF : Below w.heap.size w F := by rw [hF]; exact put5_below bu (Nat.le_refl _) (.int .i64 4) (.int .i64 0) (.int .i64 0) (.int .i64 0) (.bool false)
          unfold put5 at hF
          have s0 := (rb.c 0 (by decide)).1
          have sf0 := (rb.c 0 (by decide)).2
          have s1 := (rb.c 1 (by decide)).1
          have sf1 := (rb.c 1 (by decide)).2
          have s2 := (rb.c 2 (by decide)).1
          have sf2 := (rb.c 2 (by decide)).2
          have s3 := (rb.c 3 (by decide)).1
          have sf3 := (rb.c 3 (by decide)).2
          have s4 := (rb.c 4 (by decide)).1
          have sf4 := (rb.c 4 (by decide)).2
          have sz := rb.lt
          have k0 : F.cell? ⟨w.heap.size, 0, none⟩ = some (.int .i64 4) := (fb.c 0 (by decide)).1
          have k1 : F.cell? ⟨w.heap.size, 1, none⟩ = some (.int .i64 0) := (fb.c 1 (by decide)).1
          have k2 : F.cell? ⟨w.heap.size, 2, none⟩ = some (.int .i64 0) := (fb.c 2 (by decide)).1
          have k3 : F.cell? ⟨w.heap.size, 3, none⟩ = some (.int .i64 0) := (fb.c 3 (by decide)).1
          have k4 : F.cell? ⟨w.heap.size, 4, none⟩ = some (.bool false) := (fb.c 4 (by decide)).1
          go_wp2
          rw [← hF]
          refine bodyPost_ret (v := .tuple #[.agg #[.int .i64 4, .int .i64 0, .int .i64 0, .int .i64 0, .bool false], .int .i64 0]) (by simp [results, Tryd.results10, go_sem, k0, k1, k2, k3, k4]) rfl ?_
          exact ⟨by rw [HL.out.1, HL.out.2]; rfl, bF⟩
        | false =>
          obtain ⟨Y, hY⟩ : ∃ Y : World, Y = u1.alloc (.cells #[.int .i64 2, .int .i64 0, .int .i64 0, .int .i64 0, .bool false] 25) := ⟨_, rfl⟩
          have bY : Below u1.heap.size u1 Y := by rw [hY]; exact (Below.refl _ _).alloc (Nat.le_refl _) _
          obtain ⟨rbY, buY⟩ := HBY.out Y bY
          go_upto_region 13 with (fail)
          rw [← hY]
          clear hY
          obtain ⟨F, hF⟩ : ∃ F : World, F = put5 Y w.heap.size (.int .i64 0) (.int .i64 0) (.int .i64 0) (.int .i64 0) (.bool false) := ⟨_, rfl⟩
          have fb : BoxN F w.heap.size 5 [.int .i64 0, .int .i64 0, .int .i64 0, .int .i64 0, .bool false] := by rw [hF]; exact put5_box rbY (.int .i64 0) (.int .i64 0) (.int .i64 0) (.int .i64 0) (.bool false)
          have bF : Below w.heap.size w F := by rw [hF]; exact put5_below buY (Nat.le_refl _) (.int .i64 0) (.int .i64 0) (.int .i64 0) (.int .i64 0) (.bool false)
          unfold put5 at hF
          have s0 := (rbY.c 0 (by decide)).1
          have sf0 := (rbY.c 0 (by decide)).2
          have s1 := (rbY.c 1 (by decide)).1
          have sf1 := (rbY.c 1 (by decide)).2
          have s2 := (rbY.c 2 (by decide)).1
          have sf2 := (rbY.c 2 (by decide)).2
          have s3 := (rbY.c 3 (by decide)).1
          have sf3 := (rbY.c 3 (by decide)).2
          have s4 := (rbY.c 4 (by decide)).1
          have sf4 := (rbY.c 4 (by decide)).2
          have sz := rbY.lt
          have k0 : F.cell? ⟨w.heap.size, 0, none⟩ = some (.int .i64 0) := (fb.c 0 (by decide)).1
          have k1 : F.cell? ⟨w.heap.size, 1, none⟩ = some (.int .i64 0) := (fb.c 1 (by decide)).1
          have k2 : F.cell? ⟨w.heap.size, 2, none⟩ = some (.int .i64 0) := (fb.c 2 (by decide)).1
          have k3 : F.cell? ⟨w.heap.size, 3, none⟩ = some (.int .i64 0) := (fb.c 3 (by decide)).1
          have k4 : F.cell? ⟨w.heap.size, 4, none⟩ = some (.bool false) := (fb.c 4 (by decide)).1
          go_wp2
          rw [← hF]
          refine bodyPost_ret (v := .tuple #[.agg #[.int .i64 0, .int .i64 0, .int .i64 0, .int .i64 0, .bool false], .int .i64 4]) (by simp [results, Tryd.results10, go_sem, k0, k1, k2, k3, k4]) rfl ?_
          exact ⟨by rw [HL.out.1, HL.out.2]; rfl, bF⟩
    | [x0, x1, x2, x3], hlen =>
      obtain rfl : bn = 4 := by simpa using hlen.symm
      obtain ⟨b, off, rfl, zb, hc⟩ := (HWD.out u1 (Below.refl _ _)).2.2.2 (by omega)
      have d0 : u1.cell? ⟨b, off, none⟩ = some (.string x0) := hc 0 (by omega)
      have d1 : u1.cell? ⟨b, off + 1, none⟩ = some (.string x1) := hc 1 (by omega)
      have d2 : u1.cell? ⟨b, off + 2, none⟩ = some (.string x2) := hc 2 (by omega)
      have d3 : u1.cell? ⟨b, off + 3, none⟩ = some (.string x3) := hc 3 (by omega)

      obtain ⟨A1, eA1⟩ : ∃ x, x = (numOf x1.data.toList 5).getD 0 := ⟨_, rfl⟩
      obtain ⟨B1, eB1⟩ : ∃ x, x = (numOf x1.data.toList 5).isSome := ⟨_, rfl⟩
      obtain ⟨A2, eA2⟩ : ∃ x, x = (numOf x2.data.toList 3).getD 0 := ⟨_, rfl⟩
      obtain ⟨B2, eB2⟩ : ∃ x, x = (numOf x2.data.toList 3).isSome := ⟨_, rfl⟩
      obtain ⟨A3, eA3⟩ : ∃ x, x = (numOf x3.data.toList 1048576).getD 0 := ⟨_, rfl⟩
      obtain ⟨B3, eB3⟩ : ∃ x, x = (numOf x3.data.toList 1048576).isSome := ⟨_, rfl⟩

      obtain ⟨S, eS⟩ : ∃ L, L = decide (x0.data.toList = wStatus) := ⟨_, rfl⟩
      have gS : (x0.toList == [115, 116, 97, 116, 117, 115]) = S := dec_eq _ _ _ eS
      have HO : Hid (wordsOf (txt [x0, x1, x2, x3]) = if S = true then (if (B1 && B2 && B3) = true then some ⟨2, A1, A2, A3, false⟩ else none) else none) := by
        show _ = _
        simp only [txt, List.map_cons, List.map_nil, wordsOf, eS, decide_eq_true_eq, about_get, ← eA1, ← eB1, ← eA2, ← eB2, ← eA3, ← eB3, forceOf]
        by_cases q1 : x0.data.toList = wStatus
        · rw [q1]; rfl
        · rw [if_neg q1, if_neg q1]
          repeat' split
          all_goals first | rfl | simp_all
      clear eS hc hlen
      cases S with
      | false =>
        simp only [Bool.false_eq_true, if_false] at HO
        rw [HO.out] at HL
        clear HO HZ2 eA1 eB1 eA2 eB2 eA3 eB3
        obtain ⟨Y, hY⟩ : ∃ Y : World, Y = u1.alloc (.cells #[.int .i64 2, .int .i64 0, .int .i64 0, .int .i64 0, .bool false] 25) := ⟨_, rfl⟩
        have bY : Below u1.heap.size u1 Y := by rw [hY]; exact (Below.refl _ _).alloc (Nat.le_refl _) _
        obtain ⟨rbY, buY⟩ := HBY.out Y bY
        go_upto_region 13 with (fail)
        rw [← hY]
        clear hY
        obtain ⟨F, hF⟩ : ∃ F : World, F = put5 Y w.heap.size (.int .i64 0) (.int .i64 0) (.int .i64 0) (.int .i64 0) (.bool false) := ⟨_, rfl⟩
        have fb : BoxN F w.heap.size 5 [.int .i64 0, .int .i64 0, .int .i64 0, .int .i64 0, .bool false] := by rw [hF]; exact put5_box rbY (.int .i64 0) (.int .i64 0) (.int .i64 0) (.int .i64 0) (.bool false)
        have bF : Below w.heap.size w F := by rw [hF]; exact put5_below buY (Nat.le_refl _) (.int .i64 0) (.int .i64 0) (.int .i64 0) (.int .i64 0) (.bool false)
        unfold put5 at hF
        have s0 := (rbY.c 0 (by decide)).1
        have sf0 := (rbY.c 0 (by decide)).2
        have s1 := (rbY.c 1 (by decide)).1
        have sf1 := (rbY.c 1 (by decide)).2
        have s2 := (rbY.c 2 (by decide)).1
        have sf2 := (rbY.c 2 (by decide)).2
        have s3 := (rbY.c 3 (by decide)).1
        have sf3 := (rbY.c 3 (by decide)).2
        have s4 := (rbY.c 4 (by decide)).1
        have sf4 := (rbY.c 4 (by decide)).2
        have sz := rbY.lt
        have k0 : F.cell? ⟨w.heap.size, 0, none⟩ = some (.int .i64 0) := (fb.c 0 (by decide)).1
        have k1 : F.cell? ⟨w.heap.size, 1, none⟩ = some (.int .i64 0) := (fb.c 1 (by decide)).1
        have k2 : F.cell? ⟨w.heap.size, 2, none⟩ = some (.int .i64 0) := (fb.c 2 (by decide)).1
        have k3 : F.cell? ⟨w.heap.size, 3, none⟩ = some (.int .i64 0) := (fb.c 3 (by decide)).1
        have k4 : F.cell? ⟨w.heap.size, 4, none⟩ = some (.bool false) := (fb.c 4 (by decide)).1
        go_wp2
        rw [← hF]
        refine bodyPost_ret (v := .tuple #[.agg #[.int .i64 0, .int .i64 0, .int .i64 0, .int .i64 0, .bool false], .int .i64 4]) (by simp [results, Tryd.results10, go_sem, k0, k1, k2, k3, k4]) rfl ?_
        exact ⟨by rw [HL.out.1, HL.out.2]; rfl, bF⟩
      | true =>
        simp only [if_true] at HO
        obtain ⟨Y, hY⟩ : ∃ Y : World, Y = u1.alloc (.cells #[.int .i64 2, .int .i64 0, .int .i64 0, .int .i64 0, .bool false] 25) := ⟨_, rfl⟩
        have xb : BoxN Y u1.heap.size 5 [.int .i64 2, .int .i64 0, .int .i64 0, .int .i64 0, .bool false] := by rw [hY]; exact boxn_new u1 #[.int .i64 2, .int .i64 0, .int .i64 0, .int .i64 0, .bool false] 25 5 rfl
        have bY : Below u1.heap.size u1 Y := by rw [hY]; exact (Below.refl _ _).alloc (Nat.le_refl _) _

        go_upto_region 14 with (fail)
        rw [← hY]
        clear hY gS
        have HP1 : Hid (∀ U, Calls Tryd.prog 22 #[.string x1, .int .i64 5] U fun e w' => e = .returned (.tuple #[.int .i64 A1, .bool B1]) ∧ Below U.heap.size U w') := fun U => by rw [eA1, eB1, ← plain_num (by omega)]; exact plain_any x1 5 U (HZ2.out x1 (by simp)) (by omega) (by omega)
        have HP2 : Hid (∀ U, Calls Tryd.prog 22 #[.string x2, .int .i64 3] U fun e w' => e = .returned (.tuple #[.int .i64 A2, .bool B2]) ∧ Below U.heap.size U w') := fun U => by rw [eA2, eB2, ← plain_num (by omega)]; exact plain_any x2 3 U (HZ2.out x2 (by simp)) (by omega) (by omega)
        have HP3 : Hid (∀ U, Calls Tryd.prog 22 #[.string x3, .int .i64 1048576] U fun e w' => e = .returned (.tuple #[.int .i64 A3, .bool B3]) ∧ Below U.heap.size U w') := fun U => by rw [eA3, eB3, ← plain_num (by omega)]; exact plain_any x3 1048576 U (HZ2.out x3 (by simp)) (by omega) (by omega)
        clear eA1 eB1 eA2 eB2 eA3 eB3 HZ2
        have HX : Hid (∀ U, Below Y.heap.size Y U → BoxN U u1.heap.size 5 [.int .i64 2, .int .i64 0, .int .i64 0, .int .i64 0, .bool false] ∧ Below u1.heap.size u1 U ∧ U.cell? ⟨b, off + 1, none⟩ = some (.string x1) ∧ U.cell? ⟨b, off + 2, none⟩ = some (.string x2) ∧ U.cell? ⟨b, off + 3, none⟩ = some (.string x3) ∧ b < U.heap.size) := fun U hU => by
          have h5 := bY.trans (hU.mono bY.size)
          exact ⟨xb.below hU xb.lt, h5, (h5.cell (p := ⟨b, off + 1, none⟩) zb).trans d1, (h5.cell (p := ⟨b, off + 2, none⟩) zb).trans d2, (h5.cell (p := ⟨b, off + 3, none⟩) zb).trans d3, Nat.lt_of_lt_of_le zb h5.size⟩
        clear d0 d1 d2 d3
        obtain ⟨-, -, d1, d2, d3, zbY⟩ := HX.out Y (Below.refl _ _)
        have hC1 := HP1.out Y
        go_upto_region 15 with (go_at_call 22; refine hC1.mono ?_; rintro e v1 ⟨rfl, bv1⟩)
        clear d1 d2 d3 zbY
        obtain ⟨-, -, d1, d2, d3, zbY⟩ := HX.out v1 bv1
        have hC2 := HP2.out v1
        go_upto_region 16 with (go_at_call 22; refine hC2.mono ?_; rintro e v2 ⟨rfl, bv2⟩)
        clear d1 d2 d3 zbY
        have bv2' := bv1.trans (bv2.mono bv1.size)
        obtain ⟨-, -, d1, d2, d3, zbY⟩ := HX.out v2 bv2'
        have hC3 := HP3.out v2
        go_upto_region 17 with (go_at_call 22; refine hC3.mono ?_; rintro e v3 ⟨rfl, bv3⟩)
        clear d1 d2 d3 zbY
        have bv3' := bv2'.trans (bv3.mono bv2'.size)
        obtain ⟨xb3, bu3, -, -, -, -⟩ := HX.out v3 bv3'
        obtain ⟨rb3, bw3⟩ := HBY.out v3 bu3
        clear HX HP1 HP2 HP3 hC1 hC2 hC3 bv1 bv2 bv3 bv2' xb bY
        cases hB : (B1 && B2 && B3) with
        | false =>
          rw [hB] at HO
          simp only [Bool.false_eq_true, if_false] at HO
          rw [HO.out] at HL
          clear HO
          go_upto_region 18 with (fail)
          all_goals first | (exfalso; simp_all; done) | skip
          all_goals
            obtain ⟨F, hF⟩ : ∃ F : World, F = put5 v3 w.heap.size (.int .i64 0) (.int .i64 0) (.int .i64 0) (.int .i64 0) (.bool false) := ⟨_, rfl⟩
            have fb : BoxN F w.heap.size 5 [.int .i64 0, .int .i64 0, .int .i64 0, .int .i64 0, .bool false] := by rw [hF]; exact put5_box rb3 (.int .i64 0) (.int .i64 0) (.int .i64 0) (.int .i64 0) (.bool false)
            have bF : Below w.heap.size w F := by rw [hF]; exact put5_below bw3 (Nat.le_refl _) (.int .i64 0) (.int .i64 0) (.int .i64 0) (.int .i64 0) (.bool false)
            unfold put5 at hF
            have s0 := (rb3.c 0 (by decide)).1
            have sf0 := (rb3.c 0 (by decide)).2
            have s1 := (rb3.c 1 (by decide)).1
            have sf1 := (rb3.c 1 (by decide)).2
            have s2 := (rb3.c 2 (by decide)).1
            have sf2 := (rb3.c 2 (by decide)).2
            have s3 := (rb3.c 3 (by decide)).1
            have sf3 := (rb3.c 3 (by decide)).2
            have s4 := (rb3.c 4 (by decide)).1
            have sf4 := (rb3.c 4 (by decide)).2
            have sz := rb3.lt
            have k0 : F.cell? ⟨w.heap.size, 0, none⟩ = some (.int .i64 0) := (fb.c 0 (by decide)).1
            have k1 : F.cell? ⟨w.heap.size, 1, none⟩ = some (.int .i64 0) := (fb.c 1 (by decide)).1
            have k2 : F.cell? ⟨w.heap.size, 2, none⟩ = some (.int .i64 0) := (fb.c 2 (by decide)).1
            have k3 : F.cell? ⟨w.heap.size, 3, none⟩ = some (.int .i64 0) := (fb.c 3 (by decide)).1
            have k4 : F.cell? ⟨w.heap.size, 4, none⟩ = some (.bool false) := (fb.c 4 (by decide)).1
            go_wp2
            rw [← hF]
            refine bodyPost_ret (v := .tuple #[.agg #[.int .i64 0, .int .i64 0, .int .i64 0, .int .i64 0, .bool false], .int .i64 4]) (by simp [results, Tryd.results10, go_sem, k0, k1, k2, k3, k4]) rfl ?_
            exact ⟨by rw [HL.out.1, HL.out.2]; rfl, bF⟩
        | true =>
          rw [hB] at HO
          simp only [if_true] at HO
          rw [HO.out] at HL
          obtain ⟨rfl, rfl, rfl⟩ : B1 = true ∧ B2 = true ∧ B3 = true := by cases B1 <;> cases B2 <;> cases B3 <;> simp_all
          clear HO hB
          obtain ⟨Z, hZ⟩ : ∃ Z : World, Z = ((v3.setCell ⟨u1.heap.size, 1, none⟩ (.int .i64 A1)).setCell ⟨u1.heap.size, 2, none⟩ (.int .i64 A2)).setCell ⟨u1.heap.size, 3, none⟩ (.int .i64 A3) := ⟨_, rfl⟩
          have zb3 : BoxN Z u1.heap.size 5 [.int .i64 2, .int .i64 A1, .int .i64 A2, .int .i64 A3, .bool false] := by rw [hZ]; exact ((xb3.set 1 (by decide) _).set 2 (by decide) _).set 3 (by decide) _
          have bZ : Below u1.heap.size u1 Z := by rw [hZ]; exact ((bu3.setCell (p := ⟨u1.heap.size, 1, none⟩) (Nat.le_refl _) _).setCell (p := ⟨u1.heap.size, 2, none⟩) (Nat.le_refl _) _).setCell (p := ⟨u1.heap.size, 3, none⟩) (Nat.le_refl _) _
          obtain ⟨rbZ, bwZ⟩ := HBY.out Z bZ
          have e1 := (xb3.c 1 (by decide)).1
          have ef1 := (xb3.c 1 (by decide)).2
          have e2 := (xb3.c 2 (by decide)).1
          have ef2 := (xb3.c 2 (by decide)).2
          have e3 := (xb3.c 3 (by decide)).1
          have ef3 := (xb3.c 3 (by decide)).2
          have ez := xb3.lt
          go_upto_region 21 with (fail)
          rw [← hZ]
          clear hZ e1 ef1 e2 ef2 e3 ef3 ez rb3 bw3 xb3 bu3
          have z0 := (zb3.c 0 (by decide)).1
          have z1 := (zb3.c 1 (by decide)).1
          have z2 := (zb3.c 2 (by decide)).1
          have z3 := (zb3.c 3 (by decide)).1
          have z4 := (zb3.c 4 (by decide)).1
          have zl := zb3.lt
          obtain ⟨F, hF⟩ : ∃ F : World, F = put5 Z w.heap.size (.int .i64 2) (.int .i64 A1) (.int .i64 A2) (.int .i64 A3) (.bool false) := ⟨_, rfl⟩
          have fb : BoxN F w.heap.size 5 [.int .i64 2, .int .i64 A1, .int .i64 A2, .int .i64 A3, .bool false] := by rw [hF]; exact put5_box rbZ (.int .i64 2) (.int .i64 A1) (.int .i64 A2) (.int .i64 A3) (.bool false)
          have bF : Below w.heap.size w F := by rw [hF]; exact put5_below bwZ (Nat.le_refl _) (.int .i64 2) (.int .i64 A1) (.int .i64 A2) (.int .i64 A3) (.bool false)
          unfold put5 at hF
          have s0 := (rbZ.c 0 (by decide)).1
          have sf0 := (rbZ.c 0 (by decide)).2
          have s1 := (rbZ.c 1 (by decide)).1
          have sf1 := (rbZ.c 1 (by decide)).2
          have s2 := (rbZ.c 2 (by decide)).1
          have sf2 := (rbZ.c 2 (by decide)).2
          have s3 := (rbZ.c 3 (by decide)).1
          have sf3 := (rbZ.c 3 (by decide)).2
          have s4 := (rbZ.c 4 (by decide)).1
          have sf4 := (rbZ.c 4 (by decide)).2
          have sz := rbZ.lt
          have k0 : F.cell? ⟨w.heap.size, 0, none⟩ = some (.int .i64 2) := (fb.c 0 (by decide)).1
          have k1 : F.cell? ⟨w.heap.size, 1, none⟩ = some (.int .i64 A1) := (fb.c 1 (by decide)).1
          have k2 : F.cell? ⟨w.heap.size, 2, none⟩ = some (.int .i64 A2) := (fb.c 2 (by decide)).1
          have k3 : F.cell? ⟨w.heap.size, 3, none⟩ = some (.int .i64 A3) := (fb.c 3 (by decide)).1
          have k4 : F.cell? ⟨w.heap.size, 4, none⟩ = some (.bool false) := (fb.c 4 (by decide)).1
          go_wp2
          rw [← hF]
          refine bodyPost_ret (v := .tuple #[.agg #[.int .i64 2, .int .i64 A1, .int .i64 A2, .int .i64 A3, .bool false], .int .i64 0]) (by simp [results, Tryd.results10, go_sem, k0, k1, k2, k3, k4]) rfl ?_
          exact ⟨by rw [HL.out.1, HL.out.2]; rfl, bF⟩
    | [x0, x1, x2, x3, x4], hlen =>
      obtain rfl : bn = 5 := by simpa using hlen.symm
      obtain ⟨b, off, rfl, zb, hc⟩ := (HWD.out u1 (Below.refl _ _)).2.2.2 (by omega)
      have d0 : u1.cell? ⟨b, off, none⟩ = some (.string x0) := hc 0 (by omega)
      have d1 : u1.cell? ⟨b, off + 1, none⟩ = some (.string x1) := hc 1 (by omega)
      have d2 : u1.cell? ⟨b, off + 2, none⟩ = some (.string x2) := hc 2 (by omega)
      have d3 : u1.cell? ⟨b, off + 3, none⟩ = some (.string x3) := hc 3 (by omega)
      have d4 : u1.cell? ⟨b, off + 4, none⟩ = some (.string x4) := hc 4 (by omega)

      obtain ⟨A1, eA1⟩ : ∃ x, x = (numOf x1.data.toList 5).getD 0 := ⟨_, rfl⟩
      obtain ⟨B1, eB1⟩ : ∃ x, x = (numOf x1.data.toList 5).isSome := ⟨_, rfl⟩
      obtain ⟨A2, eA2⟩ : ∃ x, x = (numOf x2.data.toList 3).getD 0 := ⟨_, rfl⟩
      obtain ⟨B2, eB2⟩ : ∃ x, x = (numOf x2.data.toList 3).isSome := ⟨_, rfl⟩
      obtain ⟨A3, eA3⟩ : ∃ x, x = (numOf x3.data.toList 1048576).getD 0 := ⟨_, rfl⟩
      obtain ⟨B3, eB3⟩ : ∃ x, x = (numOf x3.data.toList 1048576).isSome := ⟨_, rfl⟩

      obtain ⟨G, eG⟩ : ∃ L, L = decide (x0.data.toList = wForce) := ⟨_, rfl⟩
      obtain ⟨C, eC⟩ : ∃ L, L = decide (x4.data.toList = wCommit) := ⟨_, rfl⟩
      obtain ⟨A, eA⟩ : ∃ L, L = decide (x4.data.toList = wAbort) := ⟨_, rfl⟩
      have gF : (x0.toList == [102, 111, 114, 99, 101]) = G := dec_eq _ _ _ eG
      have gC : (x4.toList == [99, 111, 109, 109, 105, 116]) = C := dec_eq _ _ _ eC
      have gA : (x4.toList == [97, 98, 111, 114, 116]) = A := dec_eq _ _ _ eA
      have HO : Hid (wordsOf (txt [x0, x1, x2, x3, x4]) = if G = true then (if C = true then (if (B1 && B2 && B3) = true then some ⟨3, A1, A2, A3, true⟩ else none) else if A = true then (if (B1 && B2 && B3) = true then some ⟨3, A1, A2, A3, false⟩ else none) else none) else none) := by
        show _ = _
        simp only [txt, List.map_cons, List.map_nil, wordsOf, eG, eC, eA, decide_eq_true_eq, about_get, ← eA1, ← eB1, ← eA2, ← eB2, ← eA3, ← eB3, forceOf]
        by_cases q1 : x0.data.toList = wForce
        · rw [q1]; rfl
        · simp only [if_neg q1, aboutOf]
          repeat' split
          all_goals first | rfl | simp_all
      clear eG eC eA hc hlen
      cases G with
      | false =>
        simp only [Bool.false_eq_true, if_false] at HO
        rw [HO.out] at HL
        clear HO HZ2 eA1 eB1 eA2 eB2 eA3 eB3
        obtain ⟨Y, hY⟩ : ∃ Y : World, Y = u1.alloc (.cells #[.int .i64 2, .int .i64 0, .int .i64 0, .int .i64 0, .bool false] 25) := ⟨_, rfl⟩
        have bY : Below u1.heap.size u1 Y := by rw [hY]; exact (Below.refl _ _).alloc (Nat.le_refl _) _
        obtain ⟨rbY, buY⟩ := HBY.out Y bY
        go_upto_region 13 with (fail)
        rw [← hY]
        clear hY
        obtain ⟨F, hF⟩ : ∃ F : World, F = put5 Y w.heap.size (.int .i64 0) (.int .i64 0) (.int .i64 0) (.int .i64 0) (.bool false) := ⟨_, rfl⟩
        have fb : BoxN F w.heap.size 5 [.int .i64 0, .int .i64 0, .int .i64 0, .int .i64 0, .bool false] := by rw [hF]; exact put5_box rbY (.int .i64 0) (.int .i64 0) (.int .i64 0) (.int .i64 0) (.bool false)
        have bF : Below w.heap.size w F := by rw [hF]; exact put5_below buY (Nat.le_refl _) (.int .i64 0) (.int .i64 0) (.int .i64 0) (.int .i64 0) (.bool false)
        unfold put5 at hF
        have s0 := (rbY.c 0 (by decide)).1
        have sf0 := (rbY.c 0 (by decide)).2
        have s1 := (rbY.c 1 (by decide)).1
        have sf1 := (rbY.c 1 (by decide)).2
        have s2 := (rbY.c 2 (by decide)).1
        have sf2 := (rbY.c 2 (by decide)).2
        have s3 := (rbY.c 3 (by decide)).1
        have sf3 := (rbY.c 3 (by decide)).2
        have s4 := (rbY.c 4 (by decide)).1
        have sf4 := (rbY.c 4 (by decide)).2
        have sz := rbY.lt
        have k0 : F.cell? ⟨w.heap.size, 0, none⟩ = some (.int .i64 0) := (fb.c 0 (by decide)).1
        have k1 : F.cell? ⟨w.heap.size, 1, none⟩ = some (.int .i64 0) := (fb.c 1 (by decide)).1
        have k2 : F.cell? ⟨w.heap.size, 2, none⟩ = some (.int .i64 0) := (fb.c 2 (by decide)).1
        have k3 : F.cell? ⟨w.heap.size, 3, none⟩ = some (.int .i64 0) := (fb.c 3 (by decide)).1
        have k4 : F.cell? ⟨w.heap.size, 4, none⟩ = some (.bool false) := (fb.c 4 (by decide)).1
        go_wp2
        rw [← hF]
        refine bodyPost_ret (v := .tuple #[.agg #[.int .i64 0, .int .i64 0, .int .i64 0, .int .i64 0, .bool false], .int .i64 4]) (by simp [results, Tryd.results10, go_sem, k0, k1, k2, k3, k4]) rfl ?_
        exact ⟨by rw [HL.out.1, HL.out.2]; rfl, bF⟩
      | true =>
        simp only [if_true] at HO
        cases C with
        | true =>
          simp only [if_true] at HO
          obtain ⟨Y, hY⟩ : ∃ Y : World, Y = u1.alloc (.cells #[.int .i64 2, .int .i64 0, .int .i64 0, .int .i64 0, .bool false] 25) := ⟨_, rfl⟩
          have xb : BoxN Y u1.heap.size 5 [.int .i64 2, .int .i64 0, .int .i64 0, .int .i64 0, .bool false] := by rw [hY]; exact boxn_new u1 #[.int .i64 2, .int .i64 0, .int .i64 0, .int .i64 0, .bool false] 25 5 rfl
          have bY : Below u1.heap.size u1 Y := by rw [hY]; exact (Below.refl _ _).alloc (Nat.le_refl _) _

          obtain ⟨X, hX⟩ : ∃ X : World, X = (Y.setCell ⟨u1.heap.size, 0, none⟩ (.int .i64 3)) := ⟨_, rfl⟩
          have xc : BoxN X u1.heap.size 5 [.int .i64 3, .int .i64 0, .int .i64 0, .int .i64 0, .bool false] := by rw [hX]; exact xb.set 0 (by decide) _
          have bX : Below u1.heap.size u1 X := by rw [hX]; exact bY.setCell (p := ⟨u1.heap.size, 0, none⟩) (Nat.le_refl _) _
          have e0 := (xb.c 0 (by decide)).1
          have ef0 := (xb.c 0 (by decide)).2
          have ez := xb.lt
          go_upto_region 10 with (fail)
          rw [← hY]
          clear hY
          go_upto_region 11 with (fail)
          rw [← hX]
          clear hX e0 ef0 ez xb bY
          obtain ⟨Y2, hY⟩ : ∃ Y2 : World, Y2 = (X.setCell ⟨u1.heap.size, 4, none⟩ (.bool true)) := ⟨_, rfl⟩
          have xb : BoxN Y2 u1.heap.size 5 [.int .i64 3, .int .i64 0, .int .i64 0, .int .i64 0, .bool true] := by rw [hY]; exact xc.set 4 (by decide) _
          have bY : Below u1.heap.size u1 Y2 := by rw [hY]; exact bX.setCell (p := ⟨u1.heap.size, 4, none⟩) (Nat.le_refl _) _
          have e4 := (xc.c 4 (by decide)).1
          have ef4 := (xc.c 4 (by decide)).2
          have ez := xc.lt
          have f4 : X.cell? ⟨b, off + 4, none⟩ = some (.string x4) := (bX.cell (p := ⟨b, off + 4, none⟩) zb).trans d4
          have zbX : b < X.heap.size := Nat.lt_of_lt_of_le zb bX.size
          go_upto_region 14 with (fail)
          rw [← hY]
          clear hY gF gC gA e4 ef4 ez f4 zbX xc bX
          have HP1 : Hid (∀ U, Calls Tryd.prog 22 #[.string x1, .int .i64 5] U fun e w' => e = .returned (.tuple #[.int .i64 A1, .bool B1]) ∧ Below U.heap.size U w') := fun U => by rw [eA1, eB1, ← plain_num (by omega)]; exact plain_any x1 5 U (HZ2.out x1 (by simp)) (by omega) (by omega)
          have HP2 : Hid (∀ U, Calls Tryd.prog 22 #[.string x2, .int .i64 3] U fun e w' => e = .returned (.tuple #[.int .i64 A2, .bool B2]) ∧ Below U.heap.size U w') := fun U => by rw [eA2, eB2, ← plain_num (by omega)]; exact plain_any x2 3 U (HZ2.out x2 (by simp)) (by omega) (by omega)
          have HP3 : Hid (∀ U, Calls Tryd.prog 22 #[.string x3, .int .i64 1048576] U fun e w' => e = .returned (.tuple #[.int .i64 A3, .bool B3]) ∧ Below U.heap.size U w') := fun U => by rw [eA3, eB3, ← plain_num (by omega)]; exact plain_any x3 1048576 U (HZ2.out x3 (by simp)) (by omega) (by omega)
          clear eA1 eB1 eA2 eB2 eA3 eB3 HZ2
          have HX : Hid (∀ U, Below Y2.heap.size Y2 U → BoxN U u1.heap.size 5 [.int .i64 3, .int .i64 0, .int .i64 0, .int .i64 0, .bool true] ∧ Below u1.heap.size u1 U ∧ U.cell? ⟨b, off + 1, none⟩ = some (.string x1) ∧ U.cell? ⟨b, off + 2, none⟩ = some (.string x2) ∧ U.cell? ⟨b, off + 3, none⟩ = some (.string x3) ∧ b < U.heap.size) := fun U hU => by
            have h5 := bY.trans (hU.mono bY.size)
            exact ⟨xb.below hU xb.lt, h5, (h5.cell (p := ⟨b, off + 1, none⟩) zb).trans d1, (h5.cell (p := ⟨b, off + 2, none⟩) zb).trans d2, (h5.cell (p := ⟨b, off + 3, none⟩) zb).trans d3, Nat.lt_of_lt_of_le zb h5.size⟩
          clear d0 d1 d2 d3 d4
          obtain ⟨-, -, d1, d2, d3, zbY⟩ := HX.out Y2 (Below.refl _ _)
          have hC1 := HP1.out Y2
          go_upto_region 15 with (go_at_call 22; refine hC1.mono ?_; rintro e v1 ⟨rfl, bv1⟩)
          clear d1 d2 d3 zbY
          obtain ⟨-, -, d1, d2, d3, zbY⟩ := HX.out v1 bv1
          have hC2 := HP2.out v1
          go_upto_region 16 with (go_at_call 22; refine hC2.mono ?_; rintro e v2 ⟨rfl, bv2⟩)
          clear d1 d2 d3 zbY
          have bv2' := bv1.trans (bv2.mono bv1.size)
          obtain ⟨-, -, d1, d2, d3, zbY⟩ := HX.out v2 bv2'
          have hC3 := HP3.out v2
          go_upto_region 17 with (go_at_call 22; refine hC3.mono ?_; rintro e v3 ⟨rfl, bv3⟩)
          clear d1 d2 d3 zbY
          have bv3' := bv2'.trans (bv3.mono bv2'.size)
          obtain ⟨xb3, bu3, -, -, -, -⟩ := HX.out v3 bv3'
          obtain ⟨rb3, bw3⟩ := HBY.out v3 bu3
          clear HX HP1 HP2 HP3 hC1 hC2 hC3 bv1 bv2 bv3 bv2' xb bY
          cases hB : (B1 && B2 && B3) with
          | false =>
            rw [hB] at HO
            simp only [Bool.false_eq_true, if_false] at HO
            rw [HO.out] at HL
            clear HO
            go_upto_region 18 with (fail)
            all_goals first | (exfalso; simp_all; done) | skip
            all_goals
              obtain ⟨F, hF⟩ : ∃ F : World, F = put5 v3 w.heap.size (.int .i64 0) (.int .i64 0) (.int .i64 0) (.int .i64 0) (.bool false) := ⟨_, rfl⟩
              have fb : BoxN F w.heap.size 5 [.int .i64 0, .int .i64 0, .int .i64 0, .int .i64 0, .bool false] := by rw [hF]; exact put5_box rb3 (.int .i64 0) (.int .i64 0) (.int .i64 0) (.int .i64 0) (.bool false)
              have bF : Below w.heap.size w F := by rw [hF]; exact put5_below bw3 (Nat.le_refl _) (.int .i64 0) (.int .i64 0) (.int .i64 0) (.int .i64 0) (.bool false)
              unfold put5 at hF
              have s0 := (rb3.c 0 (by decide)).1
              have sf0 := (rb3.c 0 (by decide)).2
              have s1 := (rb3.c 1 (by decide)).1
              have sf1 := (rb3.c 1 (by decide)).2
              have s2 := (rb3.c 2 (by decide)).1
              have sf2 := (rb3.c 2 (by decide)).2
              have s3 := (rb3.c 3 (by decide)).1
              have sf3 := (rb3.c 3 (by decide)).2
              have s4 := (rb3.c 4 (by decide)).1
              have sf4 := (rb3.c 4 (by decide)).2
              have sz := rb3.lt
              have k0 : F.cell? ⟨w.heap.size, 0, none⟩ = some (.int .i64 0) := (fb.c 0 (by decide)).1
              have k1 : F.cell? ⟨w.heap.size, 1, none⟩ = some (.int .i64 0) := (fb.c 1 (by decide)).1
              have k2 : F.cell? ⟨w.heap.size, 2, none⟩ = some (.int .i64 0) := (fb.c 2 (by decide)).1
              have k3 : F.cell? ⟨w.heap.size, 3, none⟩ = some (.int .i64 0) := (fb.c 3 (by decide)).1
              have k4 : F.cell? ⟨w.heap.size, 4, none⟩ = some (.bool false) := (fb.c 4 (by decide)).1
              go_wp2
              rw [← hF]
              refine bodyPost_ret (v := .tuple #[.agg #[.int .i64 0, .int .i64 0, .int .i64 0, .int .i64 0, .bool false], .int .i64 4]) (by simp [results, Tryd.results10, go_sem, k0, k1, k2, k3, k4]) rfl ?_
              exact ⟨by rw [HL.out.1, HL.out.2]; rfl, bF⟩
          | true =>
            rw [hB] at HO
            simp only [if_true] at HO
            rw [HO.out] at HL
            obtain ⟨rfl, rfl, rfl⟩ : B1 = true ∧ B2 = true ∧ B3 = true := by cases B1 <;> cases B2 <;> cases B3 <;> simp_all
            clear HO hB
            obtain ⟨Z, hZ⟩ : ∃ Z : World, Z = ((v3.setCell ⟨u1.heap.size, 1, none⟩ (.int .i64 A1)).setCell ⟨u1.heap.size, 2, none⟩ (.int .i64 A2)).setCell ⟨u1.heap.size, 3, none⟩ (.int .i64 A3) := ⟨_, rfl⟩
            have zb3 : BoxN Z u1.heap.size 5 [.int .i64 3, .int .i64 A1, .int .i64 A2, .int .i64 A3, .bool true] := by rw [hZ]; exact ((xb3.set 1 (by decide) _).set 2 (by decide) _).set 3 (by decide) _
            have bZ : Below u1.heap.size u1 Z := by rw [hZ]; exact ((bu3.setCell (p := ⟨u1.heap.size, 1, none⟩) (Nat.le_refl _) _).setCell (p := ⟨u1.heap.size, 2, none⟩) (Nat.le_refl _) _).setCell (p := ⟨u1.heap.size, 3, none⟩) (Nat.le_refl _) _
            obtain ⟨rbZ, bwZ⟩ := HBY.out Z bZ
            have e1 := (xb3.c 1 (by decide)).1
            have ef1 := (xb3.c 1 (by decide)).2
            have e2 := (xb3.c 2 (by decide)).1
            have ef2 := (xb3.c 2 (by decide)).2
            have e3 := (xb3.c 3 (by decide)).1
            have ef3 := (xb3.c 3 (by decide)).2
            have ez := xb3.lt
            go_upto_region 21 with (fail)
            rw [← hZ]
            clear hZ e1 ef1 e2 ef2 e3 ef3 ez rb3 bw3 xb3 bu3
            have z0 := (zb3.c 0 (by decide)).1
            have z1 := (zb3.c 1 (by decide)).1
            have z2 := (zb3.c 2 (by decide)).1
            have z3 := (zb3.c 3 (by decide)).1
            have z4 := (zb3.c 4 (by decide)).1
            have zl := zb3.lt
            obtain ⟨F, hF⟩ : ∃ F : World, F = put5 Z w.heap.size (.int .i64 3) (.int .i64 A1) (.int .i64 A2) (.int .i64 A3) (.bool true) := ⟨_, rfl⟩
            have fb : BoxN F w.heap.size 5 [.int .i64 3, .int .i64 A1, .int .i64 A2, .int .i64 A3, .bool true] := by rw [hF]; exact put5_box rbZ (.int .i64 3) (.int .i64 A1) (.int .i64 A2) (.int .i64 A3) (.bool true)
            have bF : Below w.heap.size w F := by rw [hF]; exact put5_below bwZ (Nat.le_refl _) (.int .i64 3) (.int .i64 A1) (.int .i64 A2) (.int .i64 A3) (.bool true)
            unfold put5 at hF
            have s0 := (rbZ.c 0 (by decide)).1
            have sf0 := (rbZ.c 0 (by decide)).2
            have s1 := (rbZ.c 1 (by decide)).1
            have sf1 := (rbZ.c 1 (by decide)).2
            have s2 := (rbZ.c 2 (by decide)).1
            have sf2 := (rbZ.c 2 (by decide)).2
            have s3 := (rbZ.c 3 (by decide)).1
            have sf3 := (rbZ.c 3 (by decide)).2
            have s4 := (rbZ.c 4 (by decide)).1
            have sf4 := (rbZ.c 4 (by decide)).2
            have sz := rbZ.lt
            have k0 : F.cell? ⟨w.heap.size, 0, none⟩ = some (.int .i64 3) := (fb.c 0 (by decide)).1
            have k1 : F.cell? ⟨w.heap.size, 1, none⟩ = some (.int .i64 A1) := (fb.c 1 (by decide)).1
            have k2 : F.cell? ⟨w.heap.size, 2, none⟩ = some (.int .i64 A2) := (fb.c 2 (by decide)).1
            have k3 : F.cell? ⟨w.heap.size, 3, none⟩ = some (.int .i64 A3) := (fb.c 3 (by decide)).1
            have k4 : F.cell? ⟨w.heap.size, 4, none⟩ = some (.bool true) := (fb.c 4 (by decide)).1
            go_wp2
            rw [← hF]
            refine bodyPost_ret (v := .tuple #[.agg #[.int .i64 3, .int .i64 A1, .int .i64 A2, .int .i64 A3, .bool true], .int .i64 0]) (by simp [results, Tryd.results10, go_sem, k0, k1, k2, k3, k4]) rfl ?_
            exact ⟨by rw [HL.out.1, HL.out.2]; rfl, bF⟩
        | false =>
          simp only [Bool.false_eq_true, if_false] at HO
          cases A with
          | true =>
            simp only [if_true] at HO
            obtain ⟨Y, hY⟩ : ∃ Y : World, Y = u1.alloc (.cells #[.int .i64 2, .int .i64 0, .int .i64 0, .int .i64 0, .bool false] 25) := ⟨_, rfl⟩
            have xb : BoxN Y u1.heap.size 5 [.int .i64 2, .int .i64 0, .int .i64 0, .int .i64 0, .bool false] := by rw [hY]; exact boxn_new u1 #[.int .i64 2, .int .i64 0, .int .i64 0, .int .i64 0, .bool false] 25 5 rfl
            have bY : Below u1.heap.size u1 Y := by rw [hY]; exact (Below.refl _ _).alloc (Nat.le_refl _) _

            obtain ⟨X, hX⟩ : ∃ X : World, X = (Y.setCell ⟨u1.heap.size, 0, none⟩ (.int .i64 3)) := ⟨_, rfl⟩
            have xc : BoxN X u1.heap.size 5 [.int .i64 3, .int .i64 0, .int .i64 0, .int .i64 0, .bool false] := by rw [hX]; exact xb.set 0 (by decide) _
            have bX : Below u1.heap.size u1 X := by rw [hX]; exact bY.setCell (p := ⟨u1.heap.size, 0, none⟩) (Nat.le_refl _) _
            have e0 := (xb.c 0 (by decide)).1
            have ef0 := (xb.c 0 (by decide)).2
            have ez := xb.lt
            go_upto_region 10 with (fail)
            rw [← hY]
            clear hY
            go_upto_region 11 with (fail)
            rw [← hX]
            clear hX e0 ef0 ez xb bY
            obtain ⟨Y2, hY⟩ : ∃ Y2 : World, Y2 = (X.setCell ⟨u1.heap.size, 4, none⟩ (.bool false)) := ⟨_, rfl⟩
            have xb : BoxN Y2 u1.heap.size 5 [.int .i64 3, .int .i64 0, .int .i64 0, .int .i64 0, .bool false] := by rw [hY]; exact xc.set 4 (by decide) _
            have bY : Below u1.heap.size u1 Y2 := by rw [hY]; exact bX.setCell (p := ⟨u1.heap.size, 4, none⟩) (Nat.le_refl _) _
            have e4 := (xc.c 4 (by decide)).1
            have ef4 := (xc.c 4 (by decide)).2
            have ez := xc.lt
            have f4 : X.cell? ⟨b, off + 4, none⟩ = some (.string x4) := (bX.cell (p := ⟨b, off + 4, none⟩) zb).trans d4
            have zbX : b < X.heap.size := Nat.lt_of_lt_of_le zb bX.size
            go_upto_region 14 with (fail)
            rw [← hY]
            clear hY gF gC gA e4 ef4 ez f4 zbX xc bX
            have HP1 : Hid (∀ U, Calls Tryd.prog 22 #[.string x1, .int .i64 5] U fun e w' => e = .returned (.tuple #[.int .i64 A1, .bool B1]) ∧ Below U.heap.size U w') := fun U => by rw [eA1, eB1, ← plain_num (by omega)]; exact plain_any x1 5 U (HZ2.out x1 (by simp)) (by omega) (by omega)
            have HP2 : Hid (∀ U, Calls Tryd.prog 22 #[.string x2, .int .i64 3] U fun e w' => e = .returned (.tuple #[.int .i64 A2, .bool B2]) ∧ Below U.heap.size U w') := fun U => by rw [eA2, eB2, ← plain_num (by omega)]; exact plain_any x2 3 U (HZ2.out x2 (by simp)) (by omega) (by omega)
            have HP3 : Hid (∀ U, Calls Tryd.prog 22 #[.string x3, .int .i64 1048576] U fun e w' => e = .returned (.tuple #[.int .i64 A3, .bool B3]) ∧ Below U.heap.size U w') := fun U => by rw [eA3, eB3, ← plain_num (by omega)]; exact plain_any x3 1048576 U (HZ2.out x3 (by simp)) (by omega) (by omega)
            clear eA1 eB1 eA2 eB2 eA3 eB3 HZ2
            have HX : Hid (∀ U, Below Y2.heap.size Y2 U → BoxN U u1.heap.size 5 [.int .i64 3, .int .i64 0, .int .i64 0, .int .i64 0, .bool false] ∧ Below u1.heap.size u1 U ∧ U.cell? ⟨b, off + 1, none⟩ = some (.string x1) ∧ U.cell? ⟨b, off + 2, none⟩ = some (.string x2) ∧ U.cell? ⟨b, off + 3, none⟩ = some (.string x3) ∧ b < U.heap.size) := fun U hU => by
              have h5 := bY.trans (hU.mono bY.size)
              exact ⟨xb.below hU xb.lt, h5, (h5.cell (p := ⟨b, off + 1, none⟩) zb).trans d1, (h5.cell (p := ⟨b, off + 2, none⟩) zb).trans d2, (h5.cell (p := ⟨b, off + 3, none⟩) zb).trans d3, Nat.lt_of_lt_of_le zb h5.size⟩
            clear d0 d1 d2 d3 d4
            obtain ⟨-, -, d1, d2, d3, zbY⟩ := HX.out Y2 (Below.refl _ _)
            have hC1 := HP1.out Y2
            go_upto_region 15 with (go_at_call 22; refine hC1.mono ?_; rintro e v1 ⟨rfl, bv1⟩)
            clear d1 d2 d3 zbY
            obtain ⟨-, -, d1, d2, d3, zbY⟩ := HX.out v1 bv1
            have hC2 := HP2.out v1
            go_upto_region 16 with (go_at_call 22; refine hC2.mono ?_; rintro e v2 ⟨rfl, bv2⟩)
            clear d1 d2 d3 zbY
            have bv2' := bv1.trans (bv2.mono bv1.size)
            obtain ⟨-, -, d1, d2, d3, zbY⟩ := HX.out v2 bv2'
            have hC3 := HP3.out v2
            go_upto_region 17 with (go_at_call 22; refine hC3.mono ?_; rintro e v3 ⟨rfl, bv3⟩)
            clear d1 d2 d3 zbY
            have bv3' := bv2'.trans (bv3.mono bv2'.size)
            obtain ⟨xb3, bu3, -, -, -, -⟩ := HX.out v3 bv3'
            obtain ⟨rb3, bw3⟩ := HBY.out v3 bu3
            clear HX HP1 HP2 HP3 hC1 hC2 hC3 bv1 bv2 bv3 bv2' xb bY
            cases hB : (B1 && B2 && B3) with
            | false =>
              rw [hB] at HO
              simp only [Bool.false_eq_true, if_false] at HO
              rw [HO.out] at HL
              clear HO
              go_upto_region 18 with (fail)
              all_goals first | (exfalso; simp_all; done) | skip
              all_goals
                obtain ⟨F, hF⟩ : ∃ F : World, F = put5 v3 w.heap.size (.int .i64 0) (.int .i64 0) (.int .i64 0) (.int .i64 0) (.bool false) := ⟨_, rfl⟩
                have fb : BoxN F w.heap.size 5 [.int .i64 0, .int .i64 0, .int .i64 0, .int .i64 0, .bool false] := by rw [hF]; exact put5_box rb3 (.int .i64 0) (.int .i64 0) (.int .i64 0) (.int .i64 0) (.bool false)
                have bF : Below w.heap.size w F := by rw [hF]; exact put5_below bw3 (Nat.le_refl _) (.int .i64 0) (.int .i64 0) (.int .i64 0) (.int .i64 0) (.bool false)
                unfold put5 at hF
                have s0 := (rb3.c 0 (by decide)).1
                have sf0 := (rb3.c 0 (by decide)).2
                have s1 := (rb3.c 1 (by decide)).1
                have sf1 := (rb3.c 1 (by decide)).2
                have s2 := (rb3.c 2 (by decide)).1
                have sf2 := (rb3.c 2 (by decide)).2
                have s3 := (rb3.c 3 (by decide)).1
                have sf3 := (rb3.c 3 (by decide)).2
                have s4 := (rb3.c 4 (by decide)).1
                have sf4 := (rb3.c 4 (by decide)).2
                have sz := rb3.lt
                have k0 : F.cell? ⟨w.heap.size, 0, none⟩ = some (.int .i64 0) := (fb.c 0 (by decide)).1
                have k1 : F.cell? ⟨w.heap.size, 1, none⟩ = some (.int .i64 0) := (fb.c 1 (by decide)).1
                have k2 : F.cell? ⟨w.heap.size, 2, none⟩ = some (.int .i64 0) := (fb.c 2 (by decide)).1
                have k3 : F.cell? ⟨w.heap.size, 3, none⟩ = some (.int .i64 0) := (fb.c 3 (by decide)).1
                have k4 : F.cell? ⟨w.heap.size, 4, none⟩ = some (.bool false) := (fb.c 4 (by decide)).1
                go_wp2
                rw [← hF]
                refine bodyPost_ret (v := .tuple #[.agg #[.int .i64 0, .int .i64 0, .int .i64 0, .int .i64 0, .bool false], .int .i64 4]) (by simp [results, Tryd.results10, go_sem, k0, k1, k2, k3, k4]) rfl ?_
                exact ⟨by rw [HL.out.1, HL.out.2]; rfl, bF⟩
            | true =>
              rw [hB] at HO
              simp only [if_true] at HO
              rw [HO.out] at HL
              obtain ⟨rfl, rfl, rfl⟩ : B1 = true ∧ B2 = true ∧ B3 = true := by cases B1 <;> cases B2 <;> cases B3 <;> simp_all
              clear HO hB
              obtain ⟨Z, hZ⟩ : ∃ Z : World, Z = ((v3.setCell ⟨u1.heap.size, 1, none⟩ (.int .i64 A1)).setCell ⟨u1.heap.size, 2, none⟩ (.int .i64 A2)).setCell ⟨u1.heap.size, 3, none⟩ (.int .i64 A3) := ⟨_, rfl⟩
              have zb3 : BoxN Z u1.heap.size 5 [.int .i64 3, .int .i64 A1, .int .i64 A2, .int .i64 A3, .bool false] := by rw [hZ]; exact ((xb3.set 1 (by decide) _).set 2 (by decide) _).set 3 (by decide) _
              have bZ : Below u1.heap.size u1 Z := by rw [hZ]; exact ((bu3.setCell (p := ⟨u1.heap.size, 1, none⟩) (Nat.le_refl _) _).setCell (p := ⟨u1.heap.size, 2, none⟩) (Nat.le_refl _) _).setCell (p := ⟨u1.heap.size, 3, none⟩) (Nat.le_refl _) _
              obtain ⟨rbZ, bwZ⟩ := HBY.out Z bZ
              have e1 := (xb3.c 1 (by decide)).1
              have ef1 := (xb3.c 1 (by decide)).2
              have e2 := (xb3.c 2 (by decide)).1
              have ef2 := (xb3.c 2 (by decide)).2
              have e3 := (xb3.c 3 (by decide)).1
              have ef3 := (xb3.c 3 (by decide)).2
              have ez := xb3.lt
              go_upto_region 21 with (fail)
              rw [← hZ]
              clear hZ e1 ef1 e2 ef2 e3 ef3 ez rb3 bw3 xb3 bu3
              have z0 := (zb3.c 0 (by decide)).1
              have z1 := (zb3.c 1 (by decide)).1
              have z2 := (zb3.c 2 (by decide)).1
              have z3 := (zb3.c 3 (by decide)).1
              have z4 := (zb3.c 4 (by decide)).1
              have zl := zb3.lt
              obtain ⟨F, hF⟩ : ∃ F : World, F = put5 Z w.heap.size (.int .i64 3) (.int .i64 A1) (.int .i64 A2) (.int .i64 A3) (.bool false) := ⟨_, rfl⟩
              have fb : BoxN F w.heap.size 5 [.int .i64 3, .int .i64 A1, .int .i64 A2, .int .i64 A3, .bool false] := by rw [hF]; exact put5_box rbZ (.int .i64 3) (.int .i64 A1) (.int .i64 A2) (.int .i64 A3) (.bool false)
              have bF : Below w.heap.size w F := by rw [hF]; exact put5_below bwZ (Nat.le_refl _) (.int .i64 3) (.int .i64 A1) (.int .i64 A2) (.int .i64 A3) (.bool false)
              unfold put5 at hF
              have s0 := (rbZ.c 0 (by decide)).1
              have sf0 := (rbZ.c 0 (by decide)).2
              have s1 := (rbZ.c 1 (by decide)).1
              have sf1 := (rbZ.c 1 (by decide)).2
              have s2 := (rbZ.c 2 (by decide)).1
              have sf2 := (rbZ.c 2 (by decide)).2
              have s3 := (rbZ.c 3 (by decide)).1
              have sf3 := (rbZ.c 3 (by decide)).2
              have s4 := (rbZ.c 4 (by decide)).1
              have sf4 := (rbZ.c 4 (by decide)).2
              have sz := rbZ.lt
              have k0 : F.cell? ⟨w.heap.size, 0, none⟩ = some (.int .i64 3) := (fb.c 0 (by decide)).1
              have k1 : F.cell? ⟨w.heap.size, 1, none⟩ = some (.int .i64 A1) := (fb.c 1 (by decide)).1
              have k2 : F.cell? ⟨w.heap.size, 2, none⟩ = some (.int .i64 A2) := (fb.c 2 (by decide)).1
              have k3 : F.cell? ⟨w.heap.size, 3, none⟩ = some (.int .i64 A3) := (fb.c 3 (by decide)).1
              have k4 : F.cell? ⟨w.heap.size, 4, none⟩ = some (.bool false) := (fb.c 4 (by decide)).1
              go_wp2
              rw [← hF]
              refine bodyPost_ret (v := .tuple #[.agg #[.int .i64 3, .int .i64 A1, .int .i64 A2, .int .i64 A3, .bool false], .int .i64 0]) (by simp [results, Tryd.results10, go_sem, k0, k1, k2, k3, k4]) rfl ?_
              exact ⟨by rw [HL.out.1, HL.out.2]; rfl, bF⟩
          | false =>
            simp only [Bool.false_eq_true, if_false] at HO
            rw [HO.out] at HL
            clear HO HZ2 eA1 eB1 eA2 eB2 eA3 eB3
            obtain ⟨Y, hY⟩ : ∃ Y : World, Y = u1.alloc (.cells #[.int .i64 2, .int .i64 0, .int .i64 0, .int .i64 0, .bool false] 25) := ⟨_, rfl⟩
            have bY : Below u1.heap.size u1 Y := by rw [hY]; exact (Below.refl _ _).alloc (Nat.le_refl _) _
            obtain ⟨rbY, buY⟩ := HBY.out Y bY
            go_upto_region 13 with (fail)
            rw [← hY]
            clear hY
            obtain ⟨F, hF⟩ : ∃ F : World, F = put5 Y w.heap.size (.int .i64 0) (.int .i64 0) (.int .i64 0) (.int .i64 0) (.bool false) := ⟨_, rfl⟩
            have fb : BoxN F w.heap.size 5 [.int .i64 0, .int .i64 0, .int .i64 0, .int .i64 0, .bool false] := by rw [hF]; exact put5_box rbY (.int .i64 0) (.int .i64 0) (.int .i64 0) (.int .i64 0) (.bool false)
            have bF : Below w.heap.size w F := by rw [hF]; exact put5_below buY (Nat.le_refl _) (.int .i64 0) (.int .i64 0) (.int .i64 0) (.int .i64 0) (.bool false)
            unfold put5 at hF
            have s0 := (rbY.c 0 (by decide)).1
            have sf0 := (rbY.c 0 (by decide)).2
            have s1 := (rbY.c 1 (by decide)).1
            have sf1 := (rbY.c 1 (by decide)).2
            have s2 := (rbY.c 2 (by decide)).1
            have sf2 := (rbY.c 2 (by decide)).2
            have s3 := (rbY.c 3 (by decide)).1
            have sf3 := (rbY.c 3 (by decide)).2
            have s4 := (rbY.c 4 (by decide)).1
            have sf4 := (rbY.c 4 (by decide)).2
            have sz := rbY.lt
            have k0 : F.cell? ⟨w.heap.size, 0, none⟩ = some (.int .i64 0) := (fb.c 0 (by decide)).1
            have k1 : F.cell? ⟨w.heap.size, 1, none⟩ = some (.int .i64 0) := (fb.c 1 (by decide)).1
            have k2 : F.cell? ⟨w.heap.size, 2, none⟩ = some (.int .i64 0) := (fb.c 2 (by decide)).1
            have k3 : F.cell? ⟨w.heap.size, 3, none⟩ = some (.int .i64 0) := (fb.c 3 (by decide)).1
            have k4 : F.cell? ⟨w.heap.size, 4, none⟩ = some (.bool false) := (fb.c 4 (by decide)).1
            go_wp2
            rw [← hF]
            refine bodyPost_ret (v := .tuple #[.agg #[.int .i64 0, .int .i64 0, .int .i64 0, .int .i64 0, .bool false], .int .i64 4]) (by simp [results, Tryd.results10, go_sem, k0, k1, k2, k3, k4]) rfl ?_
            exact ⟨by rw [HL.out.1, HL.out.2]; rfl, bF⟩
    | [x0, x1], hlen =>
      obtain rfl : bn = 2 := by simpa using hlen.symm
      obtain ⟨b, off, rfl, zb, hc⟩ := (HWD.out u1 (Below.refl _ _)).2.2.2 (by omega)
      have d0 : u1.cell? ⟨b, off, none⟩ = some (.string x0) := hc 0 (by omega)
      have d1 : u1.cell? ⟨b, off + 1, none⟩ = some (.string x1) := hc 1 (by omega)
      have HO : Hid (wordsOf (txt [x0, x1]) = none) := by
        show _ = _
        simp only [txt, List.map_cons, List.map_nil, wordsOf, aboutOf, forceOf]
        repeat' split
        all_goals first | rfl | simp_all
      rw [HO.out] at HL
      clear HO HZ2 hlen

      obtain ⟨Y, hY⟩ : ∃ Y : World, Y = u1.alloc (.cells #[.int .i64 2, .int .i64 0, .int .i64 0, .int .i64 0, .bool false] 25) := ⟨_, rfl⟩
      have bY : Below u1.heap.size u1 Y := by rw [hY]; exact (Below.refl _ _).alloc (Nat.le_refl _) _
      obtain ⟨rbY, buY⟩ := HBY.out Y bY
      go_upto_region 13 with (fail)
      rw [← hY]
      clear hY
      obtain ⟨F, hF⟩ : ∃ F : World, F = put5 Y w.heap.size (.int .i64 0) (.int .i64 0) (.int .i64 0) (.int .i64 0) (.bool false) := ⟨_, rfl⟩
      have fb : BoxN F w.heap.size 5 [.int .i64 0, .int .i64 0, .int .i64 0, .int .i64 0, .bool false] := by rw [hF]; exact put5_box rbY (.int .i64 0) (.int .i64 0) (.int .i64 0) (.int .i64 0) (.bool false)
      have bF : Below w.heap.size w F := by rw [hF]; exact put5_below buY (Nat.le_refl _) (.int .i64 0) (.int .i64 0) (.int .i64 0) (.int .i64 0) (.bool false)
      unfold put5 at hF
      have s0 := (rbY.c 0 (by decide)).1
      have sf0 := (rbY.c 0 (by decide)).2
      have s1 := (rbY.c 1 (by decide)).1
      have sf1 := (rbY.c 1 (by decide)).2
      have s2 := (rbY.c 2 (by decide)).1
      have sf2 := (rbY.c 2 (by decide)).2
      have s3 := (rbY.c 3 (by decide)).1
      have sf3 := (rbY.c 3 (by decide)).2
      have s4 := (rbY.c 4 (by decide)).1
      have sf4 := (rbY.c 4 (by decide)).2
      have sz := rbY.lt
      have k0 : F.cell? ⟨w.heap.size, 0, none⟩ = some (.int .i64 0) := (fb.c 0 (by decide)).1
      have k1 : F.cell? ⟨w.heap.size, 1, none⟩ = some (.int .i64 0) := (fb.c 1 (by decide)).1
      have k2 : F.cell? ⟨w.heap.size, 2, none⟩ = some (.int .i64 0) := (fb.c 2 (by decide)).1
      have k3 : F.cell? ⟨w.heap.size, 3, none⟩ = some (.int .i64 0) := (fb.c 3 (by decide)).1
      have k4 : F.cell? ⟨w.heap.size, 4, none⟩ = some (.bool false) := (fb.c 4 (by decide)).1
      go_wp2
      rw [← hF]
      refine bodyPost_ret (v := .tuple #[.agg #[.int .i64 0, .int .i64 0, .int .i64 0, .int .i64 0, .bool false], .int .i64 4]) (by simp [results, Tryd.results10, go_sem, k0, k1, k2, k3, k4]) rfl ?_
      exact ⟨by rw [HL.out.1, HL.out.2]; rfl, bF⟩
    | [x0, x1, x2], hlen =>
      obtain rfl : bn = 3 := by simpa using hlen.symm
      obtain ⟨b, off, rfl, zb, hc⟩ := (HWD.out u1 (Below.refl _ _)).2.2.2 (by omega)
      have d0 : u1.cell? ⟨b, off, none⟩ = some (.string x0) := hc 0 (by omega)
      have d1 : u1.cell? ⟨b, off + 1, none⟩ = some (.string x1) := hc 1 (by omega)
      have d2 : u1.cell? ⟨b, off + 2, none⟩ = some (.string x2) := hc 2 (by omega)
      have HO : Hid (wordsOf (txt [x0, x1, x2]) = none) := by
        show _ = _
        simp only [txt, List.map_cons, List.map_nil, wordsOf, aboutOf, forceOf]
        repeat' split
        all_goals first | rfl | simp_all
      rw [HO.out] at HL
      clear HO HZ2 hlen

      obtain ⟨Y, hY⟩ : ∃ Y : World, Y = u1.alloc (.cells #[.int .i64 2, .int .i64 0, .int .i64 0, .int .i64 0, .bool false] 25) := ⟨_, rfl⟩
      have bY : Below u1.heap.size u1 Y := by rw [hY]; exact (Below.refl _ _).alloc (Nat.le_refl _) _
      obtain ⟨rbY, buY⟩ := HBY.out Y bY
      go_upto_region 13 with (fail)
      rw [← hY]
      clear hY
      obtain ⟨F, hF⟩ : ∃ F : World, F = put5 Y w.heap.size (.int .i64 0) (.int .i64 0) (.int .i64 0) (.int .i64 0) (.bool false) := ⟨_, rfl⟩
      have fb : BoxN F w.heap.size 5 [.int .i64 0, .int .i64 0, .int .i64 0, .int .i64 0, .bool false] := by rw [hF]; exact put5_box rbY (.int .i64 0) (.int .i64 0) (.int .i64 0) (.int .i64 0) (.bool false)
      have bF : Below w.heap.size w F := by rw [hF]; exact put5_below buY (Nat.le_refl _) (.int .i64 0) (.int .i64 0) (.int .i64 0) (.int .i64 0) (.bool false)
      unfold put5 at hF
      have s0 := (rbY.c 0 (by decide)).1
      have sf0 := (rbY.c 0 (by decide)).2
      have s1 := (rbY.c 1 (by decide)).1
      have sf1 := (rbY.c 1 (by decide)).2
      have s2 := (rbY.c 2 (by decide)).1
      have sf2 := (rbY.c 2 (by decide)).2
      have s3 := (rbY.c 3 (by decide)).1
      have sf3 := (rbY.c 3 (by decide)).2
      have s4 := (rbY.c 4 (by decide)).1
      have sf4 := (rbY.c 4 (by decide)).2
      have sz := rbY.lt
      have k0 : F.cell? ⟨w.heap.size, 0, none⟩ = some (.int .i64 0) := (fb.c 0 (by decide)).1
      have k1 : F.cell? ⟨w.heap.size, 1, none⟩ = some (.int .i64 0) := (fb.c 1 (by decide)).1
      have k2 : F.cell? ⟨w.heap.size, 2, none⟩ = some (.int .i64 0) := (fb.c 2 (by decide)).1
      have k3 : F.cell? ⟨w.heap.size, 3, none⟩ = some (.int .i64 0) := (fb.c 3 (by decide)).1
      have k4 : F.cell? ⟨w.heap.size, 4, none⟩ = some (.bool false) := (fb.c 4 (by decide)).1
      go_wp2
      rw [← hF]
      refine bodyPost_ret (v := .tuple #[.agg #[.int .i64 0, .int .i64 0, .int .i64 0, .int .i64 0, .bool false], .int .i64 4]) (by simp [results, Tryd.results10, go_sem, k0, k1, k2, k3, k4]) rfl ?_
      exact ⟨by rw [HL.out.1, HL.out.2]; rfl, bF⟩
    | x0 :: x1 :: x2 :: x3 :: x4 :: x5 :: xr, hlen =>
      have h6 : 6 ≤ bn := by rw [← hlen]; simp
      have n1 : ¬ (bn : Int) = 1 := by omega
      have n4 : ¬ (bn : Int) = 4 := by omega
      have n5 : ¬ (bn : Int) = 5 := by omega
      have HO : Hid (wordsOf (txt (x0 :: x1 :: x2 :: x3 :: x4 :: x5 :: xr)) = none) := by
        show _ = _
        simp only [txt, List.map_cons, wordsOf, aboutOf, forceOf]
        repeat' split
        all_goals first | rfl | simp_all
      rw [HO.out] at HL
      clear HO HZ2 hlen

      obtain ⟨Y, hY⟩ : ∃ Y : World, Y = u1.alloc (.cells #[.int .i64 2, .int .i64 0, .int .i64 0, .int .i64 0, .bool false] 25) := ⟨_, rfl⟩
      have bY : Below u1.heap.size u1 Y := by rw [hY]; exact (Below.refl _ _).alloc (Nat.le_refl _) _
      obtain ⟨rbY, buY⟩ := HBY.out Y bY
      go_upto_region 13 with (fail)
      rw [← hY]
      clear hY
      obtain ⟨F, hF⟩ : ∃ F : World, F = put5 Y w.heap.size (.int .i64 0) (.int .i64 0) (.int .i64 0) (.int .i64 0) (.bool false) := ⟨_, rfl⟩
      have fb : BoxN F w.heap.size 5 [.int .i64 0, .int .i64 0, .int .i64 0, .int .i64 0, .bool false] := by rw [hF]; exact put5_box rbY (.int .i64 0) (.int .i64 0) (.int .i64 0) (.int .i64 0) (.bool false)
      have bF : Below w.heap.size w F := by rw [hF]; exact put5_below buY (Nat.le_refl _) (.int .i64 0) (.int .i64 0) (.int .i64 0) (.int .i64 0) (.bool false)
      unfold put5 at hF
      have s0 := (rbY.c 0 (by decide)).1
      have sf0 := (rbY.c 0 (by decide)).2
      have s1 := (rbY.c 1 (by decide)).1
      have sf1 := (rbY.c 1 (by decide)).2
      have s2 := (rbY.c 2 (by decide)).1
      have sf2 := (rbY.c 2 (by decide)).2
      have s3 := (rbY.c 3 (by decide)).1
      have sf3 := (rbY.c 3 (by decide)).2
      have s4 := (rbY.c 4 (by decide)).1
      have sf4 := (rbY.c 4 (by decide)).2
      have sz := rbY.lt
      have k0 : F.cell? ⟨w.heap.size, 0, none⟩ = some (.int .i64 0) := (fb.c 0 (by decide)).1
      have k1 : F.cell? ⟨w.heap.size, 1, none⟩ = some (.int .i64 0) := (fb.c 1 (by decide)).1
      have k2 : F.cell? ⟨w.heap.size, 2, none⟩ = some (.int .i64 0) := (fb.c 2 (by decide)).1
      have k3 : F.cell? ⟨w.heap.size, 3, none⟩ = some (.int .i64 0) := (fb.c 3 (by decide)).1
      have k4 : F.cell? ⟨w.heap.size, 4, none⟩ = some (.bool false) := (fb.c 4 (by decide)).1
      go_wp2
      rw [← hF]
      refine bodyPost_ret (v := .tuple #[.agg #[.int .i64 0, .int .i64 0, .int .i64 0, .int .i64 0, .bool false], .int .i64 4]) (by simp [results, Tryd.results10, go_sem, k0, k1, k2, k3, k4]) rfl ?_
      exact ⟨by rw [HL.out.1, HL.out.2]; rfl, bF⟩
end Go.Proofs.YtgohpgollpjlnaaDoor.Cn
/- The walk of the law ConsoleReads: at any line it returns true and leaves what was in memory. -/
namespace Go.Proofs.YtgohpgollpjlnaaDoor.Cn
open Go.ChangeShapes Go.WideShapes Go.ChangeAt Go.RowKit
open Go.Proofs.YtgohpgollpjlnaaDoor.St (BoxN boxn_new)
set_option linter.unusedVariables false

set_option maxRecDepth 100000 in
set_option maxHeartbeats 4000000 in
theorem consoleReads_walk (s : ByteArray) (w : World) (hs : s.size ≤ maxLen) (hT : ∀ U, Below w.heap.size w U → CnW U) :
    Calls Tryd.prog 3 #[.string s] w fun e w' => e = .returned (.bool true) ∧ Below w.heap.size w w' := by
  have hR := read_all s w hT
  have hC : Hid (∀ U, Calls Tryd.prog 10 #[.string s] U fun e w' => isLine U w' e (lineCmd s.data.toList) (lineErr s.data.toList)) := fun U => commandRef_any s U
  obtain ⟨⟨xk, xl, xs, xn, xy⟩, ex⟩ : ∃ c, c = lineCmd s.data.toList := ⟨_, rfl⟩
  obtain ⟨E, eE⟩ : ∃ c, c = lineErr s.data.toList := ⟨_, rfl⟩
  rw [← ex, ← eE] at hR hC
  simp only [Cmd.val] at hR
  clear ex eE hT hs
  go_enter Tryd.func3, Tryd.ntmps3
  go_upto_region 2 with (go_at_call 9; refine hR.mono ?_; rintro e u1 ⟨rfl, b1⟩)
  obtain ⟨X, hX⟩ : ∃ X : World, X = u1.alloc (.cells #[.int .i64 xk, .int .i64 xl, .int .i64 xs, .int .i64 xn, .bool xy] 25) := ⟨_, rfl⟩
  have xb : BoxN X u1.heap.size 5 [.int .i64 xk, .int .i64 xl, .int .i64 xs, .int .i64 xn, .bool xy] := by rw [hX]; exact boxn_new u1 #[.int .i64 xk, .int .i64 xl, .int .i64 xs, .int .i64 xn, .bool xy] 25 5 rfl
  have bX : Below w.heap.size w X := by rw [hX]; exact b1.alloc b1.size _
  rw [← hX]
  clear hX hR b1
  have hC1 := hC.out X
  simp only [isLine, Cmd.val] at hC1
  go_upto_region 3 with (go_at_call 10; refine hC1.mono ?_; rintro e u2 ⟨rfl, b2⟩)
  obtain ⟨Y, hY⟩ : ∃ Y : World, Y = u2.alloc (.cells #[.int .i64 xk, .int .i64 xl, .int .i64 xs, .int .i64 xn, .bool xy] 25) := ⟨_, rfl⟩
  have yb : BoxN Y u2.heap.size 5 [.int .i64 xk, .int .i64 xl, .int .i64 xs, .int .i64 xn, .bool xy] := by rw [hY]; exact boxn_new u2 #[.int .i64 xk, .int .i64 xl, .int .i64 xs, .int .i64 xn, .bool xy] 25 5 rfl
  have bY2 : Below X.heap.size X Y := by rw [hY]; exact b2.alloc b2.size _
  have bY : Below w.heap.size w Y := bX.trans (bY2.mono bX.size)
  have xb2 := xb.below bY2 xb.lt
  rw [← hY]
  clear hY hC hC1 b2 bX bY2 xb
  have x0 := (xb2.c 0 (by decide)).1
  have x1 := (xb2.c 1 (by decide)).1
  have x2 := (xb2.c 2 (by decide)).1
  have x3 := (xb2.c 3 (by decide)).1
  have x4 := (xb2.c 4 (by decide)).1
  have xz := xb2.lt
  have y0 := (yb.c 0 (by decide)).1
  have y1 := (yb.c 1 (by decide)).1
  have y2 := (yb.c 2 (by decide)).1
  have y3 := (yb.c 3 (by decide)).1
  have y4 := (yb.c 4 (by decide)).1
  have yz := yb.lt
  clear xb2 yb
  go_wp2
  go_ret
  exact ⟨rfl, bY⟩
end Go.Proofs.YtgohpgollpjlnaaDoor.Cn
