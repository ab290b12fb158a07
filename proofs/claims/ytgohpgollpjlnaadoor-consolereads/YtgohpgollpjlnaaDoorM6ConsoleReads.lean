/- Texts of this claim, one behind the other. -/
import Derived.Test.YtgohpgollpjlnaaDoorM5ConsoleReads
import Derived.Deep.RegionLaw
import Derived.Deep.AppendLies
import Derived.Test.YtgohpgollpjlnaaDoorM3ConsoleReads
/- What console.force, command and Read answer. -/
namespace Go.Proofs.YtgohpgollpjlnaaDoor.Cn
open Go.ChangeShapes Go.WideShapes Go.ChangeAt Go.RowKit
open Go.Proofs.YtgohpgollpjlnaaDoor.St (BoxN boxn_new)
set_option linter.unusedVariables false

theorem str_size (U : World) : (sizeOf (Tryd.prog.elem 41)).run Tryd.prog U = .ok 1 U := by kernel_rfl
theorem str_take (ta : Option Addr) (tl tc k : Nat) (hk : k ≤ tc) (U : World) : (Instr.sliceAt 41 (.slice ta tl tc) none (some (.int .i64 (k : Int))) none).run Tryd.prog U = .ok (.slice ta k tc) U := by
  refine (run_sliceAt_slice (P := Tryd.prog) (w := U) 41 (.slice ta tl tc) none (some (.int .i64 _)) none (by kernel_rfl)).trans ?_
  rw [run_slice_h (P := Tryd.prog) (t := 41) (a := ta) (len := tl) (cap := tc) (w := U) (by kernel_rfl) .i64 (k : Int) (by omega) (by omega), str_size]
  cases ta <;> simp [sliced, Result.andThen, Addr.add]
theorem str_drop (ta : Option Addr) (tl tc k : Nat) (hk : k ≤ tl) (hc : tl ≤ tc) (ys : List ByteArray) : ∃ (pa : Option Addr) (pc : Nat), (∀ U : World, (Instr.sliceAt 41 (.slice ta tl tc) (some (.int .i64 (k : Int))) none none).run Tryd.prog U = .ok (.slice pa (tl - k) pc) U) ∧ ∀ U, IsStrs U ta tl tc ys → IsStrs U pa (tl - k) pc (ys.drop k) := by
  refine ⟨if tc = k then ta else ta.map (·.add (k * 1)), tc - k, fun U => ?_, fun U h => ?_⟩
  · refine (run_sliceAt_slice (P := Tryd.prog) (w := U) 41 (.slice ta tl tc) (some (.int .i64 _)) none none (by kernel_rfl)).trans ?_
    rw [run_slice_l (P := Tryd.prog) (t := 41) (a := ta) (len := tl) (cap := tc) (w := U) (by kernel_rfl) .i64 (k : Int) (by omega) (by omega), str_size]
    simp [sliced, Result.andThen]
  · obtain ⟨h1, h2, h3, h5⟩ := h
    refine ⟨by simp; omega, by omega, by omega, fun h0 => ?_⟩
    obtain ⟨b, off, e, hz, hcl⟩ := h5 (by omega)
    refine ⟨b, off + k, ?_, hz, fun i hi => ?_⟩
    · rw [if_neg (by omega), e]
      simp [Addr.add]
    · have := hcl (k + i) (by omega)
      rw [show off + k + i = off + (k + i) by omega, this]
      simp [List.getD, List.getElem?_drop]
theorem about_yes (kind : Int) (y : Bool) (l : List (List UInt8)) : aboutOf kind y l = (aboutOf kind false l).map (fun c => { c with yes := y }) := by
  match l with
  | [] => rfl
  | [_] => rfl
  | [_, _] => rfl
  | [a, b, c] =>
    simp only [aboutOf]
    cases numOf a 5 <;> cases numOf b 3 <;> cases numOf c 1048576 <;> rfl
  | _ :: _ :: _ :: _ :: _ => rfl
theorem about_no {kind : Int} {y : Bool} {l : List (List UInt8)} {c : Cmd} (h : aboutOf kind y l = some c) : c.yes = y := by
  match l, h with
  | [a, b, d], h =>
    simp only [aboutOf] at h
    cases e1 : numOf a 5 <;> cases e2 : numOf b 3 <;> cases e3 : numOf d 1048576 <;> simp [e1, e2, e3] at h
    rw [← h]
set_option maxRecDepth 100000 in
set_option maxHeartbeats 8000000 in
theorem force_any (a : Option Addr) (n c : Nat) (ws : List ByteArray) (w : World) (h : IsStrs w a n c ws) (hz : ∀ x ∈ ws, x.size ≤ 100) (hT : ∀ U, Below w.heap.size w U → CnW U) :
    Calls Tryd.prog 41 #[.slice a n c] w fun e w' => CmdIs w w' e (forceOf (txt ws)) := by
  obtain ⟨W, hW⟩ : ∃ W : World, W = w.alloc (.cells #[.int .i64 0, .int .i64 0, .int .i64 0, .int .i64 0, .bool false] 25) := ⟨_, rfl⟩
  have bx : BoxN W w.heap.size 5 [.int .i64 0, .int .i64 0, .int .i64 0, .int .i64 0, .bool false] := by rw [hW]; exact boxn_new w #[.int .i64 0, .int .i64 0, .int .i64 0, .int .i64 0, .bool false] 25 5 rfl
  have bW : Below w.heap.size w W := by rw [hW]; exact (Below.refl _ _).alloc (Nat.le_refl _) _
  have HB : Hid (∀ U, Below W.heap.size W U → BoxN U w.heap.size 5 [.int .i64 0, .int .i64 0, .int .i64 0, .int .i64 0, .bool false] ∧ Below w.heap.size w U) := fun U hU => ⟨bx.below hU bx.lt, bW.trans (hU.mono bW.size)⟩
  have hlen := h.1
  have hnc := h.2.1
  have hcm := h.2.2.1
  unfold maxLen at hcm
  by_cases h4 : n = 4
  · subst h4
    obtain ⟨b, off, rfl, hb, hc⟩ := h.2.2.2 (by omega)
    match ws, hlen with
    | [x, y, z, d], _ =>
      have k3 := hc 3 (by omega)
      have hI3 : IsStrs w (some ⟨b, off, none⟩) 3 c [x, y, z] := ⟨rfl, by omega, h.2.2.1, fun _ => ⟨b, off, rfl, hb, fun i hi => by
        rw [hc i (by omega)]
        rcases (by omega : i = 0 ∨ i = 1 ∨ i = 2) with rfl | rfl | rfl <;> rfl⟩⟩
      simp only [List.getD_cons_zero, List.getD_cons_succ] at k3
      have HK : Hid (∀ U, Below w.heap.size w U → U.cell? ⟨b, off + 3, none⟩ = some (.string d) ∧ b < U.heap.size) := fun U hU => ⟨(hU.cell (p := ⟨b, off + 3, none⟩) hb).trans k3, Nat.lt_of_lt_of_le hb hU.size⟩
      have hA := about_any 3 (some ⟨b, off, none⟩) 3 c [x, y, z] W (hI3.below bW) (fun q hq => hz q (by simp at hq ⊢; rcases hq with h | h | h <;> simp [h])) (fun U hU => hT U (bW.trans (hU.mono bW.size)))
      have hTk := str_take (some ⟨b, off, none⟩) 4 c 3 (by omega) W
      have HO : Hid (forceOf (txt [x, y, z, d]) = if d.data.toList = wCommit then aboutOf 3 true (txt [x, y, z]) else if d.data.toList = wAbort then aboutOf 3 false (txt [x, y, z]) else none) := rfl
      obtain ⟨O, eO⟩ : ∃ O, O = forceOf (txt [x, y, z, d]) := ⟨_, rfl⟩
      rw [← eO] at HO ⊢
      obtain ⟨Q, eQ⟩ : ∃ Q, Q = aboutOf 3 false (txt [x, y, z]) := ⟨_, rfl⟩
      rw [about_yes 3 true, ← eQ] at HO
      rw [← eQ] at hA
      have HQy : Hid (∀ q, Q = some q → q.yes = false) := fun q hq => about_no (eQ.symm.trans hq)
      clear eO eQ k3 hc h hT hz bx hI3
      have eT : d.toList = d.data.toList := Go.ByteArray.toList_eq d
      obtain ⟨D1, eD1⟩ : ∃ D, D = (d.toList == [99, 111, 109, 109, 105, 116]) := ⟨_, rfl⟩
      obtain ⟨D2, eD2⟩ : ∃ D, D = (d.toList == [97, 98, 111, 114, 116]) := ⟨_, rfl⟩
      have HO2 : Hid (O = if D1 = true then Q.map (fun c => { c with yes := true }) else if D2 = true then Q else none) := by
        show _ = _
        rw [HO.out, eD1, eD2, eT]
        by_cases h1 : d.data.toList = wCommit
        · have g1 : (d.data.toList == [99, 111, 109, 109, 105, 116]) = true := by rw [h1]; rfl
          rw [if_pos h1, g1]
          rfl
        · have g1 : (d.data.toList == [99, 111, 109, 109, 105, 116]) = false := by simpa [wCommit] using h1
          rw [if_neg h1, g1]
          by_cases h2 : d.data.toList = wAbort
          · have g2 : (d.data.toList == [97, 98, 111, 114, 116]) = true := by rw [h2]; rfl
            rw [if_pos h2, g2]
            rfl
          · have g2 : (d.data.toList == [97, 98, 111, 114, 116]) = false := by simpa [wAbort] using h2
            rw [if_neg h2, g2]
            rfl
      clear HO eT
      go_enter Tryd.func41, Tryd.ntmps41
      go_upto_region 3 with (fail)
      rw [← hW]
      clear hW
      go_upto_region 4 with (go_at_call 40; refine hA.mono ?_; rintro e u1 ⟨⟨xk, xl, xs, xn, xy⟩, rfl, hx1, hu1⟩; simp only [Cmd.val])
      have b1 : Below w.heap.size w u1 := bW.trans (hu1.mono bW.size)
      obtain ⟨bx1, -⟩ := HB.out u1 hu1
      obtain ⟨X, hX⟩ : ∃ X : World, X = u1.alloc (.cells #[.int .i64 xk, .int .i64 xl, .int .i64 xs, .int .i64 xn, .bool xy] 25) := ⟨_, rfl⟩
      have xb : BoxN X u1.heap.size 5 [.int .i64 xk, .int .i64 xl, .int .i64 xs, .int .i64 xn, .bool xy] := by rw [hX]; exact boxn_new u1 #[.int .i64 xk, .int .i64 xl, .int .i64 xs, .int .i64 xn, .bool xy] 25 5 rfl
      have bX : Below u1.heap.size u1 X := by rw [hX]; exact (Below.refl _ _).alloc (Nat.le_refl _) _
      have hne : w.heap.size < u1.heap.size := bx1.lt
      have bwX : Below w.heap.size w X := b1.trans (bX.mono b1.size)
      have rb := bx1.below bX bx1.lt
      rw [← hX]
      clear hX bx1 HB hA hTk hu1 b1 bX bW
      obtain ⟨d0, d1⟩ := HK.out X bwX
      have x0 : X.cell? ⟨u1.heap.size, 0, none⟩ = some (.int .i64 xk) := (xb.c 0 (by decide)).1
      have xf0 := (xb.c 0 (by decide)).2
      have x1 : X.cell? ⟨u1.heap.size, 1, none⟩ = some (.int .i64 xl) := (xb.c 1 (by decide)).1
      have xf1 := (xb.c 1 (by decide)).2
      have x2 : X.cell? ⟨u1.heap.size, 2, none⟩ = some (.int .i64 xs) := (xb.c 2 (by decide)).1
      have xf2 := (xb.c 2 (by decide)).2
      have x3 : X.cell? ⟨u1.heap.size, 3, none⟩ = some (.int .i64 xn) := (xb.c 3 (by decide)).1
      have xf3 := (xb.c 3 (by decide)).2
      have x4 : X.cell? ⟨u1.heap.size, 4, none⟩ = some (.bool xy) := (xb.c 4 (by decide)).1
      have xf4 := (xb.c 4 (by decide)).2
      have xz := xb.lt
      go_upto_region 5 with (fail)
      rw [← eD1]
      obtain ⟨Y, hY⟩ : ∃ Y : World, Y = X.setCell ⟨u1.heap.size, 4, none⟩ (.bool D1) := ⟨_, rfl⟩
      have yb : BoxN Y u1.heap.size 5 [.int .i64 xk, .int .i64 xl, .int .i64 xs, .int .i64 xn, .bool D1] := by rw [hY]; exact xb.set 4 (by decide) _
      have rb2 : BoxN Y w.heap.size 5 [.int .i64 0, .int .i64 0, .int .i64 0, .int .i64 0, .bool false] := by rw [hY]; exact rb.far (by omega)
      have bY : Below w.heap.size w Y := by rw [hY]; exact bwX.setCell (p := ⟨u1.heap.size, 4, none⟩) (by show w.heap.size ≤ u1.heap.size; omega) _
      rw [← hY]
      clear hY x0 x1 x2 x3 x4 xf0 xf1 xf2 xf3 xf4 xz xb rb d0 d1 bwX
      obtain ⟨d0, d1⟩ := HK.out Y bY
      have y0 : Y.cell? ⟨u1.heap.size, 0, none⟩ = some (.int .i64 xk) := (yb.c 0 (by decide)).1
      have y1 : Y.cell? ⟨u1.heap.size, 1, none⟩ = some (.int .i64 xl) := (yb.c 1 (by decide)).1
      have y2 : Y.cell? ⟨u1.heap.size, 2, none⟩ = some (.int .i64 xs) := (yb.c 2 (by decide)).1
      have y3 : Y.cell? ⟨u1.heap.size, 3, none⟩ = some (.int .i64 xn) := (yb.c 3 (by decide)).1
      have y4 : Y.cell? ⟨u1.heap.size, 4, none⟩ = some (.bool D1) := (yb.c 4 (by decide)).1
      have yz := yb.lt
      have r0 : Y.cell? ⟨w.heap.size, 0, none⟩ = some (.int .i64 0) := (rb2.c 0 (by decide)).1
      have rf0 := (rb2.c 0 (by decide)).2
      have r1 : Y.cell? ⟨w.heap.size, 1, none⟩ = some (.int .i64 0) := (rb2.c 1 (by decide)).1
      have rf1 := (rb2.c 1 (by decide)).2
      have r2 : Y.cell? ⟨w.heap.size, 2, none⟩ = some (.int .i64 0) := (rb2.c 2 (by decide)).1
      have rf2 := (rb2.c 2 (by decide)).2
      have r3 : Y.cell? ⟨w.heap.size, 3, none⟩ = some (.int .i64 0) := (rb2.c 3 (by decide)).1
      have rf3 := (rb2.c 3 (by decide)).2
      have r4 : Y.cell? ⟨w.heap.size, 4, none⟩ = some (.bool false) := (rb2.c 4 (by decide)).1
      have rf4 := (rb2.c 4 (by decide)).2
      have rz := rb2.lt
      obtain ⟨F, hF⟩ : ∃ F : World, F = (((((Y.setCell ⟨w.heap.size, 0, none⟩ (.int .i64 xk)).setCell ⟨w.heap.size, 1, none⟩ (.int .i64 xl)).setCell ⟨w.heap.size, 2, none⟩ (.int .i64 xs)).setCell ⟨w.heap.size, 3, none⟩ (.int .i64 xn)).setCell ⟨w.heap.size, 4, none⟩ (.bool D1)) := ⟨_, rfl⟩
      have k0 : F.cell? ⟨w.heap.size, 0, none⟩ = some (.int .i64 xk) := by rw [hF]; go_simp
      have k1 : F.cell? ⟨w.heap.size, 1, none⟩ = some (.int .i64 xl) := by rw [hF]; go_simp
      have k2 : F.cell? ⟨w.heap.size, 2, none⟩ = some (.int .i64 xs) := by rw [hF]; go_simp
      have k3 : F.cell? ⟨w.heap.size, 3, none⟩ = some (.int .i64 xn) := by rw [hF]; go_simp
      have k4 : F.cell? ⟨w.heap.size, 4, none⟩ = some (.bool D1) := by rw [hF]; go_simp
      have HFb : Hid (Below w.heap.size w F) := by rw [hF]; exact (((((bY.setCell (p := ⟨w.heap.size, 0, none⟩) (by simp) _).setCell (p := ⟨w.heap.size, 1, none⟩) (by simp) _).setCell (p := ⟨w.heap.size, 2, none⟩) (by simp) _).setCell (p := ⟨w.heap.size, 3, none⟩) (by simp) _).setCell (p := ⟨w.heap.size, 4, none⟩) (by simp) _)
      have HD : Hid (∀ B : Bool, B = O.isSome → CmdIs w F.drew (.returned (.tuple #[.agg #[.int .i64 xk, .int .i64 xl, .int .i64 xs, .int .i64 xn, .bool D1], .bool B])) O) := fun B hB => by
        refine ⟨⟨xk, xl, xs, xn, D1⟩, by rw [hB]; rfl, fun c hc => ?_, HFb.out.drew⟩
        rw [HO2.out] at hc
        cases hQ : Q with
        | none => rw [hQ] at hc; cases D1 <;> cases D2 <;> simp at hc
        | some q =>
          have hq := hx1 q hQ
          have hy := HQy.out q hQ
          subst hq
          simp only at hy
          subst hy
          rw [hQ] at hc
          cases D1 <;> cases D2 <;> simp at hc <;> (subst hc; rfl)
      have HO3 : Hid (O.isSome = (Q.isSome && (D1 || D2))) := by
        show _ = _
        rw [HO2.out]
        cases Q <;> cases D1 <;> cases D2 <;> rfl
      clear HO2 eD1 HK yb rb2 bY HFb hx1
      have eD2' : (d.toList == [97, 98, 111, 114, 116]) = D2 := eD2.symm
      clear eD2
      obtain ⟨BQ, eBQ⟩ : ∃ B, B = Q.isSome := ⟨_, rfl⟩
      rw [← eBQ] at HO3 ⊢
      clear eBQ
      cases BQ <;> cases D1 <;> cases D2
      all_goals
        go_region
        rw [← hF]
        go_wp2
        refine bodyPost_ret (v := .tuple #[.agg #[.int .i64 xk, .int .i64 xl, .int .i64 xs, .int .i64 xn, .bool _], .bool _]) (by simp [results, Tryd.results41, go_sem, k0, k1, k2, k3, k4]) rfl (HD.out _ HO3.out.symm)
  · have hne : ((n : Int) != 4) = true := by simp; omega
    have HO : Hid (forceOf (txt ws) = none) := by
      show _ = _
      match ws, hlen with
      | [], _ => rfl
      | [_], _ => rfl
      | [_, _], _ => rfl
      | [_, _, _], _ => rfl
      | [_, _, _, _], hl => exact absurd hl (by simp; omega)
      | _ :: _ :: _ :: _ :: _ :: _, _ => rfl
    obtain ⟨O, eO⟩ : ∃ O, O = forceOf (txt ws) := ⟨_, rfl⟩
    rw [← eO] at HO ⊢
    clear eO
    have s0 : W.cell? ⟨w.heap.size, 0, none⟩ = some (.int .i64 0) := (bx.c 0 (by decide)).1
    have sf0 := (bx.c 0 (by decide)).2
    have s1 : W.cell? ⟨w.heap.size, 1, none⟩ = some (.int .i64 0) := (bx.c 1 (by decide)).1
    have sf1 := (bx.c 1 (by decide)).2
    have s2 : W.cell? ⟨w.heap.size, 2, none⟩ = some (.int .i64 0) := (bx.c 2 (by decide)).1
    have sf2 := (bx.c 2 (by decide)).2
    have s3 : W.cell? ⟨w.heap.size, 3, none⟩ = some (.int .i64 0) := (bx.c 3 (by decide)).1
    have sf3 := (bx.c 3 (by decide)).2
    have s4 : W.cell? ⟨w.heap.size, 4, none⟩ = some (.bool false) := (bx.c 4 (by decide)).1
    have sf4 := (bx.c 4 (by decide)).2
    have sz := bx.lt
    obtain ⟨F, hF⟩ : ∃ F : World, F = (((((W.setCell ⟨w.heap.size, 0, none⟩ (.int .i64 0)).setCell ⟨w.heap.size, 1, none⟩ (.int .i64 0)).setCell ⟨w.heap.size, 2, none⟩ (.int .i64 0)).setCell ⟨w.heap.size, 3, none⟩ (.int .i64 0)).setCell ⟨w.heap.size, 4, none⟩ (.bool false)) := ⟨_, rfl⟩
    have k0 : F.cell? ⟨w.heap.size, 0, none⟩ = some (.int .i64 0) := by rw [hF]; go_simp
    have k1 : F.cell? ⟨w.heap.size, 1, none⟩ = some (.int .i64 0) := by rw [hF]; go_simp
    have k2 : F.cell? ⟨w.heap.size, 2, none⟩ = some (.int .i64 0) := by rw [hF]; go_simp
    have k3 : F.cell? ⟨w.heap.size, 3, none⟩ = some (.int .i64 0) := by rw [hF]; go_simp
    have k4 : F.cell? ⟨w.heap.size, 4, none⟩ = some (.bool false) := by rw [hF]; go_simp
    have HFb : Hid (Below w.heap.size w F) := by rw [hF]; exact (((((bW.setCell (p := ⟨w.heap.size, 0, none⟩) (by simp) _).setCell (p := ⟨w.heap.size, 1, none⟩) (by simp) _).setCell (p := ⟨w.heap.size, 2, none⟩) (by simp) _).setCell (p := ⟨w.heap.size, 3, none⟩) (by simp) _).setCell (p := ⟨w.heap.size, 4, none⟩) (by simp) _)
    clear bW HB h hT hz bx h4 hlen
    go_enter Tryd.func41, Tryd.ntmps41
    go_upto_region 1 with (fail)
    rw [← hW]
    clear hW
    go_wp2
    rw [← hF]
    refine bodyPost_ret (v := .tuple #[.agg #[.int .i64 0, .int .i64 0, .int .i64 0, .int .i64 0, .bool false], .bool false]) (by simp [results, Tryd.results41, go_sem, k0, k1, k2, k3, k4]) rfl ?_
    exact ⟨Cmd.nil, by rw [HO.out]; rfl, (fun d hd => by rw [HO.out] at hd; cases hd), HFb.out⟩
set_option maxRecDepth 100000 in
set_option maxHeartbeats 8000000 in
theorem command_any (s : ByteArray) (a : Option Addr) (n c : Nat) (ws : List ByteArray) (w : World) (h : IsStrs w a n c ws) (hz : ∀ x ∈ ws, x.size ≤ 100) (hT : ∀ U, Below w.heap.size w U → CnW U) :
    Calls Tryd.prog 20 #[.string s, .slice a n c] w fun e w' => CmdIs w w' e (wordsOf (s.data.toList :: txt ws)) := by
  obtain ⟨W, hW⟩ : ∃ W : World, W = w.alloc (.cells #[.int .i64 0, .int .i64 0, .int .i64 0, .int .i64 0, .bool false] 25) := ⟨_, rfl⟩
  have bx : BoxN W w.heap.size 5 [.int .i64 0, .int .i64 0, .int .i64 0, .int .i64 0, .bool false] := by rw [hW]; exact boxn_new w #[.int .i64 0, .int .i64 0, .int .i64 0, .int .i64 0, .bool false] 25 5 rfl
  have bW : Below w.heap.size w W := by rw [hW]; exact (Below.refl _ _).alloc (Nat.le_refl _) _
  have HB : Hid (∀ U, Below W.heap.size W U → BoxN U w.heap.size 5 [.int .i64 0, .int .i64 0, .int .i64 0, .int .i64 0, .bool false] ∧ Below w.heap.size w U) := fun U hU => ⟨bx.below hU bx.lt, bW.trans (hU.mono bW.size)⟩
  have hlen := h.1
  have hnc := h.2.1
  have hcm := h.2.2.1
  unfold maxLen at hcm
  have eT : s.toList = s.data.toList := Go.ByteArray.toList_eq s
  have HW : Hid (wordsOf (s.data.toList :: txt ws) = if s.data.toList = wList then (if txt ws = [] then some ⟨1, 0, 0, 0, false⟩ else none)
    else if s.data.toList = wAudit then (if txt ws = [] then some ⟨4, 0, 0, 0, false⟩ else none)
    else if s.data.toList = wStatus then aboutOf 2 false (txt ws)
    else if s.data.toList = wForce then forceOf (txt ws)
    else none) := rfl
  have hA := about_any 2 a n c ws W (h.below bW) hz (fun U hU => hT U (bW.trans (hU.mono bW.size)))
  have hF1 := force_any a n c ws W (h.below bW) hz (fun U hU => hT U (bW.trans (hU.mono bW.size)))
  obtain ⟨O, eO⟩ : ∃ O, O = wordsOf (s.data.toList :: txt ws) := ⟨_, rfl⟩
  rw [← eO] at HW ⊢
  obtain ⟨QA, eQA⟩ : ∃ Q, Q = aboutOf 2 false (txt ws) := ⟨_, rfl⟩
  obtain ⟨QF, eQF⟩ : ∃ Q, Q = forceOf (txt ws) := ⟨_, rfl⟩
  rw [← eQA] at HW hA
  rw [← eQF] at HW hF1
  have hnil : (txt ws = []) ↔ n = 0 := by
    unfold txt
    rw [List.map_eq_nil_iff, ← List.length_eq_zero_iff, hlen]
  have HNil : Hid ((txt ws = []) ↔ n = 0) := hnil
  clear eO eQA eQF h hT hz hlen hnil
  by_cases h0 : s.data.toList = wList
  · have g0 : (s.toList == [108, 105, 115, 116]) = true := by rw [eT, h0]; rfl
    have HO : Hid (O = if n = 0 then some ⟨1, 0, 0, 0, false⟩ else none) := by
      show _ = _
      rw [HW.out, if_pos h0]
      by_cases h8 : n = 0
      · rw [if_pos (HNil.out.2 h8), if_pos h8]
      · rw [if_neg (fun e => h8 (HNil.out.1 e)), if_neg h8]
    have s0 : W.cell? ⟨w.heap.size, 0, none⟩ = some (.int .i64 0) := (bx.c 0 (by decide)).1
    have sf0 := (bx.c 0 (by decide)).2
    have s1 : W.cell? ⟨w.heap.size, 1, none⟩ = some (.int .i64 0) := (bx.c 1 (by decide)).1
    have sf1 := (bx.c 1 (by decide)).2
    have s2 : W.cell? ⟨w.heap.size, 2, none⟩ = some (.int .i64 0) := (bx.c 2 (by decide)).1
    have sf2 := (bx.c 2 (by decide)).2
    have s3 : W.cell? ⟨w.heap.size, 3, none⟩ = some (.int .i64 0) := (bx.c 3 (by decide)).1
    have sf3 := (bx.c 3 (by decide)).2
    have s4 : W.cell? ⟨w.heap.size, 4, none⟩ = some (.bool false) := (bx.c 4 (by decide)).1
    have sf4 := (bx.c 4 (by decide)).2
    have sz := bx.lt
    obtain ⟨F, hF⟩ : ∃ F : World, F = (((((W.setCell ⟨w.heap.size, 0, none⟩ (.int .i64 1)).setCell ⟨w.heap.size, 1, none⟩ (.int .i64 0)).setCell ⟨w.heap.size, 2, none⟩ (.int .i64 0)).setCell ⟨w.heap.size, 3, none⟩ (.int .i64 0)).setCell ⟨w.heap.size, 4, none⟩ (.bool false)) := ⟨_, rfl⟩
    have k0 : F.cell? ⟨w.heap.size, 0, none⟩ = some (.int .i64 1) := by rw [hF]; go_simp
    have k1 : F.cell? ⟨w.heap.size, 1, none⟩ = some (.int .i64 0) := by rw [hF]; go_simp
    have k2 : F.cell? ⟨w.heap.size, 2, none⟩ = some (.int .i64 0) := by rw [hF]; go_simp
    have k3 : F.cell? ⟨w.heap.size, 3, none⟩ = some (.int .i64 0) := by rw [hF]; go_simp
    have k4 : F.cell? ⟨w.heap.size, 4, none⟩ = some (.bool false) := by rw [hF]; go_simp
    have HFb : Hid (Below w.heap.size w F) := by rw [hF]; exact (((((bW.setCell (p := ⟨w.heap.size, 0, none⟩) (by simp) _).setCell (p := ⟨w.heap.size, 1, none⟩) (by simp) _).setCell (p := ⟨w.heap.size, 2, none⟩) (by simp) _).setCell (p := ⟨w.heap.size, 3, none⟩) (by simp) _).setCell (p := ⟨w.heap.size, 4, none⟩) (by simp) _)
    clear bW HB bx hA hF1 HW HNil eT h0
    by_cases h8 : n = 0
    · have e8 : ((n : Int) == 0) = true := by simp[h8]
      go_enter Tryd.func20, Tryd.ntmps20
      go_upto_region 1 with (fail)
      rw [← hW]
      clear hW
      go_wp2
      rw [← hF]
      refine bodyPost_ret (v := .tuple #[.agg #[.int .i64 1, .int .i64 0, .int .i64 0, .int .i64 0, .bool false], .bool true]) (by simp [results, Tryd.results20, go_sem, k0, k1, k2, k3, k4]) rfl ?_
      exact ⟨⟨1, 0, 0, 0, false⟩, by rw [HO.out, if_pos h8]; rfl, (fun d hd => by rw [HO.out, if_pos h8] at hd; injection hd), HFb.out⟩
    · have e8 : ((n : Int) == 0) = false := by simp; exact h8
      go_enter Tryd.func20, Tryd.ntmps20
      go_upto_region 1 with (fail)
      rw [← hW]
      clear hW
      go_wp2
      rw [← hF]
      refine bodyPost_ret (v := .tuple #[.agg #[.int .i64 1, .int .i64 0, .int .i64 0, .int .i64 0, .bool false], .bool false]) (by simp [results, Tryd.results20, go_sem, k0, k1, k2, k3, k4]) rfl ?_
      exact ⟨⟨1, 0, 0, 0, false⟩, by rw [HO.out, if_neg h8]; rfl, (fun d hd => by rw [HO.out, if_neg h8] at hd; cases hd), HFb.out⟩
  · have g0 : (s.toList == [108, 105, 115, 116]) = false := by rw [eT]; simpa [wList] using h0
    by_cases h1 : s.data.toList = wAudit
    · have g1 : (s.toList == [97, 117, 100, 105, 116]) = true := by rw [eT, h1]; rfl
      have HO : Hid (O = if n = 0 then some ⟨4, 0, 0, 0, false⟩ else none) := by
        show _ = _
        rw [HW.out, if_neg h0, if_pos h1]
        by_cases h8 : n = 0
        · rw [if_pos (HNil.out.2 h8), if_pos h8]
        · rw [if_neg (fun e => h8 (HNil.out.1 e)), if_neg h8]
      have s0 : W.cell? ⟨w.heap.size, 0, none⟩ = some (.int .i64 0) := (bx.c 0 (by decide)).1
      have sf0 := (bx.c 0 (by decide)).2
      have s1 : W.cell? ⟨w.heap.size, 1, none⟩ = some (.int .i64 0) := (bx.c 1 (by decide)).1
      have sf1 := (bx.c 1 (by decide)).2
      have s2 : W.cell? ⟨w.heap.size, 2, none⟩ = some (.int .i64 0) := (bx.c 2 (by decide)).1
      have sf2 := (bx.c 2 (by decide)).2
      have s3 : W.cell? ⟨w.heap.size, 3, none⟩ = some (.int .i64 0) := (bx.c 3 (by decide)).1
      have sf3 := (bx.c 3 (by decide)).2
      have s4 : W.cell? ⟨w.heap.size, 4, none⟩ = some (.bool false) := (bx.c 4 (by decide)).1
      have sf4 := (bx.c 4 (by decide)).2
      have sz := bx.lt
      obtain ⟨F, hF⟩ : ∃ F : World, F = (((((W.setCell ⟨w.heap.size, 0, none⟩ (.int .i64 4)).setCell ⟨w.heap.size, 1, none⟩ (.int .i64 0)).setCell ⟨w.heap.size, 2, none⟩ (.int .i64 0)).setCell ⟨w.heap.size, 3, none⟩ (.int .i64 0)).setCell ⟨w.heap.size, 4, none⟩ (.bool false)) := ⟨_, rfl⟩
      have k0 : F.cell? ⟨w.heap.size, 0, none⟩ = some (.int .i64 4) := by rw [hF]; go_simp
      have k1 : F.cell? ⟨w.heap.size, 1, none⟩ = some (.int .i64 0) := by rw [hF]; go_simp
      have k2 : F.cell? ⟨w.heap.size, 2, none⟩ = some (.int .i64 0) := by rw [hF]; go_simp
      have k3 : F.cell? ⟨w.heap.size, 3, none⟩ = some (.int .i64 0) := by rw [hF]; go_simp
      have k4 : F.cell? ⟨w.heap.size, 4, none⟩ = some (.bool false) := by rw [hF]; go_simp
      have HFb : Hid (Below w.heap.size w F) := by rw [hF]; exact (((((bW.setCell (p := ⟨w.heap.size, 0, none⟩) (by simp) _).setCell (p := ⟨w.heap.size, 1, none⟩) (by simp) _).setCell (p := ⟨w.heap.size, 2, none⟩) (by simp) _).setCell (p := ⟨w.heap.size, 3, none⟩) (by simp) _).setCell (p := ⟨w.heap.size, 4, none⟩) (by simp) _)
      clear bW HB bx hA hF1 HW HNil eT h0 h1
      by_cases h8 : n = 0
      · have e8 : ((n : Int) == 0) = true := by simp[h8]
        go_enter Tryd.func20, Tryd.ntmps20
        go_upto_region 1 with (fail)
        rw [← hW]
        clear hW
        go_wp2
        rw [← hF]
        refine bodyPost_ret (v := .tuple #[.agg #[.int .i64 4, .int .i64 0, .int .i64 0, .int .i64 0, .bool false], .bool true]) (by simp [results, Tryd.results20, go_sem, k0, k1, k2, k3, k4]) rfl ?_
        exact ⟨⟨4, 0, 0, 0, false⟩, by rw [HO.out, if_pos h8]; rfl, (fun d hd => by rw [HO.out, if_pos h8] at hd; injection hd), HFb.out⟩
      · have e8 : ((n : Int) == 0) = false := by simp; exact h8
        go_enter Tryd.func20, Tryd.ntmps20
        go_upto_region 1 with (fail)
        rw [← hW]
        clear hW
        go_wp2
        rw [← hF]
        refine bodyPost_ret (v := .tuple #[.agg #[.int .i64 4, .int .i64 0, .int .i64 0, .int .i64 0, .bool false], .bool false]) (by simp [results, Tryd.results20, go_sem, k0, k1, k2, k3, k4]) rfl ?_
        exact ⟨⟨4, 0, 0, 0, false⟩, by rw [HO.out, if_neg h8]; rfl, (fun d hd => by rw [HO.out, if_neg h8] at hd; cases hd), HFb.out⟩
    · have g1 : (s.toList == [97, 117, 100, 105, 116]) = false := by rw [eT]; simpa [wAudit] using h1
      by_cases h2 : s.data.toList = wStatus
      · have g2 : (s.toList == [115, 116, 97, 116, 117, 115]) = true := by rw [eT, h2]; rfl
        have HO : Hid (O = QA) := by show _ = _; rw [HW.out, if_neg h0, if_neg h1, if_pos h2]
        clear HW HNil eT hF1 h0 h1 h2 bx
        go_enter Tryd.func20, Tryd.ntmps20
        go_upto_region 1 with (fail)
        rw [← hW]
        clear hW
        go_wp2_with (go_at_call 40; refine hA.mono ?_; rintro e u ⟨⟨xk, xl, xs, xn, xy⟩, rfl, hx, hu⟩; simp only [Cmd.val]; obtain ⟨bxu, bwu⟩ := HB.out u hu; have s0 : u.cell? ⟨w.heap.size, 0, none⟩ = some (.int .i64 0) := (bxu.c 0 (by decide)).1; have sf0 := (bxu.c 0 (by decide)).2; have s1 : u.cell? ⟨w.heap.size, 1, none⟩ = some (.int .i64 0) := (bxu.c 1 (by decide)).1; have sf1 := (bxu.c 1 (by decide)).2; have s2 : u.cell? ⟨w.heap.size, 2, none⟩ = some (.int .i64 0) := (bxu.c 2 (by decide)).1; have sf2 := (bxu.c 2 (by decide)).2; have s3 : u.cell? ⟨w.heap.size, 3, none⟩ = some (.int .i64 0) := (bxu.c 3 (by decide)).1; have sf3 := (bxu.c 3 (by decide)).2; have s4 : u.cell? ⟨w.heap.size, 4, none⟩ = some (.bool false) := (bxu.c 4 (by decide)).1; have sf4 := (bxu.c 4 (by decide)).2; have sz := bxu.lt)
        obtain ⟨F, hF⟩ : ∃ F : World, F = (((((u.setCell ⟨w.heap.size, 0, none⟩ (.int .i64 xk)).setCell ⟨w.heap.size, 1, none⟩ (.int .i64 xl)).setCell ⟨w.heap.size, 2, none⟩ (.int .i64 xs)).setCell ⟨w.heap.size, 3, none⟩ (.int .i64 xn)).setCell ⟨w.heap.size, 4, none⟩ (.bool xy)) := ⟨_, rfl⟩
        have k0 : F.cell? ⟨w.heap.size, 0, none⟩ = some (.int .i64 xk) := by rw [hF]; go_simp
        have k1 : F.cell? ⟨w.heap.size, 1, none⟩ = some (.int .i64 xl) := by rw [hF]; go_simp
        have k2 : F.cell? ⟨w.heap.size, 2, none⟩ = some (.int .i64 xs) := by rw [hF]; go_simp
        have k3 : F.cell? ⟨w.heap.size, 3, none⟩ = some (.int .i64 xn) := by rw [hF]; go_simp
        have k4 : F.cell? ⟨w.heap.size, 4, none⟩ = some (.bool xy) := by rw [hF]; go_simp
        have HFb : Hid (Below w.heap.size w F) := by rw [hF]; exact (((((bwu.setCell (p := ⟨w.heap.size, 0, none⟩) (by simp) _).setCell (p := ⟨w.heap.size, 1, none⟩) (by simp) _).setCell (p := ⟨w.heap.size, 2, none⟩) (by simp) _).setCell (p := ⟨w.heap.size, 3, none⟩) (by simp) _).setCell (p := ⟨w.heap.size, 4, none⟩) (by simp) _)
        rw [← hF]
        refine bodyPost_ret (v := .tuple #[.agg #[.int .i64 xk, .int .i64 xl, .int .i64 xs, .int .i64 xn, .bool xy], .bool QA.isSome]) (by simp [results, Tryd.results20, go_sem, k0, k1, k2, k3, k4]) rfl ?_
        exact ⟨⟨xk, xl, xs, xn, xy⟩, by rw [HO.out]; rfl, (fun d hd => hx d (HO.out.symm.trans hd)), HFb.out⟩
      · have g2 : (s.toList == [115, 116, 97, 116, 117, 115]) = false := by rw [eT]; simpa [wStatus] using h2
        by_cases h3 : s.data.toList = wForce
        · have g3 : (s.toList == [102, 111, 114, 99, 101]) = true := by rw [eT, h3]; rfl
          have HO : Hid (O = QF) := by show _ = _; rw [HW.out, if_neg h0, if_neg h1, if_neg h2, if_pos h3]
          clear HW HNil eT hA h0 h1 h2 h3 bx
          go_enter Tryd.func20, Tryd.ntmps20
          go_upto_region 1 with (fail)
          rw [← hW]
          clear hW
          go_wp2_with (go_at_call 41; refine hF1.mono ?_; rintro e u ⟨⟨xk, xl, xs, xn, xy⟩, rfl, hx, hu⟩; simp only [Cmd.val]; obtain ⟨bxu, bwu⟩ := HB.out u hu; have s0 : u.cell? ⟨w.heap.size, 0, none⟩ = some (.int .i64 0) := (bxu.c 0 (by decide)).1; have sf0 := (bxu.c 0 (by decide)).2; have s1 : u.cell? ⟨w.heap.size, 1, none⟩ = some (.int .i64 0) := (bxu.c 1 (by decide)).1; have sf1 := (bxu.c 1 (by decide)).2; have s2 : u.cell? ⟨w.heap.size, 2, none⟩ = some (.int .i64 0) := (bxu.c 2 (by decide)).1; have sf2 := (bxu.c 2 (by decide)).2; have s3 : u.cell? ⟨w.heap.size, 3, none⟩ = some (.int .i64 0) := (bxu.c 3 (by decide)).1; have sf3 := (bxu.c 3 (by decide)).2; have s4 : u.cell? ⟨w.heap.size, 4, none⟩ = some (.bool false) := (bxu.c 4 (by decide)).1; have sf4 := (bxu.c 4 (by decide)).2; have sz := bxu.lt)
          obtain ⟨F, hF⟩ : ∃ F : World, F = (((((u.setCell ⟨w.heap.size, 0, none⟩ (.int .i64 xk)).setCell ⟨w.heap.size, 1, none⟩ (.int .i64 xl)).setCell ⟨w.heap.size, 2, none⟩ (.int .i64 xs)).setCell ⟨w.heap.size, 3, none⟩ (.int .i64 xn)).setCell ⟨w.heap.size, 4, none⟩ (.bool xy)) := ⟨_, rfl⟩
          have k0 : F.cell? ⟨w.heap.size, 0, none⟩ = some (.int .i64 xk) := by rw [hF]; go_simp
          have k1 : F.cell? ⟨w.heap.size, 1, none⟩ = some (.int .i64 xl) := by rw [hF]; go_simp
          have k2 : F.cell? ⟨w.heap.size, 2, none⟩ = some (.int .i64 xs) := by rw [hF]; go_simp
          have k3 : F.cell? ⟨w.heap.size, 3, none⟩ = some (.int .i64 xn) := by rw [hF]; go_simp
          have k4 : F.cell? ⟨w.heap.size, 4, none⟩ = some (.bool xy) := by rw [hF]; go_simp
          have HFb : Hid (Below w.heap.size w F) := by rw [hF]; exact (((((bwu.setCell (p := ⟨w.heap.size, 0, none⟩) (by simp) _).setCell (p := ⟨w.heap.size, 1, none⟩) (by simp) _).setCell (p := ⟨w.heap.size, 2, none⟩) (by simp) _).setCell (p := ⟨w.heap.size, 3, none⟩) (by simp) _).setCell (p := ⟨w.heap.size, 4, none⟩) (by simp) _)
          rw [← hF]
          refine bodyPost_ret (v := .tuple #[.agg #[.int .i64 xk, .int .i64 xl, .int .i64 xs, .int .i64 xn, .bool xy], .bool QF.isSome]) (by simp [results, Tryd.results20, go_sem, k0, k1, k2, k3, k4]) rfl ?_
          exact ⟨⟨xk, xl, xs, xn, xy⟩, by rw [HO.out]; rfl, (fun d hd => hx d (HO.out.symm.trans hd)), HFb.out⟩
        · have g3 : (s.toList == [102, 111, 114, 99, 101]) = false := by rw [eT]; simpa [wForce] using h3
          have HO : Hid (O = none) := by show _ = _; rw [HW.out, if_neg h0, if_neg h1, if_neg h2, if_neg h3]
          have s0 : W.cell? ⟨w.heap.size, 0, none⟩ = some (.int .i64 0) := (bx.c 0 (by decide)).1
          have sf0 := (bx.c 0 (by decide)).2
          have s1 : W.cell? ⟨w.heap.size, 1, none⟩ = some (.int .i64 0) := (bx.c 1 (by decide)).1
          have sf1 := (bx.c 1 (by decide)).2
          have s2 : W.cell? ⟨w.heap.size, 2, none⟩ = some (.int .i64 0) := (bx.c 2 (by decide)).1
          have sf2 := (bx.c 2 (by decide)).2
          have s3 : W.cell? ⟨w.heap.size, 3, none⟩ = some (.int .i64 0) := (bx.c 3 (by decide)).1
          have sf3 := (bx.c 3 (by decide)).2
          have s4 : W.cell? ⟨w.heap.size, 4, none⟩ = some (.bool false) := (bx.c 4 (by decide)).1
          have sf4 := (bx.c 4 (by decide)).2
          have sz := bx.lt
          obtain ⟨F, hF⟩ : ∃ F : World, F = (((((W.setCell ⟨w.heap.size, 0, none⟩ (.int .i64 0)).setCell ⟨w.heap.size, 1, none⟩ (.int .i64 0)).setCell ⟨w.heap.size, 2, none⟩ (.int .i64 0)).setCell ⟨w.heap.size, 3, none⟩ (.int .i64 0)).setCell ⟨w.heap.size, 4, none⟩ (.bool false)) := ⟨_, rfl⟩
          have k0 : F.cell? ⟨w.heap.size, 0, none⟩ = some (.int .i64 0) := by rw [hF]; go_simp
          have k1 : F.cell? ⟨w.heap.size, 1, none⟩ = some (.int .i64 0) := by rw [hF]; go_simp
          have k2 : F.cell? ⟨w.heap.size, 2, none⟩ = some (.int .i64 0) := by rw [hF]; go_simp
          have k3 : F.cell? ⟨w.heap.size, 3, none⟩ = some (.int .i64 0) := by rw [hF]; go_simp
          have k4 : F.cell? ⟨w.heap.size, 4, none⟩ = some (.bool false) := by rw [hF]; go_simp
          have HFb : Hid (Below w.heap.size w F) := by rw [hF]; exact (((((bW.setCell (p := ⟨w.heap.size, 0, none⟩) (by simp) _).setCell (p := ⟨w.heap.size, 1, none⟩) (by simp) _).setCell (p := ⟨w.heap.size, 2, none⟩) (by simp) _).setCell (p := ⟨w.heap.size, 3, none⟩) (by simp) _).setCell (p := ⟨w.heap.size, 4, none⟩) (by simp) _)
          clear bW HB bx hA hF1 HW HNil eT h0 h1 h2 h3
          go_enter Tryd.func20, Tryd.ntmps20
          go_upto_region 1 with (fail)
          rw [← hW]
          clear hW
          go_wp2
          rw [← hF]
          refine bodyPost_ret (v := .tuple #[.agg #[.int .i64 0, .int .i64 0, .int .i64 0, .int .i64 0, .bool false], .bool false]) (by simp [results, Tryd.results20, go_sem, k0, k1, k2, k3, k4]) rfl ?_
          exact ⟨Cmd.nil, by rw [HO.out]; rfl, (fun d hd => by rw [HO.out] at hd; cases hd), HFb.out⟩
end Go.Proofs.YtgohpgollpjlnaaDoor.Cn
/- What console.Read answers. -/
namespace Go.Proofs.YtgohpgollpjlnaaDoor.Cn
open Go.ChangeShapes Go.WideShapes Go.ChangeAt Go.RowKit
open Go.Proofs.YtgohpgollpjlnaaDoor.St (BoxN boxn_new)
set_option linter.unusedVariables false

theorem nT {u v z : World} (h : Below u.heap.size u v) (k : Below v.heap.size v z) : Below u.heap.size u z := h.trans (k.mono h.size)
theorem spl_len : ∀ (l : List UInt8), ∀ x ∈ spl l, x.length ≤ l.length := by
  intro l
  induction l with
  | nil => intro x hx; simp [spl] at hx; simp [hx]
  | cons c r ih =>
    intro x hx
    rw [spl] at hx
    split at hx
    · rcases List.mem_cons.1 hx with rfl | hx
      · simp
      · have := ih x hx; simp; omega
    · split at hx
      · simp at hx; simp [hx]
      · rename_i y ys e
        rcases List.mem_cons.1 hx with rfl | hx
        · have := ih y (by rw [e]; simp); simp; omega
        · have := ih x (by rw [e]; simp [hx]); simp; omega
theorem words_txt (s : ByteArray) : txt (Lib.splitB ⟨#[32]⟩ 0 (Lib.countB s ⟨#[32]⟩) s) = spl s.data.toList := by
  unfold txt
  rw [Lib.splitB_data]
  exact split_spl s.data.toList.length s.data.toList (Nat.le_refl _)
set_option maxRecDepth 100000 in
set_option maxHeartbeats 8000000 in
theorem read_all (s : ByteArray) (w : World) (hT : ∀ U, Below w.heap.size w U → CnW U) :
    Calls Tryd.prog 9 #[.string s] w fun e w' => e = .returned (.tuple #[(lineCmd s.data.toList).val, .int .i64 (lineErr s.data.toList)]) ∧ Below w.heap.size w w' := by
  obtain ⟨W, hW⟩ : ∃ W : World, W = w.alloc (.cells #[.int .i64 0, .int .i64 0, .int .i64 0, .int .i64 0, .bool false] 25) := ⟨_, rfl⟩
  have bx : BoxN W w.heap.size 5 [.int .i64 0, .int .i64 0, .int .i64 0, .int .i64 0, .bool false] := by rw [hW]; exact boxn_new w #[.int .i64 0, .int .i64 0, .int .i64 0, .int .i64 0, .bool false] 25 5 rfl
  have bW : Below w.heap.size w W := by rw [hW]; exact (Below.refl _ _).alloc (Nat.le_refl _) _
  have HB : Hid (∀ U, Below W.heap.size W U → BoxN U w.heap.size 5 [.int .i64 0, .int .i64 0, .int .i64 0, .int .i64 0, .bool false] ∧ Below w.heap.size w U) := fun U hU => ⟨bx.below hU bx.lt, bW.trans (hU.mono bW.size)⟩
  have hsz : s.data.toList.length = s.size := rfl
  by_cases h60 : 60 < s.size
  · have hlt : (60 : Int) < (s.size : Int) := by omega
    have HL : Hid (lineCmd s.data.toList = Cmd.nil ∧ lineErr s.data.toList = 1) := by unfold lineCmd lineErr; rw [hsz, if_pos h60, if_pos h60]; exact ⟨rfl, rfl⟩
    have s0 : W.cell? ⟨w.heap.size, 0, none⟩ = some (.int .i64 0) := (bx.c 0 (by decide)).1
    have sf0 := (bx.c 0 (by decide)).2
    have s1 : W.cell? ⟨w.heap.size, 1, none⟩ = some (.int .i64 0) := (bx.c 1 (by decide)).1
    have sf1 := (bx.c 1 (by decide)).2
    have s2 : W.cell? ⟨w.heap.size, 2, none⟩ = some (.int .i64 0) := (bx.c 2 (by decide)).1
    have sf2 := (bx.c 2 (by decide)).2
    have s3 : W.cell? ⟨w.heap.size, 3, none⟩ = some (.int .i64 0) := (bx.c 3 (by decide)).1
    have sf3 := (bx.c 3 (by decide)).2
    have s4 : W.cell? ⟨w.heap.size, 4, none⟩ = some (.bool false) := (bx.c 4 (by decide)).1
    have sf4 := (bx.c 4 (by decide)).2
    have sz := bx.lt
    obtain ⟨F, hF⟩ : ∃ F : World, F = (((((W.setCell ⟨w.heap.size, 0, none⟩ (.int .i64 0)).setCell ⟨w.heap.size, 1, none⟩ (.int .i64 0)).setCell ⟨w.heap.size, 2, none⟩ (.int .i64 0)).setCell ⟨w.heap.size, 3, none⟩ (.int .i64 0)).setCell ⟨w.heap.size, 4, none⟩ (.bool false)) := ⟨_, rfl⟩
    have k0 : F.cell? ⟨w.heap.size, 0, none⟩ = some (.int .i64 0) := by rw [hF]; go_simp
    have k1 : F.cell? ⟨w.heap.size, 1, none⟩ = some (.int .i64 0) := by rw [hF]; go_simp
    have k2 : F.cell? ⟨w.heap.size, 2, none⟩ = some (.int .i64 0) := by rw [hF]; go_simp
    have k3 : F.cell? ⟨w.heap.size, 3, none⟩ = some (.int .i64 0) := by rw [hF]; go_simp
    have k4 : F.cell? ⟨w.heap.size, 4, none⟩ = some (.bool false) := by rw [hF]; go_simp
    have HFb : Hid (Below w.heap.size w F) := by rw [hF]; exact (((((bW.setCell (p := ⟨w.heap.size, 0, none⟩) (by simp) _).setCell (p := ⟨w.heap.size, 1, none⟩) (by simp) _).setCell (p := ⟨w.heap.size, 2, none⟩) (by simp) _).setCell (p := ⟨w.heap.size, 3, none⟩) (by simp) _).setCell (p := ⟨w.heap.size, 4, none⟩) (by simp) _)
    clear bW HB bx hT hsz h60
    go_enter Tryd.func9, Tryd.ntmps9
    go_upto_region 1 with (fail)
    rw [← hW]
    clear hW
    go_wp2
    rw [← hF]
    refine bodyPost_ret (v := .tuple #[.agg #[.int .i64 0, .int .i64 0, .int .i64 0, .int .i64 0, .bool false], .int .i64 1]) (by simp [results, Tryd.results9, go_sem, k0, k1, k2, k3, k4]) rfl ?_
    exact ⟨by rw [HL.out.1, HL.out.2]; rfl, HFb.out⟩
  · have hlt : ¬ (60 : Int) < (s.size : Int) := by omega
    have HL : Hid (lineCmd s.data.toList = (wordsOf (spl s.data.toList)).getD Cmd.nil ∧ lineErr s.data.toList = if (wordsOf (spl s.data.toList)).isSome then 0 else 4) := by unfold lineCmd lineErr; rw [hsz, if_neg h60, if_neg h60]; exact ⟨rfl, rfl⟩
    obtain ⟨m, hm⟩ := (hT W bW).mx
    have hSp := Tryd.strings_Split s ⟨#[32]⟩ m W (by omega) hm (by decide)
    have htx := words_txt s
    have hal := Lib.splitB_all ⟨#[32]⟩ (by decide) 0 (Lib.countB s ⟨#[32]⟩) s rfl
    have hcb := Lib.countB_le ⟨#[32]⟩ (by decide) s.size s (Nat.le_refl _)
    obtain ⟨ws, ews⟩ : ∃ ws, ws = Lib.splitB ⟨#[32]⟩ 0 (Lib.countB s ⟨#[32]⟩) s := ⟨_, rfl⟩
    obtain ⟨KC, eK⟩ : ∃ KC, KC = Lib.countB s ⟨#[32]⟩ := ⟨_, rfl⟩
    rw [← ews] at hSp htx hal
    rw [← eK] at hSp hal hcb
    clear ews eK hm
    have hK60 : KC ≤ 60 := by omega
    have hz : ∀ x ∈ ws, x.size ≤ 100 := fun x hx => by
      have h8 : x.data.toList ∈ spl s.data.toList := by rw [← htx]; exact List.mem_map_of_mem hx
      have h9 := spl_len _ _ h8
      have e9 : x.data.toList.length = x.size := rfl
      omega
    obtain ⟨V, hV⟩ : ∃ V : World, V = W.alloc (.cells (ws.map Value.string).toArray 9) := ⟨_, rfl⟩
    rw [← hV] at hSp
    have bV : Below W.heap.size W V := by rw [hV]; exact (Below.refl _ _).alloc (Nat.le_refl _) _
    have hIs : IsStrs V (some ⟨W.heap.size, 0, none⟩) (KC + 1) (KC + 1) ws := by
      refine ⟨hal, Nat.le_refl _, by unfold maxLen; omega, fun _ => ⟨W.heap.size, 0, rfl, by rw [hV]; simp, fun i hi => ?_⟩⟩
      have h8 : (ws.map Value.string).toArray.toList[i]? = some (.string (ws.getD i .empty)) := by
        have hi' : i < ws.length := by omega
        simp [List.getD, hi']
      have h9 := World.news_of_block (heap_alloc_new W (.cells (ws.map Value.string).toArray 9)) i _ h8
      have e8 : (⟨W.heap.size, 0, none⟩ : Addr).add i = ⟨W.heap.size, 0 + i, none⟩ := by by_cases h : i = 0 <;> simp [Addr.add, h]
      rw [e8] at h9
      rw [hV]
      exact h9
    have hn0 : ∃ x r, ws = x :: r := by
      cases ws with
      | nil => simp at hal
      | cons x r => exact ⟨x, r, rfl⟩
    obtain ⟨w0, rest, ew⟩ := hn0
    obtain ⟨pa, epa⟩ : ∃ pa, (if KC = 0 then some (⟨W.heap.size, 0, none⟩ : Addr) else some ⟨W.heap.size, 1, none⟩) = pa := ⟨_, rfl⟩
    have HDr : Hid ((if KC = 0 then some (⟨W.heap.size, 0, none⟩ : Addr) else some ⟨W.heap.size, 1, none⟩) = pa ∧ (1 : Int) ≤ (KC : Int) + 1) := ⟨epa, by omega⟩
    have HDS : ∀ U, IsStrs U (some ⟨W.heap.size, 0, none⟩) (KC + 1) (KC + 1) ws → IsStrs U pa KC KC (ws.drop 1) := fun U h => by
      obtain ⟨h1, h2, h3, h5⟩ := h
      refine ⟨by simp; omega, Nat.le_refl _, by omega, fun h0 => ?_⟩
      obtain ⟨b, off, e, hz2, hcl⟩ := h5 (by omega)
      simp at e
      obtain ⟨rfl, rfl⟩ := e
      refine ⟨W.heap.size, 1, by rw [← epa, if_neg (by omega)], hz2, fun i hi => ?_⟩
      have := hcl (1 + i) (by omega)
      rw [show 0 + (1 + i) = 1 + i by omega] at this
      rw [this]
      simp [List.getD, Nat.add_comm]
    clear epa
    have e1 : ws.drop 1 = rest := by rw [ew]; rfl
    rw [e1] at HDS
    have hrz : ∀ x ∈ rest, x.size ≤ 100 := fun x hx => hz x (by rw [ew]; simp [hx])
    obtain ⟨Q, eQ⟩ : ∃ Q, Q = wordsOf (w0.data.toList :: txt rest) := ⟨_, rfl⟩
    have hQs : wordsOf (spl s.data.toList) = Q := by rw [eQ, ← htx, ew]; rfl
    rw [hQs] at HL
    have bwV : Below w.heap.size w V := bW.trans (bV.mono bW.size)
    have HCm : Hid (∀ U, Below V.heap.size V U → Calls Tryd.prog 20 #[.string w0, .slice pa KC KC] U fun e w' => ∃ (xk xl xs xn : Int) (xy : Bool), e = .returned (.tuple #[.agg #[.int .i64 xk, .int .i64 xl, .int .i64 xs, .int .i64 xn, .bool xy], .bool Q.isSome]) ∧ (∀ c, Q = some c → (⟨xk, xl, xs, xn, xy⟩ : Cmd) = c) ∧ Below U.heap.size U w') := fun U hU => by
      rw [eQ]
      refine (command_any w0 pa KC KC rest U (HDS U (hIs.below hU)) hrz (fun X hX => hT X (bwV.trans ((hU.trans (hX.mono hU.size)).mono bwV.size)))).mono ?_
      rintro e w' ⟨⟨xk, xl, xs, xn, xy⟩, rfl, h1, h2⟩
      exact ⟨xk, xl, xs, xn, xy, rfl, h1, h2⟩
    have HW0 : Hid (∀ U, Below V.heap.size V U → U.cell? ⟨W.heap.size, 0, none⟩ = some (.string w0) ∧ W.heap.size < U.heap.size) := fun U hU => by
      obtain ⟨b, off, e, hl, hc⟩ := (hIs.below hU).2.2.2 (by omega)
      simp at e
      obtain ⟨rfl, rfl⟩ := e
      have := hc 0 (by omega)
      rw [ew] at this
      exact ⟨by simpa using this, hl⟩
    have HBV : Hid (∀ U, Below V.heap.size V U → BoxN U w.heap.size 5 [.int .i64 0, .int .i64 0, .int .i64 0, .int .i64 0, .bool false] ∧ Below w.heap.size w U) := fun U hU => HB.out U (bV.trans (hU.mono bV.size))
    clear hV
    clear hIs HDS hrz hz htx hal e1 ew eQ hQs hT HB bx bW hsz h60 bwV
    go_enter Tryd.func9, Tryd.ntmps9
    go_upto_region 3 with (fail)
    rw [← hW]
    clear hW
    go_upto_region 4 with (go_at_call 19; refine hSp.mono ?_; rintro e u ⟨rfl, hu⟩; rw [hu]; clear hu)
    clear hSp
    refine wp_region_inv (by kernel_rfl) [14, 15, 16, 17, 18, 19, 13, 20, 21, 5, 6] (fun L T u => ∃ (xk : Int) (xl : Int) (xs : Int) (xn : Int) (xy : Bool) (A : Nat), Below V.heap.size V u ∧ (L 0 = true → T 14 = .slice (some ⟨W.heap.size, 0, none⟩) (KC + 1) (KC + 1)) ∧ (L 1 = true → T 15 = .pointer (some ⟨W.heap.size, 0, none⟩)) ∧ (L 2 = true → T 16 = .string w0) ∧ (L 3 = true → T 17 = .slice (some ⟨W.heap.size, 0, none⟩) (KC + 1) (KC + 1)) ∧ (L 4 = true → T 18 = .slice pa KC KC) ∧ (L 5 = true → T 19 = .tuple #[.agg #[.int .i64 xk, .int .i64 xl, .int .i64 xs, .int .i64 xn, .bool xy], .bool Q.isSome]) ∧ (L 6 = true → T 13 = .tuple #[.agg #[.int .i64 xk, .int .i64 xl, .int .i64 xs, .int .i64 xn, .bool xy], .bool Q.isSome]) ∧ (L 7 = true → T 20 = .agg #[.int .i64 xk, .int .i64 xl, .int .i64 xs, .int .i64 xn, .bool xy]) ∧ (L 8 = true → T 21 = .bool Q.isSome) ∧ (L 11 = true → T 6 = .bool Q.isSome) ∧ (L 5 = true → (∀ c, Q = some c → (⟨xk, xl, xs, xn, xy⟩ : Cmd) = c)) ∧ (L 9 = true → (T 5 = .pointer (some ⟨A, 0, none⟩) ∧ V.heap.size ≤ A ∧ A < u.heap.size)) ∧ (L 9 = true → L 10 = false → BoxN u A 5 [.int .i64 0, .int .i64 0, .int .i64 0, .int .i64 0, .bool false]) ∧ (L 10 = true → BoxN u A 5 [.int .i64 xk, .int .i64 xl, .int .i64 xs, .int .i64 xn, .bool xy])) (by decide) (by kernel_rfl) (by kernel_rfl) ?_ ?_ ?_
    · exact ⟨default, default, default, default, default, 0, (Below.refl _ _).drew, nofun, nofun, nofun, nofun, nofun, nofun, nofun, nofun, nofun, nofun, nofun, nofun, nofun, nofun⟩
    · refine ⟨?_, ?_, ?_, ?_, ?_, ?_, ?_, ?_, ?_, ?_, ?_, ?_, trivial⟩
      · rintro L T u hd hk hcl ⟨xk, xl, xs, xn, xy, A, hb, p0, p1, p2, p3, p4, p5, p6, p7, p8, p11, ds, pa9, bz9, bv9⟩ K hK
        simp only [fr, Act.put, List.setIfInBounds_toArray, List.set_cons_zero, List.set_cons_succ, updO] at hK ⊢
        simp [Region.binds] at hd
        rw [if_pos (by rfl)]
        simp only [Oper.wpv]
        go_simp
        exact hK _ _ ⟨xk, xl, xs, xn, xy, A, hb, fun _ => rfl, p1, p2, p3, p4, p5, p6, p7, p8, p11, ds, pa9, bz9, bv9⟩
      · rintro L T u hd hk hcl ⟨xk, xl, xs, xn, xy, A, hb, p0, p1, p2, p3, p4, p5, p6, p7, p8, p11, ds, pa9, bz9, bv9⟩ K hK
        simp only [fr, Act.put, List.setIfInBounds_toArray, List.set_cons_zero, List.set_cons_succ, updO] at hK ⊢
        simp [Region.binds] at hd
        have g0 := p0 (by simp [hd])
        rw [if_pos (by rfl)]
        simp only [Oper.wpv]
        go_simp
        exact hK _ _ ⟨xk, xl, xs, xn, xy, A, hb, p0, fun _ => rfl, p2, p3, p4, p5, p6, p7, p8, p11, ds, pa9, bz9, bv9⟩
      · rintro L T u hd hk hcl ⟨xk, xl, xs, xn, xy, A, hb, p0, p1, p2, p3, p4, p5, p6, p7, p8, p11, ds, pa9, bz9, bv9⟩ K hK
        simp only [fr, Act.put, List.setIfInBounds_toArray, List.set_cons_zero, List.set_cons_succ, updO] at hK ⊢
        simp [Region.binds] at hd
        have g1 := p1 (by simp [hd])
        obtain ⟨x0, x1⟩ := HW0.out u hb
        rw [if_pos (by rfl)]
        simp only [Oper.wpv]
        go_simp
        exact hK _ _ ⟨xk, xl, xs, xn, xy, A, hb, p0, p1, fun _ => rfl, p3, p4, p5, p6, p7, p8, p11, ds, pa9, bz9, bv9⟩
      · rintro L T u hd hk hcl ⟨xk, xl, xs, xn, xy, A, hb, p0, p1, p2, p3, p4, p5, p6, p7, p8, p11, ds, pa9, bz9, bv9⟩ K hK
        simp only [fr, Act.put, List.setIfInBounds_toArray, List.set_cons_zero, List.set_cons_succ, updO] at hK ⊢
        simp [Region.binds] at hd
        rw [if_pos (by rfl)]
        simp only [Oper.wpv]
        go_simp
        exact hK _ _ ⟨xk, xl, xs, xn, xy, A, hb, p0, p1, p2, fun _ => rfl, p4, p5, p6, p7, p8, p11, ds, pa9, bz9, bv9⟩
      · rintro L T u hd hk hcl ⟨xk, xl, xs, xn, xy, A, hb, p0, p1, p2, p3, p4, p5, p6, p7, p8, p11, ds, pa9, bz9, bv9⟩ K hK
        simp only [fr, Act.put, List.setIfInBounds_toArray, List.set_cons_zero, List.set_cons_succ, updO] at hK ⊢
        simp [Region.binds] at hd
        have g3 := p3 (by simp [hd])
        obtain ⟨hDr, hD1⟩ := HDr.out
        rw [if_pos (by rfl)]
        simp only [Oper.wpv]
        go_simp
        exact hK _ _ ⟨xk, xl, xs, xn, xy, A, hb, p0, p1, p2, p3, fun _ => rfl, p5, p6, p7, p8, p11, ds, pa9, bz9, bv9⟩
      · rintro L T u hd hk hcl ⟨xk, xl, xs, xn, xy, A, hb, p0, p1, p2, p3, p4, p5, p6, p7, p8, p11, ds, pa9, bz9, bv9⟩ K hK
        simp only [fr, Act.put, List.setIfInBounds_toArray, List.set_cons_zero, List.set_cons_succ, updO] at hK ⊢
        simp [Region.binds] at hd
        have g2 := p2 (by simp [hd])
        have g4 := p4 (by simp [hd])
        have k6 := hcl 6 _ rfl
        simp [Region.binds] at k6
        have k7 := hcl 7 _ rfl
        simp [Region.binds] at k7
        have k8 := hcl 8 _ rfl
        simp [Region.binds] at k8
        have k10 := hcl 10 _ rfl
        simp [Region.binds] at k10
        have k11 := hcl 11 _ rfl
        simp [Region.binds] at k11
        rw [if_pos (by rfl)]
        simp only [Oper.wpv]
        go_simp
        refine (HCm.out u hb).mono ?_
        rintro e u1 ⟨xk, xl, xs, xn, xy, rfl, hq, hg⟩
        exact hK _ _ ⟨xk, xl, xs, xn, xy, A, nT hb hg, p0, p1, p2, p3, p4, fun _ => rfl, fun h => absurd (show L 6 = true from h) (by intro hh; have a6 := k6 hh; simp [hk] at a6), fun h => absurd (show L 7 = true from h) (by intro hh; have a7 := k7 hh; have a6 := k6 (by simp [a7]); simp [hk] at a6), fun h => absurd (show L 8 = true from h) (by intro hh; have a8 := k8 hh; have a6 := k6 (by simp [a8]); simp [hk] at a6), fun h => absurd (show L 11 = true from h) (by intro hh; have a11 := k11 hh; have a8 := k8 (by simp [a11]); have a6 := k6 (by simp [a8]); simp [hk] at a6), fun _ => hq, fun h0 => ⟨(pa9 h0).1, (pa9 h0).2.1, Nat.lt_of_lt_of_le (pa9 h0).2.2 hg.size⟩, fun h0 h1 => (bz9 h0 h1).below hg (bz9 h0 h1).lt, fun h => absurd (show L 10 = true from h) (by intro hh; have a10 := k10 hh; have a7 := k7 (by simp [a10]); have a6 := k6 (by simp [a7]); simp [hk] at a6)⟩
      · rintro L T u hd hk hcl ⟨xk, xl, xs, xn, xy, A, hb, p0, p1, p2, p3, p4, p5, p6, p7, p8, p11, ds, pa9, bz9, bv9⟩ K hK
        simp only [fr, Act.put, List.setIfInBounds_toArray, List.set_cons_zero, List.set_cons_succ, updO] at hK ⊢
        simp [Region.binds] at hd
        have g5 := p5 (by simp [hd])
        rw [if_pos (by rfl)]
        simp only [Oper.wpv]
        go_simp
        exact hK _ _ ⟨xk, xl, xs, xn, xy, A, hb, p0, p1, p2, p3, p4, p5, fun _ => rfl, p7, p8, p11, ds, pa9, bz9, bv9⟩
      · rintro L T u hd hk hcl ⟨xk, xl, xs, xn, xy, A, hb, p0, p1, p2, p3, p4, p5, p6, p7, p8, p11, ds, pa9, bz9, bv9⟩ K hK
        simp only [fr, Act.put, List.setIfInBounds_toArray, List.set_cons_zero, List.set_cons_succ, updO] at hK ⊢
        simp [Region.binds] at hd
        have g6 := p6 (by simp [hd])
        rw [if_pos (by rfl)]
        simp only [Oper.wpv]
        go_simp
        exact hK _ _ ⟨xk, xl, xs, xn, xy, A, hb, p0, p1, p2, p3, p4, p5, p6, fun _ => rfl, p8, p11, ds, pa9, bz9, bv9⟩
      · rintro L T u hd hk hcl ⟨xk, xl, xs, xn, xy, A, hb, p0, p1, p2, p3, p4, p5, p6, p7, p8, p11, ds, pa9, bz9, bv9⟩ K hK
        simp only [fr, Act.put, List.setIfInBounds_toArray, List.set_cons_zero, List.set_cons_succ, updO] at hK ⊢
        simp [Region.binds] at hd
        have g6 := p6 (by simp [hd])
        rw [if_pos (by rfl)]
        simp only [Oper.wpv]
        go_simp
        exact hK _ _ ⟨xk, xl, xs, xn, xy, A, hb, p0, p1, p2, p3, p4, p5, p6, p7, fun _ => rfl, p11, ds, pa9, bz9, bv9⟩
      · rintro L T u hd hk hcl ⟨xk, xl, xs, xn, xy, A, hb, p0, p1, p2, p3, p4, p5, p6, p7, p8, p11, ds, pa9, bz9, bv9⟩ K hK
        simp only [fr, Act.put, List.setIfInBounds_toArray, List.set_cons_zero, List.set_cons_succ, updO] at hK ⊢
        simp [Region.binds] at hd
        have kst := hcl 10 _ rfl
        simp [Region.binds] at kst
        rw [if_pos (by rfl)]
        simp only [Oper.wpv]
        go_simp
        have hg : Below u.heap.size u _ := (Below.refl u.heap.size u).alloc (Nat.le_refl _) (.cells #[.int .i64 0, .int .i64 0, .int .i64 0, .int .i64 0, .bool false] 25)
        exact hK _ _ ⟨xk, xl, xs, xn, xy, u.heap.size, nT hb hg, p0, p1, p2, p3, p4, p5, p6, p7, p8, p11, ds, fun _ => ⟨rfl, hb.size, by simp⟩, fun _ _ => boxn_new u #[.int .i64 0, .int .i64 0, .int .i64 0, .int .i64 0, .bool false] 25 5 rfl, fun h => absurd (show L 10 = true from h) (by intro hh; have := kst hh; simp [hk] at this)⟩
      · rintro L T u hd hk hcl ⟨xk, xl, xs, xn, xy, A, hb, p0, p1, p2, p3, p4, p5, p6, p7, p8, p11, ds, pa9, bz9, bv9⟩ K hK
        simp only [fr, Act.put, List.setIfInBounds_toArray, List.set_cons_zero, List.set_cons_succ, updO] at hK ⊢
        simp [Region.binds] at hd
        have g7 := p7 (by simp [hd])
        have g9 := pa9 (by simp [hd])
        have HK9 : L 9 = true := by simp [hd]
        obtain ⟨gA, gB, gC⟩ := pa9 HK9
        have bz := bz9 HK9 hk
        have z0 : u.cell? ⟨A, 0, none⟩ = some (.int .i64 0) := (bz.c 0 (by decide)).1
        have zf0 := (bz.c 0 (by decide)).2
        have z1 : u.cell? ⟨A, 1, none⟩ = some (.int .i64 0) := (bz.c 1 (by decide)).1
        have zf1 := (bz.c 1 (by decide)).2
        have z2 : u.cell? ⟨A, 2, none⟩ = some (.int .i64 0) := (bz.c 2 (by decide)).1
        have zf2 := (bz.c 2 (by decide)).2
        have z3 : u.cell? ⟨A, 3, none⟩ = some (.int .i64 0) := (bz.c 3 (by decide)).1
        have zf3 := (bz.c 3 (by decide)).2
        have z4 : u.cell? ⟨A, 4, none⟩ = some (.bool false) := (bz.c 4 (by decide)).1
        have zf4 := (bz.c 4 (by decide)).2
        clear g9
        rw [if_pos (by rfl)]
        simp only [Oper.wpv]
        go_simp
        exact hK _ _ ⟨xk, xl, xs, xn, xy, A, (((((hb.setCell (p := ⟨A, 0, none⟩) gB _).setCell (p := ⟨A, 1, none⟩) gB _).setCell (p := ⟨A, 2, none⟩) gB _).setCell (p := ⟨A, 3, none⟩) gB _).setCell (p := ⟨A, 4, none⟩) gB _), p0, p1, p2, p3, p4, p5, p6, p7, p8, p11, ds, fun h0 => ⟨(pa9 h0).1, (pa9 h0).2.1, by simpa using (pa9 h0).2.2⟩, fun h0 h1 => Bool.noConfusion (show true = false from h1), fun _ => (((((bz.set 0 (by decide) _).set 1 (by decide) _).set 2 (by decide) _).set 3 (by decide) _).set 4 (by decide) _)⟩
      · rintro L T u hd hk hcl ⟨xk, xl, xs, xn, xy, A, hb, p0, p1, p2, p3, p4, p5, p6, p7, p8, p11, ds, pa9, bz9, bv9⟩ K hK
        simp only [fr, Act.put, List.setIfInBounds_toArray, List.set_cons_zero, List.set_cons_succ, updO] at hK ⊢
        simp [Region.binds] at hd
        have g8 := p8 (by simp [hd])
        rw [if_pos (by rfl)]
        simp only [Oper.wpv]
        go_simp
        exact hK _ _ ⟨xk, xl, xs, xn, xy, A, hb, p0, p1, p2, p3, p4, p5, p6, p7, p8, fun _ => rfl, ds, pa9, bz9, bv9⟩
    · rintro L T u hl ⟨xk, xl, xs, xn, xy, A, hb, p0, p1, p2, p3, p4, p5, p6, p7, p8, p11, ds, pa9, bz9, bv9⟩
      simp only [fr, Act.put, List.setIfInBounds_toArray, List.set_cons_zero, List.set_cons_succ]
      have h5 := pa9 (hl 9 (by decide))
      have h6 := p11 (hl 11 (by decide))
      have xb := bv9 (hl 10 (by decide))
      have hds := ds (hl 5 (by decide))
      clear p0 p1 p2 p3 p4 p5 p6 p7 p8 p11 ds pa9 bz9 bv9 HW0 HCm HDr hl
      rw [h5.1, h6]
      clear h5 h6
      obtain ⟨rb, bwu⟩ := HBV.out u hb
      clear HBV
      have x0 : u.cell? ⟨A, 0, none⟩ = some (.int .i64 xk) := (xb.c 0 (by decide)).1
      have x1 : u.cell? ⟨A, 1, none⟩ = some (.int .i64 xl) := (xb.c 1 (by decide)).1
      have x2 : u.cell? ⟨A, 2, none⟩ = some (.int .i64 xs) := (xb.c 2 (by decide)).1
      have x3 : u.cell? ⟨A, 3, none⟩ = some (.int .i64 xn) := (xb.c 3 (by decide)).1
      have x4 : u.cell? ⟨A, 4, none⟩ = some (.bool xy) := (xb.c 4 (by decide)).1
      have xz := xb.lt
      have r0 : u.cell? ⟨w.heap.size, 0, none⟩ = some (.int .i64 0) := (rb.c 0 (by decide)).1
      have rf0 := (rb.c 0 (by decide)).2
      have r1 : u.cell? ⟨w.heap.size, 1, none⟩ = some (.int .i64 0) := (rb.c 1 (by decide)).1
      have rf1 := (rb.c 1 (by decide)).2
      have r2 : u.cell? ⟨w.heap.size, 2, none⟩ = some (.int .i64 0) := (rb.c 2 (by decide)).1
      have rf2 := (rb.c 2 (by decide)).2
      have r3 : u.cell? ⟨w.heap.size, 3, none⟩ = some (.int .i64 0) := (rb.c 3 (by decide)).1
      have rf3 := (rb.c 3 (by decide)).2
      have r4 : u.cell? ⟨w.heap.size, 4, none⟩ = some (.bool false) := (rb.c 4 (by decide)).1
      have rf4 := (rb.c 4 (by decide)).2
      have rz := rb.lt
      cases hQ : Q with
      | none =>
        obtain ⟨F, hF⟩ : ∃ F : World, F = (((((u.setCell ⟨w.heap.size, 0, none⟩ (.int .i64 0)).setCell ⟨w.heap.size, 1, none⟩ (.int .i64 0)).setCell ⟨w.heap.size, 2, none⟩ (.int .i64 0)).setCell ⟨w.heap.size, 3, none⟩ (.int .i64 0)).setCell ⟨w.heap.size, 4, none⟩ (.bool false)) := ⟨_, rfl⟩
        have k0 : F.cell? ⟨w.heap.size, 0, none⟩ = some (.int .i64 0) := by rw [hF]; go_simp
        have k1 : F.cell? ⟨w.heap.size, 1, none⟩ = some (.int .i64 0) := by rw [hF]; go_simp
        have k2 : F.cell? ⟨w.heap.size, 2, none⟩ = some (.int .i64 0) := by rw [hF]; go_simp
        have k3 : F.cell? ⟨w.heap.size, 3, none⟩ = some (.int .i64 0) := by rw [hF]; go_simp
        have k4 : F.cell? ⟨w.heap.size, 4, none⟩ = some (.bool false) := by rw [hF]; go_simp
        have HFb : Hid (Below w.heap.size w F) := by rw [hF]; exact (((((bwu.setCell (p := ⟨w.heap.size, 0, none⟩) (by simp) _).setCell (p := ⟨w.heap.size, 1, none⟩) (by simp) _).setCell (p := ⟨w.heap.size, 2, none⟩) (by simp) _).setCell (p := ⟨w.heap.size, 3, none⟩) (by simp) _).setCell (p := ⟨w.heap.size, 4, none⟩) (by simp) _)
        rw [hQ] at HL
        simp only [Option.isSome_none]
        clear xb rb bwu hds
        go_wp2
        rw [← hF]
        refine bodyPost_ret (v := .tuple #[.agg #[.int .i64 0, .int .i64 0, .int .i64 0, .int .i64 0, .bool false], .int .i64 4]) (by simp [results, Tryd.results9, go_sem, k0, k1, k2, k3, k4]) rfl ?_
        exact ⟨by rw [HL.out.1, HL.out.2]; rfl, HFb.out⟩
      | some q =>
        obtain ⟨F, hF⟩ : ∃ F : World, F = (((((u.setCell ⟨w.heap.size, 0, none⟩ (.int .i64 xk)).setCell ⟨w.heap.size, 1, none⟩ (.int .i64 xl)).setCell ⟨w.heap.size, 2, none⟩ (.int .i64 xs)).setCell ⟨w.heap.size, 3, none⟩ (.int .i64 xn)).setCell ⟨w.heap.size, 4, none⟩ (.bool xy)) := ⟨_, rfl⟩
        have k0 : F.cell? ⟨w.heap.size, 0, none⟩ = some (.int .i64 xk) := by rw [hF]; go_simp
        have k1 : F.cell? ⟨w.heap.size, 1, none⟩ = some (.int .i64 xl) := by rw [hF]; go_simp
        have k2 : F.cell? ⟨w.heap.size, 2, none⟩ = some (.int .i64 xs) := by rw [hF]; go_simp
        have k3 : F.cell? ⟨w.heap.size, 3, none⟩ = some (.int .i64 xn) := by rw [hF]; go_simp
        have k4 : F.cell? ⟨w.heap.size, 4, none⟩ = some (.bool xy) := by rw [hF]; go_simp
        have HFb : Hid (Below w.heap.size w F) := by rw [hF]; exact (((((bwu.setCell (p := ⟨w.heap.size, 0, none⟩) (by simp) _).setCell (p := ⟨w.heap.size, 1, none⟩) (by simp) _).setCell (p := ⟨w.heap.size, 2, none⟩) (by simp) _).setCell (p := ⟨w.heap.size, 3, none⟩) (by simp) _).setCell (p := ⟨w.heap.size, 4, none⟩) (by simp) _)
        have hq := hds q hQ
        rw [hQ, ← hq] at HL
        simp only [Option.isSome_some]
        clear xb rb bwu hds hq
        go_wp2
        rw [← hF]
        refine bodyPost_ret (v := .tuple #[.agg #[.int .i64 xk, .int .i64 xl, .int .i64 xs, .int .i64 xn, .bool xy], .int .i64 0]) (by simp [results, Tryd.results9, go_sem, k0, k1, k2, k3, k4]) rfl ?_
        exact ⟨by rw [HL.out.1, HL.out.2]; rfl, HFb.out⟩
theorem read_any (s : ByteArray) (w : World) (hs : s.size ≤ 4294967000) (hT : ∀ U, Below w.heap.size w U → CnW U) :
    Calls Tryd.prog 9 #[.string s] w fun e w' => e = .returned (.tuple #[(lineCmd s.data.toList).val, .int .i64 (lineErr s.data.toList)]) ∧ Below w.heap.size w w' := read_all s w hT
end Go.Proofs.YtgohpgollpjlnaaDoor.Cn
/- The document's reading of numbers and words, on plain data: the same as the program's. -/
namespace Go.Proofs.YtgohpgollpjlnaaDoor.Cn
open Go
set_option linter.unusedVariables false

def pl (most : Int) : Int → List UInt8 → Option Int
  | n, [] => if most < n then none else some n
  | n, c :: r => if (c.toNat < 48 ∨ 57 < c.toNat) ∨ most < n then none else pl most (10 * n + ((c.toNat : Int) - 48)) r
def plainOf (most : Int) (l : List UInt8) : Option Int := match pl most 0 l with
  | some n => if Lib.decDigits n.toNat = l then some n else none
  | none => none
theorem pl_nn {most : Int} : ∀ (l : List UInt8) (n v : Int), 0 ≤ n → pl most n l = some v → 0 ≤ v ∧ v ≤ most := by
  intro l
  induction l with
  | nil =>
    intro n v hn h
    rw [pl] at h
    split at h
    · cases h
    · injection h with h; omega
  | cons c r ih =>
    intro n v hn h
    rw [pl] at h
    split at h
    · cases h
    · rename_i hc
      exact ih _ v (by omega) h
theorem pl_snoc {most : Int} (c : UInt8) : ∀ (l : List UInt8) (n v : Int), pl most n l = some v → pl most n (l ++ [c]) = pl most v [c] := by
  intro l
  induction l with
  | nil =>
    intro n v h
    rw [pl] at h
    split at h
    · cases h
    · injection h with h; subst h; rfl
  | cons x r ih =>
    intro n v h
    rw [pl] at h
    split at h
    · cases h
    · rename_i hc
      rw [List.cons_append, pl, if_neg hc]
      exact ih _ v h
theorem pl_dec {most : Int} : ∀ (k u : Nat), u ≤ k → (u : Int) ≤ most → pl most 0 (Lib.decDigits u) = some (u : Int) := by
  have one : ∀ (m : Int) (d : Nat), d < 10 → 0 ≤ m → m ≤ most → 10 * m + (d : Int) ≤ most → pl most m [UInt8.ofNat (48 + d)] = some (10 * m + (d : Int)) := by
    intro m d hd h0 h1 h2
    obtain ⟨a1, a2, a3⟩ := digit_ok d hd
    rw [pl, if_neg (by omega), pl, if_neg (by omega)]
    congr 1
    omega
  intro k
  induction k with
  | zero =>
    intro u hu hm
    obtain rfl : u = 0 := by omega
    rw [Lib.decDigits, dif_pos (by omega)]
    have := one 0 0 (by omega) (by omega) (by omega) (by omega)
    simpa using this
  | succ k ih =>
    intro u hu hm
    by_cases h : u < 10
    · rw [Lib.decDigits, dif_pos h]
      have := one 0 u h (by omega) (by omega) (by omega)
      simpa using this
    · rw [Lib.decDigits, dif_neg h, pl_snoc _ _ 0 ((u / 10 : Nat) : Int) (ih (u / 10) (by omega) (by omega)), one _ (u % 10) (by omega) (by omega) (by omega) (by omega)]
      congr 1
      omega
theorem plain_num {most : Int} (h2 : most ≤ 9223372036854775807) (l : List UInt8) : plainOf most l = numOf l most := by
  unfold plainOf
  cases e : pl most 0 l with
  | some n =>
    obtain ⟨h0, h1⟩ := pl_nn l 0 n (by omega) e
    simp only
    by_cases hd : Lib.decDigits n.toNat = l
    · rw [if_pos hd]
      have := num_itoa h0 h1 h2
      rw [show Lib.itoa n = l by rw [show n = ((n.toNat : Nat) : Int) by omega, Lib.itoa_nonneg]; exact hd] at this
      exact this.symm
    · rw [if_neg hd]
      unfold numOf
      split
      · rename_i v hv
        rw [if_neg]
        rintro ⟨hi, hv0, hv1⟩
        have e2 : Lib.decDigits v.toNat = l := by rw [← hi, show v = ((v.toNat : Nat) : Int) by omega, Lib.itoa_nonneg]; rfl
        have := pl_dec (most := most) v.toNat v.toNat (Nat.le_refl _) (by omega)
        rw [e2, e] at this
        injection this with this
        exact hd (by rw [this, Int.toNat_natCast]; exact e2)
      · rfl
  | none =>
    simp only
    unfold numOf
    split
    · rename_i v hv
      rw [if_neg]
      rintro ⟨hi, hv0, hv1⟩
      have e2 : Lib.decDigits v.toNat = l := by rw [← hi, show v = ((v.toNat : Nat) : Int) by omega, Lib.itoa_nonneg]; rfl
      have := pl_dec (most := most) v.toNat v.toNat (Nat.le_refl _) (by omega)
      rw [e2, e] at this
      cases this
    · rfl
end Go.Proofs.YtgohpgollpjlnaaDoor.Cn
