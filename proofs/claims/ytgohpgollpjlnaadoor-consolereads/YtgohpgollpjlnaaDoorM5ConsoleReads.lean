/- Texts of this claim, one behind the other. -/
import Derived.Test.YtgohpgollpjlnaaDoorM3ConsoleReads
import Derived.Test.YtgohpgollpjlnaaDoorShelf
import Derived.Test.YtgohpgollpjlnaaDoorA1ConsoleReads
import Derived.Test.YtgohpgollpjlnaaDoorM4ConsoleReads
import Derived.Test.YtgohpgollpjlnaaDoorM2ConsoleReads
import Derived.LoopTactic
import Derived.Deep.Cut
import Derived.Deep.DeepCutAuto
import Derived.Deep.CutBlock
import Derived.Lib.AtoiErrMem
import Derived.Deep.RegionHeld3
import Derived.OwnWalk
import Derived.Lib.LaidTab
import Derived.LaidLaws
import Derived.Shelf.Vars
import Derived.WalkSmall
import Derived.ShapedOpen
import Derived.Orders
/- What console.Read answers. -/
namespace Go.Proofs.YtgohpgollpjlnaaDoor.Cn
open Go.ChangeShapes Go.WideShapes Go.ChangeAt Go.RowKit
open Go.Proofs.YtgohpgollpjlnaaDoor.St (BoxN boxn_new)
set_option linter.unusedVariables false

/-- What lies in the library's variables. -/
structure CnW (w : World) : Prop where
  tab : Lib.TabIs Tryd.prog w "internal/strconv.uint64pow10" .u64 Lib.pow10Tab
  syn : ∃ ev, w.cell? ⟨4, 0, none⟩ = some ev ∧ (ev = .nilIface ∨ ∃ te pe, ev = .iface te pe)
  rng : ∃ ev, w.cell? ⟨5, 0, none⟩ = some ev ∧ (ev = .nilIface ∨ ∃ te pe, ev = .iface te pe)
  mx : ∃ m, w.cell? ⟨0, 0, none⟩ = some (.int .i64 m)
theorem ok_range {l : List UInt8} {v : Int} (h : Lib.atoiAll l = .ok v) : -9223372036854775808 ≤ v ∧ v ≤ 9223372036854775807 := by
  unfold Lib.atoiAll at h
  split at h
  · cases h
  · simp only at h
    split at h
    · cases h
    · cases h
    · split at h
      · cases h
      · split at h
        · cases h
        · injection h with h
          subst h
          split <;> omega
theorem below_bw (w : World) (e : TypeId) (s : ByteArray) : Below w.heap.size w (Lib.bytesWorld w e s) := Lib.bytesWorld_below w e s
theorem below_grow (w : World) (k : Nat) (os : Array Obj) : Below w.heap.size w (Go.Sort.grow (w.drewN k) os) := by
  refine ⟨rfl, rfl, rfl, ?_, fun j hj => ?_⟩
  · simp [Go.Sort.grow, World.drewN]
  · simp only [Go.Sort.grow, World.drewN]
    rw [Array.getElem?_append_left hj]
set_option maxRecDepth 100000 in
set_option maxHeartbeats 4000000 in
theorem number_any (s : ByteArray) (most : Int) (w : World) (hs : s.size ≤ 100) (hT : ∀ U, Below w.heap.size w U → CnW U) :
    Calls Tryd.prog 77 #[.string s, .int .i64 most] w fun e w' => ∃ n, e = .returned (.tuple #[.int .i64 n, .bool (numOf s.data.toList most).isSome]) ∧ (∀ v, numOf s.data.toList most = some v → n = v) ∧ Below w.heap.size w w' := by
  have HT : Hid (∀ U, Below w.heap.size w U → CnW U) := hT
  clear hT
  cases hA : Lib.atoiAll s.data.toList with
  | «syntax» =>
    have HN : Hid (numOf s.data.toList most = none) := by show _ = _; unfold numOf; rw [hA]
    obtain ⟨ev, hv, hev⟩ := (HT.out w (Below.refl _ _)).syn
    have hc := Tryd.strconv_Atoi_syntax s (by omega) hA ev w hv hev
    clear hv hev
    go_enter Tryd.func77, Tryd.ntmps77
    go_wp2_with (go_at_call 109; refine hc.mono ?_; rintro e u ⟨N, rfl, -, -, hu⟩)
    refine bodyPost_ret (v := .tuple #[.int .i64 0, .bool false]) (by simp [results, Tryd.results77, go_sem]) rfl ?_
    exact ⟨0, by rw [HN.out]; rfl, (fun v h => by rw [HN.out] at h; cases h), hu⟩
  | range =>
    have HN : Hid (numOf s.data.toList most = none) := by show _ = _; unfold numOf; rw [hA]
    obtain ⟨ev, hv, hev⟩ := (HT.out w (Below.refl _ _)).rng
    have hc := Tryd.strconv_Atoi_range s (by omega) hA ev w hv hev
    clear hv hev
    go_enter Tryd.func77, Tryd.ntmps77
    go_wp2_with (go_at_call 109; refine hc.mono ?_; rintro e u ⟨N, rfl, -, -, hu⟩)
    refine bodyPost_ret (v := .tuple #[.int .i64 (Lib.atoiSat s.data.toList), .bool false]) (by simp [results, Tryd.results77, go_sem]) rfl ?_
    exact ⟨_, by rw [HN.out]; rfl, (fun v h => by rw [HN.out] at h; cases h), hu⟩
  | ok v =>
    obtain ⟨v1, v2⟩ := ok_range hA
    have HN : Hid (numOf s.data.toList most = if Lib.itoa v = s.data.toList ∧ 0 ≤ v ∧ v ≤ most then some v else none) := by show _ = _; unfold numOf; rw [hA]
    have hc := Tryd.strconv_Atoi_ok s (by omega) v hA w
    have hI : ∀ U, Below w.heap.size w U → Calls Tryd.prog 50 #[.int .i64 v] U fun e w' => e = .returned (.string ⟨(Lib.itoa v).toArray⟩) ∧ Below U.heap.size U w' := fun U hU => by
      refine (Tryd.strconv_Itoa v v1 v2 U (HT.out U hU).tab).mono ?_
      rintro e w' ⟨rfl, k, os, rfl⟩
      exact ⟨rfl, below_grow U k os⟩
    have hW := fun U => within_any v 0 most U
    go_enter Tryd.func77, Tryd.ntmps77
    go_upto_region 2 with (go_at_call 109; refine hc.mono ?_; rintro e u ⟨rfl, hu'⟩; have hu : Below w.heap.size w u := hu'.elim (fun h8 => by rw [h8]; exact Below.refl _ _) (fun ⟨t, h8⟩ => by rw [h8]; exact below_bw _ _ _); clear hu')
    have hIu := hI u hu
    clear hc hI
    have eT : s.toList = s.data.toList := Go.ByteArray.toList_eq s
    by_cases hE : Lib.itoa v = s.data.toList
    · have hE2 : (Lib.itoa v == s.toList) = true := by rw [eT, hE]; simp
      have HN2 : Hid ((numOf s.data.toList most).isSome = inR v 0 most ∧ ∀ x, numOf s.data.toList most = some x → v = x) := by
        rw [HN.out]
        by_cases hr : 0 ≤ v ∧ v ≤ most
        · rw [if_pos ⟨hE, hr⟩]
          exact ⟨by simp [inR, hr], fun x hx => by injection hx⟩
        · rw [if_neg (fun h => hr h.2)]
          exact ⟨by simp [inR]; omega, fun x hx => by cases hx⟩
      clear hA HN eT hE v1 v2
      go_wp2_with (first | (go_at_call 50; refine hIu.mono ?_; rintro e z ⟨rfl, hz⟩) | (go_at_call 78; refine (hW _).mono ?_; rintro e z2 ⟨rfl, hz2⟩; rw [hz2]; clear hz2))
      all_goals first | (exact absurd ‹¬ _› (by assumption)) | skip
      refine bodyPost_ret (v := .tuple #[.int .i64 v, .bool (inR v 0 most)]) (by simp [results, Tryd.results77, go_sem]) rfl ?_
      exact ⟨v, by rw [HN2.out.1], HN2.out.2, hu.trans (hz.mono hu.size)⟩
    · have hE2 : (Lib.itoa v == s.toList) = false := by rw [eT]; simpa using hE
      have HN2 : Hid (numOf s.data.toList most = none) := by show _ = _; rw [HN.out, if_neg (fun h => hE h.1)]
      clear hA HN eT hE v1 v2
      go_wp2_with (first | (go_at_call 50; refine hIu.mono ?_; rintro e z ⟨rfl, hz⟩) | (go_at_call 78; refine (hW _).mono ?_; rintro e z2 ⟨rfl, hz2⟩; rw [hz2]; clear hz2))
      refine bodyPost_ret (v := .tuple #[.int .i64 v, .bool false]) (by simp [results, Tryd.results77, go_sem]) rfl ?_
      exact ⟨v, by rw [HN2.out]; rfl, (fun x h => by rw [HN2.out] at h; cases h), hu.trans (hz.mono hu.size)⟩
/-- Words in memory, one behind the other. -/
def IsStrs (w : World) (a : Option Addr) (n c : Nat) (ws : List ByteArray) : Prop :=
  ws.length = n ∧ n ≤ c ∧ c ≤ maxLen ∧ (0 < n → ∃ b off, a = some ⟨b, off, none⟩ ∧ b < w.heap.size ∧ ∀ i, i < n → w.cell? ⟨b, off + i, none⟩ = some (.string (ws.getD i .empty)))
theorem IsStrs.below {w u : World} {a : Option Addr} {n c : Nat} {ws : List ByteArray} (h : IsStrs w a n c ws) (hb : Below w.heap.size w u) : IsStrs u a n c ws := by
  obtain ⟨h1, h2, h3, h4⟩ := h
  refine ⟨h1, h2, h3, fun h0 => ?_⟩
  obtain ⟨b, off, e, hl, hc⟩ := h4 h0
  exact ⟨b, off, e, Nat.lt_of_lt_of_le hl hb.size, fun i hi => (hb.cell (p := ⟨b, off + i, none⟩) hl).trans (hc i hi)⟩
def txt (ws : List ByteArray) : List (List UInt8) := ws.map (·.data.toList)
def CmdIs (w w' : World) (e : Ending) (o : Option Cmd) : Prop := ∃ x : Cmd, e = .returned (.tuple #[x.val, .bool o.isSome]) ∧ (∀ c, o = some c → x = c) ∧ Below w.heap.size w w'
set_option maxRecDepth 100000 in
set_option maxHeartbeats 4000000 in
theorem about_any (kind : Int) (a : Option Addr) (n c : Nat) (ws : List ByteArray) (w : World) (h : IsStrs w a n c ws) (hz : ∀ x ∈ ws, x.size ≤ 100) (hT : ∀ U, Below w.heap.size w U → CnW U) :
    Calls Tryd.prog 40 #[.int .i64 kind, .slice a n c] w fun e w' => CmdIs w w' e (aboutOf kind false (txt ws)) := by
  obtain ⟨W, hW⟩ : ∃ W : World, W = w.alloc (.cells #[.int .i64 0, .int .i64 0, .int .i64 0, .int .i64 0, .bool false] 25) := ⟨_, rfl⟩
  have bx : BoxN W w.heap.size 5 [.int .i64 0, .int .i64 0, .int .i64 0, .int .i64 0, .bool false] := by rw [hW]; exact boxn_new w #[.int .i64 0, .int .i64 0, .int .i64 0, .int .i64 0, .bool false] 25 5 rfl
  have bW : Below w.heap.size w W := by rw [hW]; exact (Below.refl _ _).alloc (Nat.le_refl _) _
  have HB : Hid (∀ U, Below W.heap.size W U → BoxN U w.heap.size 5 [.int .i64 0, .int .i64 0, .int .i64 0, .int .i64 0, .bool false] ∧ Below w.heap.size w U) := fun U hU => ⟨bx.below hU bx.lt, bW.trans (hU.mono bW.size)⟩
  have hlen := h.1
  have hnc := h.2.1
  have hcm := h.2.2.1
  unfold maxLen at hcm
  by_cases h3 : n = 3
  · subst h3
    obtain ⟨b, off, rfl, hb, hc⟩ := h.2.2.2 (by omega)
    match ws, hlen with
    | [x, y, z], _ =>
      have hx := hz x (by simp)
      have hy := hz y (by simp)
      have hzz := hz z (by simp)
      have k0 := hc 0 (by omega)
      have k1 := hc 1 (by omega)
      have k2 := hc 2 (by omega)
      simp only [List.getD_cons_zero, List.getD_cons_succ, Nat.add_zero] at k0 k1 k2
      have HK : Hid (∀ U, Below w.heap.size w U → U.cell? ⟨b, off, none⟩ = some (.string x) ∧ U.cell? ⟨b, off + 1, none⟩ = some (.string y) ∧ U.cell? ⟨b, off + 2, none⟩ = some (.string z) ∧ b < U.heap.size) := fun U hU => ⟨(hU.cell (p := ⟨b, off, none⟩) hb).trans k0, (hU.cell (p := ⟨b, off + 1, none⟩) hb).trans k1, (hU.cell (p := ⟨b, off + 2, none⟩) hb).trans k2, Nat.lt_of_lt_of_le hb hU.size⟩
      have HN : Hid (∀ (s : ByteArray) (most : Int) (U : World), s.size ≤ 100 → Below w.heap.size w U → Calls Tryd.prog 77 #[.string s, .int .i64 most] U fun e w' => ∃ n, e = .returned (.tuple #[.int .i64 n, .bool (numOf s.data.toList most).isSome]) ∧ (∀ v, numOf s.data.toList most = some v → n = v) ∧ Below U.heap.size U w') := fun s most U h1 h2 => number_any s most U h1 (fun V hV => hT V (h2.trans (hV.mono h2.size)))
      obtain ⟨j0, j1, j2, jb⟩ := HK.out W bW
      have q1 := HN.out x 5 W hx bW
      clear k0 k1 k2 hc h hT hz bx
      have HO : Hid (aboutOf kind false (txt [x, y, z]) = match numOf x.data.toList 5, numOf y.data.toList 3, numOf z.data.toList 1048576 with | some p, some q, some r => some ⟨kind, p, q, r, false⟩ | _, _, _ => none) := rfl
      obtain ⟨O, eO⟩ : ∃ O, O = aboutOf kind false (txt [x, y, z]) := ⟨_, rfl⟩
      rw [← eO] at HO ⊢
      clear eO
      go_enter Tryd.func40, Tryd.ntmps40
      go_upto_region 3 with (fail)
      rw [← hW]
      clear hW
      go_upto_region 4 with (go_at_call 77; refine q1.mono ?_; rintro e u1 ⟨n1, rfl, hn1, hu1⟩)
      have b1 : Below w.heap.size w u1 := bW.trans (hu1.mono bW.size)
      clear j0 j1 j2 jb q1
      obtain ⟨j0, j1, j2, jb⟩ := HK.out u1 b1
      have q2 := HN.out y 3 u1 hy b1
      go_upto_region 5 with (go_at_call 77; refine q2.mono ?_; rintro e u2 ⟨n2, rfl, hn2, hu2⟩)
      have b2 : Below w.heap.size w u2 := b1.trans (hu2.mono b1.size)
      clear j0 j1 j2 jb q2
      obtain ⟨j0, j1, j2, jb⟩ := HK.out u2 b2
      have q3 := HN.out z 1048576 u2 hzz b2
      go_upto_region 6 with (go_at_call 77; refine q3.mono ?_; rintro e u3 ⟨n3, rfl, hn3, hu3⟩)
      clear j0 j1 j2 jb q3
      have hWu : Below W.heap.size W u3 := hu1.trans ((hu2.trans (hu3.mono hu2.size)).mono hu1.size)
      obtain ⟨bxu, bwu⟩ := HB.out u3 hWu
      have s0 := (bxu.c 0 (by decide)).1
      have s1 := (bxu.c 1 (by decide)).1
      have s2 := (bxu.c 2 (by decide)).1
      have s3 := (bxu.c 3 (by decide)).1
      have s4 := (bxu.c 4 (by decide)).1
      have f0 := (bxu.c 0 (by decide)).2
      have f1 := (bxu.c 1 (by decide)).2
      have f2 := (bxu.c 2 (by decide)).2
      have f3 := (bxu.c 3 (by decide)).2
      have f4 := (bxu.c 4 (by decide)).2
      have bz := bxu.lt
      simp only [List.getD_cons_zero, List.getD_cons_succ] at s0 s1 s2 s3 s4
      clear HB HK HN hu1 hu2 hu3 b1 b2 bW hWu hx hy hzz
      obtain ⟨F, hF⟩ : ∃ F : World, F = ((((u3.setCell ⟨w.heap.size, 0, none⟩ (.int .i64 kind)).setCell ⟨w.heap.size, 1, none⟩ (.int .i64 n1)).setCell ⟨w.heap.size, 2, none⟩ (.int .i64 n2)).setCell ⟨w.heap.size, 3, none⟩ (.int .i64 n3)).setCell ⟨w.heap.size, 4, none⟩ (.bool false) := ⟨_, rfl⟩
      have k0 : F.cell? ⟨w.heap.size, 0, none⟩ = some (.int .i64 kind) := by rw [hF]; go_simp
      have k1 : F.cell? ⟨w.heap.size, 1, none⟩ = some (.int .i64 n1) := by rw [hF]; go_simp
      have k2 : F.cell? ⟨w.heap.size, 2, none⟩ = some (.int .i64 n2) := by rw [hF]; go_simp
      have k3 : F.cell? ⟨w.heap.size, 3, none⟩ = some (.int .i64 n3) := by rw [hF]; go_simp
      have k4 : F.cell? ⟨w.heap.size, 4, none⟩ = some (.bool false) := by rw [hF]; go_simp
      have hFb : Below w.heap.size w F := by rw [hF]; exact ((((bwu.setCell (by simp) _).setCell (by simp) _).setCell (by simp) _).setCell (by simp) _).setCell (by simp) _
      have HD : Hid (∀ B : Bool, B = O.isSome → CmdIs w F (.returned (.tuple #[.agg #[.int .i64 kind, .int .i64 n1, .int .i64 n2, .int .i64 n3, .bool false], .bool B])) O) := fun B hB => by
        refine ⟨⟨kind, n1, n2, n3, false⟩, by rw [hB]; rfl, fun d hd => ?_, hFb⟩
        rw [HO.out] at hd
        cases e1 : numOf x.data.toList 5 with
        | none => rw [e1] at hd; cases hd
        | some p =>
          cases e2 : numOf y.data.toList 3 with
          | none => rw [e1, e2] at hd; cases hd
          | some q =>
            cases e3 : numOf z.data.toList 1048576 with
            | none => rw [e1, e2, e3] at hd; cases hd
            | some r =>
              rw [e1, e2, e3] at hd
              injection hd with hd
              rw [← hd, hn1 p e1, hn2 q e2, hn3 r e3]
      have HO2 : Hid (O.isSome = ((numOf x.data.toList 5).isSome && ((numOf y.data.toList 3).isSome && (numOf z.data.toList 1048576).isSome))) := by
        show _ = _
        rw [HO.out]
        cases numOf x.data.toList 5 <;> cases numOf y.data.toList 3 <;> cases numOf z.data.toList 1048576 <;> rfl
      clear HO hFb
      obtain ⟨B1, e1⟩ : ∃ B, B = (numOf x.data.toList 5).isSome := ⟨_, rfl⟩
      obtain ⟨B2, e2⟩ : ∃ B, B = (numOf y.data.toList 3).isSome := ⟨_, rfl⟩
      obtain ⟨B3, e3⟩ : ∃ B, B = (numOf z.data.toList 1048576).isSome := ⟨_, rfl⟩
      rw [← e1, ← e2, ← e3] at HO2 ⊢
      clear e1 e2 e3 hn1 hn2 hn3 bxu bwu
      cases B1 <;> cases B2 <;> cases B3
      all_goals
        go_wp2
        rw [← hF]
        refine bodyPost_ret (v := .tuple #[.agg #[.int .i64 kind, .int .i64 n1, .int .i64 n2, .int .i64 n3, .bool false], .bool _]) (by simp [results, Tryd.results40, go_sem, k0, k1, k2, k3, k4]) rfl (HD.out _ HO2.out.symm)
  · have hne : ((n : Int) != 3) = true := by simp; omega
    have HO : Hid (aboutOf kind false (txt ws) = none) := by
      show _ = _
      match ws, hlen with
      | [], _ => rfl
      | [_], _ => rfl
      | [_, _], _ => rfl
      | [_, _, _], hl => exact absurd hl (by simp; omega)
      | _ :: _ :: _ :: _ :: _, _ => rfl
    obtain ⟨O, eO⟩ : ∃ O, O = aboutOf kind false (txt ws) := ⟨_, rfl⟩
    rw [← eO] at HO ⊢
    clear eO
    have s0 := (bx.c 0 (by decide)).1
    have s1 := (bx.c 1 (by decide)).1
    have s2 := (bx.c 2 (by decide)).1
    have s3 := (bx.c 3 (by decide)).1
    have s4 := (bx.c 4 (by decide)).1
    have f0 := (bx.c 0 (by decide)).2
    have f1 := (bx.c 1 (by decide)).2
    have f2 := (bx.c 2 (by decide)).2
    have f3 := (bx.c 3 (by decide)).2
    have f4 := (bx.c 4 (by decide)).2
    have bz := bx.lt
    simp only [List.getD_cons_zero, List.getD_cons_succ] at s0 s1 s2 s3 s4
    obtain ⟨F, hF⟩ : ∃ F : World, F = ((((W.setCell ⟨w.heap.size, 0, none⟩ (.int .i64 0)).setCell ⟨w.heap.size, 1, none⟩ (.int .i64 0)).setCell ⟨w.heap.size, 2, none⟩ (.int .i64 0)).setCell ⟨w.heap.size, 3, none⟩ (.int .i64 0)).setCell ⟨w.heap.size, 4, none⟩ (.bool false) := ⟨_, rfl⟩
    have k0 : F.cell? ⟨w.heap.size, 0, none⟩ = some (.int .i64 0) := by rw [hF]; go_simp
    have k1 : F.cell? ⟨w.heap.size, 1, none⟩ = some (.int .i64 0) := by rw [hF]; go_simp
    have k2 : F.cell? ⟨w.heap.size, 2, none⟩ = some (.int .i64 0) := by rw [hF]; go_simp
    have k3 : F.cell? ⟨w.heap.size, 3, none⟩ = some (.int .i64 0) := by rw [hF]; go_simp
    have k4 : F.cell? ⟨w.heap.size, 4, none⟩ = some (.bool false) := by rw [hF]; go_simp
    have HFb : Hid (Below w.heap.size w F) := by rw [hF]; exact ((((bW.setCell (by simp) _).setCell (by simp) _).setCell (by simp) _).setCell (by simp) _).setCell (by simp) _
    clear bW HB h hT hz bx h3 hlen
    go_enter Tryd.func40, Tryd.ntmps40
    go_upto_region 1 with (fail)
    rw [← hW]
    clear hW
    go_wp2
    rw [← hF]
    refine bodyPost_ret (v := .tuple #[.agg #[.int .i64 0, .int .i64 0, .int .i64 0, .int .i64 0, .bool false], .bool false]) (by simp [results, Tryd.results40, go_sem, k0, k1, k2, k3, k4]) rfl ?_
    exact ⟨Cmd.nil, by rw [HO.out]; rfl, (fun d hd => by rw [HO.out] at hd; cases hd), HFb.out⟩
end Go.Proofs.YtgohpgollpjlnaaDoor.Cn
/- What lies in the library's variables when the call begins, out of the listed tables and the world's shape; and later. -/
namespace Go.Proofs.YtgohpgollpjlnaaDoor.Cn
open Go.ChangeShapes Go.WideShapes Go.ChangeAt Go.RowKit
set_option linter.unusedVariables false

def IfAt (w : World) (g : Nat) : Prop := ∃ ev, w.cell? ⟨g, 0, none⟩ = some ev ∧ (ev = .nilIface ∨ ∃ te pe, ev = .iface te pe)
theorem cell_lt {w : World} {g : Nat} {v : Value} (h : w.cell? ⟨g, 0, none⟩ = some v) : g < w.heap.size := by
  unfold World.cell? at h
  simp only at h
  by_cases hg : g < w.heap.size
  · exact hg
  · rw [Array.getElem?_eq_none (by omega)] at h
    simp at h
theorem tab_lt {w : World} {g : Nat} {n : String} {cs : Array Value} (hg : Tryd.prog.globalNamed n = some g) (h : w.var? Tryd.prog n = some cs) : g < w.heap.size := by
  unfold World.var? at h
  rw [hg] at h
  simp only [Option.bind_some] at h
  by_cases hl : g < w.heap.size
  · exact hl
  · rw [Array.getElem?_eq_none (by omega)] at h
    cases h
theorem tab_all {W : World} (h1 : Lib.TabIs Tryd.prog W "internal/strconv.uint64pow10" .u64 Lib.pow10Tab) : ∀ U, Below W.heap.size W U → Lib.TabIs Tryd.prog U "internal/strconv.uint64pow10" .u64 Lib.pow10Tab := fun U hU => by
  have hg : Tryd.prog.globalNamed "internal/strconv.uint64pow10" = some 3 := by kernel_rfl
  exact var?_below hU hg (tab_lt hg h1) h1
theorem cnw_all {W : World} (h1 : Lib.TabIs Tryd.prog W "internal/strconv.uint64pow10" .u64 Lib.pow10Tab) (h2 : IfAt W 5) (h3 : IfAt W 4) (h4 : W.ShapedOpen Tryd.prog) :
    ∀ U, Below W.heap.size W U → CnW U := by
  obtain ⟨m, hm⟩ : ∃ m, W.cell? ⟨0, 0, none⟩ = some (.int .i64 m) := cell_of_shapedOpen_int h4 (of_decide_eq_true (by kernel_rfl)) (t := 3) (zero := #[.int .i64 0]) (by kernel_rfl) rfl (by kernel_rfl) (by kernel_rfl) Tryd.underlying3
  have hg : Tryd.prog.globalNamed "internal/strconv.uint64pow10" = some 3 := by kernel_rfl
  intro U hU
  obtain ⟨e2, c2, d2⟩ := h2
  obtain ⟨e3, c3, d3⟩ := h3
  exact ⟨var?_below hU hg (tab_lt hg h1) h1, ⟨e3, (hU.cell (p := ⟨4, 0, none⟩) (cell_lt c3)).trans c3, d3⟩, ⟨e2, (hU.cell (p := ⟨5, 0, none⟩) (cell_lt c2)).trans c2, d2⟩, ⟨m, (hU.cell (p := ⟨0, 0, none⟩) (cell_lt hm)).trans hm⟩⟩
end Go.Proofs.YtgohpgollpjlnaaDoor.Cn
/- A region that draws its order, by what each operation keeps: a small case for each operation in the place of one for each order. -/
namespace Go.Proofs.YtgohpgollpjlnaaDoor

/-- A frame with other values in some slots. -/
def fr (a : Act) : List Nat → (Nat → Value) → Act
  | [], _ => a
  | d :: ds, T => fr (a.put (some d) (T d)) ds T
def upd (T : Nat → Value) (d : Nat) (v : Value) : Nat → Value := fun s => cond (Nat.beq s d) v (T s)
def lst (L : Nat → Bool) (k : Nat) : Nat → Bool := fun j => Nat.beq j k || L j
def slot0 (a : Act) : Nat → Value := fun s => (a.tmps[s]?).getD undef

def AllK (f : Nat → Oper → Prop) : Nat → List Oper → Prop
  | _, [] => True
  | k, o :: os => f k o ∧ AllK f (k + 1) os
theorem AllK.get {f : Nat → Oper → Prop} : ∀ {k : Nat} {os : List Oper}, AllK f k os → ∀ i o, os[i]? = some o → f (k + i) o
  | _, [], _, i, o, h => by simp at h
  | k, x :: xs, hh, i, o, h => by
    cases i with
    | zero => simp at h; subst h; exact hh.1
    | succ i =>
      have := AllK.get hh.2 i o (by simpa using h)
      rwa [show k + 1 + i = k + (i + 1) by omega] at this

/-- What has come up has come up behind what it waits for. -/
def Closed (ops : Array Oper) (L : Nat → Bool) : Prop := ∀ j o, ops[j]? = some o → L j = true → ∀ e ∈ o.after.toList, Region.binds .any e = true → L e.on = true
/-- What an operation leaves in its slot, and the world behind it. -/
def Oper.wpv (P : Program) (o : Oper) (a : Act) (w : World) (K : Value → World → Prop) (Q : Exit → Act → World → Prop) : Prop :=
  match (execOp a.eval o).run P w with
  | .ok (.value v) w' => K v w'
  | .ok .skip w' => K undef w'
  | .ok (.enter f args) w' => Calls P f args w' fun
      | .returned v, w'' => K v w''
      | .panicked chain, w'' => Q (.panic chain) a w''
      | .outgrown, _ => LetsOut Q
  | .ok (.row row args) w' => Rows P row args w' fun v w'' => K v w''
  | .halt (.panic v) w' => Q (.panic [{ v, recovered := false }]) a w'
  | _ => False
theorem Oper.wp_of_wpv {P : Program} {o : Oper} {a : Act} {w : World} {K : Value → World → Prop} {N : Act → World → Prop} {Q : Exit → Act → World → Prop} (h : Oper.wpv P o a w K Q) (hk : ∀ v w', K v w' → N (a.put o.dst v) w') : o.wp P a w N Q := by
  unfold Oper.wpv at h
  unfold Oper.wp
  generalize (execOp a.eval o).run P w = r at h
  cases r with
  | ok n w' =>
    cases n with
    | value v => exact hk _ _ h
    | skip => exact hk _ _ h
    | enter f args => exact Calls.mono h (fun e w'' he => by cases e <;> first | exact hk _ _ he | exact he)
    | row r args => exact Rows.mono h (fun _ _ he => hk _ _ he)
    | _ => exact h.elim
  | halt x w' => cases x <;> first | exact h | exact h.elim
def updO (T : Nat → Value) (d : Option Nat) (v : Value) : Nat → Value := match d with
  | some d => upd T d v
  | none => T
theorem put_same (a : Act) (d : Nat) (u v : Value) : (a.put (some d) u).put (some d) v = a.put (some d) v := by
  obtain ⟨tmps, df⟩ := a
  simp [Act.put]
theorem put_ne (a : Act) {d x : Nat} (u v : Value) (h : x ≠ d) : (a.put (some x) u).put (some d) v = (a.put (some d) v).put (some x) u := Act.put_comm a u v (fun y hy hz => h (by cases hy; cases hz; rfl))
theorem fr_put : ∀ (ds : List Nat) (a : Act) (T : Nat → Value) (d : Nat) (v : Value), d ∉ ds → (fr a ds T).put (some d) v = fr (a.put (some d) v) ds T
  | [], _, _, _, _, _ => rfl
  | x :: xs, a, T, d, v, h => by
    simp only [List.mem_cons, not_or] at h
    simp only [fr]
    rw [fr_put xs _ T d v h.2, put_ne a _ _ (Ne.symm h.1)]
theorem upd_ne {T : Nat → Value} {d s : Nat} {v : Value} (h : s ≠ d) : upd T d v s = T s := by
  unfold upd
  cases hb : Nat.beq s d
  · rfl
  · exact absurd (Nat.eq_of_beq_eq_true hb) h
theorem upd_same {T : Nat → Value} {d : Nat} {v : Value} : upd T d v d = v := by simp [upd, Nat.beq_refl]
theorem fr_upd_out : ∀ (ds : List Nat) (a : Act) (T : Nat → Value) (d : Nat) (v : Value), d ∉ ds → fr a ds (upd T d v) = fr a ds T
  | [], _, _, _, _, _ => rfl
  | x :: xs, a, T, d, v, h => by
    simp only [List.mem_cons, not_or] at h
    simp only [fr]
    rw [upd_ne (Ne.symm h.1), fr_upd_out xs _ T d v h.2]
theorem fr_upd : ∀ (ds : List Nat) (a : Act) (T : Nat → Value) (d : Nat) (v : Value), ds.Nodup → d ∈ ds → (fr a ds T).put (some d) v = fr a ds (upd T d v)
  | [], _, _, _, _, _, h => by cases h
  | x :: xs, a, T, d, v, hn, h => by
    obtain ⟨hx, hn'⟩ := List.nodup_cons.1 hn
    simp only [fr]
    by_cases hxd : x = d
    · subst hxd
      rw [fr_put xs _ T x v hx, put_same, upd_same, fr_upd_out xs _ T x v hx]
    · have : d ∈ xs := by rcases List.mem_cons.1 h with h | h; exact absurd h.symm hxd; exact h
      rw [fr_upd xs _ T d v hn' this, upd_ne hxd]
theorem fr_updO {ds : List Nat} {a : Act} {T : Nat → Value} {d : Option Nat} {v : Value} (hn : ds.Nodup) (h : ∀ x, d = some x → x ∈ ds) : (fr a ds T).put d v = fr a ds (updO T d v) := by
  cases d with
  | none => rfl
  | some x => exact fr_upd ds a T x v hn (h x rfl)
/-- What is asked of an operation: from wherever the invariant stands it goes on, and the invariant stands again. -/
def StepK (P : Program) (ops : Array Oper) (Q : Exit → Act → World → Prop) (a : Act) (ds : List Nat) (I : (Nat → Bool) → (Nat → Value) → World → Prop) (k : Nat) (o : Oper) : Prop :=
  ∀ (L : Nat → Bool) (T : Nat → Value) (w : World), (∀ e ∈ o.after.toList, Region.binds .any e = true → L e.on = true) → L k = false → Closed ops L → I L T w →
    ∀ K : Value → World → Prop, (∀ v w', I (lst L k) (updO T o.dst v) w' → K v w') →
      if Region.wanted o (yielded ops (fr a ds T).tmps) = true then Oper.wpv P o (fr a ds T) w K Q else K undef w

/-- The slots that operations write. -/
def dstsIn (ops : Array Oper) (ds : List Nat) : Bool := ops.toList.all fun o => match o.dst with
  | some d => ds.contains d
  | none => true
/-- Edges lead back. -/
def back (ops : Array Oper) : Bool := (List.range ops.size).all fun i => match ops[i]? with
  | some o => o.after.toList.all fun e => !Region.binds .any e || decide (e.on < i)
  | none => true

section
variable {P : Program} {ops : Array Oper} {Q : Exit → Act → World → Prop} {a : Act} {ds : List Nat} {I : (Nat → Bool) → (Nat → Value) → World → Prop}

theorem ready_ne {listed : Array Bool} (hb : back ops = true) (hz : listed.size = ops.size) (i : Nat) (hi : i < ops.size) (hl : listed.getD i true = false) : Region.ready .any ops listed ≠ [] := by
  induction i using Nat.strongRecOn with
  | _ i ih =>
    by_cases hall : ∀ j, j < i → listed.getD j true = true
    · intro h
      have : i ∈ Region.ready .any ops listed := by
        rw [mem_ready]
        refine ⟨hl, ops[i], by simp [hi], fun e he hbn => ?_⟩
        have h1 := List.all_eq_true.1 hb i (by simpa using hi)
        simp only [Array.getElem?_eq_getElem hi] at h1
        have h2 := List.all_eq_true.1 h1 e (by simpa using he)
        have h3 : e.on < i := by simpa [hbn] using h2
        have h4 := hall e.on h3
        have h5 : e.on < listed.size := by omega
        simpa [h5] using h4
      rw [h] at this
      cases this
    · have : ∃ j, j < i ∧ listed.getD j true = false := by
        apply Classical.byContradiction
        intro hn
        apply hall
        intro j hj
        cases hc : listed.getD j true
        · exact absurd ⟨j, hj, hc⟩ hn
        · rfl
      obtain ⟨j, hj, hc⟩ := this
      exact ih j hj (by omega) hc

theorem wpAny_of_inv (hn : ds.Nodup) (hd : dstsIn ops ds = true) (hb : back ops = true) (hs : AllK (StepK P ops Q a ds I) 0 ops.toList)
    (he : ∀ L T w, (∀ i, i < ops.size → L i = true) → I L T w → Q .normal (fr a ds T) w) :
    ∀ (fuel : Nat) (listed : Array Bool) (T : Nat → Value) (w : World), listed.size = ops.size → listed.count false ≤ fuel → Closed ops (fun j => listed.getD j false) → I (fun j => listed.getD j false) T w → wpAny P .any ops Q fuel listed (fr a ds T) w := by
  have done : ∀ (listed : Array Bool) (T : Nat → Value) (w : World), listed.size = ops.size → Region.ready .any ops listed = [] → I (fun j => listed.getD j false) T w → Q .normal (fr a ds T) w := by
    intro listed T w hz hr hI
    refine he _ T w (fun i hi => ?_) hI
    cases hc : listed.getD i true with
    | false => exact absurd hr (ready_ne hb hz i hi hc)
    | true =>
      have h5 : i < listed.size := by omega
      simpa [h5] using hc
  intro fuel
  induction fuel with
  | zero =>
    intro listed T w hz hc hcl hI
    have hr : Region.ready .any ops listed = [] := by
      cases h : Region.ready .any ops listed with
      | nil => rfl
      | cons i is =>
        have hm : i ∈ Region.ready .any ops listed := by rw [h]; exact List.mem_cons_self ..
        obtain ⟨h0, o, ho, _⟩ := mem_ready.1 hm
        have hlt : i < ops.size := (Array.getElem?_eq_some_iff.1 ho).1
        have h5 : i < listed.size := by omega
        have : listed[i] = false := by simpa [h5] using h0
        have hin : false ∈ listed := by rw [← this]; exact Array.getElem_mem h5
        have := Array.count_pos_iff.2 hin
        omega
    exact ⟨hr, done listed T w hz hr hI⟩
  | succ fuel ih =>
    intro listed T w hz hc hcl hI
    refine ⟨fun hr => done listed T w hz hr hI, fun i hi => ?_⟩
    obtain ⟨h0, o, ho, hdep⟩ := mem_ready.1 hi
    have hlt : i < ops.size := (Array.getElem?_eq_some_iff.1 ho).1
    have h5 : i < listed.size := by omega
    have hli : listed[i] = false := by simpa [h5] using h0
    have hstep := AllK.get hs i o (by simpa using ho)
    rw [Nat.zero_add] at hstep
    unfold wpOp
    simp only [ho]
    have hK : ∀ T' w', I (lst (fun j => listed.getD j false) i) T' w' → wpAny P .any ops Q fuel (listed.setIfInBounds i true) (fr a ds T') w' := by
      intro T' w' hI'
      refine ih (listed.setIfInBounds i true) T' w' (by simpa using hz) ?_ ?_ ?_
      · have : listed.setIfInBounds i true = listed.set i true h5 := by simp [Array.setIfInBounds, h5]
        rw [this, Array.count_set h5, hli]
        simp
        omega
      · intro j o' ho' hj e he' hbn
        by_cases hji : j = i
        · subst hji
          obtain rfl : o' = o := Option.some.inj (ho'.symm.trans ho)
          exact getD_set_true (hdep e (by simpa using he') hbn)
        · refine getD_set_true (hcl j o' ho' ?_ e he' hbn)
          simpa only [getD_set_ne false (Ne.symm hji)] using hj
      · have : (fun j => (listed.setIfInBounds i true).getD j false) = lst (fun j => listed.getD j false) i := by
          funext j
          unfold lst
          by_cases hji : j = i
          · subst hji
            simp [h5, Nat.beq_refl]
          · have : Nat.beq j i = false := by
              cases hbq : Nat.beq j i
              · rfl
              · exact absurd (Nat.eq_of_beq_eq_true hbq) hji
            rw [this, Bool.false_or, getD_set_ne false (Ne.symm hji)]
        rw [this]
        exact hI'
    have hdst : ∀ x, o.dst = some x → x ∈ ds := by
      intro x hx
      have h1 := List.all_eq_true.1 hd o (by simpa using Array.mem_of_getElem? ho)
      simp only [hx] at h1
      simpa using h1
    have h1 := hstep _ T w (fun e he hbn => hdep e (by simpa using he) hbn) (by simp [h5, hli]) hcl hI (fun v w' => wpAny P .any ops Q fuel (listed.setIfInBounds i true) (fr a ds (updO T o.dst v)) w') (fun v w' hI' => hK _ w' hI')
    by_cases hw : Region.wanted o (yielded ops (fr a ds T).tmps) = true
    · rw [if_pos hw] at h1 ⊢
      exact .inl (Oper.wp_of_wpv h1 fun v w' h2 => by rw [fr_updO hn hdst]; exact h2)
    · rw [if_neg hw] at h1 ⊢
      rw [fr_updO hn hdst]
      exact h1

theorem fr_slot0 : ∀ (ds : List Nat) (a : Act), fr a ds (slot0 a) = a := by
  have put0 : ∀ (a : Act) (d : Nat), a.put (some d) (slot0 a d) = a := by
    intro a d
    obtain ⟨tmps, df⟩ := a
    simp only [Act.put, slot0]
    by_cases h : d < tmps.size
    · simp [Array.setIfInBounds, h]
    · simp [Array.setIfInBounds, h]
  intro ds
  induction ds with
  | nil => intro a; rfl
  | cons d ds ih => intro a; simp only [fr]; rw [put0]; exact ih a

/-- A drawn region by an invariant. -/
theorem wp_region_inv {id : Nat} {w : World} (hm : P.follows .mixedOrders = true) (ds : List Nat) (I : (Nat → Bool) → (Nat → Value) → World → Prop)
    (hn : ds.Nodup) (hd : dstsIn ops ds = true) (hb : back ops = true) (h0 : I (fun _ => false) (slot0 a) { w with drawn := w.drawn + 1 })
    (hs : AllK (StepK P ops Q a ds I) 0 ops.toList)
    (he : ∀ L T w, (∀ i, i < ops.size → L i = true) → I L T w → Q .normal (fr a ds T) w) : (Code.region id ops true).wp P Q a w := by
  refine wp_region_any hm ?_
  have := wpAny_of_inv hn hd hb hs he ops.size (Array.replicate ops.size false) (slot0 a) { w with drawn := w.drawn + 1 } (by simp) (by simp) (by
    intro j o _ hj
    by_cases hjs : j < ops.size <;> simp [hjs] at hj) (by
    have : (fun j => (Array.replicate ops.size false).getD j false) = fun _ => false := by
      funext j
      by_cases hj : j < ops.size <;> simp [hj]
    rw [this]
    exact h0)
  rwa [fr_slot0] at this
end
end Go.Proofs.YtgohpgollpjlnaaDoor
