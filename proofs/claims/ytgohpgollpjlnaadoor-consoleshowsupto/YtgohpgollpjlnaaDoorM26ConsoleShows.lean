/- Texts of this claim, one behind the other. -/
import Derived.Test.YtgohpgollpjlnaaDoorRows
import Derived.HandedShaped
import Derived.Handed
import Derived.Test.YtgohpgollpjlnaaDoorM23ConsoleShows
import Derived.Test.YtgohpgollpjlnaaDoorShelf
import Derived.Test.YtgohpgollpjlnaaDoorA1ConsoleShows
import Derived.Test.YtgohpgollpjlnaaDoorM2ConsoleShows
import Derived.Test.YtgohpgollpjlnaaDoorM5ConsoleShows
import Derived.LoopTactic
import Derived.Deep.Cut
import Derived.Deep.DeepCutAuto
import Derived.Deep.CutBlock
import Derived.Lib.AtoiErrMem
import Derived.Deep.RegionHeld3
import Derived.OwnWalk
import Derived.Lib.LaidTab
import Derived.LaidLaws
import Derived.Shelf.Vars
import Derived.WalkSmall
import Derived.ShapedOpen
/- The wrap of a law's claim that keeps both the listed tables' condition and the world's shape. -/
namespace Go.Proofs.YtgohpgollpjlnaaDoor
open Go
variable {H : Type} {enc : TypeId × Value → H}

theorem returnsBoth {a : Assume} {C : Checked} {os : Os} {f : FuncId} {fn : Func} {s : ChangeSpec} {conds : List PathCond} {apart fresh handsOn again : Bool} {X : World → Array Value → Prop}
    (hX : ∀ (w w' : World) (args : Array Value), w.heap = w'.heap → X w args → X w' args)
    (own : ownKnob C.prog.godebug = none) (started : os.Started) (noInit : C.prog.inits.idxOf? f = none) (hfn : C.prog.funcs[f]? = some fn)
    (witness : ∃ (w : World) (tape : Tape) (i : Input), w.os = os ∧ (w.forCall tape i).Shaped C.prog ∧ i.vars = [] ∧ Input.okWide C.prog (w.forCall tape i) .any w.heap.size f i ∧
      ((s.pre enc C.prog fn conds apart (w.forCall tape i).memory i.args ∧ X (w.forCall tape i).memory i.args) ∧ sizedMet enc C.prog fn (OpenSpec.ofChange s) apart (w.forCall tape i).memory i.args) ∧ a.holds C.prog (lone (Frame.enter C.prog f i.args .normal) [] (w.forCall tape i)))
    (contract : ∀ (W : World) (base : Nat) (args : Array Value) (ds gs : List (DataW H)) (before : List MemPlace),
      (∀ (j : Nat) t v, fn.params[j]? = some t → args[j]? = some v → Value.okWide C.prog W .any base t v) →
      DataW.Whole enc C.prog fn.params.toList s.vars apart W args.toList ds gs before →
      conds.all (PathCond.test C.prog ⟨fn.params.toList, ds, s.plain.varTypes C.prog, gs⟩) = true →
      (DataW.weightsEach C.prog (fn.params.toList ++ s.plain.varTypes C.prog) (ds ++ gs)).all (· ≤ reachBytes) = true → X W args →
      W.ShapedOpen C.prog →
      a.holds C.prog (lone (Frame.enter C.prog f args .normal) [] W) →
      Calls C.prog f args W fun e W' => ∃ v, e = .returned v ∧ s.post enc C.prog fn apart fresh handsOn again W args v W') :
    ReturnsInHanded a C os f .any (fun w args => (s.pre enc C.prog fn conds apart w args ∧ X w args) ∧ sizedMet enc C.prog fn (OpenSpec.ofChange s) apart w args) (s.post enc C.prog fn apart fresh handsOn again) := by
  refine returnsInHanded_of_calls own started noInit witness ?_
  intro w tape i _ hsh _ hok hpre hholds
  obtain ⟨_, _, _, fn', hfn', _, _, _, _, hval⟩ := hok
  have e : fn' = fn := Option.some.inj (hfn'.symm.trans hfn)
  subst e
  obtain ⟨⟨⟨ds, gs, before, hw, hc⟩, hx⟩, hz⟩ := hpre
  have hw' := DataW.Whole.of_heap (w' := w.forCall tape i) (by rfl) hw
  refine (contract (w.forCall tape i) w.heap.size i.args ds gs before hval hw' hc (hz.weights hw) (hX _ _ _ (by rfl) hx) hsh hholds).mono fun e W' ⟨v, he, hp⟩ => ?_
  subst he
  exact ChangeSpec.post_blind hp
end Go.Proofs.YtgohpgollpjlnaaDoor
/- What console.Read answers. -/
namespace Go.Proofs.YtgohpgollpjlnaaDoor.Cn
open Go.ChangeShapes Go.WideShapes Go.ChangeAt Go.RowKit
open Go.Proofs.YtgohpgollpjlnaaDoor.St (BoxN boxn_new)
set_option linter.unusedVariables false

/-- What lies in the library's variables. -/
structure CnW (w : World) : Prop where
  tab : Lib.TabIs Tryd.prog w "internal/strconv.uint64pow10" .u64 Lib.pow10Tab
  syn : ∃ ev, w.cell? ⟨4, 0, none⟩ = some ev ∧ (ev = .nilIface ∨ ∃ te pe, ev = .iface te pe)
  rng : ∃ ev, w.cell? ⟨5, 0, none⟩ = some ev ∧ (ev = .nilIface ∨ ∃ te pe, ev = .iface te pe)
  mx : ∃ m, w.cell? ⟨0, 0, none⟩ = some (.int .i64 m)
theorem ok_range {l : List UInt8} {v : Int} (h : Lib.atoiAll l = .ok v) : -9223372036854775808 ≤ v ∧ v ≤ 9223372036854775807 := by
  unfold Lib.atoiAll at h
  split at h
  · cases h
  · simp only at h
    split at h
    · cases h
    · cases h
    · split at h
      · cases h
      · split at h
        · cases h
        · injection h with h
          subst h
          split <;> omega
theorem below_bw (w : World) (e : TypeId) (s : ByteArray) : Below w.heap.size w (Lib.bytesWorld w e s) := Lib.bytesWorld_below w e s
theorem below_grow (w : World) (k : Nat) (os : Array Obj) : Below w.heap.size w (Go.Sort.grow (w.drewN k) os) := by
  refine ⟨rfl, rfl, rfl, ?_, fun j hj => ?_⟩
  · simp [Go.Sort.grow, World.drewN]
  · simp only [Go.Sort.grow, World.drewN]
    rw [Array.getElem?_append_left hj]
set_option maxRecDepth 100000 in
set_option maxHeartbeats 4000000 in
theorem number_any (s : ByteArray) (most : Int) (w : World) (hs : s.size ≤ 100) (hT : ∀ U, Below w.heap.size w U → CnW U) :
    Calls Tryd.prog 77 #[.string s, .int .i64 most] w fun e w' => ∃ n, e = .returned (.tuple #[.int .i64 n, .bool (numOf s.data.toList most).isSome]) ∧ (∀ v, numOf s.data.toList most = some v → n = v) ∧ Below w.heap.size w w' := by
  have HT : Hid (∀ U, Below w.heap.size w U → CnW U) := hT
  clear hT
  cases hA : Lib.atoiAll s.data.toList with
  | «syntax» =>
    have HN : Hid (numOf s.data.toList most = none) := by show _ = _; unfold numOf; rw [hA]
    obtain ⟨ev, hv, hev⟩ := (HT.out w (Below.refl _ _)).syn
    have hc := Tryd.strconv_Atoi_syntax s (by omega) hA ev w hv hev
    clear hv hev
    go_enter Tryd.func77, Tryd.ntmps77
    go_wp2_with (go_at_call 109; refine hc.mono ?_; rintro e u ⟨N, rfl, -, -, hu⟩)
    refine bodyPost_ret (v := .tuple #[.int .i64 0, .bool false]) (by simp [results, Tryd.results77, go_sem]) rfl ?_
    exact ⟨0, by rw [HN.out]; rfl, (fun v h => by rw [HN.out] at h; cases h), hu⟩
  | range =>
    have HN : Hid (numOf s.data.toList most = none) := by show _ = _; unfold numOf; rw [hA]
    obtain ⟨ev, hv, hev⟩ := (HT.out w (Below.refl _ _)).rng
    have hc := Tryd.strconv_Atoi_range s (by omega) hA ev w hv hev
    clear hv hev
    go_enter Tryd.func77, Tryd.ntmps77
    go_wp2_with (go_at_call 109; refine hc.mono ?_; rintro e u ⟨N, rfl, -, -, hu⟩)
    refine bodyPost_ret (v := .tuple #[.int .i64 (Lib.atoiSat s.data.toList), .bool false]) (by simp [results, Tryd.results77, go_sem]) rfl ?_
    exact ⟨_, by rw [HN.out]; rfl, (fun v h => by rw [HN.out] at h; cases h), hu⟩
  | ok v =>
    obtain ⟨v1, v2⟩ := ok_range hA
    have HN : Hid (numOf s.data.toList most = if Lib.itoa v = s.data.toList ∧ 0 ≤ v ∧ v ≤ most then some v else none) := by show _ = _; unfold numOf; rw [hA]
    have hc := Tryd.strconv_Atoi_ok s (by omega) v hA w
    have hI : ∀ U, Below w.heap.size w U → Calls Tryd.prog 50 #[.int .i64 v] U fun e w' => e = .returned (.string ⟨(Lib.itoa v).toArray⟩) ∧ Below U.heap.size U w' := fun U hU => by
      refine (Tryd.strconv_Itoa v v1 v2 U (HT.out U hU).tab).mono ?_
      rintro e w' ⟨rfl, k, os, rfl⟩
      exact ⟨rfl, below_grow U k os⟩
    have hW := fun U => within_any v 0 most U
    go_enter Tryd.func77, Tryd.ntmps77
    go_upto_region 2 with (go_at_call 109; refine hc.mono ?_; rintro e u ⟨rfl, hu'⟩; have hu : Below w.heap.size w u := hu'.elim (fun h8 => by rw [h8]; exact Below.refl _ _) (fun ⟨t, h8⟩ => by rw [h8]; exact below_bw _ _ _); clear hu')
    have hIu := hI u hu
    clear hc hI
    have eT : s.toList = s.data.toList := Go.ByteArray.toList_eq s
    by_cases hE : Lib.itoa v = s.data.toList
    · have hE2 : (Lib.itoa v == s.toList) = true := by rw [eT, hE]; simp
      have HN2 : Hid ((numOf s.data.toList most).isSome = inR v 0 most ∧ ∀ x, numOf s.data.toList most = some x → v = x) := by
        rw [HN.out]
        by_cases hr : 0 ≤ v ∧ v ≤ most
        · rw [if_pos ⟨hE, hr⟩]
          exact ⟨by simp [inR, hr], fun x hx => by injection hx⟩
        · rw [if_neg (fun h => hr h.2)]
          exact ⟨by simp [inR]; omega, fun x hx => by cases hx⟩
      clear hA HN eT hE v1 v2
      go_wp2_with (first | (go_at_call 50; refine hIu.mono ?_; rintro e z ⟨rfl, hz⟩) | (go_at_call 78; refine (hW _).mono ?_; rintro e z2 ⟨rfl, hz2⟩; rw [hz2]; clear hz2))
      all_goals first | (exact absurd ‹¬ _› (by assumption)) | skip
      refine bodyPost_ret (v := .tuple #[.int .i64 v, .bool (inR v 0 most)]) (by simp [results, Tryd.results77, go_sem]) rfl ?_
      exact ⟨v, by rw [HN2.out.1], HN2.out.2, hu.trans (hz.mono hu.size)⟩
    · have hE2 : (Lib.itoa v == s.toList) = false := by rw [eT]; simpa using hE
      have HN2 : Hid (numOf s.data.toList most = none) := by show _ = _; rw [HN.out, if_neg (fun h => hE h.1)]
      clear hA HN eT hE v1 v2
      go_wp2_with (first | (go_at_call 50; refine hIu.mono ?_; rintro e z ⟨rfl, hz⟩) | (go_at_call 78; refine (hW _).mono ?_; rintro e z2 ⟨rfl, hz2⟩; rw [hz2]; clear hz2))
      refine bodyPost_ret (v := .tuple #[.int .i64 v, .bool false]) (by simp [results, Tryd.results77, go_sem]) rfl ?_
      exact ⟨v, by rw [HN2.out]; rfl, (fun x h => by rw [HN2.out] at h; cases h), hu.trans (hz.mono hu.size)⟩
/-- Words in memory, one behind the other. -/
def IsStrs (w : World) (a : Option Addr) (n c : Nat) (ws : List ByteArray) : Prop :=
  ws.length = n ∧ n ≤ c ∧ c ≤ maxLen ∧ (0 < n → ∃ b off, a = some ⟨b, off, none⟩ ∧ b < w.heap.size ∧ ∀ i, i < n → w.cell? ⟨b, off + i, none⟩ = some (.string (ws.getD i .empty)))
theorem IsStrs.below {w u : World} {a : Option Addr} {n c : Nat} {ws : List ByteArray} (h : IsStrs w a n c ws) (hb : Below w.heap.size w u) : IsStrs u a n c ws := by
  obtain ⟨h1, h2, h3, h4⟩ := h
  refine ⟨h1, h2, h3, fun h0 => ?_⟩
  obtain ⟨b, off, e, hl, hc⟩ := h4 h0
  exact ⟨b, off, e, Nat.lt_of_lt_of_le hl hb.size, fun i hi => (hb.cell (p := ⟨b, off + i, none⟩) hl).trans (hc i hi)⟩
def txt (ws : List ByteArray) : List (List UInt8) := ws.map (·.data.toList)
def CmdIs (w w' : World) (e : Ending) (o : Option Cmd) : Prop := ∃ x : Cmd, e = .returned (.tuple #[x.val, .bool o.isSome]) ∧ (∀ c, o = some c → x = c) ∧ Below w.heap.size w w'
set_option maxRecDepth 100000 in
set_option maxHeartbeats 4000000 in
theorem about_any (kind : Int) (a : Option Addr) (n c : Nat) (ws : List ByteArray) (w : World) (h : IsStrs w a n c ws) (hz : ∀ x ∈ ws, x.size ≤ 100) (hT : ∀ U, Below w.heap.size w U → CnW U) :
    Calls Tryd.prog 40 #[.int .i64 kind, .slice a n c] w fun e w' => CmdIs w w' e (aboutOf kind false (txt ws)) := by
  obtain ⟨W, hW⟩ : ∃ W : World, W = w.alloc (.cells #[.int .i64 0, .int .i64 0, .int .i64 0, .int .i64 0, .bool false] 25) := ⟨_, rfl⟩
  have bx : BoxN W w.heap.size 5 [.int .i64 0, .int .i64 0, .int .i64 0, .int .i64 0, .bool false] := by rw [hW]; exact boxn_new w #[.int .i64 0, .int .i64 0, .int .i64 0, .int .i64 0, .bool false] 25 5 rfl
  have bW : Below w.heap.size w W := by rw [hW]; exact (Below.refl _ _).alloc (Nat.le_refl _) _
  have HB : Hid (∀ U, Below W.heap.size W U → BoxN U w.heap.size 5 [.int .i64 0, .int .i64 0, .int .i64 0, .int .i64 0, .bool false] ∧ Below w.heap.size w U) := fun U hU => ⟨bx.below hU bx.lt, bW.trans (hU.mono bW.size)⟩
  have hlen := h.1
  have hnc := h.2.1
  have hcm := h.2.2.1
  unfold maxLen at hcm
  by_cases h3 : n = 3
  · subst h3
    obtain ⟨b, off, rfl, hb, hc⟩ := h.2.2.2 (by omega)
    match ws, hlen with
    | [x, y, z], _ =>
      have hx := hz x (by simp)
      have hy := hz y (by simp)
      have hzz := hz z (by simp)
      have k0 := hc 0 (by omega)
      have k1 := hc 1 (by omega)
      have k2 := hc 2 (by omega)
      simp only [List.getD_cons_zero, List.getD_cons_succ, Nat.add_zero] at k0 k1 k2
      have HK : Hid (∀ U, Below w.heap.size w U → U.cell? ⟨b, off, none⟩ = some (.string x) ∧ U.cell? ⟨b, off + 1, none⟩ = some (.string y) ∧ U.cell? ⟨b, off + 2, none⟩ = some (.string z) ∧ b < U.heap.size) := fun U hU => ⟨(hU.cell (p := ⟨b, off, none⟩) hb).trans k0, (hU.cell (p := ⟨b, off + 1, none⟩) hb).trans k1, (hU.cell (p := ⟨b, off + 2, none⟩) hb).trans k2, Nat.lt_of_lt_of_le hb hU.size⟩
      have HN : Hid (∀ (s : ByteArray) (most : Int) (U : World), s.size ≤ 100 → Below w.heap.size w U → Calls Tryd.prog 77 #[.string s, .int .i64 most] U fun e w' => ∃ n, e = .returned (.tuple #[.int .i64 n, .bool (numOf s.data.toList most).isSome]) ∧ (∀ v, numOf s.data.toList most = some v → n = v) ∧ Below U.heap.size U w') := fun s most U h1 h2 => number_any s most U h1 (fun V hV => hT V (h2.trans (hV.mono h2.size)))
      obtain ⟨j0, j1, j2, jb⟩ := HK.out W bW
      have q1 := HN.out x 5 W hx bW
      clear k0 k1 k2 hc h hT hz bx
      have HO : Hid (aboutOf kind false (txt [x, y, z]) = match numOf x.data.toList 5, numOf y.data.toList 3, numOf z.data.toList 1048576 with | some p, some q, some r => some ⟨kind, p, q, r, false⟩ | _, _, _ => none) := rfl
      obtain ⟨O, eO⟩ : ∃ O, O = aboutOf kind false (txt [x, y, z]) := ⟨_, rfl⟩
      rw [← eO] at HO ⊢
      clear eO
      go_enter Tryd.func40, Tryd.ntmps40
      go_upto_region 3 with (fail)
      rw [← hW]
      clear hW
      go_upto_region 4 with (go_at_call 77; refine q1.mono ?_; rintro e u1 ⟨n1, rfl, hn1, hu1⟩)
      have b1 : Below w.heap.size w u1 := bW.trans (hu1.mono bW.size)
      clear j0 j1 j2 jb q1
      obtain ⟨j0, j1, j2, jb⟩ := HK.out u1 b1
      have q2 := HN.out y 3 u1 hy b1
      go_upto_region 5 with (go_at_call 77; refine q2.mono ?_; rintro e u2 ⟨n2, rfl, hn2, hu2⟩)
      have b2 : Below w.heap.size w u2 := b1.trans (hu2.mono b1.size)
      clear j0 j1 j2 jb q2
      obtain ⟨j0, j1, j2, jb⟩ := HK.out u2 b2
      have q3 := HN.out z 1048576 u2 hzz b2
      go_upto_region 6 with (go_at_call 77; refine q3.mono ?_; rintro e u3 ⟨n3, rfl, hn3, hu3⟩)
      clear j0 j1 j2 jb q3
      have hWu : Below W.heap.size W u3 := hu1.trans ((hu2.trans (hu3.mono hu2.size)).mono hu1.size)
      obtain ⟨bxu, bwu⟩ := HB.out u3 hWu
      have s0 := (bxu.c 0 (by decide)).1
      have s1 := (bxu.c 1 (by decide)).1
      have s2 := (bxu.c 2 (by decide)).1
      have s3 := (bxu.c 3 (by decide)).1
      have s4 := (bxu.c 4 (by decide)).1
      have f0 := (bxu.c 0 (by decide)).2
      have f1 := (bxu.c 1 (by decide)).2
      have f2 := (bxu.c 2 (by decide)).2
      have f3 := (bxu.c 3 (by decide)).2
      have f4 := (bxu.c 4 (by decide)).2
      have bz := bxu.lt
      simp only [List.getD_cons_zero, List.getD_cons_succ] at s0 s1 s2 s3 s4
      clear HB HK HN hu1 hu2 hu3 b1 b2 bW hWu hx hy hzz
      obtain ⟨F, hF⟩ : ∃ F : World, F = ((((u3.setCell ⟨w.heap.size, 0, none⟩ (.int .i64 kind)).setCell ⟨w.heap.size, 1, none⟩ (.int .i64 n1)).setCell ⟨w.heap.size, 2, none⟩ (.int .i64 n2)).setCell ⟨w.heap.size, 3, none⟩ (.int .i64 n3)).setCell ⟨w.heap.size, 4, none⟩ (.bool false) := ⟨_, rfl⟩
      have k0 : F.cell? ⟨w.heap.size, 0, none⟩ = some (.int .i64 kind) := by rw [hF]; go_simp
      have k1 : F.cell? ⟨w.heap.size, 1, none⟩ = some (.int .i64 n1) := by rw [hF]; go_simp
      have k2 : F.cell? ⟨w.heap.size, 2, none⟩ = some (.int .i64 n2) := by rw [hF]; go_simp
      have k3 : F.cell? ⟨w.heap.size, 3, none⟩ = some (.int .i64 n3) := by rw [hF]; go_simp
      have k4 : F.cell? ⟨w.heap.size, 4, none⟩ = some (.bool false) := by rw [hF]; go_simp
      have hFb : Below w.heap.size w F := by rw [hF]; exact ((((bwu.setCell (by simp) _).setCell (by simp) _).setCell (by simp) _).setCell (by simp) _).setCell (by simp) _
      have HD : Hid (∀ B : Bool, B = O.isSome → CmdIs w F (.returned (.tuple #[.agg #[.int .i64 kind, .int .i64 n1, .int .i64 n2, .int .i64 n3, .bool false], .bool B])) O) := fun B hB => by
        refine ⟨⟨kind, n1, n2, n3, false⟩, by rw [hB]; rfl, fun d hd => ?_, hFb⟩
        rw [HO.out] at hd
        cases e1 : numOf x.data.toList 5 with
        | none => rw [e1] at hd; cases hd
        | some p =>
          cases e2 : numOf y.data.toList 3 with
          | none => rw [e1, e2] at hd; cases hd
          | some q =>
            cases e3 : numOf z.data.toList 1048576 with
            | none => rw [e1, e2, e3] at hd; cases hd
            | some r =>
              rw [e1, e2, e3] at hd
              injection hd with hd
              rw [← hd, hn1 p e1, hn2 q e2, hn3 r e3]
      have HO2 : Hid (O.isSome = ((numOf x.data.toList 5).isSome && ((numOf y.data.toList 3).isSome && (numOf z.data.toList 1048576).isSome))) := by
        show _ = _
        rw [HO.out]
        cases numOf x.data.toList 5 <;> cases numOf y.data.toList 3 <;> cases numOf z.data.toList 1048576 <;> rfl
      clear HO hFb
      obtain ⟨B1, e1⟩ : ∃ B, B = (numOf x.data.toList 5).isSome := ⟨_, rfl⟩
      obtain ⟨B2, e2⟩ : ∃ B, B = (numOf y.data.toList 3).isSome := ⟨_, rfl⟩
      obtain ⟨B3, e3⟩ : ∃ B, B = (numOf z.data.toList 1048576).isSome := ⟨_, rfl⟩
      rw [← e1, ← e2, ← e3] at HO2 ⊢
      clear e1 e2 e3 hn1 hn2 hn3 bxu bwu
      cases B1 <;> cases B2 <;> cases B3
      all_goals
        go_wp2
        rw [← hF]
        refine bodyPost_ret (v := .tuple #[.agg #[.int .i64 kind, .int .i64 n1, .int .i64 n2, .int .i64 n3, .bool false], .bool _]) (by simp [results, Tryd.results40, go_sem, k0, k1, k2, k3, k4]) rfl (HD.out _ HO2.out.symm)
  · have hne : ((n : Int) != 3) = true := by simp; omega
    have HO : Hid (aboutOf kind false (txt ws) = none) := by
      show _ = _
      match ws, hlen with
      | [], _ => rfl
      | [_], _ => rfl
      | [_, _], _ => rfl
      | [_, _, _], hl => exact absurd hl (by simp; omega)
      | _ :: _ :: _ :: _ :: _, _ => rfl
    obtain ⟨O, eO⟩ : ∃ O, O = aboutOf kind false (txt ws) := ⟨_, rfl⟩
    rw [← eO] at HO ⊢
    clear eO
    have s0 := (bx.c 0 (by decide)).1
    have s1 := (bx.c 1 (by decide)).1
    have s2 := (bx.c 2 (by decide)).1
    have s3 := (bx.c 3 (by decide)).1
    have s4 := (bx.c 4 (by decide)).1
    have f0 := (bx.c 0 (by decide)).2
    have f1 := (bx.c 1 (by decide)).2
    have f2 := (bx.c 2 (by decide)).2
    have f3 := (bx.c 3 (by decide)).2
    have f4 := (bx.c 4 (by decide)).2
    have bz := bx.lt
    simp only [List.getD_cons_zero, List.getD_cons_succ] at s0 s1 s2 s3 s4
    obtain ⟨F, hF⟩ : ∃ F : World, F = ((((W.setCell ⟨w.heap.size, 0, none⟩ (.int .i64 0)).setCell ⟨w.heap.size, 1, none⟩ (.int .i64 0)).setCell ⟨w.heap.size, 2, none⟩ (.int .i64 0)).setCell ⟨w.heap.size, 3, none⟩ (.int .i64 0)).setCell ⟨w.heap.size, 4, none⟩ (.bool false) := ⟨_, rfl⟩
    have k0 : F.cell? ⟨w.heap.size, 0, none⟩ = some (.int .i64 0) := by rw [hF]; go_simp
    have k1 : F.cell? ⟨w.heap.size, 1, none⟩ = some (.int .i64 0) := by rw [hF]; go_simp
    have k2 : F.cell? ⟨w.heap.size, 2, none⟩ = some (.int .i64 0) := by rw [hF]; go_simp
    have k3 : F.cell? ⟨w.heap.size, 3, none⟩ = some (.int .i64 0) := by rw [hF]; go_simp
    have k4 : F.cell? ⟨w.heap.size, 4, none⟩ = some (.bool false) := by rw [hF]; go_simp
    have HFb : Hid (Below w.heap.size w F) := by rw [hF]; exact ((((bW.setCell (by simp) _).setCell (by simp) _).setCell (by simp) _).setCell (by simp) _).setCell (by simp) _
    clear bW HB h hT hz bx h3 hlen
    go_enter Tryd.func40, Tryd.ntmps40
    go_upto_region 1 with (fail)
    rw [← hW]
    clear hW
    go_wp2
    rw [← hF]
    refine bodyPost_ret (v := .tuple #[.agg #[.int .i64 0, .int .i64 0, .int .i64 0, .int .i64 0, .bool false], .bool false]) (by simp [results, Tryd.results40, go_sem, k0, k1, k2, k3, k4]) rfl ?_
    exact ⟨Cmd.nil, by rw [HO.out]; rfl, (fun d hd => by rw [HO.out] at hd; cases hd), HFb.out⟩
end Go.Proofs.YtgohpgollpjlnaaDoor.Cn
/- What lies in the library's variables when the call begins, out of the listed tables and the world's shape; and later. -/
namespace Go.Proofs.YtgohpgollpjlnaaDoor.Cn
open Go.ChangeShapes Go.WideShapes Go.ChangeAt Go.RowKit
set_option linter.unusedVariables false

def IfAt (w : World) (g : Nat) : Prop := ∃ ev, w.cell? ⟨g, 0, none⟩ = some ev ∧ (ev = .nilIface ∨ ∃ te pe, ev = .iface te pe)
theorem cell_lt {w : World} {g : Nat} {v : Value} (h : w.cell? ⟨g, 0, none⟩ = some v) : g < w.heap.size := by
  unfold World.cell? at h
  simp only at h
  by_cases hg : g < w.heap.size
  · exact hg
  · rw [Array.getElem?_eq_none (by omega)] at h
    simp at h
theorem tab_lt {w : World} {g : Nat} {n : String} {cs : Array Value} (hg : Tryd.prog.globalNamed n = some g) (h : w.var? Tryd.prog n = some cs) : g < w.heap.size := by
  unfold World.var? at h
  rw [hg] at h
  simp only [Option.bind_some] at h
  by_cases hl : g < w.heap.size
  · exact hl
  · rw [Array.getElem?_eq_none (by omega)] at h
    cases h
theorem tab_all {W : World} (h1 : Lib.TabIs Tryd.prog W "internal/strconv.uint64pow10" .u64 Lib.pow10Tab) : ∀ U, Below W.heap.size W U → Lib.TabIs Tryd.prog U "internal/strconv.uint64pow10" .u64 Lib.pow10Tab := fun U hU => by
  have hg : Tryd.prog.globalNamed "internal/strconv.uint64pow10" = some 3 := by kernel_rfl
  exact var?_below hU hg (tab_lt hg h1) h1
theorem cnw_all {W : World} (h1 : Lib.TabIs Tryd.prog W "internal/strconv.uint64pow10" .u64 Lib.pow10Tab) (h2 : IfAt W 5) (h3 : IfAt W 4) (h4 : W.ShapedOpen Tryd.prog) :
    ∀ U, Below W.heap.size W U → CnW U := by
  obtain ⟨m, hm⟩ : ∃ m, W.cell? ⟨0, 0, none⟩ = some (.int .i64 m) := cell_of_shapedOpen_int h4 (of_decide_eq_true (by kernel_rfl)) (t := 3) (zero := #[.int .i64 0]) (by kernel_rfl) rfl (by kernel_rfl) (by kernel_rfl) Tryd.underlying3
  have hg : Tryd.prog.globalNamed "internal/strconv.uint64pow10" = some 3 := by kernel_rfl
  intro U hU
  obtain ⟨e2, c2, d2⟩ := h2
  obtain ⟨e3, c3, d3⟩ := h3
  exact ⟨var?_below hU hg (tab_lt hg h1) h1, ⟨e3, (hU.cell (p := ⟨4, 0, none⟩) (cell_lt c3)).trans c3, d3⟩, ⟨e2, (hU.cell (p := ⟨5, 0, none⟩) (cell_lt c2)).trans c2, d2⟩, ⟨m, (hU.cell (p := ⟨0, 0, none⟩) (cell_lt hm)).trans hm⟩⟩
end Go.Proofs.YtgohpgollpjlnaaDoor.Cn
