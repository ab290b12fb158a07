/- Texts of this claim, one behind the other. -/
import Derived.Test.YtekglahigjblkaaGreatDoorM37RecoverRebuilds
import Derived.Test.YtekglahigjblkaaGreatDoorM21RecoverRebuilds
import Derived.Test.YtekglahigjblkaaGreatDoorM36RecoverRebuilds
import Derived.Test.YtekglahigjblkaaGreatDoorM23RecoverRebuilds
import Derived.Tactics
/- The contract of the document's others: how many others have a lock on a key, and how many of these for writing. -/
namespace Go.Proofs.YtekglahigjblkaaGreatDoor.St
open Go.ChangeShapes Go.WideShapes Go.ChangeAt Go.RowKit
set_option linter.unusedVariables false

def othR (t : Int × Int) (ky : Int) (k : LkV) : Bool := decide (k.key = ky) && !(decide (k.t = t))
def othW (t : Int × Int) (ky : Int) (k : LkV) : Bool := othR t ky k && k.write

theorem cell_drewN' {w : World} {p : Addr} {v : Value} (h : w.cell? p = some v) (k : Nat) : (w.drewN k).cell? p = some v :=
  ((below_drewN (Below.refl w.heap.size w) k).cell (World.block_lt_of_cell? w _ h)).trans h

set_option maxHeartbeats 4000000 in
theorem others_any (s : SV) (t : Int × Int) (key : Int) (w : World) (h : IsLocks w s.la s.ll s.lc s.locks) :
    Calls Tryz.prog 34 #[s.val, .agg #[.int .i64 t.1, .int .i64 t.2], .int .i64 key] w fun e w' => e = .returned (.tuple #[.int .i64 (s.locks.countP (othR t key) : Nat), .int .i64 (s.locks.countP (othW t key) : Nat)]) ∧ Below w.heap.size w w' := by
  obtain ⟨ia, il, ic, la, ll, lc, da, dl, dc, oa, ol, oc, items, locks, doubts, over⟩ := s
  obtain ⟨ts, tn⟩ := t
  simp only [SV.val] at *
  obtain ⟨hlen, hcap, hmax, _, hmem⟩ := h
  have HL : Hid (locks.length = ll) := hlen
  clear hlen
  unfold maxLen at hmax
  obtain ⟨W, hW⟩ : ∃ W : World, W = (w.alloc (.cells #[.slice ia il ic, .slice la ll lc, .slice da dl dc, .slice oa ol oc] 31)).alloc (.cells #[.int .i64 ts, .int .i64 tn] 51) := ⟨_, rfl⟩
  have hB : Below w.heap.size w W := by rw [hW]; exact ((Below.refl _ _).alloc (Nat.le_refl _) _).alloc (by simp) _
  have zW : W.heap.size = w.heap.size + 2 := by rw [hW]; simp
  have c1 : W.cell? ⟨w.heap.size, 1, none⟩ = some (.slice la ll lc) := by rw [hW]; go_simp
  have d0 : W.cell? ⟨w.heap.size + 1, 0, none⟩ = some (.int .i64 ts) := by rw [hW]; go_simp
  have d1 : W.cell? ⟨w.heap.size + 1, 1, none⟩ = some (.int .i64 tn) := by rw [hW]; go_simp
  have z0 : w.heap.size < W.heap.size := by omega
  have z1 : w.heap.size + 1 < W.heap.size := by omega
  clear zW
  obtain ⟨P1, eP1⟩ : ∃ P, P = othR (ts, tn) key := ⟨_, rfl⟩
  obtain ⟨P2, eP2⟩ : ∃ P, P = othW (ts, tn) key := ⟨_, rfl⟩
  have E1 : Hid (∀ y, P1 y = (decide (y.key = key) && !(decide (y.t = (ts, tn))))) := by show ∀ _, _; rw [eP1]; intro y; rfl
  have E2 : Hid (∀ y, P2 y = ((decide (y.key = key) && !(decide (y.t = (ts, tn)))) && y.write)) := by show ∀ _, _; rw [eP2]; intro y; rfl
  rw [← eP1, ← eP2]
  clear eP1 eP2
  go_enter Tryz.func34, Tryz.ntmps34
  go_wp2
  rw [← hW]
  clear hW
  go_loopw [8, 9, 10] (fun s8 s9 s10 wr => ∃ (k A B : Nat), k ≤ ll ∧ s10 = .int .i64 k ∧ s8 = .int .i64 A ∧ s9 = .int .i64 B ∧ Hid (A = (locks.take k).countP P1) ∧ Hid (B = (locks.take k).countP P2) ∧ A ≤ k ∧ B ≤ k ∧ Below W.heap.size W wr) (fun _ _ s10 _ => ll - (intOf s10).toNat)
  case atStart => exact ⟨0, 0, 0, Nat.zero_le _, rfl, rfl, rfl, rfl, rfl, Nat.le_refl _, Nat.le_refl _, Below.refl _ _⟩
  case round =>
    obtain ⟨k, A, B, hk, rfl, rfl, rfl, hA, hBc, hAk, hBk, hb⟩ := hrel
    have hwr := hB.trans (hb.mono hB.size)
    have x2 := (hb.cell (p := ⟨w.heap.size, 1, none⟩) z0).trans c1
    have y0 := (hb.cell (p := ⟨w.heap.size + 1, 0, none⟩) z1).trans d0
    have y1 := (hb.cell (p := ⟨w.heap.size + 1, 1, none⟩) z1).trans d1
    by_cases hlt : k < ll
    · have hlt' : (k : Int) < (ll : Int) := by omega
      obtain ⟨b, off, rfl, zb, hc⟩ := hmem (by omega)
      have hkl : k < locks.length := by have := HL.out; omega
      have hcells := hc k hlt
      have n1 := countP_at (p := P1) hkl
      have n2 := countP_at (p := P2) hkl
      obtain ⟨x, ex⟩ : ∃ x, x = locks.getD k default := ⟨_, rfl⟩
      rw [← ex] at hcells n1 n2
      clear ex
      rw [E1.out, ← hA.out] at n1
      rw [E2.out, ← hBc.out] at n2
      obtain ⟨⟨site, num⟩, key2, write, value, ask⟩ := x
      simp only at n1 n2
      have N1 : Hid ((locks.take (k + 1)).countP P1 = A + if (decide (key2 = key) && !(decide ((site, num) = (ts, tn)))) = true then 1 else 0) := n1
      have N2 : Hid ((locks.take (k + 1)).countP P2 = B + if (decide (key2 = key) && !(decide ((site, num) = (ts, tn))) && write) = true then 1 else 0) := n2
      clear n1 n2 hA hBc
      have a0 := hcells 0 (by decide)
      have a1 := hcells 1 (by decide)
      have a2 := hcells 2 (by decide)
      have a3 := hcells 3 (by decide)
      simp [LkV.cells] at a0 a1 a2 a3
      rw [← hwr.cell (p := ⟨b, off + k * 6, none⟩) zb] at a0
      rw [← hwr.cell (p := ⟨b, off + k * 6 + 1, none⟩) zb] at a1
      rw [← hwr.cell (p := ⟨b, off + k * 6 + 2, none⟩) zb] at a2
      rw [← hwr.cell (p := ⟨b, off + k * 6 + 3, none⟩) zb] at a3
      clear hcells hc
      have k63 : (k : Int) < 9223372036854775807 := by omega
      by_cases e5 : key2 = key
      · subst e5
        by_cases e1 : site = ts
        · by_cases e2 : num = tn
          · subst e1 e2
            go_wp2
            go_quiet (fail)
            go_wp2
            go_roundw
            case rel => exact ⟨k + 1, A, B, by omega, by go_num, rfl, rfl, by show _ = _; rw [N1.out]; simp, by show _ = _; rw [N2.out]; simp, by omega, by omega, below_drewN hb nq⟩
            case measure => simp [intOf]; omega
          · have e3 : (num == tn) = false := by simpa using e2
            subst e1
            cases write with
            | true =>
              go_wp2
              go_quiet (fail)
              have b3 := cell_drewN' a3 nq
              have b4 := cell_drewN' x2 nq
              go_wp2
              go_roundw
              case rel => exact ⟨k + 1, A + 1, B + 1, by omega, by go_num, by go_num, by go_num, by show _ = _; rw [N1.out]; simp [e2], by show _ = _; rw [N2.out]; simp [e2], by omega, by omega, below_drewN hb nq⟩
              case measure => simp [intOf]; omega
            | false =>
              go_wp2
              go_quiet (fail)
              have b3 := cell_drewN' a3 nq
              have b4 := cell_drewN' x2 nq
              go_wp2
              go_roundw
              case rel => exact ⟨k + 1, A + 1, B, by omega, by go_num, by go_num, rfl, by show _ = _; rw [N1.out]; simp [e2], by show _ = _; rw [N2.out]; simp, by omega, by omega, below_drewN hb nq⟩
              case measure => simp [intOf]; omega
        · have e3 : (site == ts) = false := by simpa using e1
          cases write with
          | true =>
            go_wp2
            go_quiet (fail)
            have b3 := cell_drewN' a3 nq
            have b4 := cell_drewN' x2 nq
            go_wp2
            go_roundw
            case rel => exact ⟨k + 1, A + 1, B + 1, by omega, by go_num, by go_num, by go_num, by show _ = _; rw [N1.out]; simp [e1], by show _ = _; rw [N2.out]; simp [e1], by omega, by omega, below_drewN hb nq⟩
            case measure => simp [intOf]; omega
          | false =>
            go_wp2
            go_quiet (fail)
            have b3 := cell_drewN' a3 nq
            have b4 := cell_drewN' x2 nq
            go_wp2
            go_roundw
            case rel => exact ⟨k + 1, A + 1, B, by omega, by go_num, by go_num, rfl, by show _ = _; rw [N1.out]; simp [e1], by show _ = _; rw [N2.out]; simp, by omega, by omega, below_drewN hb nq⟩
            case measure => simp [intOf]; omega
      · have e6 : (key2 == key) = false := by simpa using e5
        go_wp2
        go_quiet (fail)
        go_wp2
        go_roundw
        case rel => exact ⟨k + 1, A, B, by omega, by go_num, rfl, rfl, by show _ = _; rw [N1.out]; simp [e5], by show _ = _; rw [N2.out]; simp [e5], by omega, by omega, below_drewN hb nq⟩
        case measure => simp [intOf]; omega
    · have hke : k = ll := by omega
      have etk : locks.take k = locks := List.take_of_length_le (by have := HL.out; omega)
      have hA' := hA.out
      have hB' := hBc.out
      rw [etk] at hA' hB'
      clear etk hke hA hBc
      subst hA' hB'
      go_wp2
      go_ret2
      exact ⟨rfl, hwr⟩
end Go.Proofs.YtekglahigjblkaaGreatDoor.St
/- The contract of the document's WriteOf. -/
namespace Go.Proofs.YtekglahigjblkaaGreatDoor.St
open Go.ChangeShapes Go.WideShapes Go.ChangeAt Go.RowKit
set_option linter.unusedVariables false

theorem oth_any {t : Int × Int} {key : Int} {l : List LkV} : decide (0 < l.countP (othR t key)) = l.any (othT t key) := by
  have : othR t key = othT t key := by funext k; simp [othR, othT, Bool.and_comm]
  rw [this, Bool.eq_iff_iff]
  simp only [decide_eq_true_eq, List.countP_pos_iff, List.any_eq_true]
theorem app_set {l : List LkV} {n : Nat} (h : l.length = n) (z y : LkV) : (l ++ [z]).set n y = l ++ [y] := by
  subst h
  rw [List.set_append_right _ _ (Nat.le_refl _), Nat.sub_self]
  rfl

set_option maxRecDepth 100000 in
set_option maxHeartbeats 8000000 in
theorem writeRef_own (s : SV) (t : Int × Int) (key value ask : Int) (w : World) (h : IsStore w s) (h1 : s.il * 24 ≤ 140737488351232) (h2 : s.ll * 48 ≤ 140737488351232) (h3 : s.dl * 24 ≤ 140737488351232) (h4 : s.ol * 16 ≤ 140737488351232) :
    Calls Tryz.prog 16 #[s.val, .agg #[.int .i64 t.1, .int .i64 t.2], .int .i64 key, .int .i64 value, .int .i64 ask] w fun e w' => ∃ r : SV, e = .returned (.tuple #[r.val, .int .i64 (writeErr s t key value ask)]) ∧ OwnStore w' w.heap.size r ∧ r.data = writeData s t key value ask ∧ Below w.heap.size w w' := by
  obtain ⟨i2, E2⟩ := lkElem
  obtain ⟨i3, E3⟩ := dbElem
  have hC : ∀ w', IsStore w' s → Calls Tryz.prog 33 #[s.val, .agg #[.int .i64 t.1, .int .i64 t.2], .int .i64 key] w' fun e w'' => e = .returned (.int .i64 (refErr s t key)) ∧ Below w'.heap.size w' w'' := fun w' h1 => askFault_any s t key w' h1
  have hIt := fun w' h1 => itemOf_any s key w' h1
  have hLo := fun w' h1 => lockOf_any s t key w' h1
  have hOt := fun w' h1 => others_any s t key w' h1
  have hOv := fun w' h1 => isOver_ref s t w' h1
  have hDo := fun w' h1 => doubtOf_ref s t w' h1
  have hCp := fun w' k => storeCopy_any s w' k h1 h2 h3 h4
  have hf := fldW
  have hok : refErr s t key = 0 → s.il ≤ 8 ∧ s.ll ≤ 24 ∧ s.dl ≤ 24 := fun e => ok_sizes (by cases hs : storeOK s with | true => rfl | false => simp [refErr, hs] at e) h
  obtain ⟨E, e0⟩ : ∃ R : Int, R = writeErr s t key value ask := ⟨_, rfl⟩
  obtain ⟨D, e1⟩ : ∃ R, R = writeData s t key value ask := ⟨_, rfl⟩
  obtain ⟨F, e4⟩ : ∃ R : Int, R = refErr s t key := ⟨_, rfl⟩
  obtain ⟨i, e5⟩ : ∃ R : Int, R = idxI (byT t key) s.locks := ⟨_, rfl⟩
  obtain ⟨j, e6⟩ : ∃ R : Int, R = idxI (dbT t) s.doubts := ⟨_, rfl⟩
  obtain ⟨I, e7⟩ : ∃ R, R = itemAt s.items key := ⟨_, rfl⟩
  obtain ⟨O, e8⟩ : ∃ R, R = decide (t ∈ s.over) := ⟨_, rfl⟩
  obtain ⟨A, e9⟩ : ∃ R, R = s.locks.countP (othR t key) := ⟨_, rfl⟩
  obtain ⟨B, e10⟩ : ∃ R, R = s.locks.countP (othW t key) := ⟨_, rfl⟩
  obtain ⟨P1, e11⟩ : ∃ R, R = inR value 0 1073741824 := ⟨_, rfl⟩
  obtain ⟨P2, e12⟩ : ∃ R, R = inR ask 0 1048576 := ⟨_, rfl⟩
  obtain ⟨T, e13⟩ : ∃ R, R = lateT s t key ask := ⟨_, rfl⟩
  have hi := idxI_lt (p := byT t key) (l := s.locks)
  rw [h.locks.1] at hi
  have eT : Hid (T = (O || (decide (0 ≤ i) && decide (ask < (s.locks.getD i.toNat default).ask)))) := by rw [e8, e5]; exact e13
  have hAn := oth_any (t := t) (key := key) (l := s.locks)
  rw [← e9] at hAn
  have eE : Hid (E = if F = 0 then (if P1 && P2 then (if T then 13 else if 0 < A then 11 else if i < 0 ∧ 24 ≤ s.ll then 8 else if 1048576 ≤ I.version then 8 else 0) else 2) else F) := by
    show _ = _
    rw [e4, e5, e7, e11, e12, e13, ← h.locks.1, e0]
    unfold writeErr rwErr
    rw [← hAn]
    simp only [decide_eq_true_eq]
  have eD : Hid (D = if E = 0 then ⟨s.items, if 0 ≤ i then s.locks.set i.toNat ⟨t, key, true, value, ask⟩ else s.locks ++ [⟨t, key, true, value, ask⟩], if j < 0 then s.doubts ++ [⟨t, 0⟩] else s.doubts, s.over⟩ else PS.nil) := by
    have hD : holdD s.doubts t = if j < 0 then s.doubts ++ [⟨t, 0⟩] else s.doubts := by
      unfold holdD
      rw [← idxI_any, ← e6]
      by_cases hj : j < 0
      · rw [if_pos hj, if_neg (by simp; omega)]
      · rw [if_neg hj, if_pos (by simp; omega)]
    rw [e0, e1, e5, ← hD]
    rfl
  have HBAD : Hid (E ≠ 0 → D = PS.nil) := fun hE => by rw [eD.out, if_neg hE]
  rw [← e0, ← e1]
  rw [← e4] at hC hok
  rw [← e5] at hLo hi
  rw [← e6] at hDo
  rw [← e7] at hIt
  rw [← e8] at hOv
  rw [← e9, ← e10] at hOt
  replace e11 := e11.symm
  replace e12 := e12.symm
  clear e0 e1 e4 e5 e6 e7 e8 e9 e10 e13 hAn
  obtain ⟨ik, iv, iw⟩ := I
  simp only [ItV.val] at hIt eE
  have hh := h
  have HLL : Hid (s.locks.length = s.ll) := h.locks.1
  obtain ⟨ia, il, ic, la, ll, lc, da, dl, dc, oa, ol, oc, items, locks, doubts, over⟩ := s
  obtain ⟨ts, tn⟩ := t
  simp only [SV.val] at *
  obtain ⟨W, hW⟩ : ∃ W : World, W = (((w.alloc (.cells #[.slice ia il ic, .slice la ll lc, .slice da dl dc, .slice oa ol oc] 31)).alloc (.cells #[.int .i64 ts, .int .i64 tn] 51)).alloc (.cells #[.slice none 0 0, .slice none 0 0, .slice none 0 0, .slice none 0 0] 31)) := ⟨_, rfl⟩
  have hB : Below w.heap.size w W := by rw [hW]; exact ((((Below.refl _ _).alloc (Nat.le_refl _) _).alloc (by simp) _).alloc (by simp; omega) _)
  have zW : W.heap.size = w.heap.size + 3 := by rw [hW]; simp
  have zb0 : w.heap.size < W.heap.size := by omega
  have zb1 : w.heap.size + 1 < W.heap.size := by omega
  have zb2 : w.heap.size + 1 + 1 < W.heap.size := by omega
  have HZW : Hid (W.heap.size = w.heap.size + 3) := zW
  clear zW
  have c0 : W.cell? ⟨w.heap.size, 0, none⟩ = some (.slice ia il ic) := by rw [hW]; go_simp
  have c1 : W.cell? ⟨w.heap.size, 1, none⟩ = some (.slice la ll lc) := by rw [hW]; go_simp
  have c2 : W.cell? ⟨w.heap.size, 2, none⟩ = some (.slice da dl dc) := by rw [hW]; go_simp
  have c3 : W.cell? ⟨w.heap.size, 3, none⟩ = some (.slice oa ol oc) := by rw [hW]; go_simp
  have t0 : W.cell? ⟨w.heap.size + 1, 0, none⟩ = some (.int .i64 ts) := by rw [hW]; go_simp
  have t1 : W.cell? ⟨w.heap.size + 1, 1, none⟩ = some (.int .i64 tn) := by rw [hW]; go_simp
  have r0 : W.cell? ⟨w.heap.size + 1 + 1, 0, none⟩ = some (.slice none 0 0) := by rw [hW]; go_simp
  have r1 : W.cell? ⟨w.heap.size + 1 + 1, 1, none⟩ = some (.slice none 0 0) := by rw [hW]; go_simp
  have r2 : W.cell? ⟨w.heap.size + 1 + 1, 2, none⟩ = some (.slice none 0 0) := by rw [hW]; go_simp
  have r3 : W.cell? ⟨w.heap.size + 1 + 1, 3, none⟩ = some (.slice none 0 0) := by rw [hW]; go_simp
  have rf0 : W.frozen? ⟨w.heap.size + 1 + 1, 0, none⟩ = false := by rw [hW]; go_simp
  have rf1 : W.frozen? ⟨w.heap.size + 1 + 1, 1, none⟩ = false := by rw [hW]; go_simp
  have rf2 : W.frozen? ⟨w.heap.size + 1 + 1, 2, none⟩ = false := by rw [hW]; go_simp
  have rf3 : W.frozen? ⟨w.heap.size + 1 + 1, 3, none⟩ = false := by rw [hW]; go_simp
  have rz : w.heap.size + 1 + 1 < W.heap.size := zb2
  have KA : Hid (∀ U : World, Below W.heap.size W U → U.cell? ⟨w.heap.size, 0, none⟩ = some (.slice ia il ic) ∧ U.cell? ⟨w.heap.size, 1, none⟩ = some (.slice la ll lc) ∧ U.cell? ⟨w.heap.size, 2, none⟩ = some (.slice da dl dc) ∧ U.cell? ⟨w.heap.size, 3, none⟩ = some (.slice oa ol oc) ∧ U.cell? ⟨w.heap.size + 1, 0, none⟩ = some (.int .i64 ts) ∧ U.cell? ⟨w.heap.size + 1, 1, none⟩ = some (.int .i64 tn) ∧ U.cell? ⟨w.heap.size + 1 + 1, 0, none⟩ = some (.slice none 0 0) ∧ U.cell? ⟨w.heap.size + 1 + 1, 1, none⟩ = some (.slice none 0 0) ∧ U.cell? ⟨w.heap.size + 1 + 1, 2, none⟩ = some (.slice none 0 0) ∧ U.cell? ⟨w.heap.size + 1 + 1, 3, none⟩ = some (.slice none 0 0) ∧ U.frozen? ⟨w.heap.size + 1 + 1, 0, none⟩ = false ∧ U.frozen? ⟨w.heap.size + 1 + 1, 1, none⟩ = false ∧ U.frozen? ⟨w.heap.size + 1 + 1, 2, none⟩ = false ∧ U.frozen? ⟨w.heap.size + 1 + 1, 3, none⟩ = false ∧ w.heap.size + 1 + 1 < U.heap.size) := fun U hU => ⟨(hU.cell (p := ⟨w.heap.size, 0, none⟩) zb0).trans c0, (hU.cell (p := ⟨w.heap.size, 1, none⟩) zb0).trans c1, (hU.cell (p := ⟨w.heap.size, 2, none⟩) zb0).trans c2, (hU.cell (p := ⟨w.heap.size, 3, none⟩) zb0).trans c3, (hU.cell (p := ⟨w.heap.size + 1, 0, none⟩) zb1).trans t0, (hU.cell (p := ⟨w.heap.size + 1, 1, none⟩) zb1).trans t1, (hU.cell (p := ⟨w.heap.size + 1 + 1, 0, none⟩) zb2).trans r0, (hU.cell (p := ⟨w.heap.size + 1 + 1, 1, none⟩) zb2).trans r1, (hU.cell (p := ⟨w.heap.size + 1 + 1, 2, none⟩) zb2).trans r2, (hU.cell (p := ⟨w.heap.size + 1 + 1, 3, none⟩) zb2).trans r3, (hU.frozen (p := ⟨w.heap.size + 1 + 1, 0, none⟩) zb2).trans rf0, (hU.frozen (p := ⟨w.heap.size + 1 + 1, 1, none⟩) zb2).trans rf1, (hU.frozen (p := ⟨w.heap.size + 1 + 1, 2, none⟩) zb2).trans rf2, (hU.frozen (p := ⟨w.heap.size + 1 + 1, 3, none⟩) zb2).trans rf3, Nat.lt_of_lt_of_le zb2 hU.size⟩
  have hSW := hh.below hB
  have HS : Hid (∀ U : World, Below W.heap.size W U → IsStore U ⟨ia, il, ic, la, ll, lc, da, dl, dc, oa, ol, oc, items, locks, doubts, over⟩) := fun U hU => hSW.below hU
  clear hh h
  go_enter Tryz.func16, Tryz.ntmps16
  go_upto_region 1 with (fail)
  rw [← hW]
  clear hW
  have hin1 := fun w' => in_eq e11 w'
  have hin2 := fun w' => in_eq e12 w'
  by_cases hF : F = 0
  · subst hF
    obtain ⟨q1, q2, q3⟩ := hok rfl
    clear hok
    by_cases hP : (P1 && P2) = true
    · obtain ⟨rfl, rfl⟩ : P1 = true ∧ P2 = true := by simpa using hP
      have tok : True := trivial
      go_upto_region 6 with (first
        | (go_at_call 33; refine (hC _ hSW).mono ?_; rintro e w1 ⟨rfl, hb1⟩)
        | (go_at_call 14; clear tok; refine (hin1 _).mono ?_; rintro e w1' ⟨rfl, hb1'⟩)
        | (go_at_call 14; refine (hin2 _).mono ?_; rintro e w1'' ⟨rfl, hb1''⟩))
      have hbA : Below W.heap.size W w1'' := (hb1.trans (hb1'.mono hb1.size)).trans (hb1''.mono (hb1.trans (hb1'.mono hb1.size)).size)
      clear c0 c1 c2 c3 t0 t1 r0 r1 r2 r3 rf0 rf1 rf2 rf3 rz hin1 hin2
      obtain ⟨c0, c1, c2, c3, t0, t1, r0, r1, r2, r3, rf0, rf1, rf2, rf3, rz⟩ := KA.out _ hbA
      have hLA := (HS.out _ hbA).locks
      simp only [] at hLA
      go_upto_region 7 with (go_at_call 34; refine (hOt _ hLA).mono ?_; rintro e w2 ⟨rfl, hb2'⟩)
      have hb2 := hbA.trans (hb2'.mono hbA.size)
      clear c0 c1 c2 c3 t0 t1 r0 r1 r2 r3 rf0 rf1 rf2 rf3 rz hLA
      obtain ⟨c0, c1, c2, c3, t0, t1, r0, r1, r2, r3, rf0, rf1, rf2, rf3, rz⟩ := KA.out _ hb2
      have hL2 := (HS.out _ hb2).locks
      simp only [] at hL2
      go_upto_region 8 with (go_at_call 35; refine (hLo _ hL2).mono ?_; rintro e w3 ⟨rfl, hb3'⟩)
      have hb3 := hb2.trans (hb3'.mono hb2.size)
      clear c0 c1 c2 c3 t0 t1 r0 r1 r2 r3 rf0 rf1 rf2 rf3 rz hL2
      obtain ⟨c0, c1, c2, c3, t0, t1, r0, r1, r2, r3, rf0, rf1, rf2, rf3, rz⟩ := KA.out _ hb3
      have hO3 := (HS.out _ hb3).over
      simp only [] at hO3
      cases O with
      | true =>
        have hTt : T = true := by rw [eT.out]; rfl
        have hEE : E = 13 := by rw [eE.out]; simp [hTt]
        have hE : E ≠ 0 := by rw [hEE]; decide
        go_wp2_with (go_at_call 36; refine (hOv _ hO3).mono ?_; rintro e w4 ⟨rfl, hb4'⟩; have hb4 := hb3.trans (hb4'.mono hb3.size); clear c0 c1 c2 c3 t0 t1 r0 r1 r2 r3 rf0 rf1 rf2 rf3 rz; obtain ⟨c0, c1, c2, c3, t0, t1, r0, r1, r2, r3, rf0, rf1, rf2, rf3, rz⟩ := KA.out _ hb4)
        refine bodyPost_ret (v := .tuple #[.agg #[.slice none 0 0, .slice none 0 0, .slice none 0 0, .slice none 0 0], .int .i64 13]) (by simp [results, Tryz.results16, go_sem, r0, r1, r2, r3]) rfl ?_
        have y3 := HBAD.out hE
        rw [y3]
        try rw [hEE]
        exact ⟨SV.nil, rfl, ownStore_nil _ _, rfl, below_four (hB.trans (hb4.mono hB.size)) (by omega) (.slice none 0 0) (.slice none 0 0) (.slice none 0 0) (.slice none 0 0)⟩
      | false =>
        by_cases h0 : i < 0
        · have hTf : T = false := by rw [eT.out]; simp; omega
          have h0' : ¬ 0 ≤ i := by omega
          go_upto_region 10 with (go_at_call 36; refine (hOv _ hO3).mono ?_; rintro e w4 ⟨rfl, hb4'⟩; have hb4 := hb3.trans (hb4'.mono hb3.size); clear c0 c1 c2 c3 t0 t1 r0 r1 r2 r3 rf0 rf1 rf2 rf3 rz; obtain ⟨c0, c1, c2, c3, t0, t1, r0, r1, r2, r3, rf0, rf1, rf2, rf3, rz⟩ := KA.out _ hb4)
          by_cases hA : 0 < A
          · have hA' : (0 : Int) < (A : Int) := by omega
            have hEE : E = 11 := by rw [eE.out]; simp [hTf, hA]
            have hE : E ≠ 0 := by rw [hEE]; decide
            go_wp2
            refine bodyPost_ret (v := .tuple #[.agg #[.slice none 0 0, .slice none 0 0, .slice none 0 0, .slice none 0 0], .int .i64 11]) (by simp [results, Tryz.results16, go_sem, r0, r1, r2, r3]) rfl ?_
            have y3 := HBAD.out hE
            rw [y3]
            try rw [hEE]
            exact ⟨SV.nil, rfl, ownStore_nil _ _, rfl, below_four (hB.trans (hb4.mono hB.size)) (by omega) (.slice none 0 0) (.slice none 0 0) (.slice none 0 0) (.slice none 0 0)⟩
          · have hA' : ¬ (0 : Int) < (A : Int) := by omega
            have hI4 := (HS.out _ hb4).items
            simp only [] at hI4
            by_cases h24 : 24 ≤ ll
            · have h24' : (24 : Int) ≤ (ll : Int) := by omega
              have hEE : E = 8 := by rw [eE.out]; simp [hTf, hA, h0, h24]
              have hE : E ≠ 0 := by rw [hEE]; decide
              go_wp2
              refine bodyPost_ret (v := .tuple #[.agg #[.slice none 0 0, .slice none 0 0, .slice none 0 0, .slice none 0 0], .int .i64 8]) (by simp [results, Tryz.results16, go_sem, r0, r1, r2, r3]) rfl ?_
              have y3 := HBAD.out hE
              rw [y3]
              try rw [hEE]
              exact ⟨SV.nil, rfl, ownStore_nil _ _, rfl, below_four (hB.trans (hb4.mono hB.size)) (by omega) (.slice none 0 0) (.slice none 0 0) (.slice none 0 0) (.slice none 0 0)⟩
            · have h24' : ¬ (24 : Int) ≤ (ll : Int) := by omega
              by_cases hv : 1048576 ≤ iw
              · have hEE : E = 8 := by rw [eE.out]; simp only [hTf, hA, hv, h24, and_false, ↓reduceIte, Bool.and_self, Bool.false_eq_true]
                have hE : E ≠ 0 := by rw [hEE]; decide
                go_wp2_with (go_at_call 37; refine (hIt _ hI4).mono ?_; rintro e w5 ⟨rfl, hb5'⟩; have hb5 := hb4.trans (hb5'.mono hb4.size); clear c0 c1 c2 c3 t0 t1 r0 r1 r2 r3 rf0 rf1 rf2 rf3 rz; obtain ⟨c0, c1, c2, c3, t0, t1, r0, r1, r2, r3, rf0, rf1, rf2, rf3, rz⟩ := KA.out _ hb5)
                refine bodyPost_ret (v := .tuple #[.agg #[.slice none 0 0, .slice none 0 0, .slice none 0 0, .slice none 0 0], .int .i64 8]) (by simp [results, Tryz.results16, go_sem, r0, r1, r2, r3]) rfl ?_
                have y3 := HBAD.out hE
                rw [y3]
                try rw [hEE]
                exact ⟨SV.nil, rfl, ownStore_nil _ _, rfl, below_four (hB.trans (hb5.mono hB.size)) (by omega) (.slice none 0 0) (.slice none 0 0) (.slice none 0 0) (.slice none 0 0)⟩
              · have hE : E = 0 := by rw [eE.out]; simp only [hTf, hA, hv, h24, and_false, ↓reduceIte, Bool.and_self, Bool.false_eq_true]
                have yD0 : Hid (D = ⟨items, locks ++ [⟨(ts, tn), key, true, value, ask⟩], if j < 0 then doubts ++ [⟨(ts, tn), 0⟩] else doubts, over⟩) := by show _ = _; rw [eD.out, if_pos hE, if_neg (by omega)]
                go_upto_region 15 with (first | (go_at_call 37; refine (hIt _ hI4).mono ?_; rintro e w5 ⟨rfl, hb5'⟩; have hb5 := hb4.trans (hb5'.mono hb4.size); clear c0 c1 c2 c3 t0 t1 r0 r1 r2 r3 rf0 rf1 rf2 rf3 rz; obtain ⟨c0, c1, c2, c3, t0, t1, r0, r1, r2, r3, rf0, rf1, rf2, rf3, rz⟩ := KA.out _ hb5; have hS5 := HS.out _ hb5) | (go_at_call 38; refine (hCp _ hS5).mono ?_; rintro e w6 ⟨⟨a0, n0, u0, a1, n1, u1, a2, n2, u2, a3, n3, u3, items', locks', doubts', over'⟩, rfl, hsame, hown, hb6'⟩; obtain ⟨v1, v2, v3, v4, v5, v6, v7, v8⟩ := hsame; simp only [] at v1 v2 v3 v4 v5 v6 v7 v8; obtain rfl := v1.symm; obtain rfl := v2.symm; obtain rfl := v3.symm; obtain rfl := v4.symm; obtain rfl := v5.symm; obtain rfl := v6.symm; obtain rfl := v7.symm; obtain rfl := v8.symm; simp only []; have hb6 : Below W.heap.size W w6 := hb5.trans (hb6'.mono hb5.size)))
                obtain ⟨X, hX⟩ : ∃ X : World, X = w6.alloc (.cells #[.slice a0 il u0, .slice a1 ll u1, .slice a2 dl u2, .slice a3 ol u3] 31) := ⟨_, rfl⟩
                have hM0 : Made W X W.heap.size w6.heap.size ⟨a0, il, u0, a1, ll, u1, a2, dl, u2, a3, ol, u3, items, locks, doubts, over⟩ := by
                  have hb7 : Below w6.heap.size w6 X := by rw [hX]; exact (Below.refl _ _).alloc (Nat.le_refl _) _
                  refine Made.new (hown.base hb5.size) hb6 hb7 (Nat.le_refl _) ?_ hb6.size
                  rw [hX]
                  exact boxn_new w6 #[.slice a0 il u0, .slice a1 ll u1, .slice a2 dl u2, .slice a3 ol u3] 31 4 rfl
                rw [← hX]
                obtain ⟨m, em⟩ : ∃ m, m = w6.heap.size := ⟨_, rfl⟩
                have zm : W.heap.size ≤ m := by rw [em]; exact hb6.size
                rw [← em] at hM0 ⊢
                clear hX hown em c0 c1 c2 c3 t0 t1 r0 r1 r2 r3 rf0 rf1 rf2 rf3 rz hS5 hI4 hb6 hb6'
                clear w6
                obtain ⟨mz, x0, x1, x2, x3, g0, g1, g2, g3⟩ := hM0.cells
                simp only [] at x0 x1 x2 x3
                obtain ⟨c0, c1, c2, c3, t0, t1, r0, r1, r2, r3, rf0, rf1, rf2, rf3, rz⟩ := KA.out _ hM0.bel
                have z6 := hM0.sz
                go_upto_region 18 with (at_builtin; go_loud (refine wpList_append_row E2 (by rfl) _ _ (by rfl) W.heap.size (.slice a1 ll u1) ll locks (by rfl) (own_below hM0.own.locks ((Below.refl _ _).alloc (Nat.le_refl _) _)) _ 1 1 [⟨(0, 0), 0, false, 0, 0⟩] (by rfl) (isOne _ _ _ _ rfl rfl) (by unfold maxLen; omega) (by omega) (by simp; omega) ?_; intro a7 c7 w7 own7 gr7 at7; obtain ⟨cl7, fz7, hM7⟩ := hM0.put_locks ((Below.refl _ _).alloc (Nat.le_refl _) _) gr7 own7 at7; simp only [] at cl7))
                obtain ⟨U7, hU7⟩ : ∃ U7 : World, U7 = w7.setCell ⟨m, 1, none⟩ (.slice a7 (ll + 1) c7) := ⟨_, rfl⟩
                rw [← hU7] at hM7 ⊢
                clear hU7 cl7 fz7 own7 gr7 at7 c0 c1 c2 c3 t0 t1 r0 r1 r2 r3 rf0 rf1 rf2 rf3 rz x0 x1 x2 x3 g0 g1 g2 g3 mz hM0
                clear w7
                obtain ⟨g, of2, rfl, _, _⟩ := hM7.own.isStore.locks.2.2.2.2 (by show 0 < (ll + 1); omega)
                obtain ⟨rfl, hCg, hgz, hgm, hcl, hM8⟩ := hM7.one_locks (g := g) (off := of2) rfl (i := ll) (by show ll < (ll + 1); omega) ⟨(ts, tn), key, true, value, ask⟩
                simp only [] at hcl hM8
                obtain ⟨d0, e0⟩ := Option.isSome_iff_exists.1 (hcl 0 (by decide)).2.1
                have z0' := (hcl 0 (by decide)).1
                obtain ⟨d1, e1⟩ := Option.isSome_iff_exists.1 (hcl 1 (by decide)).2.1
                have z1' := (hcl 1 (by decide)).1
                obtain ⟨d2, e2⟩ := Option.isSome_iff_exists.1 (hcl 2 (by decide)).2.1
                have z2' := (hcl 2 (by decide)).1
                obtain ⟨d3, e3⟩ := Option.isSome_iff_exists.1 (hcl 3 (by decide)).2.1
                have z3' := (hcl 3 (by decide)).1
                obtain ⟨d4, e4⟩ := Option.isSome_iff_exists.1 (hcl 4 (by decide)).2.1
                have z4' := (hcl 4 (by decide)).1
                obtain ⟨d5, e5⟩ := Option.isSome_iff_exists.1 (hcl 5 (by decide)).2.1
                have z5' := (hcl 5 (by decide)).1
                simp only [Nat.add_zero] at e0 z0'
                clear hcl
                obtain ⟨mz, x0, x1, x2, x3, g0, g1, g2, g3⟩ := hM7.cells
                simp only [] at x0 x1 x2 x3
                obtain ⟨c0, c1, c2, c3, t0, t1, r0, r1, r2, r3, rf0, rf1, rf2, rf3, rz⟩ := KA.out _ hM7.bel
                have hidx : (ll : Int) < ((ll : Int) + 1) := by omega
                obtain ⟨V, hV⟩ : ∃ V : World, V = ((((((U7.setCell ⟨g, ll * 6, none⟩ (.int .i64 ts)).setCell ⟨g, ll * 6 + 1, none⟩ (.int .i64 tn)).setCell ⟨g, ll * 6 + 2, none⟩ (.int .i64 key)).setCell ⟨g, ll * 6 + 3, none⟩ (.bool true)).setCell ⟨g, ll * 6 + 4, none⟩ (.int .i64 value)).setCell ⟨g, ll * 6 + 5, none⟩ (.int .i64 ask)) := ⟨_, rfl⟩
                have hM9 : Made W V W.heap.size m ⟨a0, il, u0, some ⟨g, 0, none⟩, (ll + 1), c7, a2, dl, u2, a3, ol, u3, items, locks ++ [⟨(ts, tn), key, true, value, ask⟩], doubts, over⟩ := by rw [hV, ← app_set HLL.out ⟨(0, 0), 0, false, 0, 0⟩ ⟨(ts, tn), key, true, value, ask⟩]; exact hM8
                go_upto_region 19 with (fail)
                rw [← hV]
                clear hV hM8 hM7 e0 e1 e2 e3 e4 e5 z0' z1' z2' z3' z4' z5' x0 x1 x2 x3 g0 g1 g2 g3 mz c0 c1 c2 c3 t0 t1 r0 r1 r2 r3 rf0 rf1 rf2 rf3 rz
                obtain ⟨c0, c1, c2, c3, t0, t1, r0, r1, r2, r3, rf0, rf1, rf2, rf3, rz⟩ := KA.out _ hM9.bel
                have hDd := (HS.out _ hM9.bel).doubts
                simp only [] at hDd
                by_cases hj : j < 0
                · go_upto_region 20 with (go_at_call 39; refine (hDo _ hDd).mono ?_; rintro e w8 ⟨rfl, hb8⟩)
                  have yD : Hid (D = ⟨items, locks ++ [⟨(ts, tn), key, true, value, ask⟩], doubts ++ [⟨(ts, tn), 0⟩], over⟩) := by show _ = _; rw [yD0.out, if_pos hj]
                  have hM10 := hM9.below hb8
                  clear c0 c1 c2 c3 t0 t1 r0 r1 r2 r3 rf0 rf1 rf2 rf3 rz hDd hM9
                  obtain ⟨c0, c1, c2, c3, t0, t1, r0, r1, r2, r3, rf0, rf1, rf2, rf3, rz⟩ := KA.out _ hM10.bel
                  obtain ⟨mz, x0, x1, x2, x3, g0, g1, g2, g3⟩ := hM10.cells
                  simp only [] at x0 x1 x2 x3
                  have z8 := hM10.sz
                  go_upto_region 21 with (at_builtin; go_loud (refine wpList_append_row E3 (by rfl) _ _ (by rfl) W.heap.size (.slice a2 dl u2) dl doubts (by rfl) (own_below hM10.own.doubts ((Below.refl _ _).alloc (Nat.le_refl _) _)) _ 1 1 [⟨(ts, tn), 0⟩] (by rfl) (isOne _ _ _ _ rfl rfl) (by unfold maxLen; omega) (by omega) (by simp; omega) ?_; intro a9 c9 w9 own9 gr9 at9; obtain ⟨cl9, fz9, hM11⟩ := hM10.put_doubts ((Below.refl _ _).alloc (Nat.le_refl _) _) gr9 own9 at9; simp only [] at cl9))
                  obtain ⟨U9, hU9⟩ : ∃ U9 : World, U9 = w9.setCell ⟨m, 2, none⟩ (.slice a9 (dl + 1) c9) := ⟨_, rfl⟩
                  rw [← hU9] at hM11 ⊢
                  clear hU9 cl9 fz9 own9 gr9 at9 x0 x1 x2 x3 g0 g1 g2 g3 mz hM10 c0 c1 c2 c3 t0 t1 r0 r1 r2 r3 rf0 rf1 rf2 rf3 rz
                  clear w9
                  obtain ⟨c0, c1, c2, c3, t0, t1, r0, r1, r2, r3, rf0, rf1, rf2, rf3, rz⟩ := KA.out _ hM11.bel
                  obtain ⟨mz, x0, x1, x2, x3, g0, g1, g2, g3⟩ := hM11.cells
                  simp only [] at x0 x1 x2 x3
                  go_wp2
                  refine bodyPost_ret (v := .tuple #[.agg #[.slice a0 il u0, .slice (some ⟨g, 0, none⟩) (ll + 1) c7, .slice a9 (dl + 1) c9, .slice a3 ol u3], .int .i64 0]) (by simp [results, Tryz.results16, go_sem, r0, r1, r2, r3]) rfl ?_
                  rw [yD.out]
                  try rw [hE]
                  exact ⟨⟨a0, il, u0, some ⟨g, 0, none⟩, (ll + 1), c7, a9, dl + 1, c9, a3, ol, u3, items, locks ++ [⟨(ts, tn), key, true, value, ask⟩], doubts ++ [⟨(ts, tn), 0⟩], over⟩, rfl, (hM11.own.four (b := w.heap.size + 1 + 1) (by omega) (.slice a0 il u0) (.slice (some ⟨g, 0, none⟩) (ll + 1) c7) (.slice a9 (dl + 1) c9) (.slice a3 ol u3)).base (by omega), rfl, below_four (hB.trans (hM11.bel.mono hB.size)) (by omega) (.slice a0 il u0) (.slice (some ⟨g, 0, none⟩) (ll + 1) c7) (.slice a9 (dl + 1) c9) (.slice a3 ol u3)⟩
                · go_upto_region 21 with (go_at_call 39; refine (hDo _ hDd).mono ?_; rintro e w8 ⟨rfl, hb8⟩)
                  have yD : Hid (D = ⟨items, locks ++ [⟨(ts, tn), key, true, value, ask⟩], doubts, over⟩) := by show _ = _; rw [yD0.out, if_neg (by omega)]
                  have hM10 := hM9.below hb8
                  clear c0 c1 c2 c3 t0 t1 r0 r1 r2 r3 rf0 rf1 rf2 rf3 rz hDd hM9
                  obtain ⟨c0, c1, c2, c3, t0, t1, r0, r1, r2, r3, rf0, rf1, rf2, rf3, rz⟩ := KA.out _ hM10.bel
                  obtain ⟨mz, x0, x1, x2, x3, g0, g1, g2, g3⟩ := hM10.cells
                  simp only [] at x0 x1 x2 x3
                  go_wp2
                  refine bodyPost_ret (v := .tuple #[.agg #[.slice a0 il u0, .slice (some ⟨g, 0, none⟩) (ll + 1) c7, .slice a2 dl u2, .slice a3 ol u3], .int .i64 0]) (by simp [results, Tryz.results16, go_sem, r0, r1, r2, r3]) rfl ?_
                  rw [yD.out]
                  try rw [hE]
                  exact ⟨⟨a0, il, u0, some ⟨g, 0, none⟩, (ll + 1), c7, a2, dl, u2, a3, ol, u3, items, locks ++ [⟨(ts, tn), key, true, value, ask⟩], doubts, over⟩, rfl, (hM10.own.four (b := w.heap.size + 1 + 1) (by omega) (.slice a0 il u0) (.slice (some ⟨g, 0, none⟩) (ll + 1) c7) (.slice a2 dl u2) (.slice a3 ol u3)).base (by omega), rfl, below_four (hB.trans (hM10.bel.mono hB.size)) (by omega) (.slice a0 il u0) (.slice (some ⟨g, 0, none⟩) (ll + 1) c7) (.slice a2 dl u2) (.slice a3 ol u3)⟩
        · obtain ⟨k, rfl⟩ : ∃ k : Nat, i = (k : Int) := ⟨i.toNat, by omega⟩
          have hk : k < ll := by omega
          have hk' : (k : Int) < (ll : Int) := by omega
          obtain ⟨b, off, rfl, zb, hc⟩ := (HS.out _ (Below.refl _ _)).locks.2.2.2.2 (by show 0 < ll; omega)
          have e5 := hc k hk 5 (by decide)
          simp only [] at e5
          obtain ⟨x, ex⟩ : ∃ x, x = locks.getD k default := ⟨_, rfl⟩
          have eT' : Hid (T = decide (ask < x.ask)) := by show _ = _; rw [eT.out, ex]; simp
          rw [← ex] at e5
          clear ex hc
          obtain ⟨⟨ks, kn⟩, kk, kw, kv, ka⟩ := x
          simp only [LkV.cells, List.getElem?_cons_zero, List.getElem?_cons_succ] at e5
          simp only [] at eT'
          have K5 : Hid (∀ U, Below W.heap.size W U → U.cell? ⟨b, off + k * 6 + 5, none⟩ = some (.int .i64 ka)) := fun U hU => (hU.cell (p := ⟨b, off + k * 6 + 5, none⟩) zb).trans e5
          clear e5
          by_cases hka : ask < ka
          · have hTt : T = true := by rw [eT'.out]; simp [hka]
            have hEE : E = 13 := by rw [eE.out]; simp [hTt]
            have hE : E ≠ 0 := by rw [hEE]; decide
            go_wp2_with (go_at_call 36; refine (hOv _ hO3).mono ?_; rintro e w4 ⟨rfl, hb4'⟩; have hb4 := hb3.trans (hb4'.mono hb3.size); clear c0 c1 c2 c3 t0 t1 r0 r1 r2 r3 rf0 rf1 rf2 rf3 rz; obtain ⟨c0, c1, c2, c3, t0, t1, r0, r1, r2, r3, rf0, rf1, rf2, rf3, rz⟩ := KA.out _ hb4; have e5'' := K5.out _ hb4)
            refine bodyPost_ret (v := .tuple #[.agg #[.slice none 0 0, .slice none 0 0, .slice none 0 0, .slice none 0 0], .int .i64 13]) (by simp [results, Tryz.results16, go_sem, r0, r1, r2, r3]) rfl ?_
            have y3 := HBAD.out hE
            rw [y3]
            try rw [hEE]
            exact ⟨SV.nil, rfl, ownStore_nil _ _, rfl, below_four (hB.trans (hb4.mono hB.size)) (by omega) (.slice none 0 0) (.slice none 0 0) (.slice none 0 0) (.slice none 0 0)⟩
          · have hTf : T = false := by rw [eT'.out]; simp; omega
            go_upto_region 10 with (go_at_call 36; refine (hOv _ hO3).mono ?_; rintro e w4 ⟨rfl, hb4'⟩; have hb4 := hb3.trans (hb4'.mono hb3.size); clear c0 c1 c2 c3 t0 t1 r0 r1 r2 r3 rf0 rf1 rf2 rf3 rz; obtain ⟨c0, c1, c2, c3, t0, t1, r0, r1, r2, r3, rf0, rf1, rf2, rf3, rz⟩ := KA.out _ hb4; have e5'' := K5.out _ hb4)
            by_cases hA : 0 < A
            · have hA' : (0 : Int) < (A : Int) := by omega
              have hEE : E = 11 := by rw [eE.out]; simp [hTf, hA]
              have hE : E ≠ 0 := by rw [hEE]; decide
              go_wp2
              refine bodyPost_ret (v := .tuple #[.agg #[.slice none 0 0, .slice none 0 0, .slice none 0 0, .slice none 0 0], .int .i64 11]) (by simp [results, Tryz.results16, go_sem, r0, r1, r2, r3]) rfl ?_
              have y3 := HBAD.out hE
              rw [y3]
              try rw [hEE]
              exact ⟨SV.nil, rfl, ownStore_nil _ _, rfl, below_four (hB.trans (hb4.mono hB.size)) (by omega) (.slice none 0 0) (.slice none 0 0) (.slice none 0 0) (.slice none 0 0)⟩
            · have hA' : ¬ (0 : Int) < (A : Int) := by omega
              have hI4 := (HS.out _ hb4).items
              simp only [] at hI4
              have hz : ¬ ((k : Int) < 0 ∧ 24 ≤ ll) := by omega
              by_cases hv : 1048576 ≤ iw
              · have hEE : E = 8 := by rw [eE.out]; simp only [hTf, hA, hv, hz, ↓reduceIte, Bool.and_self, Bool.false_eq_true]
                have hE : E ≠ 0 := by rw [hEE]; decide
                go_wp2_with (go_at_call 37; refine (hIt _ hI4).mono ?_; rintro e w5 ⟨rfl, hb5'⟩; have hb5 := hb4.trans (hb5'.mono hb4.size); clear c0 c1 c2 c3 t0 t1 r0 r1 r2 r3 rf0 rf1 rf2 rf3 rz; obtain ⟨c0, c1, c2, c3, t0, t1, r0, r1, r2, r3, rf0, rf1, rf2, rf3, rz⟩ := KA.out _ hb5)
                refine bodyPost_ret (v := .tuple #[.agg #[.slice none 0 0, .slice none 0 0, .slice none 0 0, .slice none 0 0], .int .i64 8]) (by simp [results, Tryz.results16, go_sem, r0, r1, r2, r3]) rfl ?_
                have y3 := HBAD.out hE
                rw [y3]
                try rw [hEE]
                exact ⟨SV.nil, rfl, ownStore_nil _ _, rfl, below_four (hB.trans (hb5.mono hB.size)) (by omega) (.slice none 0 0) (.slice none 0 0) (.slice none 0 0) (.slice none 0 0)⟩
              · have hE : E = 0 := by rw [eE.out]; simp only [hTf, hA, hv, hz, ↓reduceIte, Bool.and_self, Bool.false_eq_true]
                have yD0 : Hid (D = ⟨items, locks.set k ⟨(ts, tn), key, true, value, ask⟩, if j < 0 then doubts ++ [⟨(ts, tn), 0⟩] else doubts, over⟩) := by show _ = _; rw [eD.out, if_pos hE, if_pos (by omega)]; simp
                go_upto_region 15 with (first | (go_at_call 37; refine (hIt _ hI4).mono ?_; rintro e w5 ⟨rfl, hb5'⟩; have hb5 := hb4.trans (hb5'.mono hb4.size); clear c0 c1 c2 c3 t0 t1 r0 r1 r2 r3 rf0 rf1 rf2 rf3 rz; obtain ⟨c0, c1, c2, c3, t0, t1, r0, r1, r2, r3, rf0, rf1, rf2, rf3, rz⟩ := KA.out _ hb5; have hS5 := HS.out _ hb5) | (go_at_call 38; refine (hCp _ hS5).mono ?_; rintro e w6 ⟨⟨a0, n0, u0, a1, n1, u1, a2, n2, u2, a3, n3, u3, items', locks', doubts', over'⟩, rfl, hsame, hown, hb6'⟩; obtain ⟨v1, v2, v3, v4, v5, v6, v7, v8⟩ := hsame; simp only [] at v1 v2 v3 v4 v5 v6 v7 v8; obtain rfl := v1.symm; obtain rfl := v2.symm; obtain rfl := v3.symm; obtain rfl := v4.symm; obtain rfl := v5.symm; obtain rfl := v6.symm; obtain rfl := v7.symm; obtain rfl := v8.symm; simp only []; have hb6 : Below W.heap.size W w6 := hb5.trans (hb6'.mono hb5.size)))
                obtain ⟨X, hX⟩ : ∃ X : World, X = w6.alloc (.cells #[.slice a0 il u0, .slice a1 ll u1, .slice a2 dl u2, .slice a3 ol u3] 31) := ⟨_, rfl⟩
                have hM0 : Made W X W.heap.size w6.heap.size ⟨a0, il, u0, a1, ll, u1, a2, dl, u2, a3, ol, u3, items, locks, doubts, over⟩ := by
                  have hb7 : Below w6.heap.size w6 X := by rw [hX]; exact (Below.refl _ _).alloc (Nat.le_refl _) _
                  refine Made.new (hown.base hb5.size) hb6 hb7 (Nat.le_refl _) ?_ hb6.size
                  rw [hX]
                  exact boxn_new w6 #[.slice a0 il u0, .slice a1 ll u1, .slice a2 dl u2, .slice a3 ol u3] 31 4 rfl
                rw [← hX]
                obtain ⟨m, em⟩ : ∃ m, m = w6.heap.size := ⟨_, rfl⟩
                have zm : W.heap.size ≤ m := by rw [em]; exact hb6.size
                rw [← em] at hM0 ⊢
                clear hX hown em c0 c1 c2 c3 t0 t1 r0 r1 r2 r3 rf0 rf1 rf2 rf3 rz hS5 hI4 hb6 hb6'
                clear w6
                obtain ⟨mz, x0, x1, x2, x3, g0, g1, g2, g3⟩ := hM0.cells
                simp only [] at x0 x1 x2 x3
                obtain ⟨c0, c1, c2, c3, t0, t1, r0, r1, r2, r3, rf0, rf1, rf2, rf3, rz⟩ := KA.out _ hM0.bel
                have z6 := hM0.sz
                go_upto_region 18 with (fail)
                clear c0 c1 c2 c3 t0 t1 r0 r1 r2 r3 rf0 rf1 rf2 rf3 rz x0 x1 x2 x3 g0 g1 g2 g3 mz
                obtain ⟨g, of2, rfl, _, _⟩ := hM0.own.isStore.locks.2.2.2.2 (by show 0 < ll; omega)
                obtain ⟨rfl, hCg, hgz, hgm, hcl, hM8⟩ := hM0.one_locks (g := g) (off := of2) rfl (i := k) (by show k < ll; omega) ⟨(ts, tn), key, true, value, ask⟩
                simp only [] at hcl hM8
                obtain ⟨d0, e0⟩ := Option.isSome_iff_exists.1 (hcl 0 (by decide)).2.1
                have z0' := (hcl 0 (by decide)).1
                obtain ⟨d1, e1⟩ := Option.isSome_iff_exists.1 (hcl 1 (by decide)).2.1
                have z1' := (hcl 1 (by decide)).1
                obtain ⟨d2, e2⟩ := Option.isSome_iff_exists.1 (hcl 2 (by decide)).2.1
                have z2' := (hcl 2 (by decide)).1
                obtain ⟨d3, e3⟩ := Option.isSome_iff_exists.1 (hcl 3 (by decide)).2.1
                have z3' := (hcl 3 (by decide)).1
                obtain ⟨d4, e4⟩ := Option.isSome_iff_exists.1 (hcl 4 (by decide)).2.1
                have z4' := (hcl 4 (by decide)).1
                obtain ⟨d5, e5⟩ := Option.isSome_iff_exists.1 (hcl 5 (by decide)).2.1
                have z5' := (hcl 5 (by decide)).1
                simp only [Nat.add_zero] at e0 z0'
                clear hcl
                obtain ⟨mz, x0, x1, x2, x3, g0, g1, g2, g3⟩ := hM0.cells
                simp only [] at x0 x1 x2 x3
                obtain ⟨c0, c1, c2, c3, t0, t1, r0, r1, r2, r3, rf0, rf1, rf2, rf3, rz⟩ := KA.out _ hM0.bel
                have hidx : (k : Int) < ((ll : Int)) := by omega
                obtain ⟨V, hV⟩ : ∃ V : World, V = ((((((X.setCell ⟨g, k * 6, none⟩ (.int .i64 ts)).setCell ⟨g, k * 6 + 1, none⟩ (.int .i64 tn)).setCell ⟨g, k * 6 + 2, none⟩ (.int .i64 key)).setCell ⟨g, k * 6 + 3, none⟩ (.bool true)).setCell ⟨g, k * 6 + 4, none⟩ (.int .i64 value)).setCell ⟨g, k * 6 + 5, none⟩ (.int .i64 ask)) := ⟨_, rfl⟩
                have hM9 : Made W V W.heap.size m ⟨a0, il, u0, some ⟨g, 0, none⟩, ll, u1, a2, dl, u2, a3, ol, u3, items, locks.set k ⟨(ts, tn), key, true, value, ask⟩, doubts, over⟩ := by rw [hV]; exact hM8
                go_upto_region 19 with (fail)
                rw [← hV]
                clear hV hM8 hM0 e0 e1 e2 e3 e4 e5 z0' z1' z2' z3' z4' z5' x0 x1 x2 x3 g0 g1 g2 g3 mz c0 c1 c2 c3 t0 t1 r0 r1 r2 r3 rf0 rf1 rf2 rf3 rz
                obtain ⟨c0, c1, c2, c3, t0, t1, r0, r1, r2, r3, rf0, rf1, rf2, rf3, rz⟩ := KA.out _ hM9.bel
                have hDd := (HS.out _ hM9.bel).doubts
                simp only [] at hDd
                by_cases hj : j < 0
                · go_upto_region 20 with (go_at_call 39; refine (hDo _ hDd).mono ?_; rintro e w8 ⟨rfl, hb8⟩)
                  have yD : Hid (D = ⟨items, locks.set k ⟨(ts, tn), key, true, value, ask⟩, doubts ++ [⟨(ts, tn), 0⟩], over⟩) := by show _ = _; rw [yD0.out, if_pos hj]
                  have hM10 := hM9.below hb8
                  clear c0 c1 c2 c3 t0 t1 r0 r1 r2 r3 rf0 rf1 rf2 rf3 rz hDd hM9
                  obtain ⟨c0, c1, c2, c3, t0, t1, r0, r1, r2, r3, rf0, rf1, rf2, rf3, rz⟩ := KA.out _ hM10.bel
                  obtain ⟨mz, x0, x1, x2, x3, g0, g1, g2, g3⟩ := hM10.cells
                  simp only [] at x0 x1 x2 x3
                  have z8 := hM10.sz
                  go_upto_region 21 with (at_builtin; go_loud (refine wpList_append_row E3 (by rfl) _ _ (by rfl) W.heap.size (.slice a2 dl u2) dl doubts (by rfl) (own_below hM10.own.doubts ((Below.refl _ _).alloc (Nat.le_refl _) _)) _ 1 1 [⟨(ts, tn), 0⟩] (by rfl) (isOne _ _ _ _ rfl rfl) (by unfold maxLen; omega) (by omega) (by simp; omega) ?_; intro a9 c9 w9 own9 gr9 at9; obtain ⟨cl9, fz9, hM11⟩ := hM10.put_doubts ((Below.refl _ _).alloc (Nat.le_refl _) _) gr9 own9 at9; simp only [] at cl9))
                  obtain ⟨U9, hU9⟩ : ∃ U9 : World, U9 = w9.setCell ⟨m, 2, none⟩ (.slice a9 (dl + 1) c9) := ⟨_, rfl⟩
                  rw [← hU9] at hM11 ⊢
                  clear hU9 cl9 fz9 own9 gr9 at9 x0 x1 x2 x3 g0 g1 g2 g3 mz hM10 c0 c1 c2 c3 t0 t1 r0 r1 r2 r3 rf0 rf1 rf2 rf3 rz
                  clear w9
                  obtain ⟨c0, c1, c2, c3, t0, t1, r0, r1, r2, r3, rf0, rf1, rf2, rf3, rz⟩ := KA.out _ hM11.bel
                  obtain ⟨mz, x0, x1, x2, x3, g0, g1, g2, g3⟩ := hM11.cells
                  simp only [] at x0 x1 x2 x3
                  go_wp2
                  refine bodyPost_ret (v := .tuple #[.agg #[.slice a0 il u0, .slice (some ⟨g, 0, none⟩) ll u1, .slice a9 (dl + 1) c9, .slice a3 ol u3], .int .i64 0]) (by simp [results, Tryz.results16, go_sem, r0, r1, r2, r3]) rfl ?_
                  rw [yD.out]
                  try rw [hE]
                  exact ⟨⟨a0, il, u0, some ⟨g, 0, none⟩, ll, u1, a9, dl + 1, c9, a3, ol, u3, items, locks.set k ⟨(ts, tn), key, true, value, ask⟩, doubts ++ [⟨(ts, tn), 0⟩], over⟩, rfl, (hM11.own.four (b := w.heap.size + 1 + 1) (by omega) (.slice a0 il u0) (.slice (some ⟨g, 0, none⟩) ll u1) (.slice a9 (dl + 1) c9) (.slice a3 ol u3)).base (by omega), rfl, below_four (hB.trans (hM11.bel.mono hB.size)) (by omega) (.slice a0 il u0) (.slice (some ⟨g, 0, none⟩) ll u1) (.slice a9 (dl + 1) c9) (.slice a3 ol u3)⟩
                · go_upto_region 21 with (go_at_call 39; refine (hDo _ hDd).mono ?_; rintro e w8 ⟨rfl, hb8⟩)
                  have yD : Hid (D = ⟨items, locks.set k ⟨(ts, tn), key, true, value, ask⟩, doubts, over⟩) := by show _ = _; rw [yD0.out, if_neg (by omega)]
                  have hM10 := hM9.below hb8
                  clear c0 c1 c2 c3 t0 t1 r0 r1 r2 r3 rf0 rf1 rf2 rf3 rz hDd hM9
                  obtain ⟨c0, c1, c2, c3, t0, t1, r0, r1, r2, r3, rf0, rf1, rf2, rf3, rz⟩ := KA.out _ hM10.bel
                  obtain ⟨mz, x0, x1, x2, x3, g0, g1, g2, g3⟩ := hM10.cells
                  simp only [] at x0 x1 x2 x3
                  go_wp2
                  refine bodyPost_ret (v := .tuple #[.agg #[.slice a0 il u0, .slice (some ⟨g, 0, none⟩) ll u1, .slice a2 dl u2, .slice a3 ol u3], .int .i64 0]) (by simp [results, Tryz.results16, go_sem, r0, r1, r2, r3]) rfl ?_
                  rw [yD.out]
                  try rw [hE]
                  exact ⟨⟨a0, il, u0, some ⟨g, 0, none⟩, ll, u1, a2, dl, u2, a3, ol, u3, items, locks.set k ⟨(ts, tn), key, true, value, ask⟩, doubts, over⟩, rfl, (hM10.own.four (b := w.heap.size + 1 + 1) (by omega) (.slice a0 il u0) (.slice (some ⟨g, 0, none⟩) ll u1) (.slice a2 dl u2) (.slice a3 ol u3)).base (by omega), rfl, below_four (hB.trans (hM10.bel.mono hB.size)) (by omega) (.slice a0 il u0) (.slice (some ⟨g, 0, none⟩) ll u1) (.slice a2 dl u2) (.slice a3 ol u3)⟩
    · have hEE : E = 2 := by rw [eE.out]; simp [hP]
      have hE : E ≠ 0 := by rw [hEE]; decide
      have hAB' : P1 = false ∨ (P1 = true ∧ P2 = false) := by cases P1 <;> cases P2 <;> simp_all
      rcases hAB' with rfl | ⟨rfl, rfl⟩
      · go_wp2_with (first
          | (go_at_call 33; refine (hC _ hSW).mono ?_; rintro e w1 ⟨rfl, hb1⟩)
          | (go_at_call 14; refine (hin1 _).mono ?_; rintro e w2 ⟨rfl, hb2'⟩; have hb2 := hb1.trans (hb2'.mono hb1.size); clear c0 c1 c2 c3 t0 t1 r0 r1 r2 r3 rf0 rf1 rf2 rf3 rz; obtain ⟨c0, c1, c2, c3, t0, t1, r0, r1, r2, r3, rf0, rf1, rf2, rf3, rz⟩ := KA.out _ hb2))
        skip
        refine bodyPost_ret (v := .tuple #[.agg #[.slice none 0 0, .slice none 0 0, .slice none 0 0, .slice none 0 0], .int .i64 2]) (by simp [results, Tryz.results16, go_sem, r0, r1, r2, r3]) rfl ?_
        have y3 := HBAD.out hE
        rw [y3]
        try rw [hEE]
        exact ⟨SV.nil, rfl, ownStore_nil _ _, rfl, below_four (hB.trans (hb2.mono hB.size)) (by omega) (.slice none 0 0) (.slice none 0 0) (.slice none 0 0) (.slice none 0 0)⟩
      · have tok : True := trivial
        go_wp2_with (first
          | (go_at_call 33; refine (hC _ hSW).mono ?_; rintro e w1 ⟨rfl, hb1⟩)
          | (go_at_call 14; clear tok; refine (hin1 _).mono ?_; rintro e w2 ⟨rfl, hb2'⟩; have hb2 := hb1.trans (hb2'.mono hb1.size))
          | (go_at_call 14; refine (hin2 _).mono ?_; rintro e w3 ⟨rfl, hb3'⟩; have hb3 := hb2.trans (hb3'.mono hb2.size); clear c0 c1 c2 c3 t0 t1 r0 r1 r2 r3 rf0 rf1 rf2 rf3 rz; obtain ⟨c0, c1, c2, c3, t0, t1, r0, r1, r2, r3, rf0, rf1, rf2, rf3, rz⟩ := KA.out _ hb3))
        skip
        refine bodyPost_ret (v := .tuple #[.agg #[.slice none 0 0, .slice none 0 0, .slice none 0 0, .slice none 0 0], .int .i64 2]) (by simp [results, Tryz.results16, go_sem, r0, r1, r2, r3]) rfl ?_
        have y3 := HBAD.out hE
        rw [y3]
        try rw [hEE]
        exact ⟨SV.nil, rfl, ownStore_nil _ _, rfl, below_four (hB.trans (hb3.mono hB.size)) (by omega) (.slice none 0 0) (.slice none 0 0) (.slice none 0 0) (.slice none 0 0)⟩
  · have hE : E ≠ 0 := by rw [eE.out, if_neg hF]; exact hF
    have hEE : E = F := by rw [eE.out, if_neg hF]
    go_wp2_with (go_at_call 33; refine (hC _ hSW).mono ?_; rintro e w1 ⟨rfl, hb1⟩; clear c0 c1 c2 c3 t0 t1 r0 r1 r2 r3 rf0 rf1 rf2 rf3 rz; obtain ⟨c0, c1, c2, c3, t0, t1, r0, r1, r2, r3, rf0, rf1, rf2, rf3, rz⟩ := KA.out _ hb1)
    skip
    refine bodyPost_ret (v := .tuple #[.agg #[.slice none 0 0, .slice none 0 0, .slice none 0 0, .slice none 0 0], .int .i64 F]) (by simp [results, Tryz.results16, go_sem, r0, r1, r2, r3]) rfl ?_
    have y3 := HBAD.out hE
    rw [y3]
    try rw [hEE]
    exact ⟨SV.nil, rfl, ownStore_nil _ _, rfl, below_four (hB.trans (hb1.mono hB.size)) (by omega) (.slice none 0 0) (.slice none 0 0) (.slice none 0 0) (.slice none 0 0)⟩
theorem writeRef_any (s : SV) (t : Int × Int) (key value ask : Int) (w : World) (h : IsStore w s) (h1 : s.il * 24 ≤ 140737488351232) (h2 : s.ll * 48 ≤ 140737488351232) (h3 : s.dl * 24 ≤ 140737488351232) (h4 : s.ol * 16 ≤ 140737488351232) :
    Calls Tryz.prog 16 #[s.val, .agg #[.int .i64 t.1, .int .i64 t.2], .int .i64 key, .int .i64 value, .int .i64 ask] w fun e w' => ∃ r : SV, e = .returned (.tuple #[r.val, .int .i64 (writeErr s t key value ask)]) ∧ IsStore w' r ∧ r.data = writeData s t key value ask ∧ Below w.heap.size w w' :=
  (writeRef_own s t key value ask w h h1 h2 h3 h4).mono fun e w' ⟨r, q1, q2, q3⟩ => ⟨r, q1, q2.isStore, q3⟩
end Go.Proofs.YtekglahigjblkaaGreatDoor.St
/- A region that does not draw its order, by what each operation keeps: as RInv, the operations one after the other. -/
namespace Go.Proofs.YtekglahigjblkaaGreatDoor

section
variable {P : Program} {ops : Array Oper} {Q : Exit → Act → World → Prop} {a : Act} {ds : List Nat} {I : (Nat → Bool) → (Nat → Value) → World → Prop}

theorem wpList_of_inv (hn : ds.Nodup) (hd : dstsIn ops ds = true) (hb : back ops = true) (hs : AllK (StepK P ops Q a ds I) 0 ops.toList)
    (he : ∀ L T w, (∀ i, i < ops.size → L i = true) → I L T w → Q .normal (fr a ds T) w) :
    ∀ (os : List Oper) (k : Nat) (T : Nat → Value) (w : World), ops.toList.drop k = os → k ≤ ops.size → I (fun j => decide (j < k)) T w → wpList P ops Q os (fr a ds T) w
  | [], k, T, w, hk, hks, hI => by
    have hkz : ops.size ≤ k := by
      have := congrArg List.length hk
      simp at this
      omega
    exact he _ T w (fun i hi => by simp; omega) hI
  | o :: os, k, T, w, hk, hks, hI => by
    have hlt : k < ops.size := by
      have := congrArg List.length hk
      simp at this
      omega
    have ho : ops.toList[k]? = some o := by
      have := List.getElem?_drop (xs := ops.toList) (i := k) (j := 0)
      rw [hk] at this
      simpa using this.symm
    have hoa : ops[k]? = some o := by simpa using ho
    have hk1 : ops.toList.drop (k + 1) = os := by
      rw [← List.drop_drop, hk]
      rfl
    have hstep := AllK.get hs k o ho
    rw [Nat.zero_add] at hstep
    have hbk : ∀ (j : Nat) (o' : Oper), ops[j]? = some o' → ∀ e ∈ o'.after.toList, Region.binds .any e = true → e.on < j := by
      intro j o' ho' e he' hbn
      have hj := (Array.getElem?_eq_some_iff.1 ho').1
      have h1 := List.all_eq_true.1 hb j (by simpa using hj)
      simp only [ho'] at h1
      have h2 := List.all_eq_true.1 h1 e he'
      simpa [hbn] using h2
    have hnext : ∀ T' w', I (lst (fun j => decide (j < k)) k) T' w' → wpList P ops Q os (fr a ds T') w' := by
      intro T' w' hI'
      refine wpList_of_inv hn hd hb hs he os (k + 1) T' w' hk1 (by omega) ?_
      have : (fun j => decide (j < k + 1)) = lst (fun j => decide (j < k)) k := by
        funext j
        unfold lst
        by_cases hji : j = k
        · subst hji; simp [Nat.beq_refl]
        · have : Nat.beq j k = false := by
            cases hbq : Nat.beq j k
            · rfl
            · exact absurd (Nat.eq_of_beq_eq_true hbq) hji
          rw [this, Bool.false_or]
          by_cases h : j < k
          · simp [h]; omega
          · simp [h]; omega
      rw [this]
      exact hI'
    have hdst : ∀ x, o.dst = some x → x ∈ ds := by
      intro x hx
      have h1 := List.all_eq_true.1 hd o (by simpa using Array.mem_of_getElem? hoa)
      simp only [hx] at h1
      simpa using h1
    refine wpList_step fun K hK => ?_
    have h1 := hstep _ T w (fun e he' hbn => by simpa using hbk k o hoa e he' hbn) (by simp) (fun j o' ho' hj e he' hbn => by
      have h2 := hbk j o' ho' e he' hbn
      simp at hj ⊢
      omega) hI (fun v w' => K (fr a ds (updO T o.dst v)) w') (fun v w' hI' => hK _ _ (hnext _ _ hI'))
    by_cases hw : Region.wanted o (yielded ops (fr a ds T).tmps) = true
    · rw [if_pos hw] at h1 ⊢
      exact Oper.wp_of_wpv h1 fun v w' h2 => by rw [fr_updO hn hdst]; exact h2
    · rw [if_neg hw] at h1 ⊢
      rw [fr_updO hn hdst]
      exact h1
/-- A region in its order by an invariant. -/
theorem wp_region_seq {id : Nat} {w : World} (ds : List Nat) (I : (Nat → Bool) → (Nat → Value) → World → Prop)
    (hn : ds.Nodup) (hd : dstsIn ops ds = true) (hb : back ops = true) (h0 : I (fun _ => false) (slot0 a) w)
    (hs : AllK (StepK P ops Q a ds I) 0 ops.toList)
    (he : ∀ L T w, (∀ i, i < ops.size → L i = true) → I L T w → Q .normal (fr a ds T) w) : (Code.region id ops false).wp P Q a w := by
  have h1 := wpList_of_inv hn hd hb hs he ops.toList 0 (slot0 a) w rfl (Nat.zero_le _) (by
    have : (fun j => decide (j < 0)) = fun _ => false := by funext j; simp
    rw [this]
    exact h0)
  rw [fr_slot0] at h1
  exact wp_region_list h1
end
end Go.Proofs.YtekglahigjblkaaGreatDoor
