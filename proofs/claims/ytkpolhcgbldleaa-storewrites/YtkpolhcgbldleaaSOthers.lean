/- The contract of the document's others: how many others have a lock on a key, and how many of these for writing. -/
import Derived.Test.YtkpolhcgbldleaaSRefFind
namespace Go.Proofs.Ytkpolhcgbldleaa.St
open Go.ChangeShapes Go.WideShapes Go.ChangeAt Go.RowKit
set_option linter.unusedVariables false

def othR (t : Int × Int) (ky : Int) (k : LkV) : Bool := decide (k.key = ky) && !(decide (k.t = t))
def othW (t : Int × Int) (ky : Int) (k : LkV) : Bool := othR t ky k && k.write

theorem cell_drewN' {w : World} {p : Addr} {v : Value} (h : w.cell? p = some v) (k : Nat) : (w.drewN k).cell? p = some v :=
  ((below_drewN (Below.refl w.heap.size w) k).cell (World.block_lt_of_cell? w _ h)).trans h

set_option maxHeartbeats 4000000 in
theorem others_any (s : SV) (t : Int × Int) (key : Int) (w : World) (h : IsLocks w s.la s.ll s.lc s.locks) :
    Calls Try.prog 39 #[s.val, .agg #[.int .i64 t.1, .int .i64 t.2], .int .i64 key] w fun e w' => e = .returned (.tuple #[.int .i64 (s.locks.countP (othR t key) : Nat), .int .i64 (s.locks.countP (othW t key) : Nat)]) ∧ Below w.heap.size w w' := by
  obtain ⟨ia, il, ic, la, ll, lc, da, dl, dc, oa, ol, oc, items, locks, doubts, over⟩ := s
  obtain ⟨ts, tn⟩ := t
  simp only [SV.val] at *
  obtain ⟨hlen, hcap, hmax, _, hmem⟩ := h
  have HL : Hid (locks.length = ll) := hlen
  clear hlen
  unfold maxLen at hmax
  obtain ⟨W, hW⟩ : ∃ W : World, W = (w.alloc (.cells #[.slice ia il ic, .slice la ll lc, .slice da dl dc, .slice oa ol oc] 27)).alloc (.cells #[.int .i64 ts, .int .i64 tn] 36) := ⟨_, rfl⟩
  have hB : Below w.heap.size w W := by rw [hW]; exact ((Below.refl _ _).alloc (Nat.le_refl _) _).alloc (by simp) _
  have zW : W.heap.size = w.heap.size + 2 := by rw [hW]; simp
  have c1 : W.cell? ⟨w.heap.size, 1, none⟩ = some (.slice la ll lc) := by rw [hW]; go_simp
  have d0 : W.cell? ⟨w.heap.size + 1, 0, none⟩ = some (.int .i64 ts) := by rw [hW]; go_simp
  have d1 : W.cell? ⟨w.heap.size + 1, 1, none⟩ = some (.int .i64 tn) := by rw [hW]; go_simp
  have z0 : w.heap.size < W.heap.size := by omega
  have z1 : w.heap.size + 1 < W.heap.size := by omega
  clear zW
  obtain ⟨P1, eP1⟩ : ∃ P, P = othR (ts, tn) key := ⟨_, rfl⟩
  obtain ⟨P2, eP2⟩ : ∃ P, P = othW (ts, tn) key := ⟨_, rfl⟩
  have E1 : Hid (∀ y, P1 y = (decide (y.key = key) && !(decide (y.t = (ts, tn))))) := by show ∀ _, _; rw [eP1]; intro y; rfl
  have E2 : Hid (∀ y, P2 y = ((decide (y.key = key) && !(decide (y.t = (ts, tn)))) && y.write)) := by show ∀ _, _; rw [eP2]; intro y; rfl
  rw [← eP1, ← eP2]
  clear eP1 eP2
  go_enter Try.func39, Try.ntmps39
  go_wp2
  rw [← hW]
  clear hW
  go_loopw [8, 9, 10] (fun s8 s9 s10 wr => ∃ (k A B : Nat), k ≤ ll ∧ s10 = .int .i64 k ∧ s8 = .int .i64 A ∧ s9 = .int .i64 B ∧ Hid (A = (locks.take k).countP P1) ∧ Hid (B = (locks.take k).countP P2) ∧ A ≤ k ∧ B ≤ k ∧ Below W.heap.size W wr) (fun _ _ s10 _ => ll - (intOf s10).toNat)
  case atStart => exact ⟨0, 0, 0, Nat.zero_le _, rfl, rfl, rfl, rfl, rfl, Nat.le_refl _, Nat.le_refl _, Below.refl _ _⟩
  case round =>
    obtain ⟨k, A, B, hk, rfl, rfl, rfl, hA, hBc, hAk, hBk, hb⟩ := hrel
    have hwr := hB.trans (hb.mono hB.size)
    have x2 := (hb.cell (p := ⟨w.heap.size, 1, none⟩) z0).trans c1
    have y0 := (hb.cell (p := ⟨w.heap.size + 1, 0, none⟩) z1).trans d0
    have y1 := (hb.cell (p := ⟨w.heap.size + 1, 1, none⟩) z1).trans d1
    by_cases hlt : k < ll
    · have hlt' : (k : Int) < (ll : Int) := by omega
      obtain ⟨b, off, rfl, zb, hc⟩ := hmem (by omega)
      have hkl : k < locks.length := by have := HL.out; omega
      have hcells := hc k hlt
      have n1 := countP_at (p := P1) hkl
      have n2 := countP_at (p := P2) hkl
      obtain ⟨x, ex⟩ : ∃ x, x = locks.getD k default := ⟨_, rfl⟩
      rw [← ex] at hcells n1 n2
      clear ex
      rw [E1.out, ← hA.out] at n1
      rw [E2.out, ← hBc.out] at n2
      obtain ⟨⟨site, num⟩, key2, write, value, ask⟩ := x
      simp only at n1 n2
      have N1 : Hid ((locks.take (k + 1)).countP P1 = A + if (decide (key2 = key) && !(decide ((site, num) = (ts, tn)))) = true then 1 else 0) := n1
      have N2 : Hid ((locks.take (k + 1)).countP P2 = B + if (decide (key2 = key) && !(decide ((site, num) = (ts, tn))) && write) = true then 1 else 0) := n2
      clear n1 n2 hA hBc
      have a0 := hcells 0 (by decide)
      have a1 := hcells 1 (by decide)
      have a2 := hcells 2 (by decide)
      have a3 := hcells 3 (by decide)
      simp [LkV.cells] at a0 a1 a2 a3
      rw [← hwr.cell (p := ⟨b, off + k * 6, none⟩) zb] at a0
      rw [← hwr.cell (p := ⟨b, off + k * 6 + 1, none⟩) zb] at a1
      rw [← hwr.cell (p := ⟨b, off + k * 6 + 2, none⟩) zb] at a2
      rw [← hwr.cell (p := ⟨b, off + k * 6 + 3, none⟩) zb] at a3
      clear hcells hc
      have k63 : (k : Int) < 9223372036854775807 := by omega
      by_cases e5 : key2 = key
      · subst e5
        by_cases e1 : site = ts
        · by_cases e2 : num = tn
          · subst e1 e2
            go_wp2
            go_quiet (fail)
            go_wp2
            go_roundw
            case rel => exact ⟨k + 1, A, B, by omega, by go_num, rfl, rfl, by show _ = _; rw [N1.out]; simp, by show _ = _; rw [N2.out]; simp, by omega, by omega, below_drewN hb nq⟩
            case measure => simp [intOf]; omega
          · have e3 : (num == tn) = false := by simpa using e2
            subst e1
            cases write with
            | true =>
              go_wp2
              go_quiet (fail)
              have b3 := cell_drewN' a3 nq
              have b4 := cell_drewN' x2 nq
              go_wp2
              go_roundw
              case rel => exact ⟨k + 1, A + 1, B + 1, by omega, by go_num, by go_num, by go_num, by show _ = _; rw [N1.out]; simp [e2], by show _ = _; rw [N2.out]; simp [e2], by omega, by omega, below_drewN hb nq⟩
              case measure => simp [intOf]; omega
            | false =>
              go_wp2
              go_quiet (fail)
              have b3 := cell_drewN' a3 nq
              have b4 := cell_drewN' x2 nq
              go_wp2
              go_roundw
              case rel => exact ⟨k + 1, A + 1, B, by omega, by go_num, by go_num, rfl, by show _ = _; rw [N1.out]; simp [e2], by show _ = _; rw [N2.out]; simp, by omega, by omega, below_drewN hb nq⟩
              case measure => simp [intOf]; omega
        · have e3 : (site == ts) = false := by simpa using e1
          cases write with
          | true =>
            go_wp2
            go_quiet (fail)
            have b3 := cell_drewN' a3 nq
            have b4 := cell_drewN' x2 nq
            go_wp2
            go_roundw
            case rel => exact ⟨k + 1, A + 1, B + 1, by omega, by go_num, by go_num, by go_num, by show _ = _; rw [N1.out]; simp [e1], by show _ = _; rw [N2.out]; simp [e1], by omega, by omega, below_drewN hb nq⟩
            case measure => simp [intOf]; omega
          | false =>
            go_wp2
            go_quiet (fail)
            have b3 := cell_drewN' a3 nq
            have b4 := cell_drewN' x2 nq
            go_wp2
            go_roundw
            case rel => exact ⟨k + 1, A + 1, B, by omega, by go_num, by go_num, rfl, by show _ = _; rw [N1.out]; simp [e1], by show _ = _; rw [N2.out]; simp, by omega, by omega, below_drewN hb nq⟩
            case measure => simp [intOf]; omega
      · have e6 : (key2 == key) = false := by simpa using e5
        go_wp2
        go_quiet (fail)
        go_wp2
        go_roundw
        case rel => exact ⟨k + 1, A, B, by omega, by go_num, rfl, rfl, by show _ = _; rw [N1.out]; simp [e5], by show _ = _; rw [N2.out]; simp [e5], by omega, by omega, below_drewN hb nq⟩
        case measure => simp [intOf]; omega
    · have hke : k = ll := by omega
      have etk : locks.take k = locks := List.take_of_length_le (by have := HL.out; omega)
      have hA' := hA.out
      have hB' := hBc.out
      rw [etk] at hA' hB'
      clear etk hke hA hBc
      subst hA' hB'
      go_wp2
      go_ret2
      exact ⟨rfl, hwr⟩
end Go.Proofs.Ytkpolhcgbldleaa.St
