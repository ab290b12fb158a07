/- Contracts of the small functions: Within, Key, Value, Txn, isTxn, isAsk, lockMayBe; itemsMayBe. -/
import Derived.Test.YtbmbahifkegehaaSBase
namespace Go.Proofs.Ytbmbahifkegehaa.St
open Go.ChangeShapes Go.WideShapes Go.ChangeAt Go.RowKit
set_option linter.unusedVariables false

theorem within_any (n lo hi : Int) (w : World) :
    Calls Try.prog 65 #[.int .i64 n, .int .i64 lo, .int .i64 hi] w fun e w' => e = .returned (.bool (inR n lo hi)) ∧ w' = w := by
  go_enter Try.func65, Try.ntmps65
  go_wp2
  all_goals go_ret
  all_goals exact ⟨ret_bool (by unfold inR; rw [Bool.eq_iff_iff]; simp; omega), rfl⟩
theorem key_any (n : Int) (w : World) :
    Calls Try.prog 45 #[.int .i64 n] w fun e w' => e = .returned (.bool (inR n 0 7)) ∧ w' = w := by
  go_enter Try.func45, Try.ntmps45
  go_wp2_with (go_at_call 65; refine (within_any _ _ _ _).mono ?_; rintro e w1 ⟨rfl, hu1⟩; rw [hu1]; clear hu1)
  go_ret
  exact ⟨rfl, rfl⟩
theorem value_any (n : Int) (w : World) :
    Calls Try.prog 48 #[.int .i64 n] w fun e w' => e = .returned (.bool (inR n 0 1073741824)) ∧ w' = w := by
  go_enter Try.func48, Try.ntmps48
  go_wp2_with (go_at_call 65; refine (within_any _ _ _ _).mono ?_; rintro e w1 ⟨rfl, hu1⟩; rw [hu1]; clear hu1)
  go_ret
  exact ⟨rfl, rfl⟩
theorem isAsk_any (n : Int) (w : World) :
    Calls Try.prog 49 #[.int .i64 n] w fun e w' => e = .returned (.bool (inR n 0 1048576)) ∧ w' = w := by
  go_enter Try.func49, Try.ntmps49
  go_wp2_with (go_at_call 65; refine (within_any _ _ _ _).mono ?_; rintro e w1 ⟨rfl, hu1⟩; rw [hu1]; clear hu1)
  go_ret
  exact ⟨rfl, rfl⟩
theorem txn_any (site num : Int) (w : World) :
    Calls Try.prog 70 #[.agg #[.int .i64 site, .int .i64 num], .int .i64 4] w fun e w' => e = .returned (.bool (txOK (site, num))) ∧ Below w.heap.size w w' := by
  have hA : Below w.heap.size w (w.alloc (.cells #[.int .i64 site, .int .i64 num] 29)) := (Below.refl _ _).alloc (Nat.le_refl _) _
  unfold txOK
  cases hr : inR site 0 3 with
  | false =>
    go_enter Try.func70, Try.ntmps70
    go_wp2_with (go_at_call 65; refine (within_any _ _ _ _).mono ?_; rintro e w1 ⟨rfl, hu1⟩; rw [hu1]; clear hu1)
    go_ret
    exact ⟨by simp, hA⟩
  | true =>
    go_enter Try.func70, Try.ntmps70
    go_wp2_with (go_at_call 65; refine (within_any _ _ _ _).mono ?_; rintro e w1 ⟨rfl, hu1⟩; rw [hu1]; clear hu1)
    go_ret
    exact ⟨by simp, hA⟩
theorem isTxn_any (t : Int × Int) (w : World) :
    Calls Try.prog 51 #[.agg #[.int .i64 t.1, .int .i64 t.2]] w fun e w' => e = .returned (.bool (txOK t)) ∧ Below w.heap.size w w' := by
  obtain ⟨site, num⟩ := t
  have hA : Below w.heap.size w (w.alloc (.cells #[.int .i64 site, .int .i64 num] 29)) := (Below.refl _ _).alloc (Nat.le_refl _) _
  simp only
  go_enter Try.func51, Try.ntmps51
  go_wp2_with (go_at_call 70; refine (txn_any _ _ _).mono ?_; rintro e w1 ⟨rfl, hu1⟩)
  go_ret
  exact ⟨rfl, hA.trans (hu1.mono hA.size)⟩

set_option maxHeartbeats 1000000 in
theorem itemsMayBe_any (a : Option Addr) (len cap : Nat) (xs : List ItV) (w : World) (h : IsItems w a len cap xs) :
    Calls Try.prog 41 #[.slice a len cap] w fun e w' => e = .returned (.bool (itemsOK 0 xs)) ∧ Below w.heap.size w w' := by
  obtain ⟨hlen, hcap, hmax, _, hmem⟩ := h
  have HL : Hid (xs.length = len) := hlen
  clear hlen
  unfold maxLen at hmax
  go_enter Try.func41, Try.ntmps41
  go_wp2
  go_loopw [3, 8] (fun s3 s8 wr => ∃ (k : Nat) (lo : Int), k ≤ len ∧ 0 ≤ lo ∧ lo ≤ 8 ∧ s3 = .int .i64 lo ∧ s8 = .int .i64 k ∧ Hid (itemsOK 0 xs = itemsOK lo (xs.drop k)) ∧ Below w.heap.size w wr) (fun _ s8 _ => len - (intOf s8).toNat)
  case atStart => exact ⟨0, 0, Nat.zero_le _, Int.le_refl _, by omega, rfl, rfl, by show _ = _; simp, Below.refl _ _⟩
  case round =>
    obtain ⟨k, lo, hk, lo0, lo8, rfl, rfl, hat, hb⟩ := hrel
    by_cases hlt : k < len
    · have hlt' : (k : Int) < (len : Int) := by omega
      obtain ⟨b, off, rfl, zb, hc⟩ := hmem (by omega)
      have hcells := hc k hlt
      have hd := drop_at (l := xs) (k := k) (by have := HL.out; omega)
      obtain ⟨x, ex⟩ : ∃ x, x = xs.getD k default := ⟨_, rfl⟩
      rw [← ex] at hcells hd
      clear ex
      obtain ⟨key, value, version⟩ := x
      have a0 := hcells 0 (by decide)
      have a1 := hcells 1 (by decide)
      have a2 := hcells 2 (by decide)
      simp [ItV.cells] at a0 a1 a2
      rw [← hb.cell (p := ⟨b, off + k * 3, none⟩) zb] at a0
      rw [← hb.cell (p := ⟨b, off + k * 3 + 1, none⟩) zb] at a1
      rw [← hb.cell (p := ⟨b, off + k * 3 + 2, none⟩) zb] at a2
      have hn : Hid (itemsOK 0 xs = (inR key lo 7 && inR value 0 1073741824 && inR version 1 1048576 && itemsOK (key + 1) (xs.drop (k + 1)))) := by show _ = _; rw [hat.out, hd]; rfl
      clear hat hcells hd hc
      have hA : Below w.heap.size w (wr.alloc (.cells #[.int .i64 key, .int .i64 value, .int .i64 version] 59)) := hb.alloc hb.size _
      cases h1 : inR key lo 7 with
      | false =>
        go_wp2_with (first | (go_at_call 65; refine (within_any _ _ _ _).mono ?_; rintro e w1 ⟨rfl, hu1⟩; rw [hu1]; clear hu1) | (go_at_call 48; refine (value_any _ _).mono ?_; rintro e w1 ⟨rfl, hu1⟩; rw [hu1]; clear hu1))
        go_ret
        exact ⟨by rw [hn.out, h1]; rfl, hA⟩
      | true =>
        have kb := inR_of h1
        cases h2 : inR value 0 1073741824 with
        | false =>
          go_wp2_with (first | (go_at_call 65; refine (within_any _ _ _ _).mono ?_; rintro e w1 ⟨rfl, hu1⟩; rw [hu1]; clear hu1) | (go_at_call 48; refine (value_any _ _).mono ?_; rintro e w1 ⟨rfl, hu1⟩; rw [hu1]; clear hu1))
          go_ret
          exact ⟨by rw [hn.out, h1, h2]; rfl, hA⟩
        | true =>
          cases h3 : inR version 1 1048576 with
          | false =>
            go_wp2_with (first | (go_at_call 65; refine (within_any _ _ _ _).mono ?_; rintro e w1 ⟨rfl, hu1⟩; rw [hu1]; clear hu1) | (go_at_call 48; refine (value_any _ _).mono ?_; rintro e w1 ⟨rfl, hu1⟩; rw [hu1]; clear hu1))
            go_ret
            exact ⟨by rw [hn.out, h1, h2, h3]; rfl, hA⟩
          | true =>
            go_wp2_with (first | (go_at_call 65; refine (within_any _ _ _ _).mono ?_; rintro e w1 ⟨rfl, hu1⟩; rw [hu1]; clear hu1) | (go_at_call 48; refine (value_any _ _).mono ?_; rintro e w1 ⟨rfl, hu1⟩; rw [hu1]; clear hu1))
            go_roundw
            case rel => exact ⟨k + 1, key + 1, by omega, by omega, by omega, by go_num, by go_num, by show _ = _; rw [hn.out, h1, h2, h3]; simp, hA⟩
            case measure => simp [intOf]; omega
    · have hke : k = len := by omega
      have hfin : itemsOK 0 xs = true := by
        rw [hat.out, List.drop_eq_nil_of_le (by have := HL.out; omega)]
        rfl
      go_wp2
      go_ret
      exact ⟨by rw [hfin]; rfl, hb⟩
end Go.Proofs.Ytbmbahifkegehaa.St
