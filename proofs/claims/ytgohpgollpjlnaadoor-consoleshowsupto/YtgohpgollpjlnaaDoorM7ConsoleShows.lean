/- Texts of this claim, one behind the other. -/
import Derived.Test.YtgohpgollpjlnaaDoorM4ConsoleShows
import Derived.Shelf.Abstract
/- Contracts of the small functions: Within, Key, Value, Txn, isTxn, isAsk, lockMayBe; itemsMayBe. -/
namespace Go.Proofs.YtgohpgollpjlnaaDoor.St
open Go.ChangeShapes Go.WideShapes Go.ChangeAt Go.RowKit
set_option linter.unusedVariables false

theorem within_any (n lo hi : Int) (w : World) :
    Calls Tryd.prog 78 #[.int .i64 n, .int .i64 lo, .int .i64 hi] w fun e w' => e = .returned (.bool (inR n lo hi)) ∧ w' = w := by
  go_enter Tryd.func78, Tryd.ntmps78
  go_wp2
  all_goals go_ret
  all_goals exact ⟨ret_bool (by unfold inR; rw [Bool.eq_iff_iff]; simp; omega), rfl⟩
theorem key_any (n : Int) (w : World) :
    Calls Tryd.prog 91 #[.int .i64 n] w fun e w' => e = .returned (.bool (inR n 0 7)) ∧ w' = w := by
  go_enter Tryd.func91, Tryd.ntmps91
  go_wp2_with (go_at_call 78; refine (within_any _ _ _ _).mono ?_; rintro e w1 ⟨rfl, hu1⟩; rw [hu1]; clear hu1)
  go_ret
  exact ⟨rfl, rfl⟩
theorem value_any (n : Int) (w : World) :
    Calls Tryd.prog 64 #[.int .i64 n] w fun e w' => e = .returned (.bool (inR n 0 1073741824)) ∧ w' = w := by
  go_enter Tryd.func64, Tryd.ntmps64
  go_wp2_with (go_at_call 78; refine (within_any _ _ _ _).mono ?_; rintro e w1 ⟨rfl, hu1⟩; rw [hu1]; clear hu1)
  go_ret
  exact ⟨rfl, rfl⟩
theorem isAsk_any (n : Int) (w : World) :
    Calls Tryd.prog 65 #[.int .i64 n] w fun e w' => e = .returned (.bool (inR n 0 1048576)) ∧ w' = w := by
  go_enter Tryd.func65, Tryd.ntmps65
  go_wp2_with (go_at_call 78; refine (within_any _ _ _ _).mono ?_; rintro e w1 ⟨rfl, hu1⟩; rw [hu1]; clear hu1)
  go_ret
  exact ⟨rfl, rfl⟩
theorem txn_any (site num : Int) (w : World) :
    Calls Tryd.prog 85 #[.agg #[.int .i64 site, .int .i64 num], .int .i64 4] w fun e w' => e = .returned (.bool (txOK (site, num))) ∧ Below w.heap.size w w' := by
  have hA : Below w.heap.size w (w.alloc (.cells #[.int .i64 site, .int .i64 num] 23)) := (Below.refl _ _).alloc (Nat.le_refl _) _
  unfold txOK
  cases hr : inR site 0 3 with
  | false =>
    go_enter Tryd.func85, Tryd.ntmps85
    go_wp2_with (go_at_call 78; refine (within_any _ _ _ _).mono ?_; rintro e w1 ⟨rfl, hu1⟩; rw [hu1]; clear hu1)
    go_ret
    exact ⟨by simp, hA⟩
  | true =>
    go_enter Tryd.func85, Tryd.ntmps85
    go_wp2_with (go_at_call 78; refine (within_any _ _ _ _).mono ?_; rintro e w1 ⟨rfl, hu1⟩; rw [hu1]; clear hu1)
    go_ret
    exact ⟨by simp, hA⟩
theorem isTxn_any (t : Int × Int) (w : World) :
    Calls Tryd.prog 73 #[.agg #[.int .i64 t.1, .int .i64 t.2]] w fun e w' => e = .returned (.bool (txOK t)) ∧ Below w.heap.size w w' := by
  obtain ⟨site, num⟩ := t
  have hA : Below w.heap.size w (w.alloc (.cells #[.int .i64 site, .int .i64 num] 23)) := (Below.refl _ _).alloc (Nat.le_refl _) _
  simp only
  go_enter Tryd.func73, Tryd.ntmps73
  go_wp2_with (go_at_call 85; refine (txn_any _ _ _).mono ?_; rintro e w1 ⟨rfl, hu1⟩)
  go_ret
  exact ⟨rfl, hA.trans (hu1.mono hA.size)⟩

set_option maxHeartbeats 1000000 in
theorem itemsMayBe_any (a : Option Addr) (len cap : Nat) (xs : List ItV) (w : World) (h : IsItems w a len cap xs) :
    Calls Tryd.prog 81 #[.slice a len cap] w fun e w' => e = .returned (.bool (itemsOK 0 xs)) ∧ Below w.heap.size w w' := by
  obtain ⟨hlen, hcap, hmax, _, hmem⟩ := h
  have HL : Hid (xs.length = len) := hlen
  clear hlen
  unfold maxLen at hmax
  go_enter Tryd.func81, Tryd.ntmps81
  go_wp2
  go_loopw [3, 8] (fun s3 s8 wr => ∃ (k : Nat) (lo : Int), k ≤ len ∧ 0 ≤ lo ∧ lo ≤ 8 ∧ s3 = .int .i64 lo ∧ s8 = .int .i64 k ∧ Hid (itemsOK 0 xs = itemsOK lo (xs.drop k)) ∧ Below w.heap.size w wr) (fun _ s8 _ => len - (intOf s8).toNat)
  case atStart => exact ⟨0, 0, Nat.zero_le _, Int.le_refl _, by omega, rfl, rfl, by show _ = _; simp, Below.refl _ _⟩
  case round =>
    obtain ⟨k, lo, hk, lo0, lo8, rfl, rfl, hat, hb⟩ := hrel
    by_cases hlt : k < len
    · have hlt' : (k : Int) < (len : Int) := by omega
      obtain ⟨b, off, rfl, zb, hc⟩ := hmem (by omega)
      have hcells := hc k hlt
      have hd := drop_at (l := xs) (k := k) (by have := HL.out; omega)
      obtain ⟨x, ex⟩ : ∃ x, x = xs.getD k default := ⟨_, rfl⟩
      rw [← ex] at hcells hd
      clear ex
      obtain ⟨key, value, version⟩ := x
      have a0 := hcells 0 (by decide)
      have a1 := hcells 1 (by decide)
      have a2 := hcells 2 (by decide)
      simp [ItV.cells] at a0 a1 a2
      rw [← hb.cell (p := ⟨b, off + k * 3, none⟩) zb] at a0
      rw [← hb.cell (p := ⟨b, off + k * 3 + 1, none⟩) zb] at a1
      rw [← hb.cell (p := ⟨b, off + k * 3 + 2, none⟩) zb] at a2
      have hn : Hid (itemsOK 0 xs = (inR key lo 7 && inR value 0 1073741824 && inR version 1 1048576 && itemsOK (key + 1) (xs.drop (k + 1)))) := by show _ = _; rw [hat.out, hd]; rfl
      clear hat hcells hd hc
      have hA : Below w.heap.size w (wr.alloc (.cells #[.int .i64 key, .int .i64 value, .int .i64 version] 109)) := hb.alloc hb.size _
      cases h1 : inR key lo 7 with
      | false =>
        go_wp2_with (first | (go_at_call 78; refine (within_any _ _ _ _).mono ?_; rintro e w1 ⟨rfl, hu1⟩; rw [hu1]; clear hu1) | (go_at_call 64; refine (value_any _ _).mono ?_; rintro e w1 ⟨rfl, hu1⟩; rw [hu1]; clear hu1))
        go_ret
        exact ⟨by rw [hn.out, h1]; rfl, hA⟩
      | true =>
        have kb := inR_of h1
        cases h2 : inR value 0 1073741824 with
        | false =>
          go_wp2_with (first | (go_at_call 78; refine (within_any _ _ _ _).mono ?_; rintro e w1 ⟨rfl, hu1⟩; rw [hu1]; clear hu1) | (go_at_call 64; refine (value_any _ _).mono ?_; rintro e w1 ⟨rfl, hu1⟩; rw [hu1]; clear hu1))
          go_ret
          exact ⟨by rw [hn.out, h1, h2]; rfl, hA⟩
        | true =>
          cases h3 : inR version 1 1048576 with
          | false =>
            go_wp2_with (first | (go_at_call 78; refine (within_any _ _ _ _).mono ?_; rintro e w1 ⟨rfl, hu1⟩; rw [hu1]; clear hu1) | (go_at_call 64; refine (value_any _ _).mono ?_; rintro e w1 ⟨rfl, hu1⟩; rw [hu1]; clear hu1))
            go_ret
            exact ⟨by rw [hn.out, h1, h2, h3]; rfl, hA⟩
          | true =>
            go_wp2_with (first | (go_at_call 78; refine (within_any _ _ _ _).mono ?_; rintro e w1 ⟨rfl, hu1⟩; rw [hu1]; clear hu1) | (go_at_call 64; refine (value_any _ _).mono ?_; rintro e w1 ⟨rfl, hu1⟩; rw [hu1]; clear hu1))
            go_roundw
            case rel => exact ⟨k + 1, key + 1, by omega, by omega, by omega, by go_num, by go_num, by show _ = _; rw [hn.out, h1, h2, h3]; simp, hA⟩
            case measure => simp [intOf]; omega
    · have hke : k = len := by omega
      have hfin : itemsOK 0 xs = true := by
        rw [hat.out, List.drop_eq_nil_of_le (by have := HL.out; omega)]
        rfl
      go_wp2
      go_ret
      exact ⟨by rw [hfin]; rfl, hb⟩
end Go.Proofs.YtgohpgollpjlnaaDoor.St
/- Contracts of slices.IndexFunc and ContainsFunc with any function value that asks about an element; of slices.Index and Contains. -/
namespace Go.Proofs.YtgohpgollpjlnaaDoor.St
open Go.ChangeShapes Go.WideShapes Go.ChangeAt Go.RowKit
set_option linter.unusedVariables false

/-- A function value that answers a question about an element, and leaves what lay below. -/
def Asks {α : Type} (fn : Nat) (cps : Array Value) (val : α → Value) (p : α → Bool) (w : World) : Prop :=
  Enters Tryd.prog fn ∧ ∀ (x : α) (w' : World), Below w.heap.size w w' → Calls Tryd.prog fn (#[val x] ++ cps) w' fun e w'' => e = .returned (.bool (p x)) ∧ Below w'.heap.size w' w''
theorem Asks.below {α : Type} {fn : Nat} {cps : Array Value} {val : α → Value} {p : α → Bool} {w w' : World} (h : Asks fn cps val p w) (hb : Below w.heap.size w w') : Asks fn cps val p w' :=
  ⟨h.1, fun x u hu => h.2 x u (hb.trans (hu.mono hb.size))⟩

set_option maxHeartbeats 1000000 in
theorem indexLock_any (fn : Nat) (cps : Array Value) (p : LkV → Bool) (a : Option Addr) (len cap : Nat) (xs : List LkV) (w : World) (h : IsLocks w a len cap xs) (hF : Asks fn cps LkV.val p w) :
    Calls Tryd.prog 59 #[.slice a len cap, .func (.func fn) #[] cps] w fun e w' => e = .returned (.int .i64 (idxI p xs)) ∧ Below w.heap.size w w' := by
  obtain ⟨hlen, hcap, hmax, _, hmem⟩ := h
  obtain ⟨hE, hF⟩ := hF
  unfold Enters at hE
  have HL : Hid (xs.length = len) := hlen
  clear hlen
  unfold maxLen at hmax
  go_enter Tryd.func59, Tryd.ntmps59
  go_wp2
  go_loopw [8] (fun s8 wr => ∃ (k : Nat), k ≤ len ∧ s8 = .int .i64 k ∧ (∀ i, i < k → p (xs.getD i default) = false) ∧ Below w.heap.size w wr) (fun s8 _ => len - (intOf s8).toNat)
  case atStart => exact ⟨0, Nat.zero_le _, rfl, fun i hi => absurd hi (by omega), Below.refl _ _⟩
  case round =>
    obtain ⟨k, hk, rfl, hnot, hb⟩ := hrel
    by_cases hlt : k < len
    · have hlt' : (k : Int) < (len : Int) := by omega
      obtain ⟨b, off, rfl, zb, hc⟩ := hmem (by omega)
      have hcells := hc k hlt
      have hx := hF (xs.getD k default) wr hb
      have hhit := idxI_hit (p := p) (l := xs) (k := k) (by have := HL.out; omega) hnot
      have hnot' : p (xs.getD k default) = false → ∀ i, i < k + 1 → p (xs.getD i default) = false := fun hf i hi => by
        by_cases e : i = k
        · rw [e]; exact hf
        · exact hnot i (by omega)
      obtain ⟨x, ex⟩ : ∃ x, x = xs.getD k default := ⟨_, rfl⟩
      rw [← ex] at hcells hx hhit hnot'
      clear ex
      obtain ⟨⟨site, num⟩, key, write, value, ask⟩ := x
      have a0 := hcells 0 (by decide)
      have a1 := hcells 1 (by decide)
      have a2 := hcells 2 (by decide)
      have a3 := hcells 3 (by decide)
      have a4 := hcells 4 (by decide)
      have a5 := hcells 5 (by decide)
      simp [LkV.cells] at a0 a1 a2 a3 a4 a5
      rw [← hb.cell (p := ⟨b, off + k * 6, none⟩) zb] at a0
      rw [← hb.cell (p := ⟨b, off + k * 6 + 1, none⟩) zb] at a1
      rw [← hb.cell (p := ⟨b, off + k * 6 + 2, none⟩) zb] at a2
      rw [← hb.cell (p := ⟨b, off + k * 6 + 3, none⟩) zb] at a3
      rw [← hb.cell (p := ⟨b, off + k * 6 + 4, none⟩) zb] at a4
      rw [← hb.cell (p := ⟨b, off + k * 6 + 5, none⟩) zb] at a5
      clear hcells hc
      simp only [LkV.val] at hx
      obtain ⟨P, eP⟩ : ∃ P, P = p ⟨(site, num), key, write, value, ask⟩ := ⟨_, rfl⟩
      rw [← eP] at hx hhit hnot'
      clear eP
      cases P with
      | true =>
        have hh := hhit rfl
        clear hhit hnot'
        go_wp2_with (go_at_fn fn; refine (hx).mono ?_; rintro e w1 ⟨rfl, hb1⟩)
        go_ret
        exact ⟨by rw [hh]; rfl, hb.trans (hb1.mono hb.size)⟩
      | false =>
        have hh := hnot' rfl
        clear hhit hnot'
        go_wp2_with (go_at_fn fn; refine (hx).mono ?_; rintro e w1 ⟨rfl, hb1⟩)
        go_roundw
        case rel => exact ⟨k + 1, by omega, by go_num, hh, hb.trans (hb1.mono hb.size)⟩
        case measure => simp [intOf]; omega
    · have hfin : idxI p xs = -1 := idxI_none (fun i hi => hnot i (by have := HL.out; omega))
      go_wp2
      go_ret
      exact ⟨by rw [hfin]; rfl, hb⟩

theorem containsLock_any (fn : Nat) (cps : Array Value) (p : LkV → Bool) (a : Option Addr) (len cap : Nat) (xs : List LkV) (w : World) (h : IsLocks w a len cap xs) (hF : Asks fn cps LkV.val p w) :
    Calls Tryd.prog 95 #[.slice a len cap, .func (.func fn) #[] cps] w fun e w' => e = .returned (.bool (xs.any p)) ∧ Below w.heap.size w w' := by
  have hI := fun w' h1 h2 => indexLock_any fn cps p a len cap xs w' h1 h2
  have hA := idxI_any p xs
  obtain ⟨I, eI⟩ : ∃ I, I = idxI p xs := ⟨_, rfl⟩
  rw [← eI] at hI hA
  rw [← hA]
  clear eI hA
  go_enter Tryd.func95, Tryd.ntmps95
  go_wp2_with (go_at_call 59; refine (hI _ h hF).mono ?_; rintro e w1 ⟨rfl, hb1⟩)
  go_ret
  exact ⟨rfl, hb1⟩

set_option maxHeartbeats 1000000 in
theorem indexDoubt_any (fn : Nat) (cps : Array Value) (p : DbV → Bool) (a : Option Addr) (len cap : Nat) (xs : List DbV) (w : World) (h : IsDoubts w a len cap xs) (hF : Asks fn cps DbV.val p w) :
    Calls Tryd.prog 102 #[.slice a len cap, .func (.func fn) #[] cps] w fun e w' => e = .returned (.int .i64 (idxI p xs)) ∧ Below w.heap.size w w' := by
  obtain ⟨hlen, hcap, hmax, _, hmem⟩ := h
  obtain ⟨hE, hF⟩ := hF
  unfold Enters at hE
  have HL : Hid (xs.length = len) := hlen
  clear hlen
  unfold maxLen at hmax
  go_enter Tryd.func102, Tryd.ntmps102
  go_wp2
  go_loopw [8] (fun s8 wr => ∃ (k : Nat), k ≤ len ∧ s8 = .int .i64 k ∧ (∀ i, i < k → p (xs.getD i default) = false) ∧ Below w.heap.size w wr) (fun s8 _ => len - (intOf s8).toNat)
  case atStart => exact ⟨0, Nat.zero_le _, rfl, fun i hi => absurd hi (by omega), Below.refl _ _⟩
  case round =>
    obtain ⟨k, hk, rfl, hnot, hb⟩ := hrel
    by_cases hlt : k < len
    · have hlt' : (k : Int) < (len : Int) := by omega
      obtain ⟨b, off, rfl, zb, hc⟩ := hmem (by omega)
      have hcells := hc k hlt
      have hx := hF (xs.getD k default) wr hb
      have hhit := idxI_hit (p := p) (l := xs) (k := k) (by have := HL.out; omega) hnot
      have hnot' : p (xs.getD k default) = false → ∀ i, i < k + 1 → p (xs.getD i default) = false := fun hf i hi => by
        by_cases e : i = k
        · rw [e]; exact hf
        · exact hnot i (by omega)
      obtain ⟨x, ex⟩ : ∃ x, x = xs.getD k default := ⟨_, rfl⟩
      rw [← ex] at hcells hx hhit hnot'
      clear ex
      obtain ⟨⟨site, num⟩, age⟩ := x
      have a0 := hcells 0 (by decide)
      have a1 := hcells 1 (by decide)
      have a2 := hcells 2 (by decide)
      simp [DbV.cells] at a0 a1 a2
      rw [← hb.cell (p := ⟨b, off + k * 3, none⟩) zb] at a0
      rw [← hb.cell (p := ⟨b, off + k * 3 + 1, none⟩) zb] at a1
      rw [← hb.cell (p := ⟨b, off + k * 3 + 2, none⟩) zb] at a2
      clear hcells hc
      simp only [DbV.val] at hx
      obtain ⟨P, eP⟩ : ∃ P, P = p ⟨(site, num), age⟩ := ⟨_, rfl⟩
      rw [← eP] at hx hhit hnot'
      clear eP
      cases P with
      | true =>
        have hh := hhit rfl
        clear hhit hnot'
        go_wp2_with (go_at_fn fn; refine (hx).mono ?_; rintro e w1 ⟨rfl, hb1⟩)
        go_ret
        exact ⟨by rw [hh]; rfl, hb.trans (hb1.mono hb.size)⟩
      | false =>
        have hh := hnot' rfl
        clear hhit hnot'
        go_wp2_with (go_at_fn fn; refine (hx).mono ?_; rintro e w1 ⟨rfl, hb1⟩)
        go_roundw
        case rel => exact ⟨k + 1, by omega, by go_num, hh, hb.trans (hb1.mono hb.size)⟩
        case measure => simp [intOf]; omega
    · have hfin : idxI p xs = -1 := idxI_none (fun i hi => hnot i (by have := HL.out; omega))
      go_wp2
      go_ret
      exact ⟨by rw [hfin]; rfl, hb⟩

theorem containsDoubt_any (fn : Nat) (cps : Array Value) (p : DbV → Bool) (a : Option Addr) (len cap : Nat) (xs : List DbV) (w : World) (h : IsDoubts w a len cap xs) (hF : Asks fn cps DbV.val p w) :
    Calls Tryd.prog 97 #[.slice a len cap, .func (.func fn) #[] cps] w fun e w' => e = .returned (.bool (xs.any p)) ∧ Below w.heap.size w w' := by
  have hI := fun w' h1 h2 => indexDoubt_any fn cps p a len cap xs w' h1 h2
  have hA := idxI_any p xs
  obtain ⟨I, eI⟩ : ∃ I, I = idxI p xs := ⟨_, rfl⟩
  rw [← eI] at hI hA
  rw [← hA]
  clear eI hA
  go_enter Tryd.func97, Tryd.ntmps97
  go_wp2_with (go_at_call 102; refine (hI _ h hF).mono ?_; rintro e w1 ⟨rfl, hb1⟩)
  go_ret
  exact ⟨rfl, hb1⟩

set_option maxHeartbeats 1000000 in
theorem indexItem_any (fn : Nat) (cps : Array Value) (p : ItV → Bool) (a : Option Addr) (len cap : Nat) (xs : List ItV) (w : World) (h : IsItems w a len cap xs) (hF : Asks fn cps ItV.val p w) :
    Calls Tryd.prog 92 #[.slice a len cap, .func (.func fn) #[] cps] w fun e w' => e = .returned (.int .i64 (idxI p xs)) ∧ Below w.heap.size w w' := by
  obtain ⟨hlen, hcap, hmax, _, hmem⟩ := h
  obtain ⟨hE, hF⟩ := hF
  unfold Enters at hE
  have HL : Hid (xs.length = len) := hlen
  clear hlen
  unfold maxLen at hmax
  go_enter Tryd.func92, Tryd.ntmps92
  go_wp2
  go_loopw [8] (fun s8 wr => ∃ (k : Nat), k ≤ len ∧ s8 = .int .i64 k ∧ (∀ i, i < k → p (xs.getD i default) = false) ∧ Below w.heap.size w wr) (fun s8 _ => len - (intOf s8).toNat)
  case atStart => exact ⟨0, Nat.zero_le _, rfl, fun i hi => absurd hi (by omega), Below.refl _ _⟩
  case round =>
    obtain ⟨k, hk, rfl, hnot, hb⟩ := hrel
    by_cases hlt : k < len
    · have hlt' : (k : Int) < (len : Int) := by omega
      obtain ⟨b, off, rfl, zb, hc⟩ := hmem (by omega)
      have hcells := hc k hlt
      have hx := hF (xs.getD k default) wr hb
      have hhit := idxI_hit (p := p) (l := xs) (k := k) (by have := HL.out; omega) hnot
      have hnot' : p (xs.getD k default) = false → ∀ i, i < k + 1 → p (xs.getD i default) = false := fun hf i hi => by
        by_cases e : i = k
        · rw [e]; exact hf
        · exact hnot i (by omega)
      obtain ⟨x, ex⟩ : ∃ x, x = xs.getD k default := ⟨_, rfl⟩
      rw [← ex] at hcells hx hhit hnot'
      clear ex
      obtain ⟨key, value, version⟩ := x
      have a0 := hcells 0 (by decide)
      have a1 := hcells 1 (by decide)
      have a2 := hcells 2 (by decide)
      simp [ItV.cells] at a0 a1 a2
      rw [← hb.cell (p := ⟨b, off + k * 3, none⟩) zb] at a0
      rw [← hb.cell (p := ⟨b, off + k * 3 + 1, none⟩) zb] at a1
      rw [← hb.cell (p := ⟨b, off + k * 3 + 2, none⟩) zb] at a2
      clear hcells hc
      simp only [ItV.val] at hx
      obtain ⟨P, eP⟩ : ∃ P, P = p ⟨key, value, version⟩ := ⟨_, rfl⟩
      rw [← eP] at hx hhit hnot'
      clear eP
      cases P with
      | true =>
        have hh := hhit rfl
        clear hhit hnot'
        go_wp2_with (go_at_fn fn; refine (hx).mono ?_; rintro e w1 ⟨rfl, hb1⟩)
        go_ret
        exact ⟨by rw [hh]; rfl, hb.trans (hb1.mono hb.size)⟩
      | false =>
        have hh := hnot' rfl
        clear hhit hnot'
        go_wp2_with (go_at_fn fn; refine (hx).mono ?_; rintro e w1 ⟨rfl, hb1⟩)
        go_roundw
        case rel => exact ⟨k + 1, by omega, by go_num, hh, hb.trans (hb1.mono hb.size)⟩
        case measure => simp [intOf]; omega
    · have hfin : idxI p xs = -1 := idxI_none (fun i hi => hnot i (by have := HL.out; omega))
      go_wp2
      go_ret
      exact ⟨by rw [hfin]; rfl, hb⟩

set_option maxHeartbeats 1000000 in
theorem indexTxn_any (t : Int × Int) (a : Option Addr) (len cap : Nat) (xs : List (Int × Int)) (w : World) (h : IsTxns w a len cap xs) :
    Calls Tryd.prog 120 #[.slice a len cap, .agg #[.int .i64 t.1, .int .i64 t.2]] w fun e w' => e = .returned (.int .i64 (idxI (fun x => decide (x = t)) xs)) ∧ Below w.heap.size w w' := by
  obtain ⟨hlen, hcap, hmax, _, hmem⟩ := h
  have HL : Hid (xs.length = len) := hlen
  clear hlen
  unfold maxLen at hmax
  obtain ⟨ts, tn⟩ := t
  simp only
  obtain ⟨W, hW⟩ : ∃ W : World, W = w.alloc (.cells #[.int .i64 ts, .int .i64 tn] 23) := ⟨_, rfl⟩
  have hB : Below w.heap.size w W := by rw [hW]; exact (Below.refl _ _).alloc (Nat.le_refl _) _
  have zW : w.heap.size < W.heap.size := by rw [hW]; simp
  have c0 : W.cell? ⟨w.heap.size, 0, none⟩ = some (.int .i64 ts) := by rw [hW]; go_simp
  have c1 : W.cell? ⟨w.heap.size, 1, none⟩ = some (.int .i64 tn) := by rw [hW]; go_simp
  go_enter Tryd.func120, Tryd.ntmps120
  go_wp2
  rw [← hW]
  clear hW
  go_loopw [8] (fun s8 wr => ∃ (k : Nat), k ≤ len ∧ s8 = .int .i64 k ∧ (∀ i, i < k → decide (xs.getD i default = (ts, tn)) = false) ∧ Below W.heap.size W wr) (fun s8 _ => len - (intOf s8).toNat)
  case atStart => exact ⟨0, Nat.zero_le _, rfl, fun i hi => absurd hi (by omega), Below.refl _ _⟩
  case round =>
    obtain ⟨k, hk, rfl, hnot, hb⟩ := hrel
    have hwr := hB.trans (hb.mono hB.size)
    by_cases hlt : k < len
    · have hlt' : (k : Int) < (len : Int) := by omega
      obtain ⟨b, off, rfl, zb, hc⟩ := hmem (by omega)
      have hcells := hc k hlt
      have hhit := idxI_hit (p := fun x => decide (x = (ts, tn))) (l := xs) (k := k) (by have := HL.out; omega) hnot
      have hnot' : decide (xs.getD k default = (ts, tn)) = false → ∀ i, i < k + 1 → decide (xs.getD i default = (ts, tn)) = false := fun hf i hi => by
        by_cases e : i = k
        · rw [e]; exact hf
        · exact hnot i (by omega)
      obtain ⟨x, ex⟩ : ∃ x, x = xs.getD k default := ⟨_, rfl⟩
      rw [← ex] at hcells hhit hnot'
      clear ex
      obtain ⟨site, num⟩ := x
      have a0 := hcells 0 (by decide)
      have a1 := hcells 1 (by decide)
      simp [txCells] at a0 a1
      rw [← hwr.cell (p := ⟨b, off + k * 2, none⟩) zb] at a0
      rw [← hwr.cell (p := ⟨b, off + k * 2 + 1, none⟩) zb] at a1
      have d0 := (hb.cell (p := ⟨w.heap.size, 0, none⟩) zW).trans c0
      have d1 := (hb.cell (p := ⟨w.heap.size, 1, none⟩) zW).trans c1
      clear hcells hc
      by_cases e1 : ts = site
      · by_cases e2 : tn = num
        · subst e1 e2
          have hh := hhit (by simp)
          clear hhit hnot'
          go_wp2
          go_quiet (fail)
          go_wp2
          go_ret
          exact ⟨by rw [hh]; rfl, below_drewN hwr nq⟩
        · have hh := hnot' (by simp; intro _ e; exact e2 e.symm)
          have e3 : (tn == num) = false := by simpa using e2
          clear hhit hnot'
          subst e1
          go_wp2
          go_quiet (fail)
          go_wp2
          go_roundw
          case rel => exact ⟨k + 1, by omega, by go_num, hh, below_drewN hb nq⟩
          case measure => simp [intOf]; omega
      · have hh := hnot' (by simp; intro e; exact absurd e.symm e1)
        have e3 : (ts == site) = false := by simpa using e1
        clear hhit hnot'
        go_wp2
        go_quiet (fail)
        go_wp2
        go_roundw
        case rel => exact ⟨k + 1, by omega, by go_num, hh, below_drewN hb nq⟩
        case measure => simp [intOf]; omega
    · have hfin : idxI (fun x => decide (x = (ts, tn))) xs = -1 := idxI_none (fun i hi => hnot i (by have := HL.out; omega))
      go_wp2
      go_ret
      exact ⟨by rw [hfin]; rfl, hwr⟩

theorem mem_any (t : Int × Int) (xs : List (Int × Int)) : xs.any (fun x => decide (x = t)) = decide (t ∈ xs) := by
  rw [Bool.eq_iff_iff]
  simp
theorem containsTxn_any (t : Int × Int) (a : Option Addr) (len cap : Nat) (xs : List (Int × Int)) (w : World) (h : IsTxns w a len cap xs) :
    Calls Tryd.prog 104 #[.slice a len cap, .agg #[.int .i64 t.1, .int .i64 t.2]] w fun e w' => e = .returned (.bool (decide (t ∈ xs))) ∧ Below w.heap.size w w' := by
  have hI := fun w' h1 => indexTxn_any t a len cap xs w' h1
  have hA := idxI_any (fun x => decide (x = t)) xs
  rw [mem_any] at hA
  obtain ⟨I, eI⟩ : ∃ I, I = idxI (fun x => decide (x = t)) xs := ⟨_, rfl⟩
  rw [← eI] at hI hA
  rw [← hA]
  clear eI hA
  obtain ⟨ts, tn⟩ := t
  simp only at hI ⊢
  have hB : Below w.heap.size w (w.alloc (.cells #[.int .i64 ts, .int .i64 tn] 23)) := (Below.refl _ _).alloc (Nat.le_refl _) _
  have hX := h.below hB
  go_enter Tryd.func104, Tryd.ntmps104
  go_wp2_with (go_at_call 120; refine (hI _ hX).mono ?_; rintro e w1 ⟨rfl, hb1⟩)
  go_ret
  exact ⟨rfl, hB.trans (hb1.mono hB.size)⟩
end Go.Proofs.YtgohpgollpjlnaaDoor.St
/- Contracts of store.against, and of the function that it hands back. -/
namespace Go.Proofs.YtgohpgollpjlnaaDoor.St
open Go.ChangeShapes Go.WideShapes Go.ChangeAt Go.RowKit
set_option linter.unusedVariables false

set_option maxHeartbeats 2000000 in
theorem against_asks (b : Nat) (k : LkV) (w : World) (c0 : w.cell? ⟨b, 0, none⟩ = some (.int .i64 k.t.1)) (c1 : w.cell? ⟨b, 1, none⟩ = some (.int .i64 k.t.2)) (c2 : w.cell? ⟨b, 2, none⟩ = some (.int .i64 k.key)) (c3 : w.cell? ⟨b, 3, none⟩ = some (.bool k.write)) (z : b < w.heap.size) : Asks 128 #[.pointer (some ⟨b, 0, none⟩)] LkV.val (against k) w := by
  refine ⟨enters_of Tryd.func128 (by kernel_rfl) rfl, fun x w' hb => ?_⟩
  rw [← hb.cell (p := ⟨b, 0, none⟩) z] at c0
  rw [← hb.cell (p := ⟨b, 1, none⟩) z] at c1
  rw [← hb.cell (p := ⟨b, 2, none⟩) z] at c2
  rw [← hb.cell (p := ⟨b, 3, none⟩) z] at c3
  have y := Nat.lt_of_lt_of_le z hb.size
  obtain ⟨⟨ts, tn⟩, ky, wt, vl, ak⟩ := k
  obtain ⟨⟨site, num⟩, key, write, value, ask⟩ := x
  simp only [LkV.val] at *
  have hA : ∀ o, Below w'.heap.size w' (w'.alloc o) := fun o => (Below.refl _ _).alloc (Nat.le_refl _) _
  show Calls Tryd.prog 128 #[_, .pointer (some ⟨b, 0, none⟩)] w' _
  go_enter Tryd.func128, Tryd.ntmps128
  go_wp2
  all_goals go_ret
  all_goals exact ⟨ret_bool (by simp_all [against]), hA _⟩
theorem against_any (k : LkV) (w : World) :
    Calls Tryd.prog 112 #[k.val] w fun e w' => ∃ b : Nat, e = .returned (.func (.func 128) #[] #[.pointer (some ⟨b, 0, none⟩)]) ∧ Asks 128 #[.pointer (some ⟨b, 0, none⟩)] LkV.val (against k) w' ∧ Below w.heap.size w w' := by
  obtain ⟨⟨site, num⟩, key, write, value, ask⟩ := k
  simp only [LkV.val]
  obtain ⟨W, hW⟩ : ∃ W : World, W = w.alloc (.cells #[.int .i64 site, .int .i64 num, .int .i64 key, .bool write, .int .i64 value, .int .i64 ask] 111) := ⟨_, rfl⟩
  have hB : Below w.heap.size w W := by rw [hW]; exact (Below.refl _ _).alloc (Nat.le_refl _) _
  have zW : w.heap.size < W.heap.size := by rw [hW]; simp
  have c0 : W.cell? ⟨w.heap.size, 0, none⟩ = some (.int .i64 site) := by rw [hW]; go_simp
  have c1 : W.cell? ⟨w.heap.size, 1, none⟩ = some (.int .i64 num) := by rw [hW]; go_simp
  have c2 : W.cell? ⟨w.heap.size, 2, none⟩ = some (.int .i64 key) := by rw [hW]; go_simp
  have c3 : W.cell? ⟨w.heap.size, 3, none⟩ = some (.bool write) := by rw [hW]; go_simp
  have hq := against_asks w.heap.size ⟨(site, num), key, write, value, ask⟩ W c0 c1 c2 c3 zW
  go_enter Tryd.func112, Tryd.ntmps112
  go_wp2
  rw [← hW]
  go_ret
  exact ⟨_, rfl, hq, hB⟩
end Go.Proofs.YtgohpgollpjlnaaDoor.St
