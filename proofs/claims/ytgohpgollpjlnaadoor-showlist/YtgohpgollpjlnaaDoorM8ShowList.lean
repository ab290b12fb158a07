/- Texts of this claim, one behind the other. -/
import Derived.Test.YtgohpgollpjlnaaDoorM2ShowList
import Derived.Shelf.Abstract
import Derived.Deep.RegionWith
import Derived.Deep.RegionHeld3
import Derived.Deep.Cut
import Derived.Lib.QuietBelow
/- Contracts of slices.IndexFunc and ContainsFunc with any function value that asks about an element; of slices.Index and Contains. -/
namespace Go.Proofs.YtgohpgollpjlnaaDoor.St
open Go.ChangeShapes Go.WideShapes Go.ChangeAt Go.RowKit
set_option linter.unusedVariables false

/-- A function value that answers a question about an element, and leaves what lay below. -/
def Asks {α : Type} (fn : Nat) (cps : Array Value) (val : α → Value) (p : α → Bool) (w : World) : Prop :=
  Enters Tryd.prog fn ∧ ∀ (x : α) (w' : World), Below w.heap.size w w' → Calls Tryd.prog fn (#[val x] ++ cps) w' fun e w'' => e = .returned (.bool (p x)) ∧ Below w'.heap.size w' w''
theorem Asks.below {α : Type} {fn : Nat} {cps : Array Value} {val : α → Value} {p : α → Bool} {w w' : World} (h : Asks fn cps val p w) (hb : Below w.heap.size w w') : Asks fn cps val p w' :=
  ⟨h.1, fun x u hu => h.2 x u (hb.trans (hu.mono hb.size))⟩

set_option maxHeartbeats 1000000 in
theorem indexLock_any (fn : Nat) (cps : Array Value) (p : LkV → Bool) (a : Option Addr) (len cap : Nat) (xs : List LkV) (w : World) (h : IsLocks w a len cap xs) (hF : Asks fn cps LkV.val p w) :
    Calls Tryd.prog 59 #[.slice a len cap, .func (.func fn) #[] cps] w fun e w' => e = .returned (.int .i64 (idxI p xs)) ∧ Below w.heap.size w w' := by
  obtain ⟨hlen, hcap, hmax, _, hmem⟩ := h
  obtain ⟨hE, hF⟩ := hF
  unfold Enters at hE
  have HL : Hid (xs.length = len) := hlen
  clear hlen
  unfold maxLen at hmax
  go_enter Tryd.func59, Tryd.ntmps59
  go_wp2
  go_loopw [8] (fun s8 wr => ∃ (k : Nat), k ≤ len ∧ s8 = .int .i64 k ∧ (∀ i, i < k → p (xs.getD i default) = false) ∧ Below w.heap.size w wr) (fun s8 _ => len - (intOf s8).toNat)
  case atStart => exact ⟨0, Nat.zero_le _, rfl, fun i hi => absurd hi (by omega), Below.refl _ _⟩
  case round =>
    obtain ⟨k, hk, rfl, hnot, hb⟩ := hrel
    by_cases hlt : k < len
    · have hlt' : (k : Int) < (len : Int) := by omega
      obtain ⟨b, off, rfl, zb, hc⟩ := hmem (by omega)
      have hcells := hc k hlt
      have hx := hF (xs.getD k default) wr hb
      have hhit := idxI_hit (p := p) (l := xs) (k := k) (by have := HL.out; omega) hnot
      have hnot' : p (xs.getD k default) = false → ∀ i, i < k + 1 → p (xs.getD i default) = false := fun hf i hi => by
        by_cases e : i = k
        · rw [e]; exact hf
        · exact hnot i (by omega)
      obtain ⟨x, ex⟩ : ∃ x, x = xs.getD k default := ⟨_, rfl⟩
      rw [← ex] at hcells hx hhit hnot'
      clear ex
      obtain ⟨⟨site, num⟩, key, write, value, ask⟩ := x
      have a0 := hcells 0 (by decide)
      have a1 := hcells 1 (by decide)
      have a2 := hcells 2 (by decide)
      have a3 := hcells 3 (by decide)
      have a4 := hcells 4 (by decide)
      have a5 := hcells 5 (by decide)
      simp [LkV.cells] at a0 a1 a2 a3 a4 a5
      rw [← hb.cell (p := ⟨b, off + k * 6, none⟩) zb] at a0
      rw [← hb.cell (p := ⟨b, off + k * 6 + 1, none⟩) zb] at a1
      rw [← hb.cell (p := ⟨b, off + k * 6 + 2, none⟩) zb] at a2
      rw [← hb.cell (p := ⟨b, off + k * 6 + 3, none⟩) zb] at a3
      rw [← hb.cell (p := ⟨b, off + k * 6 + 4, none⟩) zb] at a4
      rw [← hb.cell (p := ⟨b, off + k * 6 + 5, none⟩) zb] at a5
      clear hcells hc
      simp only [LkV.val] at hx
      obtain ⟨P, eP⟩ : ∃ P, P = p ⟨(site, num), key, write, value, ask⟩ := ⟨_, rfl⟩
      rw [← eP] at hx hhit hnot'
      clear eP
      cases P with
      | true =>
        have hh := hhit rfl
        clear hhit hnot'
        go_wp2_with (go_at_fn fn; refine (hx).mono ?_; rintro e w1 ⟨rfl, hb1⟩)
        go_ret
        exact ⟨by rw [hh]; rfl, hb.trans (hb1.mono hb.size)⟩
      | false =>
        have hh := hnot' rfl
        clear hhit hnot'
        go_wp2_with (go_at_fn fn; refine (hx).mono ?_; rintro e w1 ⟨rfl, hb1⟩)
        go_roundw
        case rel => exact ⟨k + 1, by omega, by go_num, hh, hb.trans (hb1.mono hb.size)⟩
        case measure => simp [intOf]; omega
    · have hfin : idxI p xs = -1 := idxI_none (fun i hi => hnot i (by have := HL.out; omega))
      go_wp2
      go_ret
      exact ⟨by rw [hfin]; rfl, hb⟩

theorem containsLock_any (fn : Nat) (cps : Array Value) (p : LkV → Bool) (a : Option Addr) (len cap : Nat) (xs : List LkV) (w : World) (h : IsLocks w a len cap xs) (hF : Asks fn cps LkV.val p w) :
    Calls Tryd.prog 95 #[.slice a len cap, .func (.func fn) #[] cps] w fun e w' => e = .returned (.bool (xs.any p)) ∧ Below w.heap.size w w' := by
  have hI := fun w' h1 h2 => indexLock_any fn cps p a len cap xs w' h1 h2
  have hA := idxI_any p xs
  obtain ⟨I, eI⟩ : ∃ I, I = idxI p xs := ⟨_, rfl⟩
  rw [← eI] at hI hA
  rw [← hA]
  clear eI hA
  go_enter Tryd.func95, Tryd.ntmps95
  go_wp2_with (go_at_call 59; refine (hI _ h hF).mono ?_; rintro e w1 ⟨rfl, hb1⟩)
  go_ret
  exact ⟨rfl, hb1⟩

set_option maxHeartbeats 1000000 in
theorem indexDoubt_any (fn : Nat) (cps : Array Value) (p : DbV → Bool) (a : Option Addr) (len cap : Nat) (xs : List DbV) (w : World) (h : IsDoubts w a len cap xs) (hF : Asks fn cps DbV.val p w) :
    Calls Tryd.prog 102 #[.slice a len cap, .func (.func fn) #[] cps] w fun e w' => e = .returned (.int .i64 (idxI p xs)) ∧ Below w.heap.size w w' := by
  obtain ⟨hlen, hcap, hmax, _, hmem⟩ := h
  obtain ⟨hE, hF⟩ := hF
  unfold Enters at hE
  have HL : Hid (xs.length = len) := hlen
  clear hlen
  unfold maxLen at hmax
  go_enter Tryd.func102, Tryd.ntmps102
  go_wp2
  go_loopw [8] (fun s8 wr => ∃ (k : Nat), k ≤ len ∧ s8 = .int .i64 k ∧ (∀ i, i < k → p (xs.getD i default) = false) ∧ Below w.heap.size w wr) (fun s8 _ => len - (intOf s8).toNat)
  case atStart => exact ⟨0, Nat.zero_le _, rfl, fun i hi => absurd hi (by omega), Below.refl _ _⟩
  case round =>
    obtain ⟨k, hk, rfl, hnot, hb⟩ := hrel
    by_cases hlt : k < len
    · have hlt' : (k : Int) < (len : Int) := by omega
      obtain ⟨b, off, rfl, zb, hc⟩ := hmem (by omega)
      have hcells := hc k hlt
      have hx := hF (xs.getD k default) wr hb
      have hhit := idxI_hit (p := p) (l := xs) (k := k) (by have := HL.out; omega) hnot
      have hnot' : p (xs.getD k default) = false → ∀ i, i < k + 1 → p (xs.getD i default) = false := fun hf i hi => by
        by_cases e : i = k
        · rw [e]; exact hf
        · exact hnot i (by omega)
      obtain ⟨x, ex⟩ : ∃ x, x = xs.getD k default := ⟨_, rfl⟩
      rw [← ex] at hcells hx hhit hnot'
      clear ex
      obtain ⟨⟨site, num⟩, age⟩ := x
      have a0 := hcells 0 (by decide)
      have a1 := hcells 1 (by decide)
      have a2 := hcells 2 (by decide)
      simp [DbV.cells] at a0 a1 a2
      rw [← hb.cell (p := ⟨b, off + k * 3, none⟩) zb] at a0
      rw [← hb.cell (p := ⟨b, off + k * 3 + 1, none⟩) zb] at a1
      rw [← hb.cell (p := ⟨b, off + k * 3 + 2, none⟩) zb] at a2
      clear hcells hc
      simp only [DbV.val] at hx
      obtain ⟨P, eP⟩ : ∃ P, P = p ⟨(site, num), age⟩ := ⟨_, rfl⟩
      rw [← eP] at hx hhit hnot'
      clear eP
      cases P with
      | true =>
        have hh := hhit rfl
        clear hhit hnot'
        go_wp2_with (go_at_fn fn; refine (hx).mono ?_; rintro e w1 ⟨rfl, hb1⟩)
        go_ret
        exact ⟨by rw [hh]; rfl, hb.trans (hb1.mono hb.size)⟩
      | false =>
        have hh := hnot' rfl
        clear hhit hnot'
        go_wp2_with (go_at_fn fn; refine (hx).mono ?_; rintro e w1 ⟨rfl, hb1⟩)
        go_roundw
        case rel => exact ⟨k + 1, by omega, by go_num, hh, hb.trans (hb1.mono hb.size)⟩
        case measure => simp [intOf]; omega
    · have hfin : idxI p xs = -1 := idxI_none (fun i hi => hnot i (by have := HL.out; omega))
      go_wp2
      go_ret
      exact ⟨by rw [hfin]; rfl, hb⟩

theorem containsDoubt_any (fn : Nat) (cps : Array Value) (p : DbV → Bool) (a : Option Addr) (len cap : Nat) (xs : List DbV) (w : World) (h : IsDoubts w a len cap xs) (hF : Asks fn cps DbV.val p w) :
    Calls Tryd.prog 97 #[.slice a len cap, .func (.func fn) #[] cps] w fun e w' => e = .returned (.bool (xs.any p)) ∧ Below w.heap.size w w' := by
  have hI := fun w' h1 h2 => indexDoubt_any fn cps p a len cap xs w' h1 h2
  have hA := idxI_any p xs
  obtain ⟨I, eI⟩ : ∃ I, I = idxI p xs := ⟨_, rfl⟩
  rw [← eI] at hI hA
  rw [← hA]
  clear eI hA
  go_enter Tryd.func97, Tryd.ntmps97
  go_wp2_with (go_at_call 102; refine (hI _ h hF).mono ?_; rintro e w1 ⟨rfl, hb1⟩)
  go_ret
  exact ⟨rfl, hb1⟩

set_option maxHeartbeats 1000000 in
theorem indexItem_any (fn : Nat) (cps : Array Value) (p : ItV → Bool) (a : Option Addr) (len cap : Nat) (xs : List ItV) (w : World) (h : IsItems w a len cap xs) (hF : Asks fn cps ItV.val p w) :
    Calls Tryd.prog 92 #[.slice a len cap, .func (.func fn) #[] cps] w fun e w' => e = .returned (.int .i64 (idxI p xs)) ∧ Below w.heap.size w w' := by
  obtain ⟨hlen, hcap, hmax, _, hmem⟩ := h
  obtain ⟨hE, hF⟩ := hF
  unfold Enters at hE
  have HL : Hid (xs.length = len) := hlen
  clear hlen
  unfold maxLen at hmax
  go_enter Tryd.func92, Tryd.ntmps92
  go_wp2
  go_loopw [8] (fun s8 wr => ∃ (k : Nat), k ≤ len ∧ s8 = .int .i64 k ∧ (∀ i, i < k → p (xs.getD i default) = false) ∧ Below w.heap.size w wr) (fun s8 _ => len - (intOf s8).toNat)
  case atStart => exact ⟨0, Nat.zero_le _, rfl, fun i hi => absurd hi (by omega), Below.refl _ _⟩
  case round =>
    obtain ⟨k, hk, rfl, hnot, hb⟩ := hrel
    by_cases hlt : k < len
    · have hlt' : (k : Int) < (len : Int) := by omega
      obtain ⟨b, off, rfl, zb, hc⟩ := hmem (by omega)
      have hcells := hc k hlt
      have hx := hF (xs.getD k default) wr hb
      have hhit := idxI_hit (p := p) (l := xs) (k := k) (by have := HL.out; omega) hnot
      have hnot' : p (xs.getD k default) = false → ∀ i, i < k + 1 → p (xs.getD i default) = false := fun hf i hi => by
        by_cases e : i = k
        · rw [e]; exact hf
        · exact hnot i (by omega)
      obtain ⟨x, ex⟩ : ∃ x, x = xs.getD k default := ⟨_, rfl⟩
      rw [← ex] at hcells hx hhit hnot'
      clear ex
      obtain ⟨key, value, version⟩ := x
      have a0 := hcells 0 (by decide)
      have a1 := hcells 1 (by decide)
      have a2 := hcells 2 (by decide)
      simp [ItV.cells] at a0 a1 a2
      rw [← hb.cell (p := ⟨b, off + k * 3, none⟩) zb] at a0
      rw [← hb.cell (p := ⟨b, off + k * 3 + 1, none⟩) zb] at a1
      rw [← hb.cell (p := ⟨b, off + k * 3 + 2, none⟩) zb] at a2
      clear hcells hc
      simp only [ItV.val] at hx
      obtain ⟨P, eP⟩ : ∃ P, P = p ⟨key, value, version⟩ := ⟨_, rfl⟩
      rw [← eP] at hx hhit hnot'
      clear eP
      cases P with
      | true =>
        have hh := hhit rfl
        clear hhit hnot'
        go_wp2_with (go_at_fn fn; refine (hx).mono ?_; rintro e w1 ⟨rfl, hb1⟩)
        go_ret
        exact ⟨by rw [hh]; rfl, hb.trans (hb1.mono hb.size)⟩
      | false =>
        have hh := hnot' rfl
        clear hhit hnot'
        go_wp2_with (go_at_fn fn; refine (hx).mono ?_; rintro e w1 ⟨rfl, hb1⟩)
        go_roundw
        case rel => exact ⟨k + 1, by omega, by go_num, hh, hb.trans (hb1.mono hb.size)⟩
        case measure => simp [intOf]; omega
    · have hfin : idxI p xs = -1 := idxI_none (fun i hi => hnot i (by have := HL.out; omega))
      go_wp2
      go_ret
      exact ⟨by rw [hfin]; rfl, hb⟩

set_option maxHeartbeats 1000000 in
theorem indexTxn_any (t : Int × Int) (a : Option Addr) (len cap : Nat) (xs : List (Int × Int)) (w : World) (h : IsTxns w a len cap xs) :
    Calls Tryd.prog 120 #[.slice a len cap, .agg #[.int .i64 t.1, .int .i64 t.2]] w fun e w' => e = .returned (.int .i64 (idxI (fun x => decide (x = t)) xs)) ∧ Below w.heap.size w w' := by
  obtain ⟨hlen, hcap, hmax, _, hmem⟩ := h
  have HL : Hid (xs.length = len) := hlen
  clear hlen
  unfold maxLen at hmax
  obtain ⟨ts, tn⟩ := t
  simp only
  obtain ⟨W, hW⟩ : ∃ W : World, W = w.alloc (.cells #[.int .i64 ts, .int .i64 tn] 23) := ⟨_, rfl⟩
  have hB : Below w.heap.size w W := by rw [hW]; exact (Below.refl _ _).alloc (Nat.le_refl _) _
  have zW : w.heap.size < W.heap.size := by rw [hW]; simp
  have c0 : W.cell? ⟨w.heap.size, 0, none⟩ = some (.int .i64 ts) := by rw [hW]; go_simp
  have c1 : W.cell? ⟨w.heap.size, 1, none⟩ = some (.int .i64 tn) := by rw [hW]; go_simp
  go_enter Tryd.func120, Tryd.ntmps120
  go_wp2
  rw [← hW]
  clear hW
  go_loopw [8] (fun s8 wr => ∃ (k : Nat), k ≤ len ∧ s8 = .int .i64 k ∧ (∀ i, i < k → decide (xs.getD i default = (ts, tn)) = false) ∧ Below W.heap.size W wr) (fun s8 _ => len - (intOf s8).toNat)
  case atStart => exact ⟨0, Nat.zero_le _, rfl, fun i hi => absurd hi (by omega), Below.refl _ _⟩
  case round =>
    obtain ⟨k, hk, rfl, hnot, hb⟩ := hrel
    have hwr := hB.trans (hb.mono hB.size)
    by_cases hlt : k < len
    · have hlt' : (k : Int) < (len : Int) := by omega
      obtain ⟨b, off, rfl, zb, hc⟩ := hmem (by omega)
      have hcells := hc k hlt
      have hhit := idxI_hit (p := fun x => decide (x = (ts, tn))) (l := xs) (k := k) (by have := HL.out; omega) hnot
      have hnot' : decide (xs.getD k default = (ts, tn)) = false → ∀ i, i < k + 1 → decide (xs.getD i default = (ts, tn)) = false := fun hf i hi => by
        by_cases e : i = k
        · rw [e]; exact hf
        · exact hnot i (by omega)
      obtain ⟨x, ex⟩ : ∃ x, x = xs.getD k default := ⟨_, rfl⟩
      rw [← ex] at hcells hhit hnot'
      clear ex
      obtain ⟨site, num⟩ := x
      have a0 := hcells 0 (by decide)
      have a1 := hcells 1 (by decide)
      simp [txCells] at a0 a1
      rw [← hwr.cell (p := ⟨b, off + k * 2, none⟩) zb] at a0
      rw [← hwr.cell (p := ⟨b, off + k * 2 + 1, none⟩) zb] at a1
      have d0 := (hb.cell (p := ⟨w.heap.size, 0, none⟩) zW).trans c0
      have d1 := (hb.cell (p := ⟨w.heap.size, 1, none⟩) zW).trans c1
      clear hcells hc
      by_cases e1 : ts = site
      · by_cases e2 : tn = num
        · subst e1 e2
          have hh := hhit (by simp)
          clear hhit hnot'
          go_wp2
          go_quiet (fail)
          go_wp2
          go_ret
          exact ⟨by rw [hh]; rfl, below_drewN hwr nq⟩
        · have hh := hnot' (by simp; intro _ e; exact e2 e.symm)
          have e3 : (tn == num) = false := by simpa using e2
          clear hhit hnot'
          subst e1
          go_wp2
          go_quiet (fail)
          go_wp2
          go_roundw
          case rel => exact ⟨k + 1, by omega, by go_num, hh, below_drewN hb nq⟩
          case measure => simp [intOf]; omega
      · have hh := hnot' (by simp; intro e; exact absurd e.symm e1)
        have e3 : (ts == site) = false := by simpa using e1
        clear hhit hnot'
        go_wp2
        go_quiet (fail)
        go_wp2
        go_roundw
        case rel => exact ⟨k + 1, by omega, by go_num, hh, below_drewN hb nq⟩
        case measure => simp [intOf]; omega
    · have hfin : idxI (fun x => decide (x = (ts, tn))) xs = -1 := idxI_none (fun i hi => hnot i (by have := HL.out; omega))
      go_wp2
      go_ret
      exact ⟨by rw [hfin]; rfl, hwr⟩

theorem mem_any (t : Int × Int) (xs : List (Int × Int)) : xs.any (fun x => decide (x = t)) = decide (t ∈ xs) := by
  rw [Bool.eq_iff_iff]
  simp
theorem containsTxn_any (t : Int × Int) (a : Option Addr) (len cap : Nat) (xs : List (Int × Int)) (w : World) (h : IsTxns w a len cap xs) :
    Calls Tryd.prog 104 #[.slice a len cap, .agg #[.int .i64 t.1, .int .i64 t.2]] w fun e w' => e = .returned (.bool (decide (t ∈ xs))) ∧ Below w.heap.size w w' := by
  have hI := fun w' h1 => indexTxn_any t a len cap xs w' h1
  have hA := idxI_any (fun x => decide (x = t)) xs
  rw [mem_any] at hA
  obtain ⟨I, eI⟩ : ∃ I, I = idxI (fun x => decide (x = t)) xs := ⟨_, rfl⟩
  rw [← eI] at hI hA
  rw [← hA]
  clear eI hA
  obtain ⟨ts, tn⟩ := t
  simp only at hI ⊢
  have hB : Below w.heap.size w (w.alloc (.cells #[.int .i64 ts, .int .i64 tn] 23)) := (Below.refl _ _).alloc (Nat.le_refl _) _
  have hX := h.below hB
  go_enter Tryd.func104, Tryd.ntmps104
  go_wp2_with (go_at_call 120; refine (hI _ hX).mono ?_; rintro e w1 ⟨rfl, hb1⟩)
  go_ret
  exact ⟨rfl, hB.trans (hb1.mono hB.size)⟩
end Go.Proofs.YtgohpgollpjlnaaDoor.St
/- Contracts of store.against, and of the function that it hands back. -/
namespace Go.Proofs.YtgohpgollpjlnaaDoor.St
open Go.ChangeShapes Go.WideShapes Go.ChangeAt Go.RowKit
set_option linter.unusedVariables false

set_option maxHeartbeats 2000000 in
theorem against_asks (b : Nat) (k : LkV) (w : World) (c0 : w.cell? ⟨b, 0, none⟩ = some (.int .i64 k.t.1)) (c1 : w.cell? ⟨b, 1, none⟩ = some (.int .i64 k.t.2)) (c2 : w.cell? ⟨b, 2, none⟩ = some (.int .i64 k.key)) (c3 : w.cell? ⟨b, 3, none⟩ = some (.bool k.write)) (z : b < w.heap.size) : Asks 128 #[.pointer (some ⟨b, 0, none⟩)] LkV.val (against k) w := by
  refine ⟨enters_of Tryd.func128 (by kernel_rfl) rfl, fun x w' hb => ?_⟩
  rw [← hb.cell (p := ⟨b, 0, none⟩) z] at c0
  rw [← hb.cell (p := ⟨b, 1, none⟩) z] at c1
  rw [← hb.cell (p := ⟨b, 2, none⟩) z] at c2
  rw [← hb.cell (p := ⟨b, 3, none⟩) z] at c3
  have y := Nat.lt_of_lt_of_le z hb.size
  obtain ⟨⟨ts, tn⟩, ky, wt, vl, ak⟩ := k
  obtain ⟨⟨site, num⟩, key, write, value, ask⟩ := x
  simp only [LkV.val] at *
  have hA : ∀ o, Below w'.heap.size w' (w'.alloc o) := fun o => (Below.refl _ _).alloc (Nat.le_refl _) _
  show Calls Tryd.prog 128 #[_, .pointer (some ⟨b, 0, none⟩)] w' _
  go_enter Tryd.func128, Tryd.ntmps128
  go_wp2
  all_goals go_ret
  all_goals exact ⟨ret_bool (by simp_all [against]), hA _⟩
theorem against_any (k : LkV) (w : World) :
    Calls Tryd.prog 112 #[k.val] w fun e w' => ∃ b : Nat, e = .returned (.func (.func 128) #[] #[.pointer (some ⟨b, 0, none⟩)]) ∧ Asks 128 #[.pointer (some ⟨b, 0, none⟩)] LkV.val (against k) w' ∧ Below w.heap.size w w' := by
  obtain ⟨⟨site, num⟩, key, write, value, ask⟩ := k
  simp only [LkV.val]
  obtain ⟨W, hW⟩ : ∃ W : World, W = w.alloc (.cells #[.int .i64 site, .int .i64 num, .int .i64 key, .bool write, .int .i64 value, .int .i64 ask] 111) := ⟨_, rfl⟩
  have hB : Below w.heap.size w W := by rw [hW]; exact (Below.refl _ _).alloc (Nat.le_refl _) _
  have zW : w.heap.size < W.heap.size := by rw [hW]; simp
  have c0 : W.cell? ⟨w.heap.size, 0, none⟩ = some (.int .i64 site) := by rw [hW]; go_simp
  have c1 : W.cell? ⟨w.heap.size, 1, none⟩ = some (.int .i64 num) := by rw [hW]; go_simp
  have c2 : W.cell? ⟨w.heap.size, 2, none⟩ = some (.int .i64 key) := by rw [hW]; go_simp
  have c3 : W.cell? ⟨w.heap.size, 3, none⟩ = some (.bool write) := by rw [hW]; go_simp
  have hq := against_asks w.heap.size ⟨(site, num), key, write, value, ask⟩ W c0 c1 c2 c3 zW
  go_enter Tryd.func112, Tryd.ntmps112
  go_wp2
  rw [← hW]
  go_ret
  exact ⟨_, rfl, hq, hB⟩
end Go.Proofs.YtgohpgollpjlnaaDoor.St
/- Contracts of store.lockMayBe and locksMayBe. -/
namespace Go.Proofs.YtgohpgollpjlnaaDoor.St
open Go.ChangeShapes Go.WideShapes Go.ChangeAt Go.RowKit
set_option linter.unusedVariables false

set_option maxHeartbeats 2000000 in
theorem lockMayBe_any (k : LkV) (w : World) :
    Calls Tryd.prog 111 #[k.val] w fun e w' => e = .returned (.bool (lockOK k)) ∧ Below w.heap.size w w' := by
  obtain ⟨⟨site, num⟩, key, write, value, ask⟩ := k
  simp only [LkV.val]
  obtain ⟨W, hW⟩ : ∃ W : World, W = w.alloc (.cells #[.int .i64 site, .int .i64 num, .int .i64 key, .bool write, .int .i64 value, .int .i64 ask] 111) := ⟨_, rfl⟩
  have hB : Below w.heap.size w W := by rw [hW]; exact (Below.refl _ _).alloc (Nat.le_refl _) _
  have zW : w.heap.size < W.heap.size := by rw [hW]; simp
  have c0 : W.cell? ⟨w.heap.size, 0, none⟩ = some (.int .i64 site) := by rw [hW]; go_simp
  have c1 : W.cell? ⟨w.heap.size, 1, none⟩ = some (.int .i64 num) := by rw [hW]; go_simp
  have c2 : W.cell? ⟨w.heap.size, 2, none⟩ = some (.int .i64 key) := by rw [hW]; go_simp
  have c3 : W.cell? ⟨w.heap.size, 3, none⟩ = some (.bool write) := by rw [hW]; go_simp
  have c4 : W.cell? ⟨w.heap.size, 4, none⟩ = some (.int .i64 value) := by rw [hW]; go_simp
  have c5 : W.cell? ⟨w.heap.size, 5, none⟩ = some (.int .i64 ask) := by rw [hW]; go_simp
  have hK : Hid (∀ V : World, Below W.heap.size W V → V.cell? ⟨w.heap.size, 2, none⟩ = some (.int .i64 key) ∧ V.cell? ⟨w.heap.size, 3, none⟩ = some (.bool write) ∧ V.cell? ⟨w.heap.size, 4, none⟩ = some (.int .i64 value) ∧ V.cell? ⟨w.heap.size, 5, none⟩ = some (.int .i64 ask)) := fun V hV =>
    ⟨(hV.cell (p := ⟨w.heap.size, 2, none⟩) zW).trans c2, (hV.cell (p := ⟨w.heap.size, 3, none⟩) zW).trans c3, (hV.cell (p := ⟨w.heap.size, 4, none⟩) zW).trans c4, (hV.cell (p := ⟨w.heap.size, 5, none⟩) zW).trans c5⟩
  have hT := fun w' => isTxn_any (site, num) w'
  simp only at hT
  have e0 : Hid (lockOK ⟨(site, num), key, write, value, ask⟩ = (txOK (site, num) && inR key 0 7 && inR value 0 1073741824 && inR ask 0 1048576 && (write || (decide (value = 0) && decide (ask = 0))))) := rfl
  obtain ⟨L, eL⟩ : ∃ L, L = lockOK ⟨(site, num), key, write, value, ask⟩ := ⟨_, rfl⟩
  rw [← eL] at e0 ⊢
  clear eL
  obtain ⟨T, eT⟩ : ∃ T, T = txOK (site, num) := ⟨_, rfl⟩
  rw [← eT] at hT e0
  clear eT
  go_enter Tryd.func111, Tryd.ntmps111
  go_upto_region 1 with (fail)
  rw [← hW]
  clear hW
  cases T with
  | false =>
    go_wp2_with (go_at_call 73; refine (hT _).mono ?_; rintro e w1 ⟨rfl, hb1⟩; obtain ⟨k2, k3, k4, k5⟩ := hK.out _ hb1)
    go_ret
    exact ⟨by rw [e0.out]; rfl, hB.trans (hb1.mono hB.size)⟩
  | true =>
    cases h2 : inR key 0 7 with
    | false =>
      go_wp2_with (first | (go_at_call 73; refine (hT _).mono ?_; rintro e w1 ⟨rfl, hb1⟩; obtain ⟨k2, k3, k4, k5⟩ := hK.out _ hb1) | (go_at_call 91; refine (key_any _ _).mono ?_; rintro e u ⟨rfl, hu⟩; rw [hu, h2]; clear hu))
      go_ret
      exact ⟨by rw [e0.out, h2]; rfl, hB.trans (hb1.mono hB.size)⟩
    | true =>
      cases h3 : inR value 0 1073741824 with
      | false =>
        go_wp2_with (first | (go_at_call 73; refine (hT _).mono ?_; rintro e w1 ⟨rfl, hb1⟩; obtain ⟨k2, k3, k4, k5⟩ := hK.out _ hb1) | (go_at_call 91; refine (key_any _ _).mono ?_; rintro e u ⟨rfl, hu⟩; rw [hu, h2]; clear hu) | (go_at_call 64; refine (value_any _ _).mono ?_; rintro e u ⟨rfl, hu⟩; rw [hu, h3]; clear hu))
        go_ret
        exact ⟨by rw [e0.out, h2, h3]; rfl, hB.trans (hb1.mono hB.size)⟩
      | true =>
        cases h4 : inR ask 0 1048576 with
        | false =>
          go_wp2_with (first | (go_at_call 73; refine (hT _).mono ?_; rintro e w1 ⟨rfl, hb1⟩; obtain ⟨k2, k3, k4, k5⟩ := hK.out _ hb1) | (go_at_call 91; refine (key_any _ _).mono ?_; rintro e u ⟨rfl, hu⟩; rw [hu, h2]; clear hu) | (go_at_call 64; refine (value_any _ _).mono ?_; rintro e u ⟨rfl, hu⟩; rw [hu, h3]; clear hu) | (go_at_call 65; refine (isAsk_any _ _).mono ?_; rintro e u ⟨rfl, hu⟩; rw [hu, h4]; clear hu))
          go_ret
          exact ⟨by rw [e0.out, h2, h3, h4]; rfl, hB.trans (hb1.mono hB.size)⟩
        | true =>
          go_wp2_with (first | (go_at_call 73; refine (hT _).mono ?_; rintro e w1 ⟨rfl, hb1⟩; obtain ⟨k2, k3, k4, k5⟩ := hK.out _ hb1) | (go_at_call 91; refine (key_any _ _).mono ?_; rintro e u ⟨rfl, hu⟩; rw [hu, h2]; clear hu) | (go_at_call 64; refine (value_any _ _).mono ?_; rintro e u ⟨rfl, hu⟩; rw [hu, h3]; clear hu) | (go_at_call 65; refine (isAsk_any _ _).mono ?_; rintro e u ⟨rfl, hu⟩; rw [hu, h4]; clear hu))
          all_goals go_ret
          all_goals (refine ⟨ret_bool ?_, hB.trans (hb1.mono hB.size)⟩; rw [e0.out, h2, h3, h4]; first | (simp_all; done) | (simp_all; rfl))

theorem locksGo_at {xs : List LkV} {k : Nat} (hk : k < xs.length) (h : locksGo [] xs = locksGo (xs.take k) (xs.drop k)) :
    locksGo [] xs = (lockOK (xs.getD k default) && !((xs.take k).any (against (xs.getD k default))) && locksGo (xs.take (k + 1)) (xs.drop (k + 1))) := by
  rw [h, drop_at hk, take_at hk]
  rfl

set_option maxHeartbeats 4000000 in
theorem locksMayBe_any (a : Option Addr) (len cap : Nat) (xs : List LkV) (w : World) (h : IsLocks w a len cap xs) :
    Calls Tryd.prog 82 #[.slice a len cap] w fun e w' => e = .returned (.bool (locksOK xs)) ∧ Below w.heap.size w w' := by
  have hh := h
  obtain ⟨hlen, hcap, hmax, _, hmem⟩ := h
  have e0 : Hid (locksOK xs = (decide (len ≤ 24) && locksGo [] xs)) := by show _ = _; rw [← hlen]; rfl
  have HL : Hid (xs.length = len) := hlen
  clear hlen
  unfold maxLen at hmax
  by_cases h24 : len ≤ 24
  · have h24' : (len : Int) ≤ 24 := by omega
    go_enter Tryd.func82, Tryd.ntmps82
    go_wp2
    go_loopw [10] (fun s10 wr => ∃ (k : Nat), k ≤ len ∧ s10 = .int .i64 k ∧ Hid (locksGo [] xs = locksGo (xs.take k) (xs.drop k)) ∧ Below w.heap.size w wr) (fun s10 _ => len - (intOf s10).toNat)
    case atStart => exact ⟨0, Nat.zero_le _, rfl, by show _ = _; simp, Below.refl _ _⟩
    case round =>
      obtain ⟨k, hk, rfl, hat, hb⟩ := hrel
      by_cases hlt : k < len
      · have hlt' : (k : Int) < (len : Int) := by omega
        obtain ⟨b, off, rfl, zb, hc⟩ := hmem (by omega)
        have hcells := hc k hlt
        have hn : Hid (locksGo [] xs = (lockOK (xs.getD k default) && !((xs.take k).any (against (xs.getD k default))) && locksGo (xs.take (k + 1)) (xs.drop (k + 1)))) := locksGo_at (by have := HL.out; omega) hat.out
        clear hat hc hmem
        obtain ⟨x, ex⟩ : ∃ x, x = xs.getD k default := ⟨_, rfl⟩
        rw [← ex] at hcells hn
        clear ex
        have hLk := fun w' => lockMayBe_any x w'
        have hAg := fun w' => against_any x w'
        have hCn := fun fn cps w' h1 h2 => containsLock_any fn cps (against x) (some ⟨b, off, none⟩) k cap (xs.take k) w' h1 h2
        obtain ⟨⟨site, num⟩, key, write, value, ask⟩ := x
        have a0 := hcells 0 (by decide)
        have a1 := hcells 1 (by decide)
        have a2 := hcells 2 (by decide)
        have a3 := hcells 3 (by decide)
        have a4 := hcells 4 (by decide)
        have a5 := hcells 5 (by decide)
        simp [LkV.cells] at a0 a1 a2 a3 a4 a5
        rw [← hb.cell (p := ⟨b, off + k * 6, none⟩) zb] at a0
        rw [← hb.cell (p := ⟨b, off + k * 6 + 1, none⟩) zb] at a1
        rw [← hb.cell (p := ⟨b, off + k * 6 + 2, none⟩) zb] at a2
        rw [← hb.cell (p := ⟨b, off + k * 6 + 3, none⟩) zb] at a3
        rw [← hb.cell (p := ⟨b, off + k * 6 + 4, none⟩) zb] at a4
        rw [← hb.cell (p := ⟨b, off + k * 6 + 5, none⟩) zb] at a5
        clear hcells
        obtain ⟨V, hV⟩ : ∃ V : World, V = wr.alloc (.cells #[.int .i64 site, .int .i64 num, .int .i64 key, .bool write, .int .i64 value, .int .i64 ask] 111) := ⟨_, rfl⟩
        have bV : Below w.heap.size w V := by rw [hV]; exact hb.alloc hb.size _
        have zV : wr.heap.size < V.heap.size := by rw [hV]; simp
        have c0 : V.cell? ⟨wr.heap.size, 0, none⟩ = some (.int .i64 site) := by rw [hV]; go_simp
        have c1 : V.cell? ⟨wr.heap.size, 1, none⟩ = some (.int .i64 num) := by rw [hV]; go_simp
        have c2 : V.cell? ⟨wr.heap.size, 2, none⟩ = some (.int .i64 key) := by rw [hV]; go_simp
        have c3 : V.cell? ⟨wr.heap.size, 3, none⟩ = some (.bool write) := by rw [hV]; go_simp
        have c4 : V.cell? ⟨wr.heap.size, 4, none⟩ = some (.int .i64 value) := by rw [hV]; go_simp
        have c5 : V.cell? ⟨wr.heap.size, 5, none⟩ = some (.int .i64 ask) := by rw [hV]; go_simp
        have KC : Hid (∀ U : World, Below V.heap.size V U → U.cell? ⟨wr.heap.size, 0, none⟩ = some (.int .i64 site) ∧ U.cell? ⟨wr.heap.size, 1, none⟩ = some (.int .i64 num) ∧ U.cell? ⟨wr.heap.size, 2, none⟩ = some (.int .i64 key) ∧ U.cell? ⟨wr.heap.size, 3, none⟩ = some (.bool write) ∧ U.cell? ⟨wr.heap.size, 4, none⟩ = some (.int .i64 value) ∧ U.cell? ⟨wr.heap.size, 5, none⟩ = some (.int .i64 ask)) := fun U hU =>
          ⟨(hU.cell (p := ⟨wr.heap.size, 0, none⟩) zV).trans c0, (hU.cell (p := ⟨wr.heap.size, 1, none⟩) zV).trans c1, (hU.cell (p := ⟨wr.heap.size, 2, none⟩) zV).trans c2, (hU.cell (p := ⟨wr.heap.size, 3, none⟩) zV).trans c3, (hU.cell (p := ⟨wr.heap.size, 4, none⟩) zV).trans c4, (hU.cell (p := ⟨wr.heap.size, 5, none⟩) zV).trans c5⟩
        have hTk : ∀ U : World, Below V.heap.size V U → IsLocks U (some ⟨b, off, none⟩) k cap (xs.take k) := fun U hU => (hh.take k (by omega)).below (bV.trans (hU.mono bV.size))
        have HT : Hid (∀ U : World, Below V.heap.size V U → IsLocks U (some ⟨b, off, none⟩) k cap (xs.take k)) := hTk
        clear hTk
        simp only [LkV.val] at hLk hAg
        obtain ⟨L, eL⟩ : ∃ L, L = lockOK ⟨(site, num), key, write, value, ask⟩ := ⟨_, rfl⟩
        obtain ⟨C, eC⟩ : ∃ C, C = (xs.take k).any (against ⟨(site, num), key, write, value, ask⟩) := ⟨_, rfl⟩
        rw [← eL] at hn hLk
        rw [← eC] at hn hCn
        clear eL eC
        have hkc : (k : Int) ≤ (cap : Int) := by omega
        go_upto_region 6 with (fail)
        rw [← hV]
        clear hV a0 a1 a2 a3 a4 a5
        have hD : Below V.heap.size V V.drew := (Below.refl _ _).drew
        cases L with
        | false =>
          have r0 := fun d os => cell_regrown c0 d os
          have r1 := fun d os => cell_regrown c1 d os
          have r2 := fun d os => cell_regrown c2 d os
          have r3 := fun d os => cell_regrown c3 d os
          have r4 := fun d os => cell_regrown c4 d os
          have r5 := fun d os => cell_regrown c5 d os
          refine wp_region_quiet_below (by kernel_rfl) (by kernel_rfl) ?_
          repeat (go_big_quiet_step ((exact Calls.regrown_of (hLk _))))
          refine wpQuiet_nil ?_
          intro _ hw'
          obtain ⟨⟨dq, osq⟩, hw''⟩ := hw'
          subst hw''
          go_wp2
          go_ret
          exact ⟨by rw [e0.out, hn.out]; simp, bV.trans ((below_regrown V dq osq).mono bV.size)⟩
        | true =>
          go_region_held3 (fun U => U.cell? ⟨wr.heap.size, 0, none⟩ = some (.int .i64 site) ∧ U.cell? ⟨wr.heap.size, 1, none⟩ = some (.int .i64 num) ∧ U.cell? ⟨wr.heap.size, 2, none⟩ = some (.int .i64 key) ∧ U.cell? ⟨wr.heap.size, 3, none⟩ = some (.bool write) ∧ U.cell? ⟨wr.heap.size, 4, none⟩ = some (.int .i64 value) ∧ U.cell? ⟨wr.heap.size, 5, none⟩ = some (.int .i64 ask))
            (first | exact KC.out _ hb3 | exact KC.out _ hb2 | exact KC.out _ hb1 | exact KC.out _ hD | exact KC.out _ (Below.refl _ _))
            (first
              | ((go_at_call 111; refine (hLk _).mono ?_; rintro e w1 ⟨rfl, hb1'⟩; have hb1 : Below V.heap.size V w1 := hD.trans (hb1'.mono hD.size)))
              | ((go_at_call 112; refine (hAg _).mono ?_; rintro e w2 ⟨bb, rfl, hAs, hb2'⟩; have hb2 : Below V.heap.size V w2 := hb1.trans (hb2'.mono hb1.size); have hTT := HT.out _ hb2))
              | ((go_at_call 95; refine (hCn _ _ _ hTT hAs).mono ?_; rintro e w3 ⟨rfl, hb3'⟩; have hb3 : Below V.heap.size V w3 := hb2.trans (hb3'.mono hb2.size))))
          all_goals
            have hbF := bV.trans (hb3.mono bV.size)
            cases C with
            | true =>
              go_wp2
              go_ret
              exact ⟨by rw [e0.out, hn.out]; simp, hbF⟩
            | false =>
              go_wp2
              go_roundw
              case rel => exact ⟨k + 1, by omega, by go_num, by show _ = _; rw [hn.out]; simp, hbF⟩
              case measure => simp [intOf]; omega
      · have hfin : locksGo [] xs = true := by
          rw [hat.out, List.drop_eq_nil_of_le (by have := HL.out; omega)]
          rfl
        go_wp2
        go_ret
        exact ⟨by rw [e0.out, hfin]; simp [h24], hb⟩
  · have h24' : (24 : Int) < (len : Int) := by omega
    go_enter Tryd.func82, Tryd.ntmps82
    go_wp2
    go_ret
    exact ⟨by rw [e0.out]; simp [h24], Below.refl _ _⟩
end Go.Proofs.YtgohpgollpjlnaaDoor.St
