/- Records on plain data, and contracts of wire's recordParts and bounds' Rising. -/
import Derived.Test.YtpikiaepomjmgaaDoorWParts
import Derived.Test.YtpikiaepomjmgaaDoorInts
namespace Go.Proofs.YtpikiaepomjmgaaDoor
open Go.ChangeShapes Go.WideShapes Go.ChangeAt Go.RowKit
set_option linter.unusedVariables false

structure RcV where
  kind : Int
  site : Int
  num : Int
  key : Int
  value : Int
  ask : Int
  yes : Bool
  sa : Option Addr
  sl : Nat
  sc : Nat
  sites : List Int

def RcV.val (r : RcV) : Value := .agg #[.int .i64 r.kind, .int .i64 r.site, .int .i64 r.num, .int .i64 r.key, .int .i64 r.value, .int .i64 r.ask, .bool r.yes, .slice r.sa r.sl r.sc]

/-- Numbers from 'low' on below s, each above the one ahead. -/
def rising (s low : Int) : List Int → Bool
  | [] => true
  | n :: r => inR n low (s - 1) && rising s (n + 1) r

def recRange (s : Int) (n : Nat) (r : RcV) : Bool := txnOK s r.site r.num && partsOK n [0, r.key, r.value, 0, r.ask, bit r.yes, 0, (r.sl : Int)] && rising s 0 r.sites
def recForm (r : RcV) : Bool := hasAll (rHasOf r.kind) [0, r.key, r.value, 0, r.ask, bit r.yes, 0, (r.sl : Int)]
def recFault (s : Int) (ls : List (Int × Int)) (p : Int) (r : RcV) : Int :=
  if cfgFault s ls p ≠ 0 then cfgFault s ls p else if inR r.kind 1 6 = false then 3 else if recRange s ls.length r = false then 2 else if recForm r = false then 4 else 0

theorem rf_cfg {s : Int} {ls : List (Int × Int)} {p : Int} {m : RcV} (h : cfgFault s ls p ≠ 0) : recFault s ls p m = cfgFault s ls p := by simp [recFault, h]
theorem rf_kind {s : Int} {ls : List (Int × Int)} {p : Int} {m : RcV} (h : cfgFault s ls p = 0) (hk : inR m.kind 1 6 = false) : recFault s ls p m = 3 := by simp [recFault, h, hk]
theorem rf_range {s : Int} {ls : List (Int × Int)} {p : Int} {m : RcV} (h : cfgFault s ls p = 0) (hk : inR m.kind 1 6 = true) (hr : recRange s ls.length m = false) : recFault s ls p m = 2 := by simp [recFault, h, hk, hr]
theorem rf_form {s : Int} {ls : List (Int × Int)} {p : Int} {m : RcV} (h : cfgFault s ls p = 0) (hk : inR m.kind 1 6 = true) (hr : recRange s ls.length m = true) (hf : recForm m = false) : recFault s ls p m = 4 := by simp [recFault, h, hk, hr, hf]
theorem rf_ok {s : Int} {ls : List (Int × Int)} {p : Int} {m : RcV} (h : cfgFault s ls p = 0) (hk : inR m.kind 1 6 = true) (hr : recRange s ls.length m = true) (hf : recForm m = true) : recFault s ls p m = 0 := by simp [recFault, h, hk, hr, hf]

theorem drop_int {zs : List Int} {k : Nat} (hk : k < zs.length) : zs.drop k = zs.getD k 0 :: zs.drop (k + 1) := by
  rw [List.drop_eq_getElem_cons hk]; simp [List.getD, hk]

theorem recordParts_any (r : RcV) (w : World) (hl : r.sl ≤ maxLen) :
    Calls Tryd.prog 54 #[r.val] w fun e w' => e = .returned (.agg #[.int .i64 0, .int .i64 r.key, .int .i64 r.value, .int .i64 0, .int .i64 r.ask, .int .i64 (bit r.yes), .int .i64 0, .int .i64 (r.sl : Int)]) ∧ Below w.heap.size w w' := by
  obtain ⟨kind, site, num, key, value, ask, yes, sa, sl, sc, sites⟩ := r
  simp only [RcV.val] at hl ⊢
  unfold maxLen at hl
  obtain ⟨W, hW⟩ : ∃ W : World, W = (w.alloc (.cells #[.int .i64 kind, .int .i64 site, .int .i64 num, .int .i64 key, .int .i64 value, .int .i64 ask, .bool yes, .slice sa sl sc] 37)).alloc (.cells #[.int .i64 0, .int .i64 0, .int .i64 0, .int .i64 0, .int .i64 0, .int .i64 0, .int .i64 0, .int .i64 0] 77) := ⟨_, rfl⟩
  have d3 : W.cell? ⟨w.heap.size, 3, none⟩ = some (.int .i64 key) := by rw [hW]; go_simp
  have d4 : W.cell? ⟨w.heap.size, 4, none⟩ = some (.int .i64 value) := by rw [hW]; go_simp
  have d5 : W.cell? ⟨w.heap.size, 5, none⟩ = some (.int .i64 ask) := by rw [hW]; go_simp
  have d6 : W.cell? ⟨w.heap.size, 6, none⟩ = some (.bool yes) := by rw [hW]; go_simp
  have d7 : W.cell? ⟨w.heap.size, 7, none⟩ = some (.slice sa sl sc) := by rw [hW]; go_simp
  go_enter Tryd.func54, Tryd.ntmps54
  go_wp2
  rw [← hW]
  go_region_held3 (fun w' => w'.cell? ⟨w.heap.size, 3, none⟩ = some (.int .i64 key) ∧ w'.cell? ⟨w.heap.size, 4, none⟩ = some (.int .i64 value) ∧ w'.cell? ⟨w.heap.size, 5, none⟩ = some (.int .i64 ask) ∧ w'.cell? ⟨w.heap.size, 6, none⟩ = some (.bool yes) ∧ w'.cell? ⟨w.heap.size, 7, none⟩ = some (.slice sa sl sc))
     (go_keep)
     ((go_at_call 57; refine (truth_any _ _).mono ?_; rintro e u1 ⟨rfl, rfl⟩))
  all_goals
    go_wp2
    refine bodyPost_ret (v := .agg #[.int .i64 0, .int .i64 key, .int .i64 value, .int .i64 0, .int .i64 ask, .int .i64 (bit yes), .int .i64 0, .int .i64 (sl : Int)]) (by simp [results, Tryd.results54, go_sem]) rfl ⟨rfl, ?_⟩
    exact (((Below.refl _ _).alloc (Nat.le_refl _) _).alloc (by simp) _).drew

set_option maxRecDepth 100000 in
set_option maxHeartbeats 1000000 in
theorem rising_any (s p : Int) (a : Option Addr) (len cap : Nat) (sa : Option Addr) (sl sc : Nat) (sites : List Int) (w : World) (hs : 1 ≤ s ∧ s ≤ 4) (h : IsInts w sa sl sc sites) :
    Calls Tryd.prog 55 #[.agg #[.int .i64 s, .slice a len cap, .int .i64 p], .slice sa sl sc] w fun e w' => e = .returned (.bool (rising s 0 sites)) ∧ Below w.heap.size w w' := by
  obtain ⟨s1, s4⟩ := hs
  obtain ⟨hlen, hcap, hmax, hbd, hmem⟩ := h
  unfold maxLen at hmax
  have HL : Hid (sites.length = sl) := hlen
  clear hlen
  obtain ⟨W, hW⟩ : ∃ W : World, W = w.alloc (.cells #[.int .i64 s, .slice a len cap, .int .i64 p] 24) := ⟨_, rfl⟩
  have hB : Below w.heap.size w W := by rw [hW]; exact (Below.refl _ _).alloc (Nat.le_refl _) _
  have c0 : W.cell? ⟨w.heap.size, 0, none⟩ = some (.int .i64 s) := by rw [hW]; go_simp
  by_cases hz : sl = 0
  · subst hz
    obtain rfl : sites = [] := List.length_eq_zero_iff.1 HL.out
    go_enter Tryd.func55, Tryd.ntmps55
    go_wp2
    rw [← hW]
    clear hW
    go_loopw [10] (fun i wr => i = .int .i64 0 ∧ wr = W) (fun _ _ => 0)
    case atStart => exact ⟨rfl, rfl⟩
    case round =>
      obtain ⟨rfl, rfl⟩ := hrel
      go_wp2
      go_ret
      exact ⟨rfl, hB⟩
  · obtain ⟨b, off, rfl, hbl, hcell⟩ := hmem (by omega)
    go_enter Tryd.func55, Tryd.ntmps55
    go_wp2
    rw [← hW]
    clear hW
    go_loopw [5, 10] (fun lo i wr => ∃ (k : Nat) (l : Int), k ≤ sl ∧ i = .int .i64 k ∧ lo = .int .i64 l ∧ 0 ≤ l ∧ l ≤ 4 ∧ Hid (rising s 0 sites = rising s l (sites.drop k)) ∧ wr = W) (fun _ i _ => sl - (intOf i).toNat)
    case atStart => exact ⟨0, 0, by omega, rfl, rfl, by omega, by omega, rfl, rfl⟩
    case round =>
      obtain ⟨k, l, hk, rfl, rfl, l0, l4, hat, rfl⟩ := hrel
      by_cases hlt : k < sl
      · have hr := hcell k hlt
        rw [← hB.cell (p := ⟨b, off + k, none⟩) hbl] at hr
        have hdrop := drop_int (zs := sites) (k := k) (by have := HL.out; omega)
        obtain ⟨n, en⟩ : ∃ n, n = sites.getD k 0 := ⟨_, rfl⟩
        rw [← en] at hr hdrop
        have hlt' : (k : Int) < (sl : Int) := by omega
        clear en
        cases e : inR n l (s - 1) with
        | true =>
          have hb := inR_of e
          have hn : Hid (rising s 0 sites = rising s (n + 1) (sites.drop (k + 1))) := by show rising s 0 sites = _; rw [hat.out, hdrop]; simp [rising, e]
          clear hat hdrop
          go_wp2_with (go_at_call 36; refine (within_any _ _ _ _).mono ?_; rintro e v ⟨rfl, hv⟩; rw [hv]; clear hv v)
          go_roundw
          case rel => exact ⟨k + 1, n + 1, by omega, by go_num, by go_num, by omega, by omega, hn, by first | rfl | trivial⟩
          case measure => simp [intOf]; omega
        | false =>
          have hf : Hid (rising s 0 sites = false) := by show rising s 0 sites = _; rw [hat.out, hdrop]; simp [rising, e]
          clear hat hdrop
          go_wp2_with (go_at_call 36; refine (within_any _ _ _ _).mono ?_; rintro e v ⟨rfl, hv⟩; rw [hv]; clear hv v)
          go_ret
          exact ⟨ret_bool hf.out.symm, hB⟩
      · have he : k = sl := by omega
        have hf : Hid (rising s 0 sites = true) := by show rising s 0 sites = _; rw [hat.out, he, ← HL.out, List.drop_length]; rfl
        subst he
        clear hat
        go_wp2
        go_ret
        exact ⟨ret_bool hf.out.symm, hB⟩
end Go.Proofs.YtpikiaepomjmgaaDoor
