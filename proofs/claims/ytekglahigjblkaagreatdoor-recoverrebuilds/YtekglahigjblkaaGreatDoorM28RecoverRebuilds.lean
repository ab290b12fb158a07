/- Texts of this claim, one behind the other. -/
import Derived.Test.YtekglahigjblkaaGreatDoorM26RecoverRebuilds
import Derived.Test.YtekglahigjblkaaGreatDoorA27RecoverRebuilds
import Derived.Test.YtekglahigjblkaaGreatDoorProg
import Derived.WalkKit
import Derived.ProofKit
import Derived.Below
import Derived.Deep.QuietTactic
import Derived.BigQuiet
import Derived.LoopTactic
import Derived.WalkSmall
import Derived.Test.YtekglahigjblkaaGreatDoorA0RecoverRebuilds
import Derived.Test.YtekglahigjblkaaGreatDoorM2RecoverRebuilds
/- Records on plain data, and contracts of wire's recordParts and bounds' Rising. -/
namespace Go.Proofs.YtekglahigjblkaaGreatDoor
open Go.ChangeShapes Go.WideShapes Go.ChangeAt Go.RowKit
set_option linter.unusedVariables false

structure RcV where
  kind : Int
  site : Int
  num : Int
  key : Int
  value : Int
  ask : Int
  yes : Bool
  sa : Option Addr
  sl : Nat
  sc : Nat
  sites : List Int

def RcV.val (r : RcV) : Value := .agg #[.int .i64 r.kind, .int .i64 r.site, .int .i64 r.num, .int .i64 r.key, .int .i64 r.value, .int .i64 r.ask, .bool r.yes, .slice r.sa r.sl r.sc]

/-- Numbers from 'low' on below s, each above the one ahead. -/
def rising (s low : Int) : List Int → Bool
  | [] => true
  | n :: r => inR n low (s - 1) && rising s (n + 1) r

def recRange (s : Int) (n : Nat) (r : RcV) : Bool := txnOK s r.site r.num && partsOK n [0, r.key, r.value, 0, r.ask, bit r.yes, 0, (r.sl : Int)] && rising s 0 r.sites
def recForm (r : RcV) : Bool := hasAll (rHasOf r.kind) [0, r.key, r.value, 0, r.ask, bit r.yes, 0, (r.sl : Int)]
def recFault (s : Int) (ls : List (Int × Int)) (p : Int) (r : RcV) : Int :=
  if cfgFault s ls p ≠ 0 then cfgFault s ls p else if inR r.kind 1 6 = false then 3 else if recRange s ls.length r = false then 2 else if recForm r = false then 4 else 0

theorem rf_cfg {s : Int} {ls : List (Int × Int)} {p : Int} {m : RcV} (h : cfgFault s ls p ≠ 0) : recFault s ls p m = cfgFault s ls p := by simp [recFault, h]
theorem rf_kind {s : Int} {ls : List (Int × Int)} {p : Int} {m : RcV} (h : cfgFault s ls p = 0) (hk : inR m.kind 1 6 = false) : recFault s ls p m = 3 := by simp [recFault, h, hk]
theorem rf_range {s : Int} {ls : List (Int × Int)} {p : Int} {m : RcV} (h : cfgFault s ls p = 0) (hk : inR m.kind 1 6 = true) (hr : recRange s ls.length m = false) : recFault s ls p m = 2 := by simp [recFault, h, hk, hr]
theorem rf_form {s : Int} {ls : List (Int × Int)} {p : Int} {m : RcV} (h : cfgFault s ls p = 0) (hk : inR m.kind 1 6 = true) (hr : recRange s ls.length m = true) (hf : recForm m = false) : recFault s ls p m = 4 := by simp [recFault, h, hk, hr, hf]
theorem rf_ok {s : Int} {ls : List (Int × Int)} {p : Int} {m : RcV} (h : cfgFault s ls p = 0) (hk : inR m.kind 1 6 = true) (hr : recRange s ls.length m = true) (hf : recForm m = true) : recFault s ls p m = 0 := by simp [recFault, h, hk, hr, hf]

theorem drop_int {zs : List Int} {k : Nat} (hk : k < zs.length) : zs.drop k = zs.getD k 0 :: zs.drop (k + 1) := by
  rw [List.drop_eq_getElem_cons hk]; simp [List.getD, hk]

theorem recordParts_any (r : RcV) (w : World) (hl : r.sl ≤ maxLen) :
    Calls Tryz.prog 44 #[r.val] w fun e w' => e = .returned (.agg #[.int .i64 0, .int .i64 r.key, .int .i64 r.value, .int .i64 0, .int .i64 r.ask, .int .i64 (bit r.yes), .int .i64 0, .int .i64 (r.sl : Int)]) ∧ Below w.heap.size w w' := by
  obtain ⟨kind, site, num, key, value, ask, yes, sa, sl, sc, sites⟩ := r
  simp only [RcV.val] at hl ⊢
  unfold maxLen at hl
  obtain ⟨W, hW⟩ : ∃ W : World, W = (w.alloc (.cells #[.int .i64 kind, .int .i64 site, .int .i64 num, .int .i64 key, .int .i64 value, .int .i64 ask, .bool yes, .slice sa sl sc] 54)).alloc (.cells #[.int .i64 0, .int .i64 0, .int .i64 0, .int .i64 0, .int .i64 0, .int .i64 0, .int .i64 0, .int .i64 0] 103) := ⟨_, rfl⟩
  have d3 : W.cell? ⟨w.heap.size, 3, none⟩ = some (.int .i64 key) := by rw [hW]; go_simp
  have d4 : W.cell? ⟨w.heap.size, 4, none⟩ = some (.int .i64 value) := by rw [hW]; go_simp
  have d5 : W.cell? ⟨w.heap.size, 5, none⟩ = some (.int .i64 ask) := by rw [hW]; go_simp
  have d6 : W.cell? ⟨w.heap.size, 6, none⟩ = some (.bool yes) := by rw [hW]; go_simp
  have d7 : W.cell? ⟨w.heap.size, 7, none⟩ = some (.slice sa sl sc) := by rw [hW]; go_simp
  go_enter Tryz.func44, Tryz.ntmps44
  go_wp2
  rw [← hW]
  go_region_held3 (fun w' => w'.cell? ⟨w.heap.size, 3, none⟩ = some (.int .i64 key) ∧ w'.cell? ⟨w.heap.size, 4, none⟩ = some (.int .i64 value) ∧ w'.cell? ⟨w.heap.size, 5, none⟩ = some (.int .i64 ask) ∧ w'.cell? ⟨w.heap.size, 6, none⟩ = some (.bool yes) ∧ w'.cell? ⟨w.heap.size, 7, none⟩ = some (.slice sa sl sc))
     (go_keep)
     ((go_at_call 59; refine (truth_any _ _).mono ?_; rintro e u1 ⟨rfl, rfl⟩))
  all_goals
    go_wp2
    refine bodyPost_ret (v := .agg #[.int .i64 0, .int .i64 key, .int .i64 value, .int .i64 0, .int .i64 ask, .int .i64 (bit yes), .int .i64 0, .int .i64 (sl : Int)]) (by simp [results, Tryz.results44, go_sem]) rfl ⟨rfl, ?_⟩
    exact (((Below.refl _ _).alloc (Nat.le_refl _) _).alloc (by simp) _).drew

set_option maxRecDepth 100000 in
set_option maxHeartbeats 1000000 in
theorem rising_any (s p : Int) (a : Option Addr) (len cap : Nat) (sa : Option Addr) (sl sc : Nat) (sites : List Int) (w : World) (hs : 1 ≤ s ∧ s ≤ 4) (h : IsInts w sa sl sc sites) :
    Calls Tryz.prog 47 #[.agg #[.int .i64 s, .slice a len cap, .int .i64 p], .slice sa sl sc] w fun e w' => e = .returned (.bool (rising s 0 sites)) ∧ Below w.heap.size w w' := by
  obtain ⟨s1, s4⟩ := hs
  obtain ⟨hlen, hcap, hmax, hbd, hmem⟩ := h
  unfold maxLen at hmax
  have HL : Hid (sites.length = sl) := hlen
  clear hlen
  obtain ⟨W, hW⟩ : ∃ W : World, W = w.alloc (.cells #[.int .i64 s, .slice a len cap, .int .i64 p] 24) := ⟨_, rfl⟩
  have hB : Below w.heap.size w W := by rw [hW]; exact (Below.refl _ _).alloc (Nat.le_refl _) _
  have c0 : W.cell? ⟨w.heap.size, 0, none⟩ = some (.int .i64 s) := by rw [hW]; go_simp
  by_cases hz : sl = 0
  · subst hz
    obtain rfl : sites = [] := List.length_eq_zero_iff.1 HL.out
    go_enter Tryz.func47, Tryz.ntmps47
    go_wp2
    rw [← hW]
    clear hW
    go_loopw [10] (fun i wr => i = .int .i64 0 ∧ wr = W) (fun _ _ => 0)
    case atStart => exact ⟨rfl, rfl⟩
    case round =>
      obtain ⟨rfl, rfl⟩ := hrel
      go_wp2
      go_ret
      exact ⟨rfl, hB⟩
  · obtain ⟨b, off, rfl, hbl, hcell⟩ := hmem (by omega)
    go_enter Tryz.func47, Tryz.ntmps47
    go_wp2
    rw [← hW]
    clear hW
    go_loopw [5, 10] (fun lo i wr => ∃ (k : Nat) (l : Int), k ≤ sl ∧ i = .int .i64 k ∧ lo = .int .i64 l ∧ 0 ≤ l ∧ l ≤ 4 ∧ Hid (rising s 0 sites = rising s l (sites.drop k)) ∧ wr = W) (fun _ i _ => sl - (intOf i).toNat)
    case atStart => exact ⟨0, 0, by omega, rfl, rfl, by omega, by omega, rfl, rfl⟩
    case round =>
      obtain ⟨k, l, hk, rfl, rfl, l0, l4, hat, rfl⟩ := hrel
      by_cases hlt : k < sl
      · have hr := hcell k hlt
        rw [← hB.cell (p := ⟨b, off + k, none⟩) hbl] at hr
        have hdrop := drop_int (zs := sites) (k := k) (by have := HL.out; omega)
        obtain ⟨n, en⟩ : ∃ n, n = sites.getD k 0 := ⟨_, rfl⟩
        rw [← en] at hr hdrop
        have hlt' : (k : Int) < (sl : Int) := by omega
        clear en
        cases e : inR n l (s - 1) with
        | true =>
          have hb := inR_of e
          have hn : Hid (rising s 0 sites = rising s (n + 1) (sites.drop (k + 1))) := by show rising s 0 sites = _; rw [hat.out, hdrop]; simp [rising, e]
          clear hat hdrop
          go_wp2_with (go_at_call 41; refine (within_any _ _ _ _).mono ?_; rintro e v ⟨rfl, hv⟩; rw [hv]; clear hv v)
          go_roundw
          case rel => exact ⟨k + 1, n + 1, by omega, by go_num, by go_num, by omega, by omega, hn, by first | rfl | trivial⟩
          case measure => simp [intOf]; omega
        | false =>
          have hf : Hid (rising s 0 sites = false) := by show rising s 0 sites = _; rw [hat.out, hdrop]; simp [rising, e]
          clear hat hdrop
          go_wp2_with (go_at_call 41; refine (within_any _ _ _ _).mono ?_; rintro e v ⟨rfl, hv⟩; rw [hv]; clear hv v)
          go_ret
          exact ⟨ret_bool hf.out.symm, hB⟩
      · have he : k = sl := by omega
        have hf : Hid (rising s 0 sites = true) := by show rising s 0 sites = _; rw [hat.out, he, ← HL.out, List.drop_length]; rfl
        subst he
        clear hat
        go_wp2
        go_ret
        exact ⟨ret_bool hf.out.symm, hB⟩
end Go.Proofs.YtekglahigjblkaaGreatDoor
/- The contract of wire.CheckRecord: at every config and record it returns the fault that recFault tells, and leaves what was in memory. -/
namespace Go.Proofs.YtekglahigjblkaaGreatDoor
open Go.ChangeShapes Go.WideShapes Go.ChangeAt Go.RowKit
set_option linter.unusedVariables false

theorem rHas_eight (k : Nat) (hk : k < 7) : rHas.getD k [] = [(rHas.getD k []).getD 0 false, (rHas.getD k []).getD 1 false, (rHas.getD k []).getD 2 false, (rHas.getD k []).getD 3 false, (rHas.getD k []).getD 4 false, (rHas.getD k []).getD 5 false, (rHas.getD k []).getD 6 false, (rHas.getD k []).getD 7 false] := by
  rcases (by omega : k = 0 ∨ k = 1 ∨ k = 2 ∨ k = 3 ∨ k = 4 ∨ k = 5 ∨ k = 6) with rfl | rfl | rfl | rfl | rfl | rfl | rfl <;> rfl

set_option maxRecDepth 100000 in
set_option maxHeartbeats 4000000 in
theorem checkRecord_any (s p : Int) (a : Option Addr) (len cap : Nat) (ls : List (Int × Int)) (r : RcV) (w : World) (h : IsLabs w a len cap ls) (hi : IsInts w r.sa r.sl r.sc r.sites) (hm : HasAt w 0 rHas) (ht : TopsAt w) :
    Calls Tryz.prog 26 #[.agg #[.int .i64 s, .slice a len cap, .int .i64 p], r.val] w fun e w' => e = .returned (.int .i64 (recFault s ls p r)) ∧ Below w.heap.size w w' := by
  have hgT : 1 < w.heap.size := World.block_lt_of_cell? w _ ht.1
  have hgM : 0 < w.heap.size := hm.lt (by decide)
  have hmx : r.sl ≤ maxLen := Nat.le_trans hi.2.1 hi.2.2.1
  have hPs := fun w' => recordParts_any r w' hmx
  obtain ⟨kind, site, num, key, value, ask, yes, sa, sl, sc, sites⟩ := r
  obtain ⟨M, eM⟩ : ∃ M : RcV, M = ⟨kind, site, num, key, value, ask, yes, sa, sl, sc, sites⟩ := ⟨_, rfl⟩
  have EM : Hid (M = ⟨kind, site, num, key, value, ask, yes, sa, sl, sc, sites⟩) := eM
  have hMF : ∀ v, recFault s ls p M = v → recFault s ls p ⟨kind, site, num, key, value, ask, yes, sa, sl, sc, sites⟩ = v := fun v hv => by rw [← eM]; exact hv
  have MF : Hid (∀ v, recFault s ls p M = v → recFault s ls p ⟨kind, site, num, key, value, ask, yes, sa, sl, sc, sites⟩ = v) := hMF
  clear hMF eM
  simp only [RcV.val] at hPs ⊢
  have hi' : IsInts w sa sl sc sites := hi
  clear hi
  have HM : Hid (sl ≤ maxLen) := hmx
  clear hmx
  obtain ⟨W, hW⟩ : ∃ W : World, W = (w.alloc (.cells #[.int .i64 s, .slice a len cap, .int .i64 p] 24)).alloc (.cells #[.int .i64 kind, .int .i64 site, .int .i64 num, .int .i64 key, .int .i64 value, .int .i64 ask, .bool yes, .slice sa sl sc] 54) := ⟨_, rfl⟩
  have hB : Below w.heap.size w W := by rw [hW]; exact ((Below.refl _ _).alloc (Nat.le_refl _) _).alloc (by simp) _
  have zW : W.heap.size = w.heap.size + 2 := by rw [hW]; simp
  have c0 : W.cell? ⟨w.heap.size, 0, none⟩ = some (.int .i64 s) := by rw [hW]; go_simp
  have c1 : W.cell? ⟨w.heap.size, 1, none⟩ = some (.slice a len cap) := by rw [hW]; go_simp
  have c2 : W.cell? ⟨w.heap.size, 2, none⟩ = some (.int .i64 p) := by rw [hW]; go_simp
  have d0 : W.cell? ⟨w.heap.size + 1, 0, none⟩ = some (.int .i64 kind) := by rw [hW]; go_simp
  have d1 : W.cell? ⟨w.heap.size + 1, 1, none⟩ = some (.int .i64 site) := by rw [hW]; go_simp
  have d2 : W.cell? ⟨w.heap.size + 1, 2, none⟩ = some (.int .i64 num) := by rw [hW]; go_simp
  have d3 : W.cell? ⟨w.heap.size + 1, 3, none⟩ = some (.int .i64 key) := by rw [hW]; go_simp
  have d4 : W.cell? ⟨w.heap.size + 1, 4, none⟩ = some (.int .i64 value) := by rw [hW]; go_simp
  have d5 : W.cell? ⟨w.heap.size + 1, 5, none⟩ = some (.int .i64 ask) := by rw [hW]; go_simp
  have d6 : W.cell? ⟨w.heap.size + 1, 6, none⟩ = some (.bool yes) := by rw [hW]; go_simp
  have d7 : W.cell? ⟨w.heap.size + 1, 7, none⟩ = some (.slice sa sl sc) := by rw [hW]; go_simp
  have hLW := h.below hB
  have hIW := hi'.below hB
  have tW : TopsAt W := ht.below hB (by omega)
  have mW : HasAt W 0 rHas := hm.below hB (by omega)
  go_enter Tryz.func26, Tryz.ntmps26
  go_upto_region 1 with (fail)
  rw [← hW]
  clear hW ht hm
  by_cases hF : cfgFault s ls p = 0
  · obtain ⟨s1, s4, n1, n6, _, _, _⟩ := cfg_zero hF
    have hlen : Hid (ls.length = len) := h.1
    have l6 : len ≤ 6 := by have := hlen.out; omega
    go_upto_region 4 with (go_at_call 24; refine (check_any s p a len cap ls _ hLW).mono ?_; rintro e w1 ⟨rfl, hb1⟩)
    have KC : Hid (∀ (U : World), Below W.heap.size W U → (U.cell? ⟨w.heap.size, 0, none⟩ = some (.int .i64 s) ∧ U.cell? ⟨w.heap.size, 1, none⟩ = some (.slice a len cap) ∧ U.cell? ⟨w.heap.size, 2, none⟩ = some (.int .i64 p)) ∧ (U.cell? ⟨w.heap.size + 1, 0, none⟩ = some (.int .i64 kind) ∧ U.cell? ⟨w.heap.size + 1, 1, none⟩ = some (.int .i64 site) ∧ U.cell? ⟨w.heap.size + 1, 2, none⟩ = some (.int .i64 num) ∧ U.cell? ⟨w.heap.size + 1, 3, none⟩ = some (.int .i64 key) ∧ U.cell? ⟨w.heap.size + 1, 4, none⟩ = some (.int .i64 value) ∧ U.cell? ⟨w.heap.size + 1, 5, none⟩ = some (.int .i64 ask) ∧ U.cell? ⟨w.heap.size + 1, 6, none⟩ = some (.bool yes) ∧ U.cell? ⟨w.heap.size + 1, 7, none⟩ = some (.slice sa sl sc))) := by
      intro V hV
      have e0 : ∀ o, V.cell? ⟨w.heap.size, o, none⟩ = W.cell? ⟨w.heap.size, o, none⟩ := fun o => hV.cell (p := ⟨w.heap.size, o, none⟩) (by show w.heap.size < _; omega)
      have e1 : ∀ o, V.cell? ⟨w.heap.size + 1, o, none⟩ = W.cell? ⟨w.heap.size + 1, o, none⟩ := fun o => hV.cell (p := ⟨w.heap.size + 1, o, none⟩) (by show w.heap.size + 1 < _; omega)
      simp only [e0, e1]
      exact ⟨⟨c0, c1, c2⟩, d0, d1, d2, d3, d4, d5, d6, d7⟩
    clear c0 c1 c2 d0 d1 d2 d3 d4 d5 d6 d7
    obtain ⟨⟨c0, c1, c2⟩, d0, d1, d2, d3, d4, d5, d6, d7⟩ := KC.out w1 hb1
    cases hK : inR kind 1 6 with
    | false =>
      have hf := MF.out 3 (rf_kind hF (by rw [EM.out]; exact hK))
      go_wp2_with (go_at_call 41; refine (within_any _ _ _ _).mono ?_; rintro e u1 ⟨rfl, hu1⟩; rw [hu1]; clear hu1)
      go_ret
      exact ⟨ret_int hf.symm, hB.trans (hb1.mono hB.size)⟩
    | true =>
      have kb := inR_of hK
      obtain ⟨k, rfl⟩ : ∃ k : Nat, kind = k := ⟨kind.toNat, by omega⟩
      have k10 : k < 7 := by omega
      have k9 : (k : Int) < 7 := by omega
      go_upto_region 6 with (go_at_call 41; refine (within_any _ _ _ _).mono ?_; rintro e u1 ⟨rfl, hu1⟩; rw [hu1]; clear hu1)
      go_upto_region 7 with (go_at_call 44; refine (hPs _).mono ?_; rintro e w2 ⟨rfl, hb2⟩)
      obtain ⟨V, hV⟩ : ∃ V : World, V = w2.alloc (.cells #[.int .i64 0, .int .i64 key, .int .i64 value, .int .i64 0, .int .i64 ask, .int .i64 (bit yes), .int .i64 0, .int .i64 (sl : Int)] 103) := ⟨_, rfl⟩
      have hbW : Below W.heap.size W V := by rw [hV]; exact (hb1.trans (hb2.mono hb1.size)).alloc (by have := hb1.size; have := hb2.size; omega) _
      have zV : V.heap.size = w2.heap.size + 1 := by rw [hV]; simp
      have zw2 : W.heap.size ≤ w2.heap.size := Nat.le_trans hb1.size hb2.size
      have e0 : V.cell? ⟨w2.heap.size, 0, none⟩ = some (.int .i64 0) := by rw [hV]; go_simp
      have e1 : V.cell? ⟨w2.heap.size, 1, none⟩ = some (.int .i64 key) := by rw [hV]; go_simp
      have e2 : V.cell? ⟨w2.heap.size, 2, none⟩ = some (.int .i64 value) := by rw [hV]; go_simp
      have e3 : V.cell? ⟨w2.heap.size, 3, none⟩ = some (.int .i64 0) := by rw [hV]; go_simp
      have e4 : V.cell? ⟨w2.heap.size, 4, none⟩ = some (.int .i64 ask) := by rw [hV]; go_simp
      have e5 : V.cell? ⟨w2.heap.size, 5, none⟩ = some (.int .i64 (bit yes)) := by rw [hV]; go_simp
      have e6 : V.cell? ⟨w2.heap.size, 6, none⟩ = some (.int .i64 0) := by rw [hV]; go_simp
      have e7 : V.cell? ⟨w2.heap.size, 7, none⟩ = some (.int .i64 (sl : Int)) := by rw [hV]; go_simp
      rw [← hV]
      clear hV
      have tV : TopsAt V := tW.below hbW (by omega)
      have mV : HasAt V 0 rHas := mW.below hbW (by omega)
      have iV : IsInts V sa sl sc sites := hIW.below hbW
      have EH : Hid (rHas.getD k [] = [(rHas.getD k []).getD 0 false, (rHas.getD k []).getD 1 false, (rHas.getD k []).getD 2 false, (rHas.getD k []).getD 3 false, (rHas.getD k []).getD 4 false, (rHas.getD k []).getD 5 false, (rHas.getD k []).getD 6 false, (rHas.getD k []).getD 7 false]) := rHas_eight k k10
      have f0 := mV k 0 k10 (by decide)
      have f1 := mV k 1 k10 (by decide)
      have f2 := mV k 2 k10 (by decide)
      have f3 := mV k 3 k10 (by decide)
      have f4 := mV k 4 k10 (by decide)
      have f5 := mV k 5 k10 (by decide)
      have f6 := mV k 6 k10 (by decide)
      have f7 := mV k 7 k10 (by decide)
      obtain ⟨h0, eh0⟩ : ∃ x, x = (rHas.getD k []).getD 0 false := ⟨_, rfl⟩
      obtain ⟨h1, eh1⟩ : ∃ x, x = (rHas.getD k []).getD 1 false := ⟨_, rfl⟩
      obtain ⟨h2, eh2⟩ : ∃ x, x = (rHas.getD k []).getD 2 false := ⟨_, rfl⟩
      obtain ⟨h3, eh3⟩ : ∃ x, x = (rHas.getD k []).getD 3 false := ⟨_, rfl⟩
      obtain ⟨h4, eh4⟩ : ∃ x, x = (rHas.getD k []).getD 4 false := ⟨_, rfl⟩
      obtain ⟨h5, eh5⟩ : ∃ x, x = (rHas.getD k []).getD 5 false := ⟨_, rfl⟩
      obtain ⟨h6, eh6⟩ : ∃ x, x = (rHas.getD k []).getD 6 false := ⟨_, rfl⟩
      obtain ⟨h7, eh7⟩ : ∃ x, x = (rHas.getD k []).getD 7 false := ⟨_, rfl⟩
      rw [← eh0, ← eh1, ← eh2, ← eh3, ← eh4, ← eh5, ← eh6, ← eh7] at EH
      rw [← eh0] at f0
      rw [← eh1] at f1
      rw [← eh2] at f2
      rw [← eh3] at f3
      rw [← eh4] at f4
      rw [← eh5] at f5
      rw [← eh6] at f6
      rw [← eh7] at f7
      clear eh0 eh1 eh2 eh3 eh4 eh5 eh6 eh7
      simp only [Nat.add_zero] at f0
      have KA : Hid (∀ (U : World), Below V.heap.size V U → (U.cell? ⟨w.heap.size, 0, none⟩ = some (.int .i64 s) ∧ U.cell? ⟨w.heap.size, 1, none⟩ = some (.slice a len cap) ∧ U.cell? ⟨w.heap.size, 2, none⟩ = some (.int .i64 p)) ∧ (U.cell? ⟨w.heap.size + 1, 0, none⟩ = some (.int .i64 k) ∧ U.cell? ⟨w.heap.size + 1, 1, none⟩ = some (.int .i64 site) ∧ U.cell? ⟨w.heap.size + 1, 2, none⟩ = some (.int .i64 num) ∧ U.cell? ⟨w.heap.size + 1, 3, none⟩ = some (.int .i64 key) ∧ U.cell? ⟨w.heap.size + 1, 4, none⟩ = some (.int .i64 value) ∧ U.cell? ⟨w.heap.size + 1, 5, none⟩ = some (.int .i64 ask) ∧ U.cell? ⟨w.heap.size + 1, 6, none⟩ = some (.bool yes) ∧ U.cell? ⟨w.heap.size + 1, 7, none⟩ = some (.slice sa sl sc)) ∧ (U.cell? ⟨w2.heap.size, 0, none⟩ = some (.int .i64 0) ∧ U.cell? ⟨w2.heap.size, 1, none⟩ = some (.int .i64 key) ∧ U.cell? ⟨w2.heap.size, 2, none⟩ = some (.int .i64 value) ∧ U.cell? ⟨w2.heap.size, 3, none⟩ = some (.int .i64 0) ∧ U.cell? ⟨w2.heap.size, 4, none⟩ = some (.int .i64 ask) ∧ U.cell? ⟨w2.heap.size, 5, none⟩ = some (.int .i64 (bit yes)) ∧ U.cell? ⟨w2.heap.size, 6, none⟩ = some (.int .i64 0) ∧ U.cell? ⟨w2.heap.size, 7, none⟩ = some (.int .i64 (sl : Int))) ∧ (U.cell? ⟨0, k * 8, none⟩ = some (.bool h0) ∧ U.cell? ⟨0, k * 8 + 1, none⟩ = some (.bool h1) ∧ U.cell? ⟨0, k * 8 + 2, none⟩ = some (.bool h2) ∧ U.cell? ⟨0, k * 8 + 3, none⟩ = some (.bool h3) ∧ U.cell? ⟨0, k * 8 + 4, none⟩ = some (.bool h4) ∧ U.cell? ⟨0, k * 8 + 5, none⟩ = some (.bool h5) ∧ U.cell? ⟨0, k * 8 + 6, none⟩ = some (.bool h6) ∧ U.cell? ⟨0, k * 8 + 7, none⟩ = some (.bool h7))) := by
        intro U hU
        have q1 : ∀ o, U.cell? ⟨w2.heap.size, o, none⟩ = V.cell? ⟨w2.heap.size, o, none⟩ := fun o => hU.cell (p := ⟨w2.heap.size, o, none⟩) (by show w2.heap.size < _; omega)
        have q2 : ∀ o, U.cell? ⟨0, o, none⟩ = V.cell? ⟨0, o, none⟩ := fun o => hU.cell (p := ⟨0, o, none⟩) (by show 0 < _; omega)
        obtain ⟨hc, hd⟩ := KC.out U (hbW.trans (hU.mono hbW.size))
        refine ⟨hc, hd, ?_, ?_⟩
        · simp only [q1]
          exact ⟨e0, e1, e2, e3, e4, e5, e6, e7⟩
        · simp only [q2]
          exact ⟨f0, f1, f2, f3, f4, f5, f6, f7⟩
      clear c0 c1 c2 d0 d1 d2 d3 d4 d5 d6 d7 e0 e1 e2 e3 e4 e5 e6 e7 f0 f1 f2 f3 f4 f5 f6 f7
      have hbv : Below V.heap.size V V := Below.refl _ _
      have hbw : Below w.heap.size w V := hB.trans (hbW.mono hB.size)
      obtain ⟨⟨c0, c1, c2⟩, ⟨d0, d1, d2, d3, d4, d5, d6, d7⟩, ⟨e0, e1, e2, e3, e4, e5, e6, e7⟩, ⟨f0, f1, f2, f3, f4, f5, f6, f7⟩⟩ := KA.out _ hbv
      have hRng : Hid (recRange s ls.length M = (txnOK s site num && partsOK len [0, key, value, 0, ask, bit yes, 0, (sl : Int)] && rising s 0 sites)) := by
        show recRange s ls.length M = _
        rw [EM.out, hlen.out]
        rfl
      cases g0 : txnOK s site num with
      | false =>
        have hf := MF.out 2 (rf_range hF (by rw [EM.out]; exact hK) (by rw [hRng.out, g0]; simp))
        go_wp2_with (first
          | (go_at_call 45; refine (txn_any site num s _ ⟨s1, s4⟩).mono ?_; rintro e u ⟨rfl, hu⟩; replace hbv := hbv.trans (hu.mono hbv.size); clear hu c0 c1 c2 d0 d1 d2 d3 d4 d5 d6 d7 e0 e1 e2 e3 e4 e5 e6 e7; obtain ⟨⟨c0, c1, c2⟩, ⟨d0, d1, d2, d3, d4, d5, d6, d7⟩, ⟨e0, e1, e2, e3, e4, e5, e6, e7⟩, ⟨f0, f1, f2, f3, f4, f5, f6, f7⟩⟩ := KA.out _ hbv)
          | (go_at_call 46; refine (inBoundsW_any s p a len cap 0 key value 0 ask (bit yes) 0 (sl : Int) _ l6 (tV.below hbv (by omega)) (by have := hbv.size; omega)).mono ?_; rintro e u ⟨rfl, hu⟩; replace hbv := hbv.trans (hu.mono hbv.size); clear hu c0 c1 c2 d0 d1 d2 d3 d4 d5 d6 d7 e0 e1 e2 e3 e4 e5 e6 e7; obtain ⟨⟨c0, c1, c2⟩, ⟨d0, d1, d2, d3, d4, d5, d6, d7⟩, ⟨e0, e1, e2, e3, e4, e5, e6, e7⟩, ⟨f0, f1, f2, f3, f4, f5, f6, f7⟩⟩ := KA.out _ hbv)
          | (go_at_call 47; refine (rising_any s p a len cap sa sl sc sites _ ⟨s1, s4⟩ (iV.below hbv)).mono ?_; rintro e u ⟨rfl, hu⟩; replace hbv := hbv.trans (hu.mono hbv.size); clear hu c0 c1 c2 d0 d1 d2 d3 d4 d5 d6 d7 e0 e1 e2 e3 e4 e5 e6 e7; obtain ⟨⟨c0, c1, c2⟩, ⟨d0, d1, d2, d3, d4, d5, d6, d7⟩, ⟨e0, e1, e2, e3, e4, e5, e6, e7⟩, ⟨f0, f1, f2, f3, f4, f5, f6, f7⟩⟩ := KA.out _ hbv))
        go_ret
        exact ⟨ret_int hf.symm, hbw.trans (hbv.mono hbw.size)⟩
      | true =>
      cases g1 : partsOK len [0, key, value, 0, ask, bit yes, 0, (sl : Int)] with
      | false =>
        have hf := MF.out 2 (rf_range hF (by rw [EM.out]; exact hK) (by rw [hRng.out, g0, g1]; simp))
        go_wp2_with (first
          | (go_at_call 45; refine (txn_any site num s _ ⟨s1, s4⟩).mono ?_; rintro e u ⟨rfl, hu⟩; replace hbv := hbv.trans (hu.mono hbv.size); clear hu c0 c1 c2 d0 d1 d2 d3 d4 d5 d6 d7 e0 e1 e2 e3 e4 e5 e6 e7; obtain ⟨⟨c0, c1, c2⟩, ⟨d0, d1, d2, d3, d4, d5, d6, d7⟩, ⟨e0, e1, e2, e3, e4, e5, e6, e7⟩, ⟨f0, f1, f2, f3, f4, f5, f6, f7⟩⟩ := KA.out _ hbv)
          | (go_at_call 46; refine (inBoundsW_any s p a len cap 0 key value 0 ask (bit yes) 0 (sl : Int) _ l6 (tV.below hbv (by omega)) (by have := hbv.size; omega)).mono ?_; rintro e u ⟨rfl, hu⟩; replace hbv := hbv.trans (hu.mono hbv.size); clear hu c0 c1 c2 d0 d1 d2 d3 d4 d5 d6 d7 e0 e1 e2 e3 e4 e5 e6 e7; obtain ⟨⟨c0, c1, c2⟩, ⟨d0, d1, d2, d3, d4, d5, d6, d7⟩, ⟨e0, e1, e2, e3, e4, e5, e6, e7⟩, ⟨f0, f1, f2, f3, f4, f5, f6, f7⟩⟩ := KA.out _ hbv)
          | (go_at_call 47; refine (rising_any s p a len cap sa sl sc sites _ ⟨s1, s4⟩ (iV.below hbv)).mono ?_; rintro e u ⟨rfl, hu⟩; replace hbv := hbv.trans (hu.mono hbv.size); clear hu c0 c1 c2 d0 d1 d2 d3 d4 d5 d6 d7 e0 e1 e2 e3 e4 e5 e6 e7; obtain ⟨⟨c0, c1, c2⟩, ⟨d0, d1, d2, d3, d4, d5, d6, d7⟩, ⟨e0, e1, e2, e3, e4, e5, e6, e7⟩, ⟨f0, f1, f2, f3, f4, f5, f6, f7⟩⟩ := KA.out _ hbv))
        go_ret
        exact ⟨ret_int hf.symm, hbw.trans (hbv.mono hbw.size)⟩
      | true =>
      cases g2 : rising s 0 sites with
      | false =>
        have hf := MF.out 2 (rf_range hF (by rw [EM.out]; exact hK) (by rw [hRng.out, g0, g1, g2]; simp))
        go_wp2_with (first
          | (go_at_call 45; refine (txn_any site num s _ ⟨s1, s4⟩).mono ?_; rintro e u ⟨rfl, hu⟩; replace hbv := hbv.trans (hu.mono hbv.size); clear hu c0 c1 c2 d0 d1 d2 d3 d4 d5 d6 d7 e0 e1 e2 e3 e4 e5 e6 e7; obtain ⟨⟨c0, c1, c2⟩, ⟨d0, d1, d2, d3, d4, d5, d6, d7⟩, ⟨e0, e1, e2, e3, e4, e5, e6, e7⟩, ⟨f0, f1, f2, f3, f4, f5, f6, f7⟩⟩ := KA.out _ hbv)
          | (go_at_call 46; refine (inBoundsW_any s p a len cap 0 key value 0 ask (bit yes) 0 (sl : Int) _ l6 (tV.below hbv (by omega)) (by have := hbv.size; omega)).mono ?_; rintro e u ⟨rfl, hu⟩; replace hbv := hbv.trans (hu.mono hbv.size); clear hu c0 c1 c2 d0 d1 d2 d3 d4 d5 d6 d7 e0 e1 e2 e3 e4 e5 e6 e7; obtain ⟨⟨c0, c1, c2⟩, ⟨d0, d1, d2, d3, d4, d5, d6, d7⟩, ⟨e0, e1, e2, e3, e4, e5, e6, e7⟩, ⟨f0, f1, f2, f3, f4, f5, f6, f7⟩⟩ := KA.out _ hbv)
          | (go_at_call 47; refine (rising_any s p a len cap sa sl sc sites _ ⟨s1, s4⟩ (iV.below hbv)).mono ?_; rintro e u ⟨rfl, hu⟩; replace hbv := hbv.trans (hu.mono hbv.size); clear hu c0 c1 c2 d0 d1 d2 d3 d4 d5 d6 d7 e0 e1 e2 e3 e4 e5 e6 e7; obtain ⟨⟨c0, c1, c2⟩, ⟨d0, d1, d2, d3, d4, d5, d6, d7⟩, ⟨e0, e1, e2, e3, e4, e5, e6, e7⟩, ⟨f0, f1, f2, f3, f4, f5, f6, f7⟩⟩ := KA.out _ hbv))
        go_ret
        exact ⟨ret_int hf.symm, hbw.trans (hbv.mono hbw.size)⟩
      | true =>
      go_upto_region 9 with (first
          | (go_at_call 45; refine (txn_any site num s _ ⟨s1, s4⟩).mono ?_; rintro e u ⟨rfl, hu⟩; replace hbv := hbv.trans (hu.mono hbv.size); clear hu c0 c1 c2 d0 d1 d2 d3 d4 d5 d6 d7 e0 e1 e2 e3 e4 e5 e6 e7; obtain ⟨⟨c0, c1, c2⟩, ⟨d0, d1, d2, d3, d4, d5, d6, d7⟩, ⟨e0, e1, e2, e3, e4, e5, e6, e7⟩, ⟨f0, f1, f2, f3, f4, f5, f6, f7⟩⟩ := KA.out _ hbv)
          | (go_at_call 46; refine (inBoundsW_any s p a len cap 0 key value 0 ask (bit yes) 0 (sl : Int) _ l6 (tV.below hbv (by omega)) (by have := hbv.size; omega)).mono ?_; rintro e u ⟨rfl, hu⟩; replace hbv := hbv.trans (hu.mono hbv.size); clear hu c0 c1 c2 d0 d1 d2 d3 d4 d5 d6 d7 e0 e1 e2 e3 e4 e5 e6 e7; obtain ⟨⟨c0, c1, c2⟩, ⟨d0, d1, d2, d3, d4, d5, d6, d7⟩, ⟨e0, e1, e2, e3, e4, e5, e6, e7⟩, ⟨f0, f1, f2, f3, f4, f5, f6, f7⟩⟩ := KA.out _ hbv)
          | (go_at_call 47; refine (rising_any s p a len cap sa sl sc sites _ ⟨s1, s4⟩ (iV.below hbv)).mono ?_; rintro e u ⟨rfl, hu⟩; replace hbv := hbv.trans (hu.mono hbv.size); clear hu c0 c1 c2 d0 d1 d2 d3 d4 d5 d6 d7 e0 e1 e2 e3 e4 e5 e6 e7; obtain ⟨⟨c0, c1, c2⟩, ⟨d0, d1, d2, d3, d4, d5, d6, d7⟩, ⟨e0, e1, e2, e3, e4, e5, e6, e7⟩, ⟨f0, f1, f2, f3, f4, f5, f6, f7⟩⟩ := KA.out _ hbv))
      have hbu : Below w.heap.size w u := hbw.trans (hbv.mono hbw.size)
      have cH := fun w' => hasAll_any h0 h1 h2 h3 h4 h5 h6 h7 0 key value 0 ask (bit yes) 0 (sl : Int) w'
      have hFrm : Hid (recForm M = hasAll [h0, h1, h2, h3, h4, h5, h6, h7] [0, key, value, 0, ask, bit yes, 0, (sl : Int)]) := by
        show recForm M = _
        rw [EM.out]
        unfold recForm rHasOf
        simp only [Int.toNat_natCast]
        rw [EH.out]
      have hKM : Hid (inR M.kind 1 6 = true) := by show inR M.kind 1 6 = true; rw [EM.out]; exact hK
      have hRM : Hid (recRange s ls.length M = true) := by show recRange s ls.length M = true; rw [hRng.out, g0, g1, g2]; rfl
      have Gd0 := fun d os => cell_regrown d0 d os
      have Ge0 := fun d os => cell_regrown e0 d os
      have Ge1 := fun d os => cell_regrown e1 d os
      have Ge2 := fun d os => cell_regrown e2 d os
      have Ge3 := fun d os => cell_regrown e3 d os
      have Ge4 := fun d os => cell_regrown e4 d os
      have Ge5 := fun d os => cell_regrown e5 d os
      have Ge6 := fun d os => cell_regrown e6 d os
      have Ge7 := fun d os => cell_regrown e7 d os
      have Gf0 := fun d os => cell_regrown f0 d os
      have Gf1 := fun d os => cell_regrown f1 d os
      have Gf2 := fun d os => cell_regrown f2 d os
      have Gf3 := fun d os => cell_regrown f3 d os
      have Gf4 := fun d os => cell_regrown f4 d os
      have Gf5 := fun d os => cell_regrown f5 d os
      have Gf6 := fun d os => cell_regrown f6 d os
      have Gf7 := fun d os => cell_regrown f7 d os
      cases hH : hasAll [h0, h1, h2, h3, h4, h5, h6, h7] [0, key, value, 0, ask, bit yes, 0, (sl : Int)] with
      | false =>
        have hf := MF.out 4 (rf_form hF hKM.out hRM.out (by rw [hFrm.out, hH]))
        rw [hH] at cH
        clear hH
        refine wp_region_quiet_below (by kernel_rfl) (by kernel_rfl) ?_
        repeat (go_big_quiet_step (exact Calls.regrown_of (cH _)))
        refine wpQuiet_nil ?_
        intro _ hw'
        obtain ⟨⟨dq, osq⟩, hw''⟩ := hw'
        subst hw''
        have hBr := below_regrown u dq osq
        go_wp2
        go_ret
        exact ⟨ret_int hf.symm, hbu.trans (hBr.mono hbu.size)⟩
      | true =>
        have hf := MF.out 0 (rf_ok hF hKM.out hRM.out (by rw [hFrm.out, hH]))
        rw [hH] at cH
        clear hH
        refine wp_region_quiet_below (by kernel_rfl) (by kernel_rfl) ?_
        repeat (go_big_quiet_step (exact Calls.regrown_of (cH _)))
        refine wpQuiet_nil ?_
        intro _ hw'
        obtain ⟨⟨dq, osq⟩, hw''⟩ := hw'
        subst hw''
        have hBr := below_regrown u dq osq
        go_wp2
        go_ret
        exact ⟨ret_int hf.symm, hbu.trans (hBr.mono hbu.size)⟩
  · have hf := MF.out _ (rf_cfg hF)
    go_wp2_with (go_at_call 24; refine (check_any s p a len cap ls _ hLW).mono ?_; rintro e w1 ⟨rfl, hb1⟩)
    go_ret
    exact ⟨ret_int hf.symm, hB.trans (hb1.mono hB.size)⟩
end Go.Proofs.YtekglahigjblkaaGreatDoor
/- The contract of the document's answer ConfigFault: at every config it returns the fault that cfgFault tells, and leaves what was in memory. -/
namespace Go.Proofs.YtekglahigjblkaaGreatDoor
open Go.ChangeShapes Go.WideShapes Go.ChangeAt Go.RowKit

theorem in_any (n lo hi : Int) (w : World) :
    Calls Tryz.prog 14 #[.int .i64 n, .int .i64 lo, .int .i64 hi] w fun e w' => e = .returned (.bool (inR n lo hi)) ∧ w' = w := by
  go_enter Tryz.func14, Tryz.ntmps14
  go_wp2
  all_goals go_ret
  all_goals exact ⟨ret_bool (by unfold inR; rw [Bool.eq_iff_iff]; simp; omega), rfl⟩

theorem fault_sites (s p : Int) (a : Option Addr) (len cap : Nat) (w : World) (hs : s < 1 ∨ 4 < s) :
    Calls Tryz.prog 13 #[.agg #[.int .i64 s, .slice a len cap, .int .i64 p]] w fun e w' => e = .returned (.int .i64 2) ∧ Below w.heap.size w w' := by
  have hA : Below w.heap.size w (w.alloc (.cells #[.int .i64 s, .slice a len cap, .int .i64 p] 24)) := (Below.refl _ _).alloc (Nat.le_refl _) _
  have h1 := inR_false hs
  go_enter Tryz.func13, Tryz.ntmps13
  go_wp2_with (go_at_call 14; refine (in_any _ _ _ _).mono ?_; rintro e w1 ⟨rfl, rfl⟩)
  go_ret
  exact ⟨rfl, hA⟩

theorem fault_size (s p : Int) (a : Option Addr) (len cap : Nat) (w : World) (h1 : 1 ≤ s) (h2 : s ≤ 4) (hn : len < 1 ∨ 6 < len) :
    Calls Tryz.prog 13 #[.agg #[.int .i64 s, .slice a len cap, .int .i64 p]] w fun e w' => e = .returned (.int .i64 1) ∧ Below w.heap.size w w' := by
  have hA : Below w.heap.size w (w.alloc (.cells #[.int .i64 s, .slice a len cap, .int .i64 p] 24)) := (Below.refl _ _).alloc (Nat.le_refl _) _
  have h3 := inR_true h1 h2
  have h4 : inR (len : Int) 1 6 = false := inR_false (by omega)
  go_enter Tryz.func13, Tryz.ntmps13
  go_wp2_with (go_at_call 14; refine (in_any _ _ _ _).mono ?_; rintro e w1 ⟨rfl, rfl⟩)
  go_ret
  exact ⟨rfl, hA⟩

set_option maxHeartbeats 1000000 in
theorem fault_labs (s p : Int) (b off : Nat) (cap : Nat) (ls : List (Int × Int)) (w : World) (h1 : 1 ≤ s) (h2 : s ≤ 4) (h3 : 1 ≤ ls.length) (h4 : ls.length ≤ 6) (h : Labs w b off ls) :
    Calls Tryz.prog 13 #[.agg #[.int .i64 s, .slice (some ⟨b, off, none⟩) ls.length cap, .int .i64 p]] w fun e w' => e = .returned (.int .i64 (cfgFault s ls p)) ∧ Below w.heap.size w w' := by
  have r1 := inR_true h1 h2
  have r2 : inR (ls.length : Int) 1 6 = true := inR_true (by omega) (by omega)
  go_enter Tryz.func13, Tryz.ntmps13
  go_wp2_with (go_at_call 14; refine (in_any _ _ _ _).mono ?_; rintro e w1 ⟨rfl, rfl⟩)
  go_loopw [3] (fun i wr => ∃ k : Nat, k ≤ ls.length ∧ i = .int .i64 k ∧ labAt ls k ∧ Below (w.heap.size + 1) (w.alloc (.cells #[.int .i64 s, .slice (some ⟨b, off, none⟩) ls.length cap, .int .i64 p] 24)) wr) (fun i _ => ls.length - (intOf i).toNat)
  case atStart => exact ⟨0, Nat.zero_le _, rfl, labAt_zero _, Below.refl _ _⟩
  case round =>
    obtain ⟨k, hk, rfl, hat, hb⟩ := hrel
    have hbw : Below w.heap.size w wr := ((Below.refl _ _).alloc (Nat.le_refl _) _).trans (hb.mono (by omega))
    have d1 : wr.cell? ⟨w.heap.size, 1, none⟩ = some (.slice (some ⟨b, off, none⟩) ls.length cap) := by
      rw [hb.cell (p := ⟨w.heap.size, 1, none⟩) (by simp)]; go_simp
    have d2 : wr.cell? ⟨w.heap.size, 2, none⟩ = some (.int .i64 p) := by
      rw [hb.cell (p := ⟨w.heap.size, 2, none⟩) (by simp)]; go_simp
    by_cases hlt : k < ls.length
    · have hr := (h.below hbw).2 k hlt
      obtain ⟨x, hx⟩ : ∃ p, p = (ls.getD k (0, 0)).1 := ⟨_, rfl⟩
      obtain ⟨y, hy⟩ : ∃ q, q = (ls.getD k (0, 0)).2 := ⟨_, rfl⟩
      rw [← hx, ← hy] at hr
      obtain ⟨c0, c1⟩ := hr
      have hxy : ls.getD k (0, 0) = (x, y) := Prod.ext hx.symm hy.symm
      clear hx hy
      cases hB : inB x y with
      | false =>
        have hf : cfgFault s ls p = 2 := cfg_lab h1 h2 h3 h4 (labAt_range hlt hat (by rw [hxy]; exact hB)) (by decide)
        clear hxy
        rw [inB_of] at hB
        cases hX : inR x 0 9 with
        | false =>
          go_wp2_with (go_at_call 14; refine (in_any _ _ _ _).mono ?_; rintro e w1 ⟨rfl, rfl⟩)
          go_ret
          exact ⟨ret_int hf.symm, hbw⟩
        | true =>
          have hY : inR y 0 15 = false := by rw [hX] at hB; simpa using hB
          clear hB
          go_wp2_with (go_at_call 14; refine (in_any _ _ _ _).mono ?_; rintro e w1 ⟨rfl, rfl⟩)
          go_ret
          exact ⟨ret_int hf.symm, hbw⟩
      | true =>
        have hT : Hid ((x, y) ∈ ls.take k → cfgFault s ls p = 7) := fun hmem => cfg_lab h1 h2 h3 h4 (labAt_twice hlt hat (by rw [hxy]; exact hB) (by rw [hxy]; exact hmem)) (by decide)
        have hS : Hid ((x, y) ∉ ls.take k → labAt ls (k + 1)) := fun hmem => labAt_succ hlt hat (by rw [hxy]; exact hB) (by rw [hxy]; exact hmem)
        clear hxy
        rw [inB_of] at hB
        obtain ⟨hX, hY⟩ : inR x 0 9 = true ∧ inR y 0 15 = true := by simpa using hB
        clear hB
        go_wp2_with (go_at_call 14; refine (in_any _ _ _ _).mono ?_; rintro e w1 ⟨rfl, rfl⟩)
        obtain ⟨wo, hwo⟩ : ∃ wo : World, wo = w1 := ⟨_, rfl⟩
        rw [← hwo] at hb hbw d1 d2 c0 c1 ⊢
        clear hwo
        go_loopw [4] (fun i wr => ∃ j : Nat, j ≤ k ∧ i = .int .i64 j ∧ (x, y) ∉ ls.take j ∧ Below wo.heap.size wo wr) (fun i _ => k - (intOf i).toNat)
        case atStart => exact ⟨0, Nat.zero_le _, rfl, by simp, Below.refl _ _⟩
        case round =>
          obtain ⟨j, hj, rfl, hno, hbo⟩ := hrel
          have hzo : w.heap.size < wo.heap.size := by have := hb.size; simp at this; omega
          have hb3 : Below (w.heap.size + 1) (w.alloc (.cells #[.int .i64 s, .slice (some ⟨b, off, none⟩) ls.length cap, .int .i64 p] 24)) wr := hb.trans (hbo.mono hzo)
          have hbw2 : Below w.heap.size w wr := hbw.trans (hbo.mono (by omega))
          have e1 : wr.cell? ⟨w.heap.size, 1, none⟩ = some (.slice (some ⟨b, off, none⟩) ls.length cap) := by
            rw [hbo.cell (p := ⟨w.heap.size, 1, none⟩) hzo]; exact d1
          by_cases hjk : j < k
          · have hr := (h.below hbw2).2 j (by omega)
            have hbo' : b < wo.heap.size := by have := h.1; omega
            have g0 : wr.cell? ⟨b, off + k * 2, none⟩ = some (.int .i64 x) := by rw [hbo.cell (p := ⟨b, off + k * 2, none⟩) hbo']; exact c0
            have g1 : wr.cell? ⟨b, off + k * 2 + 1, none⟩ = some (.int .i64 y) := by rw [hbo.cell (p := ⟨b, off + k * 2 + 1, none⟩) hbo']; exact c1
            obtain ⟨u, hu⟩ : ∃ p, p = (ls.getD j (0, 0)).1 := ⟨_, rfl⟩
            obtain ⟨v, hv⟩ : ∃ q, q = (ls.getD j (0, 0)).2 := ⟨_, rfl⟩
            rw [← hu, ← hv] at hr
            obtain ⟨g2, g3⟩ := hr
            have hjl : (j : Int) < (ls.length : Int) := by omega
            by_cases e1' : u = x
            · by_cases e2 : v = y
              · have hmem : (x, y) ∈ ls.take k := by
                  refine mem_of_getD (k := j) (by simp; omega) ?_ ?_
                  · rw [← e1', hu]; simp [List.getD, hjk]
                  · rw [← e2, hv]; simp [List.getD, hjk]
                have hf := hT.out hmem
                clear hu hv hno
                subst e1' e2
                go_wp2
                go_quiet (fail)
                go_wp2
                go_ret
                exact ⟨ret_int hf.symm, below_drewN hbw2 nq⟩
              · have hn := not_take_succ (p := (x, y)) (by omega) hno (by rw [← hu, ← hv]; simp; intro _; exact fun h => e2 h.symm)
                have e3 : (v == y) = false := by simpa using e2
                clear hu hv
                subst e1'
                go_wp2
                go_quiet (fail)
                go_wp2
                go_roundw
                case rel => exact ⟨j + 1, by omega, by go_num, hn, below_drewN hbo nq⟩
                case measure => simp [intOf]; omega
            · have hn := not_take_succ (p := (x, y)) (by omega) hno (by rw [← hu, ← hv]; simp; intro h; exact absurd h.symm e1')
              have e3 : (u == x) = false := by simpa using e1'
              clear hu hv
              go_wp2
              go_quiet (fail)
              go_wp2
              go_roundw
              case rel => exact ⟨j + 1, by omega, by go_num, hn, below_drewN hbo nq⟩
              case measure => simp [intOf]; omega
          · have hjk' : j = k := by omega
            subst hjk'
            have hn := hS.out hno
            go_wp2
            go_roundw
            case rel => exact ⟨j + 1, by omega, by go_num, hn, hb3⟩
            case measure => simp [intOf]; omega
    · have he : k = ls.length := by omega
      subst he
      have hf := labAt_end hat
      by_cases hp : p < 1 ∨ 1048576 < p
      · have hr := inR_false hp
        go_wp2_with (go_at_call 14; refine (in_any _ _ _ _).mono ?_; rintro e w1 ⟨rfl, rfl⟩)
        go_ret
        exact ⟨ret_int (cfg_late h1 h2 h3 h4 hf hp).symm, hbw⟩
      · have hr : inR p 1 1048576 = true := inR_true (by omega) (by omega)
        go_wp2_with (go_at_call 14; refine (in_any _ _ _ _).mono ?_; rintro e w1 ⟨rfl, rfl⟩)
        go_ret
        exact ⟨ret_int (cfg_ok h1 h2 h3 h4 hf (by omega) (by omega)).symm, hbw⟩

theorem fault_any (s p : Int) (a : Option Addr) (len cap : Nat) (ls : List (Int × Int)) (w : World) (h : IsLabs w a len cap ls) :
    Calls Tryz.prog 13 #[.agg #[.int .i64 s, .slice a len cap, .int .i64 p]] w fun e w' => e = .returned (.int .i64 (cfgFault s ls p)) ∧ Below w.heap.size w w' := by
  obtain ⟨rfl, _, _, h4⟩ := h
  by_cases hs : s < 1 ∨ 4 < s
  · rw [cfg_sites hs]
    exact fault_sites s p a _ cap w hs
  · by_cases hn : ls.length < 1 ∨ 6 < ls.length
    · rw [cfg_size (by omega) (by omega) hn]
      exact fault_size s p a _ cap w (by omega) (by omega) hn
    · obtain ⟨b, off, rfl, hL⟩ := h4 (by omega)
      exact fault_labs s p b off cap ls w (by omega) (by omega) (by omega) (by omega) hL
end Go.Proofs.YtekglahigjblkaaGreatDoor
