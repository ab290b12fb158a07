/- Texts of this claim, one behind the other. -/
import Derived.Test.YtgohpgollpjlnaaDoorProg
import Derived.WalkKit
import Derived.ProofKit
import Derived.Below
import Derived.Deep.QuietTactic
import Derived.BigQuiet
import Derived.BigRegion
import Derived.LoopTactic
import Derived.RegionTactic
import Derived.Deep.RegionWith
import Derived.WalkSmall
import Derived.Test.YtgohpgollpjlnaaDoorA0ShowList
import Derived.Test.YtgohpgollpjlnaaDoorM5ShowList
import Derived.Test.YtgohpgollpjlnaaDoorM2ShowList
import Derived.Test.YtgohpgollpjlnaaDoorShelf
import Derived.Test.YtgohpgollpjlnaaDoorA1ShowList
import Derived.Deep.Cut
import Derived.Deep.DeepCutAuto
import Derived.Deep.CutBlock
import Derived.Lib.AtoiErrMem
import Derived.Deep.RegionHeld3
import Derived.OwnWalk
/- The contract of label.Check: at every config it returns the fault that cfgFault tells, and leaves what was in memory. -/
namespace Go.Proofs.YtgohpgollpjlnaaDoor
open Go.ChangeShapes Go.WideShapes Go.ChangeAt Go.RowKit

/-- The labels of a config as they come: a slice of so many labels. -/
def IsLabs (w : World) (a : Option Addr) (len cap : Nat) (ls : List (Int × Int)) : Prop :=
  ls.length = len ∧ len ≤ cap ∧ cap ≤ maxLen ∧ (0 < len → ∃ b off, a = some ⟨b, off, none⟩ ∧ Labs w b off ls)

theorem IsLabs.below {w w' : World} {a : Option Addr} {len cap : Nat} {ls : List (Int × Int)} (h : IsLabs w a len cap ls) (hb : Below w.heap.size w w') : IsLabs w' a len cap ls := by
  obtain ⟨h1, h2, h3, h4⟩ := h
  refine ⟨h1, h2, h3, fun hp => ?_⟩
  obtain ⟨b, off, e, hl⟩ := h4 hp
  exact ⟨b, off, e, hl.below hb⟩

theorem check_sites (s p : Int) (a : Option Addr) (len cap : Nat) (w : World) (hs : s < 1 ∨ 4 < s) :
    Calls Tryd.prog 42 #[.agg #[.int .i64 s, .slice a len cap, .int .i64 p]] w fun e w' => e = .returned (.int .i64 2) ∧ Below w.heap.size w w' := by
  have hA : Below w.heap.size w (w.alloc (.cells #[.int .i64 s, .slice a len cap, .int .i64 p] 32)) := (Below.refl _ _).alloc (Nat.le_refl _) _
  have h1 := inR_false hs
  go_enter Tryd.func42, Tryd.ntmps42
  go_wp2_with (go_at_call 78; refine (within_any _ _ _ _).mono ?_; rintro e w1 ⟨rfl, hu1⟩; rw [hu1]; clear hu1)
  go_ret
  exact ⟨rfl, hA⟩

theorem check_size (s p : Int) (a : Option Addr) (len cap : Nat) (w : World) (h1 : 1 ≤ s) (h2 : s ≤ 4) (hn : len < 1 ∨ 6 < len) :
    Calls Tryd.prog 42 #[.agg #[.int .i64 s, .slice a len cap, .int .i64 p]] w fun e w' => e = .returned (.int .i64 1) ∧ Below w.heap.size w w' := by
  have hA : Below w.heap.size w (w.alloc (.cells #[.int .i64 s, .slice a len cap, .int .i64 p] 32)) := (Below.refl _ _).alloc (Nat.le_refl _) _
  have h3 := inR_true h1 h2
  have h4 : inR (len : Int) 1 6 = false := inR_false (by omega)
  go_enter Tryd.func42, Tryd.ntmps42
  go_wp2_with (go_at_call 78; refine (within_any _ _ _ _).mono ?_; rintro e w1 ⟨rfl, hu1⟩; rw [hu1]; clear hu1)
  go_ret
  exact ⟨rfl, hA⟩

set_option maxHeartbeats 1000000 in
theorem check_labs (s p : Int) (b off : Nat) (cap : Nat) (ls : List (Int × Int)) (w : World) (h1 : 1 ≤ s) (h2 : s ≤ 4) (h3 : 1 ≤ ls.length) (h4 : ls.length ≤ 6) (hc : ls.length ≤ cap) (h : Labs w b off ls) :
    Calls Tryd.prog 42 #[.agg #[.int .i64 s, .slice (some ⟨b, off, none⟩) ls.length cap, .int .i64 p]] w fun e w' => e = .returned (.int .i64 (cfgFault s ls p)) ∧ Below w.heap.size w w' := by
  have i3 : (1 : Int) ≤ (ls.length : Int) := by omega
  have i4 : (ls.length : Int) ≤ 6 := by omega
  have r1 := inR_true h1 h2
  have r2 : inR (ls.length : Int) 1 6 = true := inR_true (by omega) (by omega)
  go_enter Tryd.func42, Tryd.ntmps42
  go_wp2_with (go_at_call 78; refine (within_any _ _ _ _).mono ?_; rintro e w1 ⟨rfl, hu1⟩; rw [hu1]; clear hu1)
  go_loopw [17] (fun i wr => ∃ k : Nat, k ≤ ls.length ∧ i = .int .i64 k ∧ labAt ls k ∧ Below (w.heap.size + 1) (w.alloc (.cells #[.int .i64 s, .slice (some ⟨b, off, none⟩) ls.length cap, .int .i64 p] 32)) wr) (fun i _ => ls.length - (intOf i).toNat)
  case atStart => exact ⟨0, Nat.zero_le _, rfl, labAt_zero _, Below.refl _ _⟩
  case round =>
    obtain ⟨k, hk, rfl, hat, hb⟩ := hrel
    have hbw : Below w.heap.size w wr := ((Below.refl _ _).alloc (Nat.le_refl _) _).trans (hb.mono (by omega))
    have d0 : wr.cell? ⟨w.heap.size, 0, none⟩ = some (.int .i64 s) := by
      rw [hb.cell (p := ⟨w.heap.size, 0, none⟩) (by simp)]; go_simp
    have d1 : wr.cell? ⟨w.heap.size, 1, none⟩ = some (.slice (some ⟨b, off, none⟩) ls.length cap) := by
      rw [hb.cell (p := ⟨w.heap.size, 1, none⟩) (by simp)]; go_simp
    have d2 : wr.cell? ⟨w.heap.size, 2, none⟩ = some (.int .i64 p) := by
      rw [hb.cell (p := ⟨w.heap.size, 2, none⟩) (by simp)]; go_simp
    have hz : w.heap.size < wr.heap.size := by have := hb.size; simp at this; omega
    by_cases hlt : k < ls.length
    · have hr := (h.below hbw).2 k hlt
      obtain ⟨x, hx⟩ : ∃ p, p = (ls.getD k (0, 0)).1 := ⟨_, rfl⟩
      obtain ⟨y, hy⟩ : ∃ q, q = (ls.getD k (0, 0)).2 := ⟨_, rfl⟩
      rw [← hx, ← hy] at hr
      obtain ⟨c0, c1⟩ := hr
      have hxy : ls.getD k (0, 0) = (x, y) := Prod.ext hx.symm hy.symm
      clear hx hy
      have hA1 : Below wr.heap.size wr (wr.alloc (.cells #[.int .i64 x, .int .i64 y] 80)) := (Below.refl _ _).alloc (Nat.le_refl _) _
      cases hB : inB x y with
      | false =>
        have hf : cfgFault s ls p = 2 := cfg_lab h1 h2 h3 h4 (labAt_range hlt hat (by rw [hxy]; exact hB)) (by decide)
        clear hxy
        go_wp2_with (go_at_call 79; refine (inBounds_any _ _ _).mono ?_; rintro e w1 ⟨rfl, hb1⟩)
        go_ret
        exact ⟨ret_int hf.symm, hbw.trans ((hA1.mono (by omega)).trans (hb1.mono (by simp; omega)))⟩
      | true =>
        have hT : Hid ((x, y) ∈ ls.take k → cfgFault s ls p = 7) := fun hmem => cfg_lab h1 h2 h3 h4 (labAt_twice hlt hat (by rw [hxy]; exact hB) (by rw [hxy]; exact hmem)) (by decide)
        have hS : Hid ((x, y) ∉ ls.take k → labAt ls (k + 1)) := fun hmem => labAt_succ hlt hat (by rw [hxy]; exact hB) (by rw [hxy]; exact hmem)
        clear hxy
        go_wp2_with (go_at_call 79; refine (inBounds_any _ _ _).mono ?_; rintro e w1 ⟨rfl, hb1⟩)
        have hb1' : Below wr.heap.size wr w1 := hA1.trans (hb1.mono (by simp))
        have f1 : w1.cell? ⟨w.heap.size, 1, none⟩ = some (.slice (some ⟨b, off, none⟩) ls.length cap) := by
          rw [hb1'.cell (p := ⟨w.heap.size, 1, none⟩) hz]; exact d1
        have f2 : w1.cell? ⟨wr.heap.size, 0, none⟩ = some (.int .i64 x) := by
          rw [hb1.cell (p := ⟨wr.heap.size, 0, none⟩) (by simp)]; go_simp
        have f3 : w1.cell? ⟨wr.heap.size, 1, none⟩ = some (.int .i64 y) := by
          rw [hb1.cell (p := ⟨wr.heap.size, 1, none⟩) (by simp)]; go_simp
        have hL1 : Labs w1.drew b off (ls.take k) := (((h.below hbw).below hb1').below (Below.refl _ _).drew).take k
        have hLn : (ls.take k).length = k := by simp; omega
        have hk100 : k ≤ 100 := by omega
        have hkc : (k : Int) ≤ (cap : Int) := by omega
        go_region_with (go_at_call 80; refine (contains_any b off k cap (ls.take k) x y _ hLn hk100 hL1).mono ?_; rintro e w2 ⟨rfl, hb2⟩)
        all_goals
          have hb3 : Below (w.heap.size + 1) (w.alloc (.cells #[.int .i64 s, .slice (some ⟨b, off, none⟩) ls.length cap, .int .i64 p] 32)) w2 := hb.trans ((hb1'.mono hz).trans ((Below.refl _ _).drew.trans (hb2.mono (by have := hb1'.size; simp; omega))))
          have hb4 : Below w.heap.size w w2 := ((Below.refl _ _).alloc (Nat.le_refl _) _).trans (hb3.mono (by omega))
          by_cases hmem : (x, y) ∈ ls.take k
          · have hf := hT.out hmem
            go_wp2
            go_ret
            exact ⟨ret_int hf.symm, hb4⟩
          · have hn := hS.out hmem
            go_wp2
            go_roundw
            case rel => exact ⟨k + 1, by omega, by go_num, hn, hb3⟩
            case measure => simp [intOf]; omega
    · have he : k = ls.length := by omega
      subst he
      have hf := labAt_end hat
      by_cases hp : p < 1 ∨ 1048576 < p
      · have hr := inR_false hp
        go_wp2_with (go_at_call 78; refine (within_any _ _ _ _).mono ?_; rintro e w1 ⟨rfl, hu1⟩; rw [hu1]; clear hu1)
        go_ret
        exact ⟨ret_int (cfg_late h1 h2 h3 h4 hf hp).symm, hbw⟩
      · have hr : inR p 1 1048576 = true := inR_true (by omega) (by omega)
        go_wp2_with (go_at_call 78; refine (within_any _ _ _ _).mono ?_; rintro e w1 ⟨rfl, hu1⟩; rw [hu1]; clear hu1)
        go_ret
        exact ⟨ret_int (cfg_ok h1 h2 h3 h4 hf (by omega) (by omega)).symm, hbw⟩

theorem check_any (s p : Int) (a : Option Addr) (len cap : Nat) (ls : List (Int × Int)) (w : World) (h : IsLabs w a len cap ls) :
    Calls Tryd.prog 42 #[.agg #[.int .i64 s, .slice a len cap, .int .i64 p]] w fun e w' => e = .returned (.int .i64 (cfgFault s ls p)) ∧ Below w.heap.size w w' := by
  obtain ⟨rfl, h2, _, h4⟩ := h
  by_cases hs : s < 1 ∨ 4 < s
  · rw [cfg_sites hs]
    exact check_sites s p a _ cap w hs
  · by_cases hn : ls.length < 1 ∨ 6 < ls.length
    · rw [cfg_size (by omega) (by omega) hn]
      exact check_size s p a _ cap w (by omega) (by omega) hn
    · obtain ⟨b, off, rfl, hL⟩ := h4 (by omega)
      exact check_labs s p b off cap ls w (by omega) (by omega) (by omega) (by omega) h2 hL
end Go.Proofs.YtgohpgollpjlnaaDoor
/- A box of n cells in memory, and what leaves it alone. -/
namespace Go.Proofs.YtgohpgollpjlnaaDoor.St
open Go.ChangeShapes Go.WideShapes Go.ChangeAt Go.RowKit
set_option linter.unusedVariables false

theorem set_ne {u : World} {b i j : Nat} {v : Value} (h : i ≠ j) : (u.setCell ⟨b, i, none⟩ v).cell? ⟨b, j, none⟩ = u.cell? ⟨b, j, none⟩ := by
  unfold World.setCell World.cell?
  simp only [Array.getElem?_modify]
  by_cases hb : b < u.heap.size
  · rw [Array.getElem?_eq_getElem hb]
    cases hc : u.heap[b] <;> simp [h]
  · rw [Array.getElem?_eq_none (by omega)]
    rfl
theorem set_frozen {u : World} {b i j : Nat} {v : Value} : (u.setCell ⟨b, i, none⟩ v).frozen? ⟨b, j, none⟩ = u.frozen? ⟨b, j, none⟩ := by
  unfold World.setCell World.frozen?
  simp only [Array.getElem?_modify]
  by_cases hb : b < u.heap.size
  · rw [Array.getElem?_eq_getElem hb]
    cases hc : u.heap[b] <;> simp
  · rw [Array.getElem?_eq_none (by omega)]
    rfl
/-- A box of n cells. -/
structure BoxN (u : World) (b n : Nat) (vs : List Value) : Prop where
  len : vs.length = n
  lt : b < u.heap.size
  c : ∀ i, i < n → u.cell? ⟨b, i, none⟩ = some (vs.getD i (.bool false)) ∧ u.frozen? ⟨b, i, none⟩ = false
theorem BoxN.set {u : World} {b n : Nat} {vs : List Value} (h : BoxN u b n vs) (k : Nat) (hk : k < n) (v : Value) : BoxN (u.setCell ⟨b, k, none⟩ v) b n (vs.set k v) := by
  refine ⟨by simp [h.len], by simpa using h.lt, fun i hi => ⟨?_, ?_⟩⟩
  · by_cases hik : k = i
    · subst hik
      rw [World.cell?_setCell_same u ⟨b, k, none⟩ _ (h.c k hk).1]
      simp [List.getD, h.len, hk]
    · rw [set_ne hik, (h.c i hi).1]
      simp [List.getD, hik]
  · rw [set_frozen]; exact (h.c i hi).2
theorem boxn_new (u : World) (cs : Array Value) (t : TypeId) (n : Nat) (hn : cs.size = n) : BoxN (u.alloc (.cells cs t)) u.heap.size n cs.toList := by
  refine ⟨by simpa using hn, by simp, fun i hi => ?_⟩
  have hb : (u.alloc (.cells cs t)).heap[u.heap.size]? = some (.cells cs t (0, 0)) := heap_alloc_new u _
  refine ⟨?_, ?_⟩
  · rw [cell_of_row _ u.heap.size i cs t (0, 0) hb]
    rw [Array.getElem?_eq_getElem (by omega)]
    simp [List.getD, show i < cs.size by omega]
  · simp only [World.frozen?, hb]
    simp
theorem BoxN.below {u u' : World} {b n B : Nat} {vs : List Value} (h : BoxN u b n vs) (hb : Below B u u') (hB : b < B) : BoxN u' b n vs := by
  have e := hb.block b hB
  refine ⟨h.len, Nat.lt_of_lt_of_le h.lt hb.size, fun i hi => ⟨?_, ?_⟩⟩
  · rw [World.cell?_of_block (a := ⟨b, i, none⟩) e]; exact (h.c i hi).1
  · rw [World.frozen?_of_block (a := ⟨b, i, none⟩) e]; exact (h.c i hi).2
theorem BoxN.grown {u u' : World} {b n : Nat} {vs : List Value} {row : Option Nat} (h : BoxN u b n vs) (hg : u.grownBy u' row) (hne : some b ≠ row) : BoxN u' b n vs := by
  have e := hg.block b h.lt hne
  refine ⟨h.len, Nat.lt_of_lt_of_le h.lt hg.size, fun i hi => ⟨?_, ?_⟩⟩
  · rw [World.cell?_of_block (a := ⟨b, i, none⟩) e]; exact (h.c i hi).1
  · rw [World.frozen?_of_block (a := ⟨b, i, none⟩) e]; exact (h.c i hi).2
theorem BoxN.far {u : World} {b n c k : Nat} {vs : List Value} {v : Value} (h : BoxN u b n vs) (hne : b ≠ c) : BoxN (u.setCell ⟨c, k, none⟩ v) b n vs := by
  have e : (u.setCell ⟨c, k, none⟩ v).heap[b]? = u.heap[b]? := Below.heap_setCell u _ _ b hne
  refine ⟨h.len, by simpa using h.lt, fun i hi => ⟨?_, ?_⟩⟩
  · rw [World.cell?_of_block (a := ⟨b, i, none⟩) e]; exact (h.c i hi).1
  · rw [World.frozen?_of_block (a := ⟨b, i, none⟩) e]; exact (h.c i hi).2
end Go.Proofs.YtgohpgollpjlnaaDoor.St
/- What console.Read answers. -/
namespace Go.Proofs.YtgohpgollpjlnaaDoor.Cn
open Go.ChangeShapes Go.WideShapes Go.ChangeAt Go.RowKit
open Go.Proofs.YtgohpgollpjlnaaDoor.St (BoxN boxn_new)
set_option linter.unusedVariables false

/-- What lies in the library's variables. -/
structure CnW (w : World) : Prop where
  tab : Lib.TabIs Tryd.prog w "internal/strconv.uint64pow10" .u64 Lib.pow10Tab
  syn : ∃ ev, w.cell? ⟨4, 0, none⟩ = some ev ∧ (ev = .nilIface ∨ ∃ te pe, ev = .iface te pe)
  rng : ∃ ev, w.cell? ⟨5, 0, none⟩ = some ev ∧ (ev = .nilIface ∨ ∃ te pe, ev = .iface te pe)
  mx : ∃ m, w.cell? ⟨0, 0, none⟩ = some (.int .i64 m)
theorem ok_range {l : List UInt8} {v : Int} (h : Lib.atoiAll l = .ok v) : -9223372036854775808 ≤ v ∧ v ≤ 9223372036854775807 := by
  unfold Lib.atoiAll at h
  split at h
  · cases h
  · simp only at h
    split at h
    · cases h
    · cases h
    · split at h
      · cases h
      · split at h
        · cases h
        · injection h with h
          subst h
          split <;> omega
theorem below_bw (w : World) (e : TypeId) (s : ByteArray) : Below w.heap.size w (Lib.bytesWorld w e s) := Lib.bytesWorld_below w e s
theorem below_grow (w : World) (k : Nat) (os : Array Obj) : Below w.heap.size w (Go.Sort.grow (w.drewN k) os) := by
  refine ⟨rfl, rfl, rfl, ?_, fun j hj => ?_⟩
  · simp [Go.Sort.grow, World.drewN]
  · simp only [Go.Sort.grow, World.drewN]
    rw [Array.getElem?_append_left hj]
set_option maxRecDepth 100000 in
set_option maxHeartbeats 4000000 in
theorem number_any (s : ByteArray) (most : Int) (w : World) (hs : s.size ≤ 100) (hT : ∀ U, Below w.heap.size w U → CnW U) :
    Calls Tryd.prog 77 #[.string s, .int .i64 most] w fun e w' => ∃ n, e = .returned (.tuple #[.int .i64 n, .bool (numOf s.data.toList most).isSome]) ∧ (∀ v, numOf s.data.toList most = some v → n = v) ∧ Below w.heap.size w w' := by
  have HT : Hid (∀ U, Below w.heap.size w U → CnW U) := hT
  clear hT
  cases hA : Lib.atoiAll s.data.toList with
  | «syntax» =>
    have HN : Hid (numOf s.data.toList most = none) := by show _ = _; unfold numOf; rw [hA]
    obtain ⟨ev, hv, hev⟩ := (HT.out w (Below.refl _ _)).syn
    have hc := Tryd.strconv_Atoi_syntax s (by omega) hA ev w hv hev
    clear hv hev
    go_enter Tryd.func77, Tryd.ntmps77
    go_wp2_with (go_at_call 109; refine hc.mono ?_; rintro e u ⟨N, rfl, -, -, hu⟩)
    refine bodyPost_ret (v := .tuple #[.int .i64 0, .bool false]) (by simp [results, Tryd.results77, go_sem]) rfl ?_
    exact ⟨0, by rw [HN.out]; rfl, (fun v h => by rw [HN.out] at h; cases h), hu⟩
  | range =>
    have HN : Hid (numOf s.data.toList most = none) := by show _ = _; unfold numOf; rw [hA]
    obtain ⟨ev, hv, hev⟩ := (HT.out w (Below.refl _ _)).rng
    have hc := Tryd.strconv_Atoi_range s (by omega) hA ev w hv hev
    clear hv hev
    go_enter Tryd.func77, Tryd.ntmps77
    go_wp2_with (go_at_call 109; refine hc.mono ?_; rintro e u ⟨N, rfl, -, -, hu⟩)
    refine bodyPost_ret (v := .tuple #[.int .i64 (Lib.atoiSat s.data.toList), .bool false]) (by simp [results, Tryd.results77, go_sem]) rfl ?_
    exact ⟨_, by rw [HN.out]; rfl, (fun v h => by rw [HN.out] at h; cases h), hu⟩
  | ok v =>
    obtain ⟨v1, v2⟩ := ok_range hA
    have HN : Hid (numOf s.data.toList most = if Lib.itoa v = s.data.toList ∧ 0 ≤ v ∧ v ≤ most then some v else none) := by show _ = _; unfold numOf; rw [hA]
    have hc := Tryd.strconv_Atoi_ok s (by omega) v hA w
    have hI : ∀ U, Below w.heap.size w U → Calls Tryd.prog 50 #[.int .i64 v] U fun e w' => e = .returned (.string ⟨(Lib.itoa v).toArray⟩) ∧ Below U.heap.size U w' := fun U hU => by
      refine (Tryd.strconv_Itoa v v1 v2 U (HT.out U hU).tab).mono ?_
      rintro e w' ⟨rfl, k, os, rfl⟩
      exact ⟨rfl, below_grow U k os⟩
    have hW := fun U => within_any v 0 most U
    go_enter Tryd.func77, Tryd.ntmps77
    go_upto_region 2 with (go_at_call 109; refine hc.mono ?_; rintro e u ⟨rfl, hu'⟩; have hu : Below w.heap.size w u := hu'.elim (fun h8 => by rw [h8]; exact Below.refl _ _) (fun ⟨t, h8⟩ => by rw [h8]; exact below_bw _ _ _); clear hu')
    have hIu := hI u hu
    clear hc hI
    have eT : s.toList = s.data.toList := Go.ByteArray.toList_eq s
    by_cases hE : Lib.itoa v = s.data.toList
    · have hE2 : (Lib.itoa v == s.toList) = true := by rw [eT, hE]; simp
      have HN2 : Hid ((numOf s.data.toList most).isSome = inR v 0 most ∧ ∀ x, numOf s.data.toList most = some x → v = x) := by
        rw [HN.out]
        by_cases hr : 0 ≤ v ∧ v ≤ most
        · rw [if_pos ⟨hE, hr⟩]
          exact ⟨by simp [inR, hr], fun x hx => by injection hx⟩
        · rw [if_neg (fun h => hr h.2)]
          exact ⟨by simp [inR]; omega, fun x hx => by cases hx⟩
      clear hA HN eT hE v1 v2
      go_wp2_with (first | (go_at_call 50; refine hIu.mono ?_; rintro e z ⟨rfl, hz⟩) | (go_at_call 78; refine (hW _).mono ?_; rintro e z2 ⟨rfl, hz2⟩; rw [hz2]; clear hz2))
      all_goals first | (exact absurd ‹¬ _› (by assumption)) | skip
      refine bodyPost_ret (v := .tuple #[.int .i64 v, .bool (inR v 0 most)]) (by simp [results, Tryd.results77, go_sem]) rfl ?_
      exact ⟨v, by rw [HN2.out.1], HN2.out.2, hu.trans (hz.mono hu.size)⟩
    · have hE2 : (Lib.itoa v == s.toList) = false := by rw [eT]; simpa using hE
      have HN2 : Hid (numOf s.data.toList most = none) := by show _ = _; rw [HN.out, if_neg (fun h => hE h.1)]
      clear hA HN eT hE v1 v2
      go_wp2_with (first | (go_at_call 50; refine hIu.mono ?_; rintro e z ⟨rfl, hz⟩) | (go_at_call 78; refine (hW _).mono ?_; rintro e z2 ⟨rfl, hz2⟩; rw [hz2]; clear hz2))
      refine bodyPost_ret (v := .tuple #[.int .i64 v, .bool false]) (by simp [results, Tryd.results77, go_sem]) rfl ?_
      exact ⟨v, by rw [HN2.out]; rfl, (fun x h => by rw [HN2.out] at h; cases h), hu.trans (hz.mono hu.size)⟩
/-- Words in memory, one behind the other. -/
def IsStrs (w : World) (a : Option Addr) (n c : Nat) (ws : List ByteArray) : Prop :=
  ws.length = n ∧ n ≤ c ∧ c ≤ maxLen ∧ (0 < n → ∃ b off, a = some ⟨b, off, none⟩ ∧ b < w.heap.size ∧ ∀ i, i < n → w.cell? ⟨b, off + i, none⟩ = some (.string (ws.getD i .empty)))
theorem IsStrs.below {w u : World} {a : Option Addr} {n c : Nat} {ws : List ByteArray} (h : IsStrs w a n c ws) (hb : Below w.heap.size w u) : IsStrs u a n c ws := by
  obtain ⟨h1, h2, h3, h4⟩ := h
  refine ⟨h1, h2, h3, fun h0 => ?_⟩
  obtain ⟨b, off, e, hl, hc⟩ := h4 h0
  exact ⟨b, off, e, Nat.lt_of_lt_of_le hl hb.size, fun i hi => (hb.cell (p := ⟨b, off + i, none⟩) hl).trans (hc i hi)⟩
def txt (ws : List ByteArray) : List (List UInt8) := ws.map (·.data.toList)
def CmdIs (w w' : World) (e : Ending) (o : Option Cmd) : Prop := ∃ x : Cmd, e = .returned (.tuple #[x.val, .bool o.isSome]) ∧ (∀ c, o = some c → x = c) ∧ Below w.heap.size w w'
set_option maxRecDepth 100000 in
set_option maxHeartbeats 4000000 in
theorem about_any (kind : Int) (a : Option Addr) (n c : Nat) (ws : List ByteArray) (w : World) (h : IsStrs w a n c ws) (hz : ∀ x ∈ ws, x.size ≤ 100) (hT : ∀ U, Below w.heap.size w U → CnW U) :
    Calls Tryd.prog 40 #[.int .i64 kind, .slice a n c] w fun e w' => CmdIs w w' e (aboutOf kind false (txt ws)) := by
  obtain ⟨W, hW⟩ : ∃ W : World, W = w.alloc (.cells #[.int .i64 0, .int .i64 0, .int .i64 0, .int .i64 0, .bool false] 25) := ⟨_, rfl⟩
  have bx : BoxN W w.heap.size 5 [.int .i64 0, .int .i64 0, .int .i64 0, .int .i64 0, .bool false] := by rw [hW]; exact boxn_new w #[.int .i64 0, .int .i64 0, .int .i64 0, .int .i64 0, .bool false] 25 5 rfl
  have bW : Below w.heap.size w W := by rw [hW]; exact (Below.refl _ _).alloc (Nat.le_refl _) _
  have HB : Hid (∀ U, Below W.heap.size W U → BoxN U w.heap.size 5 [.int .i64 0, .int .i64 0, .int .i64 0, .int .i64 0, .bool false] ∧ Below w.heap.size w U) := fun U hU => ⟨bx.below hU bx.lt, bW.trans (hU.mono bW.size)⟩
  have hlen := h.1
  have hnc := h.2.1
  have hcm := h.2.2.1
  unfold maxLen at hcm
  by_cases h3 : n = 3
  · subst h3
    obtain ⟨b, off, rfl, hb, hc⟩ := h.2.2.2 (by omega)
    match ws, hlen with
    | [x, y, z], _ =>
      have hx := hz x (by simp)
      have hy := hz y (by simp)
      have hzz := hz z (by simp)
      have k0 := hc 0 (by omega)
      have k1 := hc 1 (by omega)
      have k2 := hc 2 (by omega)
      simp only [List.getD_cons_zero, List.getD_cons_succ, Nat.add_zero] at k0 k1 k2
      have HK : Hid (∀ U, Below w.heap.size w U → U.cell? ⟨b, off, none⟩ = some (.string x) ∧ U.cell? ⟨b, off + 1, none⟩ = some (.string y) ∧ U.cell? ⟨b, off + 2, none⟩ = some (.string z) ∧ b < U.heap.size) := fun U hU => ⟨(hU.cell (p := ⟨b, off, none⟩) hb).trans k0, (hU.cell (p := ⟨b, off + 1, none⟩) hb).trans k1, (hU.cell (p := ⟨b, off + 2, none⟩) hb).trans k2, Nat.lt_of_lt_of_le hb hU.size⟩
      have HN : Hid (∀ (s : ByteArray) (most : Int) (U : World), s.size ≤ 100 → Below w.heap.size w U → Calls Tryd.prog 77 #[.string s, .int .i64 most] U fun e w' => ∃ n, e = .returned (.tuple #[.int .i64 n, .bool (numOf s.data.toList most).isSome]) ∧ (∀ v, numOf s.data.toList most = some v → n = v) ∧ Below U.heap.size U w') := fun s most U h1 h2 => number_any s most U h1 (fun V hV => hT V (h2.trans (hV.mono h2.size)))
      obtain ⟨j0, j1, j2, jb⟩ := HK.out W bW
      have q1 := HN.out x 5 W hx bW
      clear k0 k1 k2 hc h hT hz bx
      have HO : Hid (aboutOf kind false (txt [x, y, z]) = match numOf x.data.toList 5, numOf y.data.toList 3, numOf z.data.toList 1048576 with | some p, some q, some r => some ⟨kind, p, q, r, false⟩ | _, _, _ => none) := rfl
      obtain ⟨O, eO⟩ : ∃ O, O = aboutOf kind false (txt [x, y, z]) := ⟨_, rfl⟩
      rw [← eO] at HO ⊢
      clear eO
      go_enter Tryd.func40, Tryd.ntmps40
      go_upto_region 3 with (fail)
      rw [← hW]
      clear hW
      go_upto_region 4 with (go_at_call 77; refine q1.mono ?_; rintro e u1 ⟨n1, rfl, hn1, hu1⟩)
      have b1 : Below w.heap.size w u1 := bW.trans (hu1.mono bW.size)
      clear j0 j1 j2 jb q1
      obtain ⟨j0, j1, j2, jb⟩ := HK.out u1 b1
      have q2 := HN.out y 3 u1 hy b1
      go_upto_region 5 with (go_at_call 77; refine q2.mono ?_; rintro e u2 ⟨n2, rfl, hn2, hu2⟩)
      have b2 : Below w.heap.size w u2 := b1.trans (hu2.mono b1.size)
      clear j0 j1 j2 jb q2
      obtain ⟨j0, j1, j2, jb⟩ := HK.out u2 b2
      have q3 := HN.out z 1048576 u2 hzz b2
      go_upto_region 6 with (go_at_call 77; refine q3.mono ?_; rintro e u3 ⟨n3, rfl, hn3, hu3⟩)
      clear j0 j1 j2 jb q3
      have hWu : Below W.heap.size W u3 := hu1.trans ((hu2.trans (hu3.mono hu2.size)).mono hu1.size)
      obtain ⟨bxu, bwu⟩ := HB.out u3 hWu
      have s0 := (bxu.c 0 (by decide)).1
      have s1 := (bxu.c 1 (by decide)).1
      have s2 := (bxu.c 2 (by decide)).1
      have s3 := (bxu.c 3 (by decide)).1
      have s4 := (bxu.c 4 (by decide)).1
      have f0 := (bxu.c 0 (by decide)).2
      have f1 := (bxu.c 1 (by decide)).2
      have f2 := (bxu.c 2 (by decide)).2
      have f3 := (bxu.c 3 (by decide)).2
      have f4 := (bxu.c 4 (by decide)).2
      have bz := bxu.lt
      simp only [List.getD_cons_zero, List.getD_cons_succ] at s0 s1 s2 s3 s4
      clear HB HK HN hu1 hu2 hu3 b1 b2 bW hWu hx hy hzz
      obtain ⟨F, hF⟩ : ∃ F : World, F = ((((u3.setCell ⟨w.heap.size, 0, none⟩ (.int .i64 kind)).setCell ⟨w.heap.size, 1, none⟩ (.int .i64 n1)).setCell ⟨w.heap.size, 2, none⟩ (.int .i64 n2)).setCell ⟨w.heap.size, 3, none⟩ (.int .i64 n3)).setCell ⟨w.heap.size, 4, none⟩ (.bool false) := ⟨_, rfl⟩
      have k0 : F.cell? ⟨w.heap.size, 0, none⟩ = some (.int .i64 kind) := by rw [hF]; go_simp
      have k1 : F.cell? ⟨w.heap.size, 1, none⟩ = some (.int .i64 n1) := by rw [hF]; go_simp
      have k2 : F.cell? ⟨w.heap.size, 2, none⟩ = some (.int .i64 n2) := by rw [hF]; go_simp
      have k3 : F.cell? ⟨w.heap.size, 3, none⟩ = some (.int .i64 n3) := by rw [hF]; go_simp
      have k4 : F.cell? ⟨w.heap.size, 4, none⟩ = some (.bool false) := by rw [hF]; go_simp
      have hFb : Below w.heap.size w F := by rw [hF]; exact ((((bwu.setCell (by simp) _).setCell (by simp) _).setCell (by simp) _).setCell (by simp) _).setCell (by simp) _
      have HD : Hid (∀ B : Bool, B = O.isSome → CmdIs w F (.returned (.tuple #[.agg #[.int .i64 kind, .int .i64 n1, .int .i64 n2, .int .i64 n3, .bool false], .bool B])) O) := fun B hB => by
        refine ⟨⟨kind, n1, n2, n3, false⟩, by rw [hB]; rfl, fun d hd => ?_, hFb⟩
        rw [HO.out] at hd
        cases e1 : numOf x.data.toList 5 with
        | none => rw [e1] at hd; cases hd
        | some p =>
          cases e2 : numOf y.data.toList 3 with
          | none => rw [e1, e2] at hd; cases hd
          | some q =>
            cases e3 : numOf z.data.toList 1048576 with
            | none => rw [e1, e2, e3] at hd; cases hd
            | some r =>
              rw [e1, e2, e3] at hd
              injection hd with hd
              rw [← hd, hn1 p e1, hn2 q e2, hn3 r e3]
      have HO2 : Hid (O.isSome = ((numOf x.data.toList 5).isSome && ((numOf y.data.toList 3).isSome && (numOf z.data.toList 1048576).isSome))) := by
        show _ = _
        rw [HO.out]
        cases numOf x.data.toList 5 <;> cases numOf y.data.toList 3 <;> cases numOf z.data.toList 1048576 <;> rfl
      clear HO hFb
      obtain ⟨B1, e1⟩ : ∃ B, B = (numOf x.data.toList 5).isSome := ⟨_, rfl⟩
      obtain ⟨B2, e2⟩ : ∃ B, B = (numOf y.data.toList 3).isSome := ⟨_, rfl⟩
      obtain ⟨B3, e3⟩ : ∃ B, B = (numOf z.data.toList 1048576).isSome := ⟨_, rfl⟩
      rw [← e1, ← e2, ← e3] at HO2 ⊢
      clear e1 e2 e3 hn1 hn2 hn3 bxu bwu
      cases B1 <;> cases B2 <;> cases B3
      all_goals
        go_wp2
        rw [← hF]
        refine bodyPost_ret (v := .tuple #[.agg #[.int .i64 kind, .int .i64 n1, .int .i64 n2, .int .i64 n3, .bool false], .bool _]) (by simp [results, Tryd.results40, go_sem, k0, k1, k2, k3, k4]) rfl (HD.out _ HO2.out.symm)
  · have hne : ((n : Int) != 3) = true := by simp; omega
    have HO : Hid (aboutOf kind false (txt ws) = none) := by
      show _ = _
      match ws, hlen with
      | [], _ => rfl
      | [_], _ => rfl
      | [_, _], _ => rfl
      | [_, _, _], hl => exact absurd hl (by simp; omega)
      | _ :: _ :: _ :: _ :: _, _ => rfl
    obtain ⟨O, eO⟩ : ∃ O, O = aboutOf kind false (txt ws) := ⟨_, rfl⟩
    rw [← eO] at HO ⊢
    clear eO
    have s0 := (bx.c 0 (by decide)).1
    have s1 := (bx.c 1 (by decide)).1
    have s2 := (bx.c 2 (by decide)).1
    have s3 := (bx.c 3 (by decide)).1
    have s4 := (bx.c 4 (by decide)).1
    have f0 := (bx.c 0 (by decide)).2
    have f1 := (bx.c 1 (by decide)).2
    have f2 := (bx.c 2 (by decide)).2
    have f3 := (bx.c 3 (by decide)).2
    have f4 := (bx.c 4 (by decide)).2
    have bz := bx.lt
    simp only [List.getD_cons_zero, List.getD_cons_succ] at s0 s1 s2 s3 s4
    obtain ⟨F, hF⟩ : ∃ F : World, F = ((((W.setCell ⟨w.heap.size, 0, none⟩ (.int .i64 0)).setCell ⟨w.heap.size, 1, none⟩ (.int .i64 0)).setCell ⟨w.heap.size, 2, none⟩ (.int .i64 0)).setCell ⟨w.heap.size, 3, none⟩ (.int .i64 0)).setCell ⟨w.heap.size, 4, none⟩ (.bool false) := ⟨_, rfl⟩
    have k0 : F.cell? ⟨w.heap.size, 0, none⟩ = some (.int .i64 0) := by rw [hF]; go_simp
    have k1 : F.cell? ⟨w.heap.size, 1, none⟩ = some (.int .i64 0) := by rw [hF]; go_simp
    have k2 : F.cell? ⟨w.heap.size, 2, none⟩ = some (.int .i64 0) := by rw [hF]; go_simp
    have k3 : F.cell? ⟨w.heap.size, 3, none⟩ = some (.int .i64 0) := by rw [hF]; go_simp
    have k4 : F.cell? ⟨w.heap.size, 4, none⟩ = some (.bool false) := by rw [hF]; go_simp
    have HFb : Hid (Below w.heap.size w F) := by rw [hF]; exact ((((bW.setCell (by simp) _).setCell (by simp) _).setCell (by simp) _).setCell (by simp) _).setCell (by simp) _
    clear bW HB h hT hz bx h3 hlen
    go_enter Tryd.func40, Tryd.ntmps40
    go_upto_region 1 with (fail)
    rw [← hW]
    clear hW
    go_wp2
    rw [← hF]
    refine bodyPost_ret (v := .tuple #[.agg #[.int .i64 0, .int .i64 0, .int .i64 0, .int .i64 0, .bool false], .bool false]) (by simp [results, Tryd.results40, go_sem, k0, k1, k2, k3, k4]) rfl ?_
    exact ⟨Cmd.nil, by rw [HO.out]; rfl, (fun d hd => by rw [HO.out] at hd; cases hd), HFb.out⟩
end Go.Proofs.YtgohpgollpjlnaaDoor.Cn
