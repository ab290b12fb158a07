/- Texts of this claim, one behind the other. -/
import Derived.Test.YtlaagfnoepcnlaaDoorM6LinesReads
import Derived.LoopTactic
import Derived.Deep.QuietTactic
import Derived.BigQuiet
import Derived.BigRegion
import Derived.RegionTactic
import Derived.Deep.RegionWith
import Derived.Deep.RegionHeld3
import Derived.WalkSmall
import Derived.Deep.DeepCutAuto
import Derived.Test.YtlaagfnoepcnlaaDoorProg
import Derived.WalkKit
import Derived.ProofKit
import Derived.Below
import Derived.Test.YtlaagfnoepcnlaaDoorA0LinesReads
import Derived.Test.YtlaagfnoepcnlaaDoorM2LinesReads
/- A box of n cells in memory, and what leaves it alone. -/
namespace Go.Proofs.YtlaagfnoepcnlaaDoor.St
open Go.ChangeShapes Go.WideShapes Go.ChangeAt Go.RowKit
set_option linter.unusedVariables false

theorem set_ne {u : World} {b i j : Nat} {v : Value} (h : i ≠ j) : (u.setCell ⟨b, i, none⟩ v).cell? ⟨b, j, none⟩ = u.cell? ⟨b, j, none⟩ := by
  unfold World.setCell World.cell?
  simp only [Array.getElem?_modify]
  by_cases hb : b < u.heap.size
  · rw [Array.getElem?_eq_getElem hb]
    cases hc : u.heap[b] <;> simp [h]
  · rw [Array.getElem?_eq_none (by omega)]
    rfl
theorem set_frozen {u : World} {b i j : Nat} {v : Value} : (u.setCell ⟨b, i, none⟩ v).frozen? ⟨b, j, none⟩ = u.frozen? ⟨b, j, none⟩ := by
  unfold World.setCell World.frozen?
  simp only [Array.getElem?_modify]
  by_cases hb : b < u.heap.size
  · rw [Array.getElem?_eq_getElem hb]
    cases hc : u.heap[b] <;> simp
  · rw [Array.getElem?_eq_none (by omega)]
    rfl
/-- A box of n cells. -/
structure BoxN (u : World) (b n : Nat) (vs : List Value) : Prop where
  len : vs.length = n
  lt : b < u.heap.size
  c : ∀ i, i < n → u.cell? ⟨b, i, none⟩ = some (vs.getD i (.bool false)) ∧ u.frozen? ⟨b, i, none⟩ = false
theorem BoxN.set {u : World} {b n : Nat} {vs : List Value} (h : BoxN u b n vs) (k : Nat) (hk : k < n) (v : Value) : BoxN (u.setCell ⟨b, k, none⟩ v) b n (vs.set k v) := by
  refine ⟨by simp [h.len], by simpa using h.lt, fun i hi => ⟨?_, ?_⟩⟩
  · by_cases hik : k = i
    · subst hik
      rw [World.cell?_setCell_same u ⟨b, k, none⟩ _ (h.c k hk).1]
      simp [List.getD, h.len, hk]
    · rw [set_ne hik, (h.c i hi).1]
      simp [List.getD, hik]
  · rw [set_frozen]; exact (h.c i hi).2
theorem boxn_new (u : World) (cs : Array Value) (t : TypeId) (n : Nat) (hn : cs.size = n) : BoxN (u.alloc (.cells cs t)) u.heap.size n cs.toList := by
  refine ⟨by simpa using hn, by simp, fun i hi => ?_⟩
  have hb : (u.alloc (.cells cs t)).heap[u.heap.size]? = some (.cells cs t (0, 0)) := heap_alloc_new u _
  refine ⟨?_, ?_⟩
  · rw [cell_of_row _ u.heap.size i cs t (0, 0) hb]
    rw [Array.getElem?_eq_getElem (by omega)]
    simp [List.getD, show i < cs.size by omega]
  · simp only [World.frozen?, hb]
    simp
theorem BoxN.below {u u' : World} {b n B : Nat} {vs : List Value} (h : BoxN u b n vs) (hb : Below B u u') (hB : b < B) : BoxN u' b n vs := by
  have e := hb.block b hB
  refine ⟨h.len, Nat.lt_of_lt_of_le h.lt hb.size, fun i hi => ⟨?_, ?_⟩⟩
  · rw [World.cell?_of_block (a := ⟨b, i, none⟩) e]; exact (h.c i hi).1
  · rw [World.frozen?_of_block (a := ⟨b, i, none⟩) e]; exact (h.c i hi).2
theorem BoxN.grown {u u' : World} {b n : Nat} {vs : List Value} {row : Option Nat} (h : BoxN u b n vs) (hg : u.grownBy u' row) (hne : some b ≠ row) : BoxN u' b n vs := by
  have e := hg.block b h.lt hne
  refine ⟨h.len, Nat.lt_of_lt_of_le h.lt hg.size, fun i hi => ⟨?_, ?_⟩⟩
  · rw [World.cell?_of_block (a := ⟨b, i, none⟩) e]; exact (h.c i hi).1
  · rw [World.frozen?_of_block (a := ⟨b, i, none⟩) e]; exact (h.c i hi).2
theorem BoxN.far {u : World} {b n c k : Nat} {vs : List Value} {v : Value} (h : BoxN u b n vs) (hne : b ≠ c) : BoxN (u.setCell ⟨c, k, none⟩ v) b n vs := by
  have e : (u.setCell ⟨c, k, none⟩ v).heap[b]? = u.heap[b]? := Below.heap_setCell u _ _ b hne
  refine ⟨h.len, by simpa using h.lt, fun i hi => ⟨?_, ?_⟩⟩
  · rw [World.cell?_of_block (a := ⟨b, i, none⟩) e]; exact (h.c i hi).1
  · rw [World.frozen?_of_block (a := ⟨b, i, none⟩) e]; exact (h.c i hi).2
end Go.Proofs.YtlaagfnoepcnlaaDoor.St
/- The contracts of lines.onlyHas, callParts, actParts, and of the test of a Keep's numbers. -/
namespace Go.Proofs.YtlaagfnoepcnlaaDoor.Ln
open Go.ChangeShapes Go.WideShapes Go.ChangeAt Go.RowKit
open Go.Proofs.YtlaagfnoepcnlaaDoor.St (BoxN boxn_new)
set_option linter.unusedVariables false

set_option maxHeartbeats 1000000 in
theorem onlyHas_any (b g n : Nat) (hs : List Bool) (ps : List Int) (w : World) (h1 : hs.length = n) (h2 : ps.length = n) (hn : n ≤ 100) (hb : Bools w b hs) (hg : Nms w g ps) :
    Calls Tryd.prog 41 #[.slice (some ⟨b, 0, none⟩) n n, .slice (some ⟨g, 0, none⟩) n n] w fun e w' => e = .returned (.bool (only hs ps)) ∧ w' = w := by
  have H1 : Hid (hs.length = n) := h1
  have H2 : Hid (ps.length = n) := h2
  clear h1 h2
  have hn' : (n : Int) ≤ 100 := by omega
  obtain ⟨R, eR⟩ : ∃ R, R = only hs ps := ⟨_, rfl⟩
  have HR : Hid (R = only (hs.drop 0) (ps.drop 0)) := eR
  rw [← eR]
  clear eR
  obtain ⟨zb, cb⟩ := hb
  obtain ⟨zg, cg⟩ := hg
  go_enter Tryd.func41, Tryd.ntmps41
  go_wp2
  go_loop [5, 6, 9] (fun _ _ s9 => ∃ k : Nat, k ≤ n ∧ s9 = .int .i64 k ∧ Hid (R = only (hs.drop k) (ps.drop k))) (fun _ _ s9 => n - (intOf s9).toNat)
  case atStart => exact ⟨0, Nat.zero_le _, rfl, HR.out⟩
  case round =>
    obtain ⟨k, hk, rfl, hat⟩ := hrel
    by_cases hlt : k < n
    · have hlt' : (k : Int) < (n : Int) := by omega
      have c1 := cb k (by rw [H1.out]; exact hlt)
      have c2 := cg k (by rw [H2.out]; exact hlt)
      have hst : Hid (R = ((hs.getD k false || ps.getD k 0 == 0) && only (hs.drop (k + 1)) (ps.drop (k + 1)))) := by
        show _ = _
        rw [hat.out]
        exact only_at (by rw [H1.out]; exact hlt) (by rw [H2.out]; exact hlt)
      clear hat cb cg
      obtain ⟨B, eB⟩ : ∃ B, B = hs.getD k false := ⟨_, rfl⟩
      obtain ⟨X, eX⟩ : ∃ X, X = ps.getD k 0 := ⟨_, rfl⟩
      rw [← eB, ← eX] at hst
      rw [← eB] at c1
      rw [← eX] at c2
      clear eB eX
      by_cases e : X = 0
      · subst e
        have hnx : Hid (R = only (hs.drop (k + 1)) (ps.drop (k + 1))) := by show _ = _; rw [hst.out]; simp
        clear hst
        go_wp2
        go_round
        case rel => exact ⟨k + 1, by omega, by go_num, hnx.out⟩
        case measure => simp [intOf]; omega
      · have e1 : (X != 0) = true := by simpa using e
        cases B with
        | true =>
          have hnx : Hid (R = only (hs.drop (k + 1)) (ps.drop (k + 1))) := by show _ = _; rw [hst.out]; simp
          clear hst
          go_wp2
          go_round
          case rel => exact ⟨k + 1, by omega, by go_num, hnx.out⟩
          case measure => simp [intOf]; omega
        | false =>
          have hf : Hid (R = false) := by show _ = _; rw [hst.out]; simp [e]
          clear hst
          go_wp2
          go_ret
          exact ⟨ret_bool hf.out.symm, rfl⟩
    · have hf : Hid (R = true) := by show _ = _; rw [hat.out]; exact only_end (by rw [H2.out]; omega)
      clear hat
      go_wp2
      go_ret
      exact ⟨ret_bool hf.out.symm, rfl⟩

theorem callParts_any (c0 c1 c2 c3 c4 : Int) (w : World) :
    Calls Tryd.prog 68 #[.agg #[.int .i64 c0, .int .i64 c1, .int .i64 c2, .int .i64 c3, .int .i64 c4]] w fun e w' => e = .returned (.agg #[.int .i64 c1, .int .i64 c2, .int .i64 c3, .int .i64 c4]) ∧ Below w.heap.size w w' := by
  go_enter Tryd.func68, Tryd.ntmps68
  go_wp2
  refine bodyPost_ret (v := .agg #[.int .i64 c1, .int .i64 c2, .int .i64 c3, .int .i64 c4]) (by simp [results, Tryd.results68, go_sem]) rfl ⟨rfl, ?_⟩
  exact ((Below.refl _ _).alloc (Nat.le_refl _) _).alloc (by simp) _

set_option maxHeartbeats 1000000 in
theorem actParts_any (a : AV) (w : World) :
    Calls Tryd.prog 40 #[.agg #[.int .i64 a.kind, .int .i64 a.site, .int .i64 a.to, .int .i64 a.label, .int .i64 a.pick, .slice a.ka a.kl a.kc, .int .i64 a.c0, .int .i64 a.c1, .int .i64 a.c2, .int .i64 a.c3, .int .i64 a.c4, .string a.line]] w fun e w' => e = .returned (.agg ((aParts a).map (Value.int .i64)).toArray) ∧ Below w.heap.size w w' := by
  obtain ⟨kind, site, to1, label, pick, ka, kl, kc, c0, c1, c2, c3, c4, line, keep⟩ := a
  simp only [aParts]
  by_cases hz : c0 = 0 ∧ c1 = 0 ∧ c2 = 0 ∧ c3 = 0 ∧ c4 = 0
  · obtain ⟨rfl, rfl, rfl, rfl, rfl⟩ := hz
    go_enter Tryd.func40, Tryd.ntmps40
    go_wp2
    refine bodyPost_ret (v := .agg #[.int .i64 site, .int .i64 to1, .int .i64 label, .int .i64 pick, .int .i64 (kl : Int), .int .i64 0, .int .i64 (line.size : Int)]) (by simp [results, Tryd.results40, go_sem]) rfl ⟨by simp [one, nz], ?_⟩
    exact (((Below.refl _ _).alloc (Nat.le_refl _) _).alloc (by simp) _).alloc (by simp; omega) _
  · have e1 : one (nz c0 c1 c2 c3 c4) = 1 := by
      have : nz c0 c1 c2 c3 c4 = true := by
        unfold nz
        simp
        omega
      rw [this]
      rfl
    rw [e1]
    clear e1
    have HZ : Hid (¬ (c0 = 0 ∧ c1 = 0 ∧ c2 = 0 ∧ c3 = 0 ∧ c4 = 0)) := hz
    clear hz
    go_enter Tryd.func40, Tryd.ntmps40
    go_wp2
    all_goals
      first
        | exact absurd ⟨by assumption, by assumption, by assumption, by assumption, by assumption⟩ HZ.out
        | (refine bodyPost_ret (v := .agg #[.int .i64 site, .int .i64 to1, .int .i64 label, .int .i64 pick, .int .i64 (kl : Int), .int .i64 1, .int .i64 (line.size : Int)]) (by simp [results, Tryd.results40, go_sem]) rfl ⟨by simp, ?_⟩
           exact (((Below.refl _ _).alloc (Nat.le_refl _) _).alloc (by simp) _).alloc (by simp; omega) _)
end Go.Proofs.YtlaagfnoepcnlaaDoor.Ln
/- The contract of the document's answer ConfigFault: at every config it returns the fault that cfgFault tells, and leaves what was in memory. -/
namespace Go.Proofs.YtlaagfnoepcnlaaDoor
open Go.ChangeShapes Go.WideShapes Go.ChangeAt Go.RowKit

theorem in_any (n lo hi : Int) (w : World) :
    Calls Tryd.prog 49 #[.int .i64 n, .int .i64 lo, .int .i64 hi] w fun e w' => e = .returned (.bool (inR n lo hi)) ∧ w' = w := by
  go_enter Tryd.func49, Tryd.ntmps49
  go_wp2
  all_goals go_ret
  all_goals exact ⟨ret_bool (by unfold inR; rw [Bool.eq_iff_iff]; simp; omega), rfl⟩

theorem fault_sites (s p : Int) (a : Option Addr) (len cap : Nat) (w : World) (hs : s < 1 ∨ 4 < s) :
    Calls Tryd.prog 25 #[.agg #[.int .i64 s, .slice a len cap, .int .i64 p]] w fun e w' => e = .returned (.int .i64 2) ∧ Below w.heap.size w w' := by
  have hA : Below w.heap.size w (w.alloc (.cells #[.int .i64 s, .slice a len cap, .int .i64 p] 24)) := (Below.refl _ _).alloc (Nat.le_refl _) _
  have h1 := inR_false hs
  go_enter Tryd.func25, Tryd.ntmps25
  go_wp2_with (go_at_call 49; refine (in_any _ _ _ _).mono ?_; rintro e w1 ⟨rfl, rfl⟩)
  go_ret
  exact ⟨rfl, hA⟩

theorem fault_size (s p : Int) (a : Option Addr) (len cap : Nat) (w : World) (h1 : 1 ≤ s) (h2 : s ≤ 4) (hn : len < 1 ∨ 6 < len) :
    Calls Tryd.prog 25 #[.agg #[.int .i64 s, .slice a len cap, .int .i64 p]] w fun e w' => e = .returned (.int .i64 1) ∧ Below w.heap.size w w' := by
  have hA : Below w.heap.size w (w.alloc (.cells #[.int .i64 s, .slice a len cap, .int .i64 p] 24)) := (Below.refl _ _).alloc (Nat.le_refl _) _
  have h3 := inR_true h1 h2
  have h4 : inR (len : Int) 1 6 = false := inR_false (by omega)
  go_enter Tryd.func25, Tryd.ntmps25
  go_wp2_with (go_at_call 49; refine (in_any _ _ _ _).mono ?_; rintro e w1 ⟨rfl, rfl⟩)
  go_ret
  exact ⟨rfl, hA⟩

set_option maxHeartbeats 1000000 in
theorem fault_labs (s p : Int) (b off : Nat) (cap : Nat) (ls : List (Int × Int)) (w : World) (h1 : 1 ≤ s) (h2 : s ≤ 4) (h3 : 1 ≤ ls.length) (h4 : ls.length ≤ 6) (h : Labs w b off ls) :
    Calls Tryd.prog 25 #[.agg #[.int .i64 s, .slice (some ⟨b, off, none⟩) ls.length cap, .int .i64 p]] w fun e w' => e = .returned (.int .i64 (cfgFault s ls p)) ∧ Below w.heap.size w w' := by
  have r1 := inR_true h1 h2
  have r2 : inR (ls.length : Int) 1 6 = true := inR_true (by omega) (by omega)
  go_enter Tryd.func25, Tryd.ntmps25
  go_wp2_with (go_at_call 49; refine (in_any _ _ _ _).mono ?_; rintro e w1 ⟨rfl, rfl⟩)
  go_loopw [3] (fun i wr => ∃ k : Nat, k ≤ ls.length ∧ i = .int .i64 k ∧ labAt ls k ∧ Below (w.heap.size + 1) (w.alloc (.cells #[.int .i64 s, .slice (some ⟨b, off, none⟩) ls.length cap, .int .i64 p] 24)) wr) (fun i _ => ls.length - (intOf i).toNat)
  case atStart => exact ⟨0, Nat.zero_le _, rfl, labAt_zero _, Below.refl _ _⟩
  case round =>
    obtain ⟨k, hk, rfl, hat, hb⟩ := hrel
    have hbw : Below w.heap.size w wr := ((Below.refl _ _).alloc (Nat.le_refl _) _).trans (hb.mono (by omega))
    have d1 : wr.cell? ⟨w.heap.size, 1, none⟩ = some (.slice (some ⟨b, off, none⟩) ls.length cap) := by
      rw [hb.cell (p := ⟨w.heap.size, 1, none⟩) (by simp)]; go_simp
    have d2 : wr.cell? ⟨w.heap.size, 2, none⟩ = some (.int .i64 p) := by
      rw [hb.cell (p := ⟨w.heap.size, 2, none⟩) (by simp)]; go_simp
    by_cases hlt : k < ls.length
    · have hr := (h.below hbw).2 k hlt
      obtain ⟨x, hx⟩ : ∃ p, p = (ls.getD k (0, 0)).1 := ⟨_, rfl⟩
      obtain ⟨y, hy⟩ : ∃ q, q = (ls.getD k (0, 0)).2 := ⟨_, rfl⟩
      rw [← hx, ← hy] at hr
      obtain ⟨c0, c1⟩ := hr
      have hxy : ls.getD k (0, 0) = (x, y) := Prod.ext hx.symm hy.symm
      clear hx hy
      cases hB : inB x y with
      | false =>
        have hf : cfgFault s ls p = 2 := cfg_lab h1 h2 h3 h4 (labAt_range hlt hat (by rw [hxy]; exact hB)) (by decide)
        clear hxy
        rw [inB_of] at hB
        cases hX : inR x 0 9 with
        | false =>
          go_wp2_with (go_at_call 49; refine (in_any _ _ _ _).mono ?_; rintro e w1 ⟨rfl, rfl⟩)
          go_ret
          exact ⟨ret_int hf.symm, hbw⟩
        | true =>
          have hY : inR y 0 15 = false := by rw [hX] at hB; simpa using hB
          clear hB
          go_wp2_with (go_at_call 49; refine (in_any _ _ _ _).mono ?_; rintro e w1 ⟨rfl, rfl⟩)
          go_ret
          exact ⟨ret_int hf.symm, hbw⟩
      | true =>
        have hT : Hid ((x, y) ∈ ls.take k → cfgFault s ls p = 7) := fun hmem => cfg_lab h1 h2 h3 h4 (labAt_twice hlt hat (by rw [hxy]; exact hB) (by rw [hxy]; exact hmem)) (by decide)
        have hS : Hid ((x, y) ∉ ls.take k → labAt ls (k + 1)) := fun hmem => labAt_succ hlt hat (by rw [hxy]; exact hB) (by rw [hxy]; exact hmem)
        clear hxy
        rw [inB_of] at hB
        obtain ⟨hX, hY⟩ : inR x 0 9 = true ∧ inR y 0 15 = true := by simpa using hB
        clear hB
        go_wp2_with (go_at_call 49; refine (in_any _ _ _ _).mono ?_; rintro e w1 ⟨rfl, rfl⟩)
        obtain ⟨wo, hwo⟩ : ∃ wo : World, wo = w1 := ⟨_, rfl⟩
        rw [← hwo] at hb hbw d1 d2 c0 c1 ⊢
        clear hwo
        go_loopw [4] (fun i wr => ∃ j : Nat, j ≤ k ∧ i = .int .i64 j ∧ (x, y) ∉ ls.take j ∧ Below wo.heap.size wo wr) (fun i _ => k - (intOf i).toNat)
        case atStart => exact ⟨0, Nat.zero_le _, rfl, by simp, Below.refl _ _⟩
        case round =>
          obtain ⟨j, hj, rfl, hno, hbo⟩ := hrel
          have hzo : w.heap.size < wo.heap.size := by have := hb.size; simp at this; omega
          have hb3 : Below (w.heap.size + 1) (w.alloc (.cells #[.int .i64 s, .slice (some ⟨b, off, none⟩) ls.length cap, .int .i64 p] 24)) wr := hb.trans (hbo.mono hzo)
          have hbw2 : Below w.heap.size w wr := hbw.trans (hbo.mono (by omega))
          have e1 : wr.cell? ⟨w.heap.size, 1, none⟩ = some (.slice (some ⟨b, off, none⟩) ls.length cap) := by
            rw [hbo.cell (p := ⟨w.heap.size, 1, none⟩) hzo]; exact d1
          by_cases hjk : j < k
          · have hr := (h.below hbw2).2 j (by omega)
            have hbo' : b < wo.heap.size := by have := h.1; omega
            have g0 : wr.cell? ⟨b, off + k * 2, none⟩ = some (.int .i64 x) := by rw [hbo.cell (p := ⟨b, off + k * 2, none⟩) hbo']; exact c0
            have g1 : wr.cell? ⟨b, off + k * 2 + 1, none⟩ = some (.int .i64 y) := by rw [hbo.cell (p := ⟨b, off + k * 2 + 1, none⟩) hbo']; exact c1
            obtain ⟨u, hu⟩ : ∃ p, p = (ls.getD j (0, 0)).1 := ⟨_, rfl⟩
            obtain ⟨v, hv⟩ : ∃ q, q = (ls.getD j (0, 0)).2 := ⟨_, rfl⟩
            rw [← hu, ← hv] at hr
            obtain ⟨g2, g3⟩ := hr
            have hjl : (j : Int) < (ls.length : Int) := by omega
            by_cases e1' : u = x
            · by_cases e2 : v = y
              · have hmem : (x, y) ∈ ls.take k := by
                  refine mem_of_getD (k := j) (by simp; omega) ?_ ?_
                  · rw [← e1', hu]; simp [List.getD, hjk]
                  · rw [← e2, hv]; simp [List.getD, hjk]
                have hf := hT.out hmem
                clear hu hv hno
                subst e1' e2
                go_wp2
                go_quiet (fail)
                go_wp2
                go_ret
                exact ⟨ret_int hf.symm, below_drewN hbw2 nq⟩
              · have hn := not_take_succ (p := (x, y)) (by omega) hno (by rw [← hu, ← hv]; simp; intro _; exact fun h => e2 h.symm)
                have e3 : (v == y) = false := by simpa using e2
                clear hu hv
                subst e1'
                go_wp2
                go_quiet (fail)
                go_wp2
                go_roundw
                case rel => exact ⟨j + 1, by omega, by go_num, hn, below_drewN hbo nq⟩
                case measure => simp [intOf]; omega
            · have hn := not_take_succ (p := (x, y)) (by omega) hno (by rw [← hu, ← hv]; simp; intro h; exact absurd h.symm e1')
              have e3 : (u == x) = false := by simpa using e1'
              clear hu hv
              go_wp2
              go_quiet (fail)
              go_wp2
              go_roundw
              case rel => exact ⟨j + 1, by omega, by go_num, hn, below_drewN hbo nq⟩
              case measure => simp [intOf]; omega
          · have hjk' : j = k := by omega
            subst hjk'
            have hn := hS.out hno
            go_wp2
            go_roundw
            case rel => exact ⟨j + 1, by omega, by go_num, hn, hb3⟩
            case measure => simp [intOf]; omega
    · have he : k = ls.length := by omega
      subst he
      have hf := labAt_end hat
      by_cases hp : p < 1 ∨ 1048576 < p
      · have hr := inR_false hp
        go_wp2_with (go_at_call 49; refine (in_any _ _ _ _).mono ?_; rintro e w1 ⟨rfl, rfl⟩)
        go_ret
        exact ⟨ret_int (cfg_late h1 h2 h3 h4 hf hp).symm, hbw⟩
      · have hr : inR p 1 1048576 = true := inR_true (by omega) (by omega)
        go_wp2_with (go_at_call 49; refine (in_any _ _ _ _).mono ?_; rintro e w1 ⟨rfl, rfl⟩)
        go_ret
        exact ⟨ret_int (cfg_ok h1 h2 h3 h4 hf (by omega) (by omega)).symm, hbw⟩

theorem fault_any (s p : Int) (a : Option Addr) (len cap : Nat) (ls : List (Int × Int)) (w : World) (h : IsLabs w a len cap ls) :
    Calls Tryd.prog 25 #[.agg #[.int .i64 s, .slice a len cap, .int .i64 p]] w fun e w' => e = .returned (.int .i64 (cfgFault s ls p)) ∧ Below w.heap.size w w' := by
  obtain ⟨rfl, _, _, h4⟩ := h
  by_cases hs : s < 1 ∨ 4 < s
  · rw [cfg_sites hs]
    exact fault_sites s p a _ cap w hs
  · by_cases hn : ls.length < 1 ∨ 6 < ls.length
    · rw [cfg_size (by omega) (by omega) hn]
      exact fault_size s p a _ cap w (by omega) (by omega) hn
    · obtain ⟨b, off, rfl, hL⟩ := h4 (by omega)
      exact fault_labs s p b off cap ls w (by omega) (by omega) (by omega) (by omega) hL
end Go.Proofs.YtlaagfnoepcnlaaDoor
