/- Texts of this claim, one behind the other. -/
import Derived.Test.YtflfcjbgkpfgkaaDoorM4TapeRecovers
import Derived.LoopTactic
import Derived.Test.YtflfcjbgkpfgkaaDoorProg
import Derived.WalkKit
import Derived.ProofKit
import Derived.Below
import Derived.Deep.QuietTactic
import Derived.BigQuiet
import Derived.WalkSmall
import Derived.Test.YtflfcjbgkpfgkaaDoorA0TapeRecovers
import Derived.Test.YtflfcjbgkpfgkaaDoorM2TapeRecovers
import Derived.Test.YtflfcjbgkpfgkaaDoorM13TapeRecovers
/- The contract of the document's joined: bytes of slices one behind the other, in new memory. -/
namespace Go.Proofs.YtflfcjbgkpfgkaaDoor
open Go.ChangeShapes Go.WideShapes Go.ChangeAt Go.RowKit
set_option linter.unusedVariables false

structure BS where
  a : Option Addr
  len : Nat
  cap : Nat
  bs : List Int
instance : Inhabited BS := ⟨⟨none, 0, 0, []⟩⟩

def catB (l : List BS) : List Int := l.flatMap BS.bs

/-- A row of slices of bytes. -/
def IsBs (w : World) (q k : Nat) (l : List BS) : Prop :=
  l.length = k ∧ q < w.heap.size ∧ ∀ i, i < k → w.cell? ⟨q, i, none⟩ = some (.slice (l.getD i default).a (l.getD i default).len (l.getD i default).cap) ∧ IsB w (l.getD i default).a (l.getD i default).len (l.getD i default).cap (l.getD i default).bs

theorem IsB.belowB {B : Nat} {w w' : World} {a : Option Addr} {len cap : Nat} {bs : List Int} (h : IsB w a len cap bs) (hb : Below B w w') (hB : ∀ b off, a = some ⟨b, off, none⟩ → b < B) : IsB w' a len cap bs := by
  obtain ⟨h1, h2, h3, hbd, hn, h4⟩ := h
  refine ⟨h1, h2, h3, hbd, hn, fun hp => ?_⟩
  obtain ⟨b, off, e, hlt, hl⟩ := h4 hp
  refine ⟨b, off, e, Nat.lt_of_lt_of_le hlt hb.size, fun i hi => ?_⟩
  rw [hb.cell (p := ⟨b, off + i, none⟩) (hB b off e)]
  exact hl i hi

theorem isBs_one (U : World) (a : Option Addr) (len cap : Nat) (bs : List Int) (h : IsB U a len cap bs) : IsBs (U.alloc (.cells #[.slice a len cap] 25)) U.heap.size 1 [⟨a, len, cap, bs⟩] := by
  refine ⟨rfl, by simp, fun i hi => ?_⟩
  obtain rfl : i = 0 := by omega
  exact ⟨by go_simp, h.below ((Below.refl _ _).alloc (Nat.le_refl _) _)⟩

theorem catB_le {l : List BS} {i : Nat} (h : i < l.length) : (catB (l.take i)).length + (l.getD i default).bs.length ≤ (catB l).length := by
  have e : l = l.take i ++ (l.getD i default) :: l.drop (i + 1) := by
    have : l.drop i = l.getD i default :: l.drop (i + 1) := by rw [List.drop_eq_getElem_cons h]; simp [List.getD, h]
    rw [← this, List.take_append_drop]
  have : (catB l).length = (catB (l.take i)).length + (l.getD i default).bs.length + (catB (l.drop (i + 1))).length := by
    conv => lhs; rw [e]
    simp [catB]
    omega
  omega
theorem catB_succ {l : List BS} {i : Nat} (h : i < l.length) : catB (l.take (i + 1)) = catB (l.take i) ++ (l.getD i default).bs := by
  unfold catB
  rw [List.take_succ_eq_append_getElem h, List.flatMap_append]
  simp [List.getD, h]

set_option maxRecDepth 100000 in
set_option maxHeartbeats 1000000 in
theorem joined_any (q k : Nat) (l : List BS) (w : World) (h : IsBs w q k l) (hk : k ≤ 10) (ht : (catB l).length ≤ 140737488355328) :
    Calls Tryd.prog 38 #[.slice (some ⟨q, 0, none⟩) k k] w fun e w' => ∃ v', e = .returned v' ∧ w'.ownsRow w.heap.size 5 1 v' (catB l).length (bytesV (catB l)) ∧ Below w.heap.size w w' := by
  obtain ⟨hlen, hq, hcell⟩ := h
  have HL : Hid (l.length = k) := hlen
  clear hlen
  go_enter Tryd.func38, Tryd.ntmps38
  go_wp2
  go_loopw [3, 4] (fun s3 s4 wr => ∃ (i : Nat) (cs : List Int), i ≤ k ∧ s4 = .int .i64 i ∧ wr.ownsRow w.heap.size 5 1 s3 cs.length (bytesV cs) ∧ Hid (cs = catB (l.take i)) ∧ Below w.heap.size w wr) (fun _ s4 _ => k - (intOf s4).toNat)
  case atStart => exact ⟨0, [], by omega, rfl, World.ownsRow_nil _ _ _ _, rfl, Below.refl _ _⟩
  case round =>
    obtain ⟨i, cs, hi, rfl, hown, hcs, hbel⟩ := hrel
    by_cases hlt : i < k
    · obtain ⟨hci, hBi⟩ := hcell i hlt
      have hl' : i < l.length := by have := HL.out; omega
      have hle := catB_le hl'
      have hsucc : Hid (catB (l.take (i + 1)) = catB (l.take i) ++ (l.getD i default).bs) := catB_succ hl'
      obtain ⟨x, hx⟩ : ∃ x, x = l.getD i default := ⟨_, rfl⟩
      rw [← hx] at hci hBi hle hsucc
      clear hx
      obtain ⟨xa, xl, xc, xb⟩ := x
      simp only at hci hBi hle hsucc
      have hcs' : cs.length + xl ≤ 140737488355328 := by have h1 := hBi.1; have h2 := hcs.out; rw [h2]; omega
      have hlt' : (i : Int) < (k : Int) := by omega
      rw [← hbel.cell (p := ⟨q, i, none⟩) hq] at hci
      have xl0 : (xl : Int) ≤ 140737488355328 := by omega
      go_wp2
      go_loopw [3, 5] (fun s3 s5 wr2 => ∃ (j : Nat) (ds : List Int), j ≤ xl ∧ s5 = .int .i64 j ∧ wr2.ownsRow w.heap.size 5 1 s3 ds.length (bytesV ds) ∧ Hid (ds = cs ++ xb.take j) ∧ Below w.heap.size w wr2) (fun _ s5 _ => xl - (intOf s5).toNat)
      case atStart => exact ⟨0, cs, by omega, rfl, hown, by show cs = _; simp, hbel⟩
      case round =>
        obtain ⟨j, ds, hj, rfl, hown2, hds, hbel2⟩ := hrel
        have hci2 : wr.cell? ⟨q, i, none⟩ = some (.slice xa xl xc) := by rw [hbel2.cell (p := ⟨q, i, none⟩) hq, ← hbel.cell (p := ⟨q, i, none⟩) hq]; exact hci
        clear hci
        by_cases hjl : j < xl
        · obtain ⟨b, off, rfl, hb, hcj⟩ := hBi.2.2.2.2.2 (by omega)
          have hv := hcj j hjl
          rw [← hbel2.cell (p := ⟨b, off + j, none⟩) hb] at hv
          have hxb : j < xb.length := by have := hBi.1; omega
          have hbd := hBi.2.2.2.1 xb[j] (List.getElem_mem hxb)
          have hds' : Hid (ds ++ [xb.getD j 0] = cs ++ xb.take (j + 1)) := by
            show ds ++ [xb.getD j 0] = _
            rw [hds.out, List.append_assoc, List.take_succ_eq_append_getElem hxb]
            simp [List.getD, hxb]
          have hget : xb.getD j 0 = xb[j] := by simp [List.getD, hxb]
          rw [← hget] at hbd
          have hdl : ds.length + 1 ≤ 140737488355328 := by
            have := hds.out
            rw [this]
            simp
            omega
          obtain ⟨x, hx⟩ : ∃ x, x = xb.getD j 0 := ⟨_, rfl⟩
          rw [← hx] at hv hbd hds'
          clear hget hx
          obtain ⟨x0, x1⟩ := hbd
          have hone := isB_one wr x x0 x1
          have hjl' : (j : Int) < (xl : Int) := by omega
          have hz := hbel2.size
          go_wp2_with (at_builtin; go_loud (refine wpList_append_bytes (by rfl) _ _ (by rfl) w.heap.size _ ds.length ds (by rfl) (hown2.alloc _) (some ⟨wr.heap.size, 0, none⟩) 1 1 [x] (by rfl) hone hdl (by simp; omega) ?_))
          intro v' w3 hown3 hgrow hat
          have hbel3 : Below w.heap.size w w3 := (hbel2.alloc hz _).grown hgrow (by simp; omega) (fun k hk => (hown2.lt k hk).1)
          clear hgrow hat
          go_wp2
          go_roundw
          case rel => exact ⟨j + 1, ds ++ [x], by omega, by go_num, by simpa using hown3, hds', hbel3⟩
          case measure => simp [intOf]; omega
        · have hje : j = xl := by omega
          subst hje
          have hfin : Hid (ds = catB (l.take (i + 1))) := by
            show ds = _
            have e : xb.take j = xb := List.take_of_length_le (by have := hBi.1; omega)
            rw [hsucc.out, hds.out, hcs.out, e]
          clear hds hsucc
          go_wp2
          go_roundw
          case rel => exact ⟨i + 1, ds, by omega, by go_num, hown2, hfin, hbel2⟩
          case measure => simp [intOf]; omega
    · have hie : i = k := by omega
      subst hie
      have hfin : cs = catB l := by rw [hcs.out, List.take_of_length_le (by have := HL.out; omega)]
      subst hfin
      clear hcs
      go_wp2
      go_ret
      exact ⟨_, rfl, hown, hbel⟩
end Go.Proofs.YtflfcjbgkpfgkaaDoor
/- The contract of the document's answer ConfigFault: at every config it returns the fault that cfgFault tells, and leaves what was in memory. -/
namespace Go.Proofs.YtflfcjbgkpfgkaaDoor
open Go.ChangeShapes Go.WideShapes Go.ChangeAt Go.RowKit

theorem in_any (n lo hi : Int) (w : World) :
    Calls Tryd.prog 57 #[.int .i64 n, .int .i64 lo, .int .i64 hi] w fun e w' => e = .returned (.bool (inR n lo hi)) ∧ w' = w := by
  go_enter Tryd.func57, Tryd.ntmps57
  go_wp2
  all_goals go_ret
  all_goals exact ⟨ret_bool (by unfold inR; rw [Bool.eq_iff_iff]; simp; omega), rfl⟩

theorem fault_sites (s p : Int) (a : Option Addr) (len cap : Nat) (w : World) (hs : s < 1 ∨ 4 < s) :
    Calls Tryd.prog 27 #[.agg #[.int .i64 s, .slice a len cap, .int .i64 p]] w fun e w' => e = .returned (.int .i64 2) ∧ Below w.heap.size w w' := by
  have hA : Below w.heap.size w (w.alloc (.cells #[.int .i64 s, .slice a len cap, .int .i64 p] 24)) := (Below.refl _ _).alloc (Nat.le_refl _) _
  have h1 := inR_false hs
  go_enter Tryd.func27, Tryd.ntmps27
  go_wp2_with (go_at_call 57; refine (in_any _ _ _ _).mono ?_; rintro e w1 ⟨rfl, rfl⟩)
  go_ret
  exact ⟨rfl, hA⟩

theorem fault_size (s p : Int) (a : Option Addr) (len cap : Nat) (w : World) (h1 : 1 ≤ s) (h2 : s ≤ 4) (hn : len < 1 ∨ 6 < len) :
    Calls Tryd.prog 27 #[.agg #[.int .i64 s, .slice a len cap, .int .i64 p]] w fun e w' => e = .returned (.int .i64 1) ∧ Below w.heap.size w w' := by
  have hA : Below w.heap.size w (w.alloc (.cells #[.int .i64 s, .slice a len cap, .int .i64 p] 24)) := (Below.refl _ _).alloc (Nat.le_refl _) _
  have h3 := inR_true h1 h2
  have h4 : inR (len : Int) 1 6 = false := inR_false (by omega)
  go_enter Tryd.func27, Tryd.ntmps27
  go_wp2_with (go_at_call 57; refine (in_any _ _ _ _).mono ?_; rintro e w1 ⟨rfl, rfl⟩)
  go_ret
  exact ⟨rfl, hA⟩

set_option maxHeartbeats 1000000 in
theorem fault_labs (s p : Int) (b off : Nat) (cap : Nat) (ls : List (Int × Int)) (w : World) (h1 : 1 ≤ s) (h2 : s ≤ 4) (h3 : 1 ≤ ls.length) (h4 : ls.length ≤ 6) (h : Labs w b off ls) :
    Calls Tryd.prog 27 #[.agg #[.int .i64 s, .slice (some ⟨b, off, none⟩) ls.length cap, .int .i64 p]] w fun e w' => e = .returned (.int .i64 (cfgFault s ls p)) ∧ Below w.heap.size w w' := by
  have r1 := inR_true h1 h2
  have r2 : inR (ls.length : Int) 1 6 = true := inR_true (by omega) (by omega)
  go_enter Tryd.func27, Tryd.ntmps27
  go_wp2_with (go_at_call 57; refine (in_any _ _ _ _).mono ?_; rintro e w1 ⟨rfl, rfl⟩)
  go_loopw [3] (fun i wr => ∃ k : Nat, k ≤ ls.length ∧ i = .int .i64 k ∧ labAt ls k ∧ Below (w.heap.size + 1) (w.alloc (.cells #[.int .i64 s, .slice (some ⟨b, off, none⟩) ls.length cap, .int .i64 p] 24)) wr) (fun i _ => ls.length - (intOf i).toNat)
  case atStart => exact ⟨0, Nat.zero_le _, rfl, labAt_zero _, Below.refl _ _⟩
  case round =>
    obtain ⟨k, hk, rfl, hat, hb⟩ := hrel
    have hbw : Below w.heap.size w wr := ((Below.refl _ _).alloc (Nat.le_refl _) _).trans (hb.mono (by omega))
    have d1 : wr.cell? ⟨w.heap.size, 1, none⟩ = some (.slice (some ⟨b, off, none⟩) ls.length cap) := by
      rw [hb.cell (p := ⟨w.heap.size, 1, none⟩) (by simp)]; go_simp
    have d2 : wr.cell? ⟨w.heap.size, 2, none⟩ = some (.int .i64 p) := by
      rw [hb.cell (p := ⟨w.heap.size, 2, none⟩) (by simp)]; go_simp
    by_cases hlt : k < ls.length
    · have hr := (h.below hbw).2 k hlt
      obtain ⟨x, hx⟩ : ∃ p, p = (ls.getD k (0, 0)).1 := ⟨_, rfl⟩
      obtain ⟨y, hy⟩ : ∃ q, q = (ls.getD k (0, 0)).2 := ⟨_, rfl⟩
      rw [← hx, ← hy] at hr
      obtain ⟨c0, c1⟩ := hr
      have hxy : ls.getD k (0, 0) = (x, y) := Prod.ext hx.symm hy.symm
      clear hx hy
      cases hB : inB x y with
      | false =>
        have hf : cfgFault s ls p = 2 := cfg_lab h1 h2 h3 h4 (labAt_range hlt hat (by rw [hxy]; exact hB)) (by decide)
        clear hxy
        rw [inB_of] at hB
        cases hX : inR x 0 9 with
        | false =>
          go_wp2_with (go_at_call 57; refine (in_any _ _ _ _).mono ?_; rintro e w1 ⟨rfl, rfl⟩)
          go_ret
          exact ⟨ret_int hf.symm, hbw⟩
        | true =>
          have hY : inR y 0 15 = false := by rw [hX] at hB; simpa using hB
          clear hB
          go_wp2_with (go_at_call 57; refine (in_any _ _ _ _).mono ?_; rintro e w1 ⟨rfl, rfl⟩)
          go_ret
          exact ⟨ret_int hf.symm, hbw⟩
      | true =>
        have hT : Hid ((x, y) ∈ ls.take k → cfgFault s ls p = 7) := fun hmem => cfg_lab h1 h2 h3 h4 (labAt_twice hlt hat (by rw [hxy]; exact hB) (by rw [hxy]; exact hmem)) (by decide)
        have hS : Hid ((x, y) ∉ ls.take k → labAt ls (k + 1)) := fun hmem => labAt_succ hlt hat (by rw [hxy]; exact hB) (by rw [hxy]; exact hmem)
        clear hxy
        rw [inB_of] at hB
        obtain ⟨hX, hY⟩ : inR x 0 9 = true ∧ inR y 0 15 = true := by simpa using hB
        clear hB
        go_wp2_with (go_at_call 57; refine (in_any _ _ _ _).mono ?_; rintro e w1 ⟨rfl, rfl⟩)
        obtain ⟨wo, hwo⟩ : ∃ wo : World, wo = w1 := ⟨_, rfl⟩
        rw [← hwo] at hb hbw d1 d2 c0 c1 ⊢
        clear hwo
        go_loopw [4] (fun i wr => ∃ j : Nat, j ≤ k ∧ i = .int .i64 j ∧ (x, y) ∉ ls.take j ∧ Below wo.heap.size wo wr) (fun i _ => k - (intOf i).toNat)
        case atStart => exact ⟨0, Nat.zero_le _, rfl, by simp, Below.refl _ _⟩
        case round =>
          obtain ⟨j, hj, rfl, hno, hbo⟩ := hrel
          have hzo : w.heap.size < wo.heap.size := by have := hb.size; simp at this; omega
          have hb3 : Below (w.heap.size + 1) (w.alloc (.cells #[.int .i64 s, .slice (some ⟨b, off, none⟩) ls.length cap, .int .i64 p] 24)) wr := hb.trans (hbo.mono hzo)
          have hbw2 : Below w.heap.size w wr := hbw.trans (hbo.mono (by omega))
          have e1 : wr.cell? ⟨w.heap.size, 1, none⟩ = some (.slice (some ⟨b, off, none⟩) ls.length cap) := by
            rw [hbo.cell (p := ⟨w.heap.size, 1, none⟩) hzo]; exact d1
          by_cases hjk : j < k
          · have hr := (h.below hbw2).2 j (by omega)
            have hbo' : b < wo.heap.size := by have := h.1; omega
            have g0 : wr.cell? ⟨b, off + k * 2, none⟩ = some (.int .i64 x) := by rw [hbo.cell (p := ⟨b, off + k * 2, none⟩) hbo']; exact c0
            have g1 : wr.cell? ⟨b, off + k * 2 + 1, none⟩ = some (.int .i64 y) := by rw [hbo.cell (p := ⟨b, off + k * 2 + 1, none⟩) hbo']; exact c1
            obtain ⟨u, hu⟩ : ∃ p, p = (ls.getD j (0, 0)).1 := ⟨_, rfl⟩
            obtain ⟨v, hv⟩ : ∃ q, q = (ls.getD j (0, 0)).2 := ⟨_, rfl⟩
            rw [← hu, ← hv] at hr
            obtain ⟨g2, g3⟩ := hr
            have hjl : (j : Int) < (ls.length : Int) := by omega
            by_cases e1' : u = x
            · by_cases e2 : v = y
              · have hmem : (x, y) ∈ ls.take k := by
                  refine mem_of_getD (k := j) (by simp; omega) ?_ ?_
                  · rw [← e1', hu]; simp [List.getD, hjk]
                  · rw [← e2, hv]; simp [List.getD, hjk]
                have hf := hT.out hmem
                clear hu hv hno
                subst e1' e2
                go_wp2
                go_quiet (fail)
                go_wp2
                go_ret
                exact ⟨ret_int hf.symm, below_drewN hbw2 nq⟩
              · have hn := not_take_succ (p := (x, y)) (by omega) hno (by rw [← hu, ← hv]; simp; intro _; exact fun h => e2 h.symm)
                have e3 : (v == y) = false := by simpa using e2
                clear hu hv
                subst e1'
                go_wp2
                go_quiet (fail)
                go_wp2
                go_roundw
                case rel => exact ⟨j + 1, by omega, by go_num, hn, below_drewN hbo nq⟩
                case measure => simp [intOf]; omega
            · have hn := not_take_succ (p := (x, y)) (by omega) hno (by rw [← hu, ← hv]; simp; intro h; exact absurd h.symm e1')
              have e3 : (u == x) = false := by simpa using e1'
              clear hu hv
              go_wp2
              go_quiet (fail)
              go_wp2
              go_roundw
              case rel => exact ⟨j + 1, by omega, by go_num, hn, below_drewN hbo nq⟩
              case measure => simp [intOf]; omega
          · have hjk' : j = k := by omega
            subst hjk'
            have hn := hS.out hno
            go_wp2
            go_roundw
            case rel => exact ⟨j + 1, by omega, by go_num, hn, hb3⟩
            case measure => simp [intOf]; omega
    · have he : k = ls.length := by omega
      subst he
      have hf := labAt_end hat
      by_cases hp : p < 1 ∨ 1048576 < p
      · have hr := inR_false hp
        go_wp2_with (go_at_call 57; refine (in_any _ _ _ _).mono ?_; rintro e w1 ⟨rfl, rfl⟩)
        go_ret
        exact ⟨ret_int (cfg_late h1 h2 h3 h4 hf hp).symm, hbw⟩
      · have hr : inR p 1 1048576 = true := inR_true (by omega) (by omega)
        go_wp2_with (go_at_call 57; refine (in_any _ _ _ _).mono ?_; rintro e w1 ⟨rfl, rfl⟩)
        go_ret
        exact ⟨ret_int (cfg_ok h1 h2 h3 h4 hf (by omega) (by omega)).symm, hbw⟩

theorem fault_any (s p : Int) (a : Option Addr) (len cap : Nat) (ls : List (Int × Int)) (w : World) (h : IsLabs w a len cap ls) :
    Calls Tryd.prog 27 #[.agg #[.int .i64 s, .slice a len cap, .int .i64 p]] w fun e w' => e = .returned (.int .i64 (cfgFault s ls p)) ∧ Below w.heap.size w w' := by
  obtain ⟨rfl, _, _, h4⟩ := h
  by_cases hs : s < 1 ∨ 4 < s
  · rw [cfg_sites hs]
    exact fault_sites s p a _ cap w hs
  · by_cases hn : ls.length < 1 ∨ 6 < ls.length
    · rw [cfg_size (by omega) (by omega) hn]
      exact fault_size s p a _ cap w (by omega) (by omega) hn
    · obtain ⟨b, off, rfl, hL⟩ := h4 (by omega)
      exact fault_labs s p b off cap ls w (by omega) (by omega) (by omega) (by omega) hL
end Go.Proofs.YtflfcjbgkpfgkaaDoor
/- The document's reader in memory, held against the program's reader on plain data: stop, num, yes, first. -/
namespace Go.Proofs.YtflfcjbgkpfgkaaDoor
open Go.ChangeShapes Go.WideShapes Go.ChangeAt Go.RowKit
set_option linter.unusedVariables false

theorem IsB.grown0 {w w' : World} {a : Option Addr} {len cap : Nat} {bs : List Int} {row : Option Nat} (h : IsB w a len cap bs) (hg : w.grownBy w' row) (hne : ∀ b off, 0 < len → a = some ⟨b, off, none⟩ → some b ≠ row) : IsB w' a len cap bs := by
  obtain ⟨h1, h2, h3, hbd, hn, h4⟩ := h
  refine ⟨h1, h2, h3, hbd, hn, fun hp => ?_⟩
  obtain ⟨b, off, e, hlt, hl⟩ := h4 hp
  refine ⟨b, off, e, Nat.lt_of_lt_of_le hlt hg.size, fun i hi => ?_⟩
  rw [World.cell?_of_block (a := ⟨b, off + i, none⟩) (hg.block b hlt (hne b off hp e))]
  exact hl i hi
theorem IsB.set0 {w : World} {a : Option Addr} {len cap : Nat} {bs : List Int} (h : IsB w a len cap bs) (p : Addr) (v : Value) (hne : ∀ b off, 0 < len → a = some ⟨b, off, none⟩ → b ≠ p.block) : IsB (w.setCell p v) a len cap bs := by
  obtain ⟨h1, h2, h3, hbd, hn, h4⟩ := h
  refine ⟨h1, h2, h3, hbd, hn, fun hp => ?_⟩
  obtain ⟨b, off, e, hlt, hl⟩ := h4 hp
  refine ⟨b, off, e, by simpa using hlt, fun i hi => ?_⟩
  rw [World.cell?_of_block (a := ⟨b, off + i, none⟩) (Below.heap_setCell w p v b (hne b off hp e))]
  exact hl i hi
/-- The document's reader lies at R; its error is the reader's, and as long as there is none, what it has not read yet is the reader's rest. -/
structure EyeAt (w : World) (R L : Nat) (bs : List Int) (a : Option Addr) (len cap pos : Nat) (st : RS) : Prop where
  c0 : w.cell? ⟨R, 0, none⟩ = some (.slice a len cap)
  c1 : w.cell? ⟨R, 1, none⟩ = some (.int .i64 (pos : Int))
  c2 : w.cell? ⟨R, 2, none⟩ = some (.int .i64 st.wrong)
  f1 : w.frozen? ⟨R, 1, none⟩ = false
  f2 : w.frozen? ⟨R, 2, none⟩ = false
  isb : IsB w a len cap bs
  hat : pos ≤ len
  rel : st.wrong = 0 → st.rest = bs.drop pos
  far : ∀ b off, 0 < len → a = some ⟨b, off, none⟩ → b < L
  hL : L ≤ R
  e0 : 0 ≤ st.wrong ∧ st.wrong ≤ 100
  big : len ≤ 140737488355328
def EyeTo (w : World) (R L : Nat) (bs : List Int) (st : RS) : Prop := ∃ a len cap pos, EyeAt w R L bs a len cap pos st
theorem EyeAt.lt {w : World} {R L : Nat} {bs : List Int} {a : Option Addr} {len cap pos : Nat} {st : RS} (h : EyeAt w R L bs a len cap pos st) : R < w.heap.size := World.block_lt_of_cell? w _ h.c0
theorem EyeTo.lt {w : World} {R L : Nat} {bs : List Int} {st : RS} (h : EyeTo w R L bs st) : R < w.heap.size := by obtain ⟨a, len, cap, pos, h⟩ := h; exact h.lt
theorem EyeTo.grown {w w' : World} {R L : Nat} {bs : List Int} {st : RS} {row : Option Nat} (h : EyeTo w R L bs st) (hg : w.grownBy w' row) (hr : ∀ k, row = some k → L ≤ k ∧ k ≠ R) : EyeTo w' R L bs st := by
  obtain ⟨a, len, cap, pos, h⟩ := h
  have hb := hg.block R h.lt (fun e => (hr R e.symm).2 rfl)
  refine ⟨a, len, cap, pos, ?_, ?_, ?_, ?_, ?_, h.isb.grown0 hg (fun b off hl e e' => ?_), h.hat, h.rel, h.far, h.hL, h.e0, h.big⟩
  · rw [World.cell?_of_block (a := ⟨R, 0, none⟩) hb]; exact h.c0
  · rw [World.cell?_of_block (a := ⟨R, 1, none⟩) hb]; exact h.c1
  · rw [World.cell?_of_block (a := ⟨R, 2, none⟩) hb]; exact h.c2
  · rw [World.frozen?_of_block (a := ⟨R, 1, none⟩) hb]; exact h.f1
  · rw [World.frozen?_of_block (a := ⟨R, 2, none⟩) hb]; exact h.f2
  · have := h.far b off hl e
    have := (hr b e'.symm).1
    omega
theorem EyeTo.below {w w' : World} {R L : Nat} {bs : List Int} {st : RS} (h : EyeTo w R L bs st) (hb : Below w.heap.size w w') : EyeTo w' R L bs st := by
  obtain ⟨a, len, cap, pos, h⟩ := h
  have hlt := h.lt
  exact ⟨a, len, cap, pos, (hb.cell (p := ⟨R, 0, none⟩) hlt).trans h.c0, (hb.cell (p := ⟨R, 1, none⟩) hlt).trans h.c1, (hb.cell (p := ⟨R, 2, none⟩) hlt).trans h.c2, (hb.frozen (p := ⟨R, 1, none⟩) hlt).trans h.f1, (hb.frozen (p := ⟨R, 2, none⟩) hlt).trans h.f2, h.isb.below hb, h.hat, h.rel, h.far, h.hL, h.e0, h.big⟩

theorem stop_any (R L : Nat) (bs : List Int) (st : RS) (e : Int) (w : World) (h : EyeTo w R L bs st) (he : 0 < e ∧ e ≤ 100) :
    Calls Tryd.prog 58 #[.pointer (some ⟨R, 0, none⟩), .int .i64 e] w fun r w' => r = .returned (.tuple #[]) ∧ EyeTo w' R L bs (st.refuse e) ∧ w.grownBy w' (some R) := by
  obtain ⟨a, len, cap, pos, c0, c1, c2, f1, f2, hI, hat, hrl, hfar, hLR, he0, hbig⟩ := h
  have hfar' : ∀ b off, 0 < len → a = some ⟨b, off, none⟩ → b ≠ R := fun b off hl e => by have := hfar b off hl e; omega
  by_cases hw : st.wrong = 0
  · have es : st.refuse e = ⟨st.rest, e⟩ := by simp [RS.refuse, hw]
    rw [es]
    rw [hw] at c2
    clear es
    go_enter Tryd.func58, Tryd.ntmps58
    go_wp2
    refine bodyPost_end (v := .tuple #[]) (by simp [results, Tryd.results58, go_sem]) rfl ⟨rfl, ⟨a, len, cap, pos, by go_simp, by go_simp, by go_simp, by go_simp, by go_simp, hI.set0 _ _ hfar', hat, fun h0 => absurd h0 (by simp only []; omega), hfar, hLR, by simp only []; omega, hbig⟩, grown_set (grownR_refl _ _)⟩
  · have es : st.refuse e = st := by simp [RS.refuse, hw]
    rw [es]
    clear es
    go_enter Tryd.func58, Tryd.ntmps58
    go_wp2
    exact bodyPost_end (v := .tuple #[]) (by simp [results, Tryd.results58, go_sem]) rfl ⟨rfl, ⟨a, len, cap, pos, c0, c1, c2, f1, f2, hI, hat, hrl, hfar, hLR, he0, hbig⟩, grownR_refl _ _⟩
theorem num_stays {st : RS} {k : Nat} (h : st.wrong ≠ 0) : st.num k = (0, st) := by
  have hs : st.short k = st := by
    unfold RS.short RS.refuse
    split <;> simp
  unfold RS.num
  rw [hs, if_neg h]
end Go.Proofs.YtflfcjbgkpfgkaaDoor
