/- Texts of this claim, one behind the other. -/
import Derived.Test.YtflfcjbgkpfgkaaDoorM4TapeRecovers
import Derived.Test.YtflfcjbgkpfgkaaDoorM12TapeRecovers
import Derived.Lib.QuietBelow
import Derived.Lib.LaidTab
import Derived.OpenShut
/- The contracts of wire's reader: refuse, number, kind, end. -/
namespace Go.Proofs.YtflfcjbgkpfgkaaDoor
open Go.ChangeShapes Go.WideShapes Go.ChangeAt Go.RowKit
set_option linter.unusedVariables false

/-- A reader in memory: it lies at R; the bytes that it reads lie below L. -/
structure RdAt (w : World) (R L : Nat) (a : Option Addr) (len cap : Nat) (st : RS) : Prop where
  c0 : w.cell? ⟨R, 0, none⟩ = some (.slice a len cap)
  c1 : w.cell? ⟨R, 1, none⟩ = some (.int .i64 st.wrong)
  f0 : w.frozen? ⟨R, 0, none⟩ = false
  f1 : w.frozen? ⟨R, 1, none⟩ = false
  isb : IsB w a len cap st.rest
  far : ∀ b off, a = some ⟨b, off, none⟩ → b < L
  hL : L ≤ R
  e0 : 0 ≤ st.wrong ∧ st.wrong ≤ 100
def RdTo (w : World) (R L : Nat) (st : RS) : Prop := ∃ a len cap, RdAt w R L a len cap st

theorem RdAt.lt {w : World} {R L : Nat} {a : Option Addr} {len cap : Nat} {st : RS} (h : RdAt w R L a len cap st) : R < w.heap.size := World.block_lt_of_cell? w _ h.c0
theorem RdTo.lt {w : World} {R L : Nat} {st : RS} (h : RdTo w R L st) : R < w.heap.size := by obtain ⟨a, len, cap, h⟩ := h; exact h.lt
theorem RdTo.hL {w : World} {R L : Nat} {st : RS} (h : RdTo w R L st) : L ≤ R := by obtain ⟨a, len, cap, h⟩ := h; exact h.hL

theorem RdTo.grown {w w' : World} {R L : Nat} {st : RS} {row : Option Nat} (h : RdTo w R L st) (hg : w.grownBy w' row) (hr : ∀ k, row = some k → L ≤ k ∧ k ≠ R) : RdTo w' R L st := by
  obtain ⟨a, len, cap, h⟩ := h
  have hb := hg.block R h.lt (fun e => (hr R e.symm).2 rfl)
  refine ⟨a, len, cap, ?_, ?_, ?_, ?_, h.isb.grown hg (fun b off e e' => ?_), h.far, h.hL, h.e0⟩
  · rw [World.cell?_of_block (a := ⟨R, 0, none⟩) hb]; exact h.c0
  · rw [World.cell?_of_block (a := ⟨R, 1, none⟩) hb]; exact h.c1
  · rw [World.frozen?_of_block (a := ⟨R, 0, none⟩) hb]; exact h.f0
  · rw [World.frozen?_of_block (a := ⟨R, 1, none⟩) hb]; exact h.f1
  · have := h.far b off e
    have := (hr b e'.symm).1
    omega

theorem grown_set {w w' : World} {R i : Nat} {v : Value} (h : w.grownBy w' (some R)) : w.grownBy (w'.setCell ⟨R, i, none⟩ v) (some R) :=
  ⟨h.os, h.tape, h.output, by simpa using h.size, fun k hk hne => by
    rw [Below.heap_setCell w' ⟨R, i, none⟩ v k (by intro e; exact hne (by rw [e]))]
    exact h.block k hk hne⟩
theorem grownR_refl (w : World) (row : Option Nat) : w.grownBy w row := ⟨rfl, rfl, rfl, Nat.le_refl _, fun _ _ _ => rfl⟩
theorem grownR_trans {a b c : World} {row : Option Nat} (h : a.grownBy b row) (k : b.grownBy c row) : a.grownBy c row := h.trans k

theorem IsB.drop {w : World} {a : Option Addr} {len cap : Nat} {bs : List Int} (h : IsB w a len cap bs) (k : Nat) (hk : k ≤ len) (hk0 : 0 < k) : ∃ b off, a = some ⟨b, off, none⟩ ∧ IsB w (some ⟨b, off + k, none⟩) (len - k) (cap - k) (bs.drop k) := by
  obtain ⟨h1, h2, h3, hbd, hn, h4⟩ := h
  obtain ⟨b, off, e, hlt, hl⟩ := h4 (by omega)
  refine ⟨b, off, e, by simp; omega, by omega, by omega, hbd.drop k, fun e => by simp at e, fun hp => ⟨b, off + k, rfl, hlt, fun i hi => ?_⟩⟩
  have := hl (k + i) (by omega)
  rw [show off + k + i = off + (k + i) by omega, this]
  simp [List.getD]

theorem refuse_any (R L : Nat) (st : RS) (e : Int) (w : World) (h : RdTo w R L st) (he : 0 ≤ e ∧ e ≤ 100) :
    Calls Tryd.prog 51 #[.pointer (some ⟨R, 0, none⟩), .int .i64 e] w fun r w' => r = .returned (.tuple #[]) ∧ RdTo w' R L (st.refuse e) ∧ w.grownBy w' (some R) := by
  obtain ⟨a, len, cap, c0, c1, f0, f1, hI, hfar, hLR, he0⟩ := h
  have hfar' : ∀ b off, a = some ⟨b, off, none⟩ → b ≠ R := fun b off e => by have := hfar b off e; omega
  by_cases hw : st.wrong = 0
  · have es : st.refuse e = ⟨st.rest, e⟩ := by simp [RS.refuse, hw]
    rw [es]
    rw [hw] at c1
    clear es
    go_enter Tryd.func51, Tryd.ntmps51
    go_wp2
    refine bodyPost_end (v := .tuple #[]) (by simp [results, Tryd.results51, go_sem]) rfl ⟨rfl, ⟨a, len, cap, by go_simp, by go_simp, by go_simp, by go_simp, hI.set _ _ hfar', hfar, hLR, he⟩, grown_set (grownR_refl _ _)⟩
  · have es : st.refuse e = st := by simp [RS.refuse, hw]
    rw [es]
    clear es
    go_enter Tryd.func51, Tryd.ntmps51
    go_wp2
    exact bodyPost_end (v := .tuple #[]) (by simp [results, Tryd.results51, go_sem]) rfl ⟨rfl, ⟨a, len, cap, c0, c1, f0, f1, hI, hfar, hLR, he0⟩, grownR_refl _ _⟩

theorem take_get {bs : List Int} {j : Nat} (h : j < bs.length) : bs.take (j + 1) = bs.take j ++ [bs.getD j 0] := by
  rw [List.take_succ_eq_append_getElem h]; simp [List.getD, h]

set_option maxRecDepth 100000 in
set_option maxHeartbeats 1000000 in
theorem number_any (R L : Nat) (st : RS) (k : Nat) (w : World) (h : RdTo w R L st) (hk : 1 ≤ k ∧ k ≤ 4) :
    Calls Tryd.prog 48 #[.pointer (some ⟨R, 0, none⟩), .int .i64 (k : Int)] w fun r w' => r = .returned (.int .i64 (st.num k).1) ∧ RdTo w' R L (st.num k).2 ∧ w.grownBy w' (some R) := by
  have hIs := h
  obtain ⟨a, len, cap, c0, c1, f0, f1, hI, hfar, hLR, he0⟩ := h
  have hlen := hI.1
  have hmax : len ≤ 9223372036854775807 := by have := hI.2.1; have := hI.2.2.1; unfold maxLen at this; omega
  have hmax' : (len : Int) ≤ 9223372036854775807 := by omega
  obtain ⟨k1, k4⟩ := hk
  have k1' : (1 : Int) ≤ k := by omega
  have k4' : (k : Int) ≤ 4 := by omega
  have hrf := fun w' hh => refuse_any R L st 5 w' hh (by omega)
  obtain ⟨rest, wrong⟩ := st
  simp only at hlen c1 hI he0 hrf
  by_cases hw : wrong = 0
  · subst hw
    by_cases hl : len < k
    · have hl' : (len : Int) < k := by omega
      have es : (RS.mk rest 0).num k = (0, ⟨rest, 5⟩) := num_short rfl (by simp only; omega)
      have er : (RS.mk rest 0).refuse 5 = ⟨rest, 5⟩ := by simp [RS.refuse]
      rw [er] at hrf
      rw [es]
      clear es er
      go_enter Tryd.func48, Tryd.ntmps48
      go_wp2_with (go_at_call 51; refine (hrf _ hIs).mono ?_; rintro e w1 ⟨rfl, h1, hg1⟩; obtain ⟨a1, l1, p1, h1'⟩ := id h1; have q0 := h1'.c0; have q1 := h1'.c1)
      go_ret
      exact ⟨rfl, h1, hg1⟩
    · have hl' : ¬ (len : Int) < k := by omega
      have es : (RS.mk rest 0).num k = (bval (rest.take k), ⟨rest.drop k, 0⟩) := num_ok rfl (by simp only; omega)
      rw [es]
      clear es hrf
      obtain ⟨b, off, rfl, hdr⟩ := hI.drop k (by omega) (by omega)
      obtain ⟨_, _, ee, hbl, hcell⟩ := hI.2.2.2.2.2 (by omega)
      simp only [Option.some.injEq, Addr.mk.injEq, and_true] at ee
      obtain ⟨rfl, rfl⟩ := ee
      have hbd := hI.2.2.2.1
      have hkc : k ≤ cap := by have := hI.2.1; omega
      have hkc' : (k : Int) ≤ cap := by omega
      have hkl' : (k : Int) ≤ len := by omega
      go_enter Tryd.func48, Tryd.ntmps48
      go_wp2
      go_loop [5, 29] (fun s5 s29 => ∃ j : Nat, j ≤ k ∧ s29 = .int .i64 j ∧ s5 = .int .i64 (bval (rest.take j))) (fun _ s29 => k - (intOf s29).toNat)
      case atStart => exact ⟨0, by omega, rfl, rfl⟩
      case round =>
        obtain ⟨j, hj, rfl, rfl⟩ := hrel
        by_cases hlt : j < k
        · have hlt' : (j : Int) < k := by omega
          have hr := hcell j (by omega)
          have hjr : j < rest.length := by omega
          have hb1 := hbd rest[j] (List.getElem_mem hjr)
          have hget : rest.getD j 0 = rest[j] := by simp [List.getD, hjr]
          rw [← hget] at hb1
          have hv := bval_bd j (rest.take j) (by simp; omega) (hbd.take j)
          have hp : (256 : Int) ^ j ≤ 16777216 := by
            rcases (by omega : j = 0 ∨ j = 1 ∨ j = 2 ∨ j = 3) with rfl | rfl | rfl | rfl <;> decide
          have hs : Hid (bval (rest.take (j + 1)) = bval (rest.take j) * 256 + rest.getD j 0) := by
            show bval _ = _
            rw [take_get hjr, bval_snoc]
          obtain ⟨x, ex⟩ : ∃ x, x = rest.getD j 0 := ⟨_, rfl⟩
          obtain ⟨n, en⟩ : ∃ n, n = bval (rest.take j) := ⟨_, rfl⟩
          rw [← ex] at hr hb1 hs
          rw [← en] at hv hs ⊢
          clear ex en hget
          obtain ⟨v0, v1⟩ := hv
          obtain ⟨x0, x1⟩ := hb1
          have v2 : n < 16777216 := by omega
          have hor := or_join v0 (by omega) x0 x1
          clear hp v1
          go_wp2
          first
            | (go_round
               case rel => exact ⟨j + 1, by omega, by go_num, by rw [hs.out]⟩
               case measure => simp [intOf]; omega)
            | exact ⟨⟨j + 1, by omega, by go_num, by rw [hs.out]⟩, by simp [intOf]; omega⟩
        · have hje : j = k := by omega
          subst hje
          have hbL := hfar b off rfl
          have hbR : ∀ (z b' off' : Nat), some (⟨b, z, none⟩ : Addr) = some ⟨b', off', none⟩ → b' ≠ R := fun z b' off' e => by simp at e; omega
          have hbL' : ∀ (z b' off' : Nat), some (⟨b, z, none⟩ : Addr) = some ⟨b', off', none⟩ → b' < L := fun z b' off' e => by simp at e; omega
          by_cases hcz : cap = j
          · have hlz : len = j := by have := hI.2.1; omega
            subst hcz
            have hrd : rest.drop cap = [] := List.drop_of_length_le (by omega)
            go_wp2
            go_ret
            refine ⟨rfl, ⟨some ⟨b, off, none⟩, 0, 0, by go_simp, by go_simp, by go_simp, by go_simp, ⟨rfl, Nat.le_refl _, Nat.zero_le _, fun x hx => by simp at hx, fun _ => rfl, fun h => absurd h (by omega)⟩, hbL' off, hLR, by simp⟩, grown_set (grownR_refl _ _)⟩
          · have hcz' : 0 < cap - j := by omega
            have hcz2 : ¬ ((cap : Int) - j = 0) := by omega
            go_wp2
            go_ret
            exact ⟨rfl, ⟨some ⟨b, off + j, none⟩, len - j, cap - j, by go_simp, by go_simp, by go_simp, by go_simp, hdr.set _ _ (hbR (off + j)), hbL' (off + j), hLR, by simp⟩, grown_set (grownR_refl _ _)⟩
  · have es : (RS.mk rest wrong).num k = (0, ⟨rest, wrong⟩) := num_wrong hw
    have er : (RS.mk rest wrong).refuse 5 = ⟨rest, wrong⟩ := by simp [RS.refuse, hw]
    rw [er] at hrf
    rw [es]
    clear es er
    by_cases hl : len < k
    · have hl' : (len : Int) < k := by omega
      go_enter Tryd.func48, Tryd.ntmps48
      go_wp2_with (go_at_call 51; refine (hrf _ hIs).mono ?_; rintro e w1 ⟨rfl, h1, hg1⟩; obtain ⟨a1, l1, p1, h1'⟩ := id h1; have q0 := h1'.c0; have q1 := h1'.c1)
      all_goals
        go_ret
        exact ⟨rfl, h1, hg1⟩
    · have hl' : ¬ (len : Int) < k := by omega
      go_enter Tryd.func48, Tryd.ntmps48
      go_wp2
      all_goals
        go_ret
        exact ⟨rfl, hIs, grownR_refl _ _⟩

theorem refuse_e {st : RS} {e : Int} : (st.refuse e).rest = st.rest := by unfold RS.refuse; split <;> rfl

theorem kindR_any (R L : Nat) (st : RS) (top : Int) (w : World) (h : RdTo w R L st) (ht : 0 ≤ top ∧ top ≤ 100) :
    Calls Tryd.prog 47 #[.pointer (some ⟨R, 0, none⟩), .int .i64 top] w fun r w' => r = .returned (.int .i64 (st.kind top).1) ∧ RdTo w' R L (st.kind top).2 ∧ w.grownBy w' (some R) := by
  have hn := number_any R L st 1 w h (by omega)
  obtain ⟨n, r1, en⟩ : ∃ n r1, st.num 1 = (n, r1) := ⟨_, _, rfl⟩
  unfold RS.kind
  rw [en] at hn ⊢
  simp only at hn ⊢
  have hrf := fun w' hh => refuse_any R L r1 3 w' hh (by omega)
  clear en
  by_cases h0 : n = 0
  · subst h0
    rw [if_pos (Or.inl rfl)]
    go_enter Tryd.func47, Tryd.ntmps47
    go_wp2_with (first
      | (go_at_call 48; refine hn.mono ?_; rintro e w1 ⟨rfl, h1, hg1⟩)
      | (go_at_call 51; refine (hrf _ h1).mono ?_; rintro e w2 ⟨rfl, h2, hg2⟩))
    go_ret
    exact ⟨rfl, h2, grownR_trans hg1 hg2⟩
  · by_cases htn : top ≤ n
    · rw [if_pos (Or.inr htn)]
      have hb0 : (n == 0) = false := by simpa using h0
      go_enter Tryd.func47, Tryd.ntmps47
      go_wp2_with (first
        | (go_at_call 48; refine hn.mono ?_; rintro e w1 ⟨rfl, h1, hg1⟩)
        | (go_at_call 51; refine (hrf _ h1).mono ?_; rintro e w2 ⟨rfl, h2, hg2⟩))
      go_ret
      exact ⟨rfl, h2, grownR_trans hg1 hg2⟩
    · rw [if_neg (by omega)]
      have hb0 : (n == 0) = false := by simpa using h0
      have htn' : n < top := by omega
      go_enter Tryd.func47, Tryd.ntmps47
      go_wp2_with (go_at_call 48; refine hn.mono ?_; rintro e w1 ⟨rfl, h1, hg1⟩)
      go_ret
      exact ⟨rfl, h1, hg1⟩

theorem endR_any (R L : Nat) (st : RS) (w : World) (h : RdTo w R L st) :
    Calls Tryd.prog 25 #[.pointer (some ⟨R, 0, none⟩)] w fun r w' => r = .returned (.int .i64 st.fin.wrong) ∧ w.grownBy w' (some R) := by
  have hrf := fun w' hh => refuse_any R L st 4 w' hh (by omega)
  have hIs := h
  obtain ⟨a, len, cap, c0, c1, f0, f1, hI, hfar, hLR, he0⟩ := h
  have hlen := hI.1
  have hmax : len ≤ 9223372036854775807 := by have := hI.2.1; have := hI.2.2.1; unfold maxLen at this; omega
  have hmax' : (len : Int) ≤ 9223372036854775807 := by omega
  unfold RS.fin
  by_cases hl : 0 < len
  · rw [if_pos (by omega)]
    have hl' : (0 : Int) < len := by omega
    obtain ⟨r2, e2⟩ : ∃ r2, r2 = st.refuse 4 := ⟨_, rfl⟩
    rw [← e2] at hrf ⊢
    clear e2
    go_enter Tryd.func25, Tryd.ntmps25
    go_wp2_with (go_at_call 51; refine (hrf _ hIs).mono ?_; rintro e w1 ⟨rfl, h1, hg1⟩; obtain ⟨a1, l1, p1, h1'⟩ := id h1; have q1 := h1'.c1)
    go_ret
    exact ⟨rfl, hg1⟩
  · rw [if_neg (by omega)]
    have hl' : ¬ (0 : Int) < len := by omega
    go_enter Tryd.func25, Tryd.ntmps25
    go_wp2
    go_ret
    exact ⟨rfl, grownR_refl _ _⟩

theorem txnRd_any (R L : Nat) (st : RS) (w : World) (h : RdTo w R L st) (hR : R < w.heap.size) :
    Calls Tryd.prog 49 #[.pointer (some ⟨R, 0, none⟩)] w fun r w' => r = .returned (.agg #[.int .i64 (st.num 1).1, .int .i64 ((st.num 1).2.num 3).1]) ∧ RdTo w' R L ((st.num 1).2.num 3).2 ∧ w.grownBy w' (some R) := by
  obtain ⟨W, hW⟩ : ∃ W : World, W = w.alloc (.cells #[.int .i64 0, .int .i64 0] 27) := ⟨_, rfl⟩
  have hG : w.grownBy W none := by rw [hW]; exact World.grownBy_alloc w _ none
  have zW : W.heap.size = w.heap.size + 1 := by rw [hW]; simp
  have d0 : W.cell? ⟨w.heap.size, 0, none⟩ = some (.int .i64 0) := by rw [hW]; go_simp
  have d1 : W.cell? ⟨w.heap.size, 1, none⟩ = some (.int .i64 0) := by rw [hW]; go_simp
  have f0 : W.frozen? ⟨w.heap.size, 0, none⟩ = false := by rw [hW]; go_simp
  have f1 : W.frozen? ⟨w.heap.size, 1, none⟩ = false := by rw [hW]; go_simp
  have hRW := h.grown hG (fun k hk => by cases hk)
  have hLR := h.hL
  have hne : some w.heap.size ≠ some R := by simp; omega
  have hn1 := fun w' hh => number_any R L st 1 w' hh (by omega)
  obtain ⟨n1, r1, e1⟩ : ∃ n r1, st.num 1 = (n, r1) := ⟨_, _, rfl⟩
  have hn2 := fun w' hh => number_any R L r1 3 w' hh (by omega)
  obtain ⟨n2, r2, e2⟩ : ∃ n r2, r1.num 3 = (n, r2) := ⟨_, _, rfl⟩
  rw [e1] at hn1 ⊢
  simp only at hn1 ⊢
  rw [e2] at hn2 ⊢
  simp only at hn2 ⊢
  clear e1 e2
  have KC : Hid (∀ V : World, W.grownBy V (some R) → V.cell? ⟨w.heap.size, 0, none⟩ = some (.int .i64 0) ∧ V.cell? ⟨w.heap.size, 1, none⟩ = some (.int .i64 0) ∧ V.frozen? ⟨w.heap.size, 0, none⟩ = false ∧ V.frozen? ⟨w.heap.size, 1, none⟩ = false) := by
    intro V hV
    have hb := hV.block w.heap.size (by omega) hne
    exact ⟨hV.cell d0 hne, hV.cell d1 hne, (World.frozen?_of_block (a := ⟨w.heap.size, 0, none⟩) hb).trans f0, (World.frozen?_of_block (a := ⟨w.heap.size, 1, none⟩) hb).trans f1⟩
  go_enter Tryd.func49, Tryd.ntmps49
  go_upto_region 1 with (fail)
  rw [← hW]
  clear hW d0 d1 f0 f1
  go_wp2_with (first
    | (go_at_call 48; refine (hn1 _ hRW).mono ?_; rintro e w1 ⟨rfl, h1, hg1⟩; clear hn1)
    | (go_at_call 48; refine (hn2 _ h1).mono ?_; rintro e w2 ⟨rfl, h2, hg2⟩; have hg : W.grownBy w2 (some R) := grownR_trans hg1 hg2; obtain ⟨k0, k1, k2, k3⟩ := KC.out _ hg))
  have hfin : w.grownBy ((w2.setCell ⟨w.heap.size, 0, none⟩ (.int .i64 n1)).setCell ⟨w.heap.size, 1, none⟩ (.int .i64 n2)) (some R) := by
    refine ⟨hg.os.trans hG.os, hg.tape.trans hG.tape, hg.output.trans hG.output, by have := hg.size; simp; omega, fun k hk hkne => ?_⟩
    rw [Below.heap_setCell _ _ _ k (by simp; omega), Below.heap_setCell _ _ _ k (by simp; omega), hg.block k (by omega) hkne, hG.block k hk (by simp)]
  have hset : w2.grownBy ((w2.setCell ⟨w.heap.size, 0, none⟩ (.int .i64 n1)).setCell ⟨w.heap.size, 1, none⟩ (.int .i64 n2)) (some w.heap.size) := grown_set (grown_set (grownR_refl _ _))
  refine bodyPost_ret (v := .agg #[.int .i64 n1, .int .i64 n2]) (by simp [results, Tryd.results49, go_sem, k0, k1]) rfl ⟨rfl, h2.grown hset (fun k hk => by simp at hk; omega), hfin⟩
end Go.Proofs.YtflfcjbgkpfgkaaDoor
/- The contract of wire.CheckMessage: at every config and message it returns the fault that msgFault tells, and leaves what was in memory. -/
namespace Go.Proofs.YtflfcjbgkpfgkaaDoor
open Go.ChangeShapes Go.WideShapes Go.ChangeAt Go.RowKit
set_option linter.unusedVariables false

/-- A table of which kind has which parts, as the program lays it. -/
def HasAt (w : World) (g : Nat) (t : List (List Bool)) : Prop := ∀ i j, i < t.length → j < 8 → w.cell? ⟨g, i * 8 + j, none⟩ = some (.bool ((t.getD i []).getD j false))
theorem HasAt.below {w w' : World} {B g : Nat} {t : List (List Bool)} (h : HasAt w g t) (hb : Below B w w') (hB : g < B) : HasAt w' g t := by
  intro i j hi hj
  rw [hb.cell (p := ⟨g, i * 8 + j, none⟩) hB]
  exact h i j hi hj

theorem HasAt.lt {w : World} {g : Nat} {t : List (List Bool)} (h : HasAt w g t) (ht : 0 < t.length) : g < w.heap.size := World.block_lt_of_cell? w _ (h 0 0 ht (by decide))

theorem mHas_eight (k : Nat) (hk : k < 10) : mHas.getD k [] = [(mHas.getD k []).getD 0 false, (mHas.getD k []).getD 1 false, (mHas.getD k []).getD 2 false, (mHas.getD k []).getD 3 false, (mHas.getD k []).getD 4 false, (mHas.getD k []).getD 5 false, (mHas.getD k []).getD 6 false, (mHas.getD k []).getD 7 false] := by
  rcases (by omega : k = 0 ∨ k = 1 ∨ k = 2 ∨ k = 3 ∨ k = 4 ∨ k = 5 ∨ k = 6 ∨ k = 7 ∨ k = 8 ∨ k = 9) with rfl | rfl | rfl | rfl | rfl | rfl | rfl | rfl | rfl | rfl <;> rfl

set_option maxRecDepth 100000 in
set_option maxHeartbeats 4000000 in
theorem checkMessage_any (s p : Int) (a : Option Addr) (len cap : Nat) (ls : List (Int × Int)) (m : MV) (w : World) (h : IsLabs w a len cap ls) (hm : HasAt w 0 mHas) (ht : TopsAt w) :
    Calls Tryd.prog 26 #[.agg #[.int .i64 s, .slice a len cap, .int .i64 p], m.val] w fun e w' => e = .returned (.int .i64 (msgFault s ls p m)) ∧ Below w.heap.size w w' := by
  have hPs := fun w' => messageParts_any m w'
  have hgT : 3 < w.heap.size := World.block_lt_of_cell? w _ ht.1
  have hgM : 0 < w.heap.size := hm.lt (by decide)
  obtain ⟨kind, frm, dst, site, num, label, key, value, version, ask, yes, code⟩ := m
  obtain ⟨M, eM⟩ : ∃ M : MV, M = ⟨kind, frm, dst, site, num, label, key, value, version, ask, yes, code⟩ := ⟨_, rfl⟩
  have EM : Hid (M = ⟨kind, frm, dst, site, num, label, key, value, version, ask, yes, code⟩) := eM
  rw [← eM]
  rw [eM]
  have hMF : ∀ v, msgFault s ls p M = v → msgFault s ls p ⟨kind, frm, dst, site, num, label, key, value, version, ask, yes, code⟩ = v := fun v hv => by rw [← eM]; exact hv
  have MF : Hid (∀ v, msgFault s ls p M = v → msgFault s ls p ⟨kind, frm, dst, site, num, label, key, value, version, ask, yes, code⟩ = v) := hMF
  clear hMF eM
  simp only [MV.val] at hPs ⊢
  obtain ⟨W, hW⟩ : ∃ W : World, W = (w.alloc (.cells #[.int .i64 s, .slice a len cap, .int .i64 p] 24)).alloc (.cells #[.int .i64 kind, .int .i64 frm, .int .i64 dst, .int .i64 site, .int .i64 num, .int .i64 label, .int .i64 key, .int .i64 value, .int .i64 version, .int .i64 ask, .bool yes, .int .i64 code] 30) := ⟨_, rfl⟩
  have hB : Below w.heap.size w W := by rw [hW]; exact ((Below.refl _ _).alloc (Nat.le_refl _) _).alloc (by simp) _
  have zW : W.heap.size = w.heap.size + 2 := by rw [hW]; simp
  have c0 : W.cell? ⟨w.heap.size, 0, none⟩ = some (.int .i64 s) := by rw [hW]; go_simp
  have c1 : W.cell? ⟨w.heap.size, 1, none⟩ = some (.slice a len cap) := by rw [hW]; go_simp
  have c2 : W.cell? ⟨w.heap.size, 2, none⟩ = some (.int .i64 p) := by rw [hW]; go_simp
  have d0 : W.cell? ⟨w.heap.size + 1, 0, none⟩ = some (.int .i64 kind) := by rw [hW]; go_simp
  have d1 : W.cell? ⟨w.heap.size + 1, 1, none⟩ = some (.int .i64 frm) := by rw [hW]; go_simp
  have d2 : W.cell? ⟨w.heap.size + 1, 2, none⟩ = some (.int .i64 dst) := by rw [hW]; go_simp
  have d3 : W.cell? ⟨w.heap.size + 1, 3, none⟩ = some (.int .i64 site) := by rw [hW]; go_simp
  have d4 : W.cell? ⟨w.heap.size + 1, 4, none⟩ = some (.int .i64 num) := by rw [hW]; go_simp
  have d5 : W.cell? ⟨w.heap.size + 1, 5, none⟩ = some (.int .i64 label) := by rw [hW]; go_simp
  have d6 : W.cell? ⟨w.heap.size + 1, 6, none⟩ = some (.int .i64 key) := by rw [hW]; go_simp
  have d7 : W.cell? ⟨w.heap.size + 1, 7, none⟩ = some (.int .i64 value) := by rw [hW]; go_simp
  have d8 : W.cell? ⟨w.heap.size + 1, 8, none⟩ = some (.int .i64 version) := by rw [hW]; go_simp
  have d9 : W.cell? ⟨w.heap.size + 1, 9, none⟩ = some (.int .i64 ask) := by rw [hW]; go_simp
  have d10 : W.cell? ⟨w.heap.size + 1, 10, none⟩ = some (.bool yes) := by rw [hW]; go_simp
  have d11 : W.cell? ⟨w.heap.size + 1, 11, none⟩ = some (.int .i64 code) := by rw [hW]; go_simp
  have hLW := h.below hB
  have tW : TopsAt W := ht.below hB (by omega)
  have mW : HasAt W 0 mHas := hm.below hB (by omega)
  go_enter Tryd.func26, Tryd.ntmps26
  go_upto_region 1 with (fail)
  rw [← hW]
  clear hW ht hm
  by_cases hF : cfgFault s ls p = 0
  · obtain ⟨s1, s4, n1, n6, _, _, _⟩ := cfg_zero hF
    have hlen : Hid (ls.length = len) := h.1
    have l6 : len ≤ 6 := by have := hlen.out; omega
    go_upto_region 4 with (go_at_call 23; refine (check_any s p a len cap ls _ hLW).mono ?_; rintro e w1 ⟨rfl, hb1⟩)
    have KC : Hid (∀ (V : World), Below W.heap.size W V → (V.cell? ⟨w.heap.size, 0, none⟩ = some (.int .i64 s) ∧ V.cell? ⟨w.heap.size, 1, none⟩ = some (.slice a len cap) ∧ V.cell? ⟨w.heap.size, 2, none⟩ = some (.int .i64 p)) ∧
        V.cell? ⟨w.heap.size + 1, 0, none⟩ = some (.int .i64 kind) ∧ V.cell? ⟨w.heap.size + 1, 1, none⟩ = some (.int .i64 frm) ∧ V.cell? ⟨w.heap.size + 1, 2, none⟩ = some (.int .i64 dst) ∧ V.cell? ⟨w.heap.size + 1, 3, none⟩ = some (.int .i64 site) ∧ V.cell? ⟨w.heap.size + 1, 4, none⟩ = some (.int .i64 num) ∧ V.cell? ⟨w.heap.size + 1, 5, none⟩ = some (.int .i64 label) ∧ V.cell? ⟨w.heap.size + 1, 6, none⟩ = some (.int .i64 key) ∧ V.cell? ⟨w.heap.size + 1, 7, none⟩ = some (.int .i64 value) ∧ V.cell? ⟨w.heap.size + 1, 8, none⟩ = some (.int .i64 version) ∧ V.cell? ⟨w.heap.size + 1, 9, none⟩ = some (.int .i64 ask) ∧ V.cell? ⟨w.heap.size + 1, 10, none⟩ = some (.bool yes) ∧ V.cell? ⟨w.heap.size + 1, 11, none⟩ = some (.int .i64 code)) := by
      intro V hV
      have e0 : ∀ o, V.cell? ⟨w.heap.size, o, none⟩ = W.cell? ⟨w.heap.size, o, none⟩ := fun o => hV.cell (p := ⟨w.heap.size, o, none⟩) (by show w.heap.size < _; omega)
      have e1 : ∀ o, V.cell? ⟨w.heap.size + 1, o, none⟩ = W.cell? ⟨w.heap.size + 1, o, none⟩ := fun o => hV.cell (p := ⟨w.heap.size + 1, o, none⟩) (by show w.heap.size + 1 < _; omega)
      simp only [e0, e1]
      exact ⟨⟨c0, c1, c2⟩, d0, d1, d2, d3, d4, d5, d6, d7, d8, d9, d10, d11⟩
    clear c0 c1 c2 d0 d1 d2 d3 d4 d5 d6 d7 d8 d9 d10 d11
    obtain ⟨⟨c0, c1, c2⟩, d0, d1, d2, d3, d4, d5, d6, d7, d8, d9, d10, d11⟩ := KC.out w1 hb1
    cases hK : inR kind 1 9 with
    | false =>
      have hf := MF.out 3 (mf_kind hF (by rw [EM.out]; exact hK))
      go_wp2_with (go_at_call 44; refine (within_any _ _ _ _).mono ?_; rintro e u1 ⟨rfl, hu1⟩; rw [hu1]; clear hu1)
      go_ret
      exact ⟨ret_int hf.symm, hB.trans (hb1.mono hB.size)⟩
    | true =>
      have kb := inR_of hK
      obtain ⟨k, rfl⟩ : ∃ k : Nat, kind = k := ⟨kind.toNat, by omega⟩
      have k10 : k < 10 := by omega
      have k9 : (k : Int) < 10 := by omega
      go_upto_region 6 with (go_at_call 44; refine (within_any _ _ _ _).mono ?_; rintro e u1 ⟨rfl, hu1⟩; rw [hu1]; clear hu1)
      go_upto_region 7 with (go_at_call 52; refine (hPs _).mono ?_; rintro e w2 ⟨rfl, hb2⟩)
      obtain ⟨V, hV⟩ : ∃ V : World, V = w2.alloc (.cells #[.int .i64 label, .int .i64 key, .int .i64 value, .int .i64 version, .int .i64 ask, .int .i64 (bit yes), .int .i64 code, .int .i64 0] 92) := ⟨_, rfl⟩
      have hbW : Below W.heap.size W V := by rw [hV]; exact (hb1.trans (hb2.mono hb1.size)).alloc (by have := hb1.size; have := hb2.size; omega) _
      have zV : V.heap.size = w2.heap.size + 1 := by rw [hV]; simp
      have zw2 : W.heap.size ≤ w2.heap.size := Nat.le_trans hb1.size hb2.size
      have e0 : V.cell? ⟨w2.heap.size, 0, none⟩ = some (.int .i64 label) := by rw [hV]; go_simp
      have e1 : V.cell? ⟨w2.heap.size, 1, none⟩ = some (.int .i64 key) := by rw [hV]; go_simp
      have e2 : V.cell? ⟨w2.heap.size, 2, none⟩ = some (.int .i64 value) := by rw [hV]; go_simp
      have e3 : V.cell? ⟨w2.heap.size, 3, none⟩ = some (.int .i64 version) := by rw [hV]; go_simp
      have e4 : V.cell? ⟨w2.heap.size, 4, none⟩ = some (.int .i64 ask) := by rw [hV]; go_simp
      have e5 : V.cell? ⟨w2.heap.size, 5, none⟩ = some (.int .i64 (bit yes)) := by rw [hV]; go_simp
      have e6 : V.cell? ⟨w2.heap.size, 6, none⟩ = some (.int .i64 code) := by rw [hV]; go_simp
      have e7 : V.cell? ⟨w2.heap.size, 7, none⟩ = some (.int .i64 0) := by rw [hV]; go_simp
      rw [← hV]
      clear hV
      have tV : TopsAt V := tW.below hbW (by omega)
      have mV : HasAt V 0 mHas := mW.below hbW (by omega)
      have EH : Hid (mHas.getD k [] = [(mHas.getD k []).getD 0 false, (mHas.getD k []).getD 1 false, (mHas.getD k []).getD 2 false, (mHas.getD k []).getD 3 false, (mHas.getD k []).getD 4 false, (mHas.getD k []).getD 5 false, (mHas.getD k []).getD 6 false, (mHas.getD k []).getD 7 false]) := mHas_eight k k10
      have f0 := mV k 0 k10 (by decide)
      have f1 := mV k 1 k10 (by decide)
      have f2 := mV k 2 k10 (by decide)
      have f3 := mV k 3 k10 (by decide)
      have f4 := mV k 4 k10 (by decide)
      have f5 := mV k 5 k10 (by decide)
      have f6 := mV k 6 k10 (by decide)
      have f7 := mV k 7 k10 (by decide)
      obtain ⟨h0, eh0⟩ : ∃ x, x = (mHas.getD k []).getD 0 false := ⟨_, rfl⟩
      obtain ⟨h1, eh1⟩ : ∃ x, x = (mHas.getD k []).getD 1 false := ⟨_, rfl⟩
      obtain ⟨h2, eh2⟩ : ∃ x, x = (mHas.getD k []).getD 2 false := ⟨_, rfl⟩
      obtain ⟨h3, eh3⟩ : ∃ x, x = (mHas.getD k []).getD 3 false := ⟨_, rfl⟩
      obtain ⟨h4, eh4⟩ : ∃ x, x = (mHas.getD k []).getD 4 false := ⟨_, rfl⟩
      obtain ⟨h5, eh5⟩ : ∃ x, x = (mHas.getD k []).getD 5 false := ⟨_, rfl⟩
      obtain ⟨h6, eh6⟩ : ∃ x, x = (mHas.getD k []).getD 6 false := ⟨_, rfl⟩
      obtain ⟨h7, eh7⟩ : ∃ x, x = (mHas.getD k []).getD 7 false := ⟨_, rfl⟩
      rw [← eh0, ← eh1, ← eh2, ← eh3, ← eh4, ← eh5, ← eh6, ← eh7] at EH
      rw [← eh0] at f0
      rw [← eh1] at f1
      rw [← eh2] at f2
      rw [← eh3] at f3
      rw [← eh4] at f4
      rw [← eh5] at f5
      rw [← eh6] at f6
      rw [← eh7] at f7
      clear eh0 eh1 eh2 eh3 eh4 eh5 eh6 eh7
      simp only [Nat.add_zero] at f0
      have KA : Hid (∀ (U : World), Below V.heap.size V U → (U.cell? ⟨w.heap.size, 0, none⟩ = some (.int .i64 s) ∧ U.cell? ⟨w.heap.size, 1, none⟩ = some (.slice a len cap) ∧ U.cell? ⟨w.heap.size, 2, none⟩ = some (.int .i64 p)) ∧ (U.cell? ⟨w.heap.size + 1, 0, none⟩ = some (.int .i64 k) ∧ U.cell? ⟨w.heap.size + 1, 1, none⟩ = some (.int .i64 frm) ∧ U.cell? ⟨w.heap.size + 1, 2, none⟩ = some (.int .i64 dst) ∧ U.cell? ⟨w.heap.size + 1, 3, none⟩ = some (.int .i64 site) ∧ U.cell? ⟨w.heap.size + 1, 4, none⟩ = some (.int .i64 num) ∧ U.cell? ⟨w.heap.size + 1, 5, none⟩ = some (.int .i64 label) ∧ U.cell? ⟨w.heap.size + 1, 6, none⟩ = some (.int .i64 key) ∧ U.cell? ⟨w.heap.size + 1, 7, none⟩ = some (.int .i64 value) ∧ U.cell? ⟨w.heap.size + 1, 8, none⟩ = some (.int .i64 version) ∧ U.cell? ⟨w.heap.size + 1, 9, none⟩ = some (.int .i64 ask) ∧ U.cell? ⟨w.heap.size + 1, 10, none⟩ = some (.bool yes) ∧ U.cell? ⟨w.heap.size + 1, 11, none⟩ = some (.int .i64 code)) ∧ (U.cell? ⟨w2.heap.size, 0, none⟩ = some (.int .i64 label) ∧ U.cell? ⟨w2.heap.size, 1, none⟩ = some (.int .i64 key) ∧ U.cell? ⟨w2.heap.size, 2, none⟩ = some (.int .i64 value) ∧ U.cell? ⟨w2.heap.size, 3, none⟩ = some (.int .i64 version) ∧ U.cell? ⟨w2.heap.size, 4, none⟩ = some (.int .i64 ask) ∧ U.cell? ⟨w2.heap.size, 5, none⟩ = some (.int .i64 (bit yes)) ∧ U.cell? ⟨w2.heap.size, 6, none⟩ = some (.int .i64 code) ∧ U.cell? ⟨w2.heap.size, 7, none⟩ = some (.int .i64 0)) ∧ (U.cell? ⟨0, k * 8, none⟩ = some (.bool h0) ∧ U.cell? ⟨0, k * 8 + 1, none⟩ = some (.bool h1) ∧ U.cell? ⟨0, k * 8 + 2, none⟩ = some (.bool h2) ∧ U.cell? ⟨0, k * 8 + 3, none⟩ = some (.bool h3) ∧ U.cell? ⟨0, k * 8 + 4, none⟩ = some (.bool h4) ∧ U.cell? ⟨0, k * 8 + 5, none⟩ = some (.bool h5) ∧ U.cell? ⟨0, k * 8 + 6, none⟩ = some (.bool h6) ∧ U.cell? ⟨0, k * 8 + 7, none⟩ = some (.bool h7))) := by
        intro U hU
        have q1 : ∀ o, U.cell? ⟨w2.heap.size, o, none⟩ = V.cell? ⟨w2.heap.size, o, none⟩ := fun o => hU.cell (p := ⟨w2.heap.size, o, none⟩) (by show w2.heap.size < _; omega)
        have q2 : ∀ o, U.cell? ⟨0, o, none⟩ = V.cell? ⟨0, o, none⟩ := fun o => hU.cell (p := ⟨0, o, none⟩) (by show 0 < _; omega)
        obtain ⟨hc, hd⟩ := KC.out U (hbW.trans (hU.mono hbW.size))
        refine ⟨hc, hd, ?_, ?_⟩
        · simp only [q1]
          exact ⟨e0, e1, e2, e3, e4, e5, e6, e7⟩
        · simp only [q2]
          exact ⟨f0, f1, f2, f3, f4, f5, f6, f7⟩
      clear c0 c1 c2 d0 d1 d2 d3 d4 d5 d6 d7 d8 d9 d10 d11 e0 e1 e2 e3 e4 e5 e6 e7 f0 f1 f2 f3 f4 f5 f6 f7
      have hbv : Below V.heap.size V V := Below.refl _ _
      have hbw : Below w.heap.size w V := hB.trans (hbW.mono hB.size)
      obtain ⟨⟨c0, c1, c2⟩, ⟨d0, d1, d2, d3, d4, d5, d6, d7, d8, d9, d10, d11⟩, ⟨e0, e1, e2, e3, e4, e5, e6, e7⟩, ⟨f0, f1, f2, f3, f4, f5, f6, f7⟩⟩ := KA.out _ hbv
      have hRng : Hid (msgRange s ls.length M = (inR frm 0 (s - 1) && inR dst 0 (s - 1) && txnOK s site num && partsOK len [label, key, value, version, ask, bit yes, code, 0])) := by
        show msgRange s ls.length M = _
        rw [EM.out, hlen.out]
        rfl
      cases g1 : inR frm 0 (s - 1) with
      | false =>
        have hf := MF.out 2 (mf_range hF (by rw [EM.out]; exact hK) (by rw [hRng.out, g1]; rfl))
        go_wp2_with (first
          | (go_at_call 53; refine (site_any s p a len cap _ _ ⟨s1, s4⟩).mono ?_; rintro e u ⟨rfl, hu⟩; replace hbv := hbv.trans (hu.mono hbv.size); clear hu c0 c1 c2 d0 d1 d2 d3 d4 d5 d6 d7 d8 d9 d10 d11 e0 e1 e2 e3 e4 e5 e6 e7; obtain ⟨⟨c0, c1, c2⟩, ⟨d0, d1, d2, d3, d4, d5, d6, d7, d8, d9, d10, d11⟩, ⟨e0, e1, e2, e3, e4, e5, e6, e7⟩, ⟨f0, f1, f2, f3, f4, f5, f6, f7⟩⟩ := KA.out _ hbv)
          | (go_at_call 54; refine (txn_any site num s _ ⟨s1, s4⟩).mono ?_; rintro e u ⟨rfl, hu⟩; replace hbv := hbv.trans (hu.mono hbv.size); clear hu c0 c1 c2 d0 d1 d2 d3 d4 d5 d6 d7 d8 d9 d10 d11 e0 e1 e2 e3 e4 e5 e6 e7; obtain ⟨⟨c0, c1, c2⟩, ⟨d0, d1, d2, d3, d4, d5, d6, d7, d8, d9, d10, d11⟩, ⟨e0, e1, e2, e3, e4, e5, e6, e7⟩, ⟨f0, f1, f2, f3, f4, f5, f6, f7⟩⟩ := KA.out _ hbv)
          | (go_at_call 55; refine (inBoundsW_any s p a len cap label key value version ask (bit yes) code 0 _ l6 (tV.below hbv (by omega)) (by have := hbv.size; omega)).mono ?_; rintro e u ⟨rfl, hu⟩; replace hbv := hbv.trans (hu.mono hbv.size); clear hu c0 c1 c2 d0 d1 d2 d3 d4 d5 d6 d7 d8 d9 d10 d11 e0 e1 e2 e3 e4 e5 e6 e7; obtain ⟨⟨c0, c1, c2⟩, ⟨d0, d1, d2, d3, d4, d5, d6, d7, d8, d9, d10, d11⟩, ⟨e0, e1, e2, e3, e4, e5, e6, e7⟩, ⟨f0, f1, f2, f3, f4, f5, f6, f7⟩⟩ := KA.out _ hbv))
        go_ret
        exact ⟨ret_int hf.symm, hbw.trans (hbv.mono hbw.size)⟩
      | true =>
      cases g2 : inR dst 0 (s - 1) with
      | false =>
        have hf := MF.out 2 (mf_range hF (by rw [EM.out]; exact hK) (by rw [hRng.out, g1, g2]; rfl))
        go_wp2_with (first
          | (go_at_call 53; refine (site_any s p a len cap _ _ ⟨s1, s4⟩).mono ?_; rintro e u ⟨rfl, hu⟩; replace hbv := hbv.trans (hu.mono hbv.size); clear hu c0 c1 c2 d0 d1 d2 d3 d4 d5 d6 d7 d8 d9 d10 d11 e0 e1 e2 e3 e4 e5 e6 e7; obtain ⟨⟨c0, c1, c2⟩, ⟨d0, d1, d2, d3, d4, d5, d6, d7, d8, d9, d10, d11⟩, ⟨e0, e1, e2, e3, e4, e5, e6, e7⟩, ⟨f0, f1, f2, f3, f4, f5, f6, f7⟩⟩ := KA.out _ hbv)
          | (go_at_call 54; refine (txn_any site num s _ ⟨s1, s4⟩).mono ?_; rintro e u ⟨rfl, hu⟩; replace hbv := hbv.trans (hu.mono hbv.size); clear hu c0 c1 c2 d0 d1 d2 d3 d4 d5 d6 d7 d8 d9 d10 d11 e0 e1 e2 e3 e4 e5 e6 e7; obtain ⟨⟨c0, c1, c2⟩, ⟨d0, d1, d2, d3, d4, d5, d6, d7, d8, d9, d10, d11⟩, ⟨e0, e1, e2, e3, e4, e5, e6, e7⟩, ⟨f0, f1, f2, f3, f4, f5, f6, f7⟩⟩ := KA.out _ hbv)
          | (go_at_call 55; refine (inBoundsW_any s p a len cap label key value version ask (bit yes) code 0 _ l6 (tV.below hbv (by omega)) (by have := hbv.size; omega)).mono ?_; rintro e u ⟨rfl, hu⟩; replace hbv := hbv.trans (hu.mono hbv.size); clear hu c0 c1 c2 d0 d1 d2 d3 d4 d5 d6 d7 d8 d9 d10 d11 e0 e1 e2 e3 e4 e5 e6 e7; obtain ⟨⟨c0, c1, c2⟩, ⟨d0, d1, d2, d3, d4, d5, d6, d7, d8, d9, d10, d11⟩, ⟨e0, e1, e2, e3, e4, e5, e6, e7⟩, ⟨f0, f1, f2, f3, f4, f5, f6, f7⟩⟩ := KA.out _ hbv))
        go_ret
        exact ⟨ret_int hf.symm, hbw.trans (hbv.mono hbw.size)⟩
      | true =>
      cases g3 : txnOK s site num with
      | false =>
        have hf := MF.out 2 (mf_range hF (by rw [EM.out]; exact hK) (by rw [hRng.out, g1, g2, g3]; rfl))
        go_wp2_with (first
          | (go_at_call 53; refine (site_any s p a len cap _ _ ⟨s1, s4⟩).mono ?_; rintro e u ⟨rfl, hu⟩; replace hbv := hbv.trans (hu.mono hbv.size); clear hu c0 c1 c2 d0 d1 d2 d3 d4 d5 d6 d7 d8 d9 d10 d11 e0 e1 e2 e3 e4 e5 e6 e7; obtain ⟨⟨c0, c1, c2⟩, ⟨d0, d1, d2, d3, d4, d5, d6, d7, d8, d9, d10, d11⟩, ⟨e0, e1, e2, e3, e4, e5, e6, e7⟩, ⟨f0, f1, f2, f3, f4, f5, f6, f7⟩⟩ := KA.out _ hbv)
          | (go_at_call 54; refine (txn_any site num s _ ⟨s1, s4⟩).mono ?_; rintro e u ⟨rfl, hu⟩; replace hbv := hbv.trans (hu.mono hbv.size); clear hu c0 c1 c2 d0 d1 d2 d3 d4 d5 d6 d7 d8 d9 d10 d11 e0 e1 e2 e3 e4 e5 e6 e7; obtain ⟨⟨c0, c1, c2⟩, ⟨d0, d1, d2, d3, d4, d5, d6, d7, d8, d9, d10, d11⟩, ⟨e0, e1, e2, e3, e4, e5, e6, e7⟩, ⟨f0, f1, f2, f3, f4, f5, f6, f7⟩⟩ := KA.out _ hbv)
          | (go_at_call 55; refine (inBoundsW_any s p a len cap label key value version ask (bit yes) code 0 _ l6 (tV.below hbv (by omega)) (by have := hbv.size; omega)).mono ?_; rintro e u ⟨rfl, hu⟩; replace hbv := hbv.trans (hu.mono hbv.size); clear hu c0 c1 c2 d0 d1 d2 d3 d4 d5 d6 d7 d8 d9 d10 d11 e0 e1 e2 e3 e4 e5 e6 e7; obtain ⟨⟨c0, c1, c2⟩, ⟨d0, d1, d2, d3, d4, d5, d6, d7, d8, d9, d10, d11⟩, ⟨e0, e1, e2, e3, e4, e5, e6, e7⟩, ⟨f0, f1, f2, f3, f4, f5, f6, f7⟩⟩ := KA.out _ hbv))
        go_ret
        exact ⟨ret_int hf.symm, hbw.trans (hbv.mono hbw.size)⟩
      | true =>
      cases g4 : partsOK len [label, key, value, version, ask, bit yes, code, 0] with
      | false =>
        have hf := MF.out 2 (mf_range hF (by rw [EM.out]; exact hK) (by rw [hRng.out, g1, g2, g3, g4]; rfl))
        go_wp2_with (first
          | (go_at_call 53; refine (site_any s p a len cap _ _ ⟨s1, s4⟩).mono ?_; rintro e u ⟨rfl, hu⟩; replace hbv := hbv.trans (hu.mono hbv.size); clear hu c0 c1 c2 d0 d1 d2 d3 d4 d5 d6 d7 d8 d9 d10 d11 e0 e1 e2 e3 e4 e5 e6 e7; obtain ⟨⟨c0, c1, c2⟩, ⟨d0, d1, d2, d3, d4, d5, d6, d7, d8, d9, d10, d11⟩, ⟨e0, e1, e2, e3, e4, e5, e6, e7⟩, ⟨f0, f1, f2, f3, f4, f5, f6, f7⟩⟩ := KA.out _ hbv)
          | (go_at_call 54; refine (txn_any site num s _ ⟨s1, s4⟩).mono ?_; rintro e u ⟨rfl, hu⟩; replace hbv := hbv.trans (hu.mono hbv.size); clear hu c0 c1 c2 d0 d1 d2 d3 d4 d5 d6 d7 d8 d9 d10 d11 e0 e1 e2 e3 e4 e5 e6 e7; obtain ⟨⟨c0, c1, c2⟩, ⟨d0, d1, d2, d3, d4, d5, d6, d7, d8, d9, d10, d11⟩, ⟨e0, e1, e2, e3, e4, e5, e6, e7⟩, ⟨f0, f1, f2, f3, f4, f5, f6, f7⟩⟩ := KA.out _ hbv)
          | (go_at_call 55; refine (inBoundsW_any s p a len cap label key value version ask (bit yes) code 0 _ l6 (tV.below hbv (by omega)) (by have := hbv.size; omega)).mono ?_; rintro e u ⟨rfl, hu⟩; replace hbv := hbv.trans (hu.mono hbv.size); clear hu c0 c1 c2 d0 d1 d2 d3 d4 d5 d6 d7 d8 d9 d10 d11 e0 e1 e2 e3 e4 e5 e6 e7; obtain ⟨⟨c0, c1, c2⟩, ⟨d0, d1, d2, d3, d4, d5, d6, d7, d8, d9, d10, d11⟩, ⟨e0, e1, e2, e3, e4, e5, e6, e7⟩, ⟨f0, f1, f2, f3, f4, f5, f6, f7⟩⟩ := KA.out _ hbv))
        go_ret
        exact ⟨ret_int hf.symm, hbw.trans (hbv.mono hbw.size)⟩
      | true =>
      go_upto_region 9 with (first
          | (go_at_call 53; refine (site_any s p a len cap _ _ ⟨s1, s4⟩).mono ?_; rintro e u ⟨rfl, hu⟩; replace hbv := hbv.trans (hu.mono hbv.size); clear hu c0 c1 c2 d0 d1 d2 d3 d4 d5 d6 d7 d8 d9 d10 d11 e0 e1 e2 e3 e4 e5 e6 e7; obtain ⟨⟨c0, c1, c2⟩, ⟨d0, d1, d2, d3, d4, d5, d6, d7, d8, d9, d10, d11⟩, ⟨e0, e1, e2, e3, e4, e5, e6, e7⟩, ⟨f0, f1, f2, f3, f4, f5, f6, f7⟩⟩ := KA.out _ hbv)
          | (go_at_call 54; refine (txn_any site num s _ ⟨s1, s4⟩).mono ?_; rintro e u ⟨rfl, hu⟩; replace hbv := hbv.trans (hu.mono hbv.size); clear hu c0 c1 c2 d0 d1 d2 d3 d4 d5 d6 d7 d8 d9 d10 d11 e0 e1 e2 e3 e4 e5 e6 e7; obtain ⟨⟨c0, c1, c2⟩, ⟨d0, d1, d2, d3, d4, d5, d6, d7, d8, d9, d10, d11⟩, ⟨e0, e1, e2, e3, e4, e5, e6, e7⟩, ⟨f0, f1, f2, f3, f4, f5, f6, f7⟩⟩ := KA.out _ hbv)
          | (go_at_call 55; refine (inBoundsW_any s p a len cap label key value version ask (bit yes) code 0 _ l6 (tV.below hbv (by omega)) (by have := hbv.size; omega)).mono ?_; rintro e u ⟨rfl, hu⟩; replace hbv := hbv.trans (hu.mono hbv.size); clear hu c0 c1 c2 d0 d1 d2 d3 d4 d5 d6 d7 d8 d9 d10 d11 e0 e1 e2 e3 e4 e5 e6 e7; obtain ⟨⟨c0, c1, c2⟩, ⟨d0, d1, d2, d3, d4, d5, d6, d7, d8, d9, d10, d11⟩, ⟨e0, e1, e2, e3, e4, e5, e6, e7⟩, ⟨f0, f1, f2, f3, f4, f5, f6, f7⟩⟩ := KA.out _ hbv))
      have hbu : Below w.heap.size w u := hbw.trans (hbv.mono hbw.size)
      have cH := fun w' => hasAll_any h0 h1 h2 h3 h4 h5 h6 h7 label key value version ask (bit yes) code 0 w'
      have hFrm : Hid (msgForm M = (hasAll [h0, h1, h2, h3, h4, h5, h6, h7] [label, key, value, version, ask, bit yes, code, 0] && (code == 0 || (value == 0 && version == 0)))) := by
        show msgForm M = _
        rw [EM.out]
        unfold msgForm mHasOf
        simp only [Int.toNat_natCast]
        rw [EH.out]
        rfl
      have hKM : Hid (inR M.kind 1 9 = true) := by show inR M.kind 1 9 = true; rw [EM.out]; exact hK
      have hRM : Hid (msgRange s ls.length M = true) := by show msgRange s ls.length M = true; rw [hRng.out, g1, g2, g3, g4]; rfl
      have Gd0 := fun d os => cell_regrown d0 d os
      have Gd7 := fun d os => cell_regrown d7 d os
      have Gd8 := fun d os => cell_regrown d8 d os
      have Gd11 := fun d os => cell_regrown d11 d os
      have Ge0 := fun d os => cell_regrown e0 d os
      have Ge1 := fun d os => cell_regrown e1 d os
      have Ge2 := fun d os => cell_regrown e2 d os
      have Ge3 := fun d os => cell_regrown e3 d os
      have Ge4 := fun d os => cell_regrown e4 d os
      have Ge5 := fun d os => cell_regrown e5 d os
      have Ge6 := fun d os => cell_regrown e6 d os
      have Ge7 := fun d os => cell_regrown e7 d os
      have Gf0 := fun d os => cell_regrown f0 d os
      have Gf1 := fun d os => cell_regrown f1 d os
      have Gf2 := fun d os => cell_regrown f2 d os
      have Gf3 := fun d os => cell_regrown f3 d os
      have Gf4 := fun d os => cell_regrown f4 d os
      have Gf5 := fun d os => cell_regrown f5 d os
      have Gf6 := fun d os => cell_regrown f6 d os
      have Gf7 := fun d os => cell_regrown f7 d os
      cases hH : hasAll [h0, h1, h2, h3, h4, h5, h6, h7] [label, key, value, version, ask, bit yes, code, 0] with
      | false =>
        have hf := MF.out 4 (mf_form hF hKM.out hRM.out (by rw [hFrm.out, hH]; rfl))
        rw [hH] at cH
        clear hH
        refine wp_region_quiet_below (by kernel_rfl) (by kernel_rfl) ?_
        repeat (go_big_quiet_step (exact Calls.regrown_of (cH _)))
        refine wpQuiet_nil ?_
        intro _ hw'
        obtain ⟨⟨dq, osq⟩, hw''⟩ := hw'
        subst hw''
        have hBr := below_regrown u dq osq
        go_wp2
        go_ret
        exact ⟨ret_int hf.symm, hbu.trans (hBr.mono hbu.size)⟩
      | true =>
        have hH' : Hid (hasAll [h0, h1, h2, h3, h4, h5, h6, h7] [label, key, value, version, ask, bit yes, code, 0] = true) := hH
        rw [hH] at cH
        clear hH
        by_cases q0 : code = 0
        · have hf := MF.out 0 (mf_ok hF hKM.out hRM.out (by rw [hFrm.out, hH'.out, q0]; rfl))
          have q1 : (code == 0) = true := by simp [q0]
          have q2 : (code != 0) = false := by simp [q0]
          clear q0
          refine wp_region_quiet_below (by kernel_rfl) (by kernel_rfl) ?_
          repeat (go_big_quiet_step (exact Calls.regrown_of (cH _)))
          refine wpQuiet_nil ?_
          intro _ hw'
          obtain ⟨⟨dq, osq⟩, hw''⟩ := hw'
          subst hw''
          have hBr := below_regrown u dq osq
          go_wp2
          go_ret
          exact ⟨ret_int hf.symm, hbu.trans (hBr.mono hbu.size)⟩
        · have q1 : (code == 0) = false := by simpa using q0
          have q2 : (code != 0) = true := by simpa using q0
          by_cases q3 : value = 0
          · by_cases q4 : version = 0
            · have hf := MF.out 0 (mf_ok hF hKM.out hRM.out (by rw [hFrm.out, hH'.out, q3, q4]; simp))
              have q5 : (value == 0) = true := by simp [q3]
              have q6 : (version == 0) = true := by simp [q4]
              have q7 : (value != 0) = false := by simp [q3]
              have q8 : (version != 0) = false := by simp [q4]
              clear q0 q3 q4
              refine wp_region_quiet_below (by kernel_rfl) (by kernel_rfl) ?_
              repeat (go_big_quiet_step (exact Calls.regrown_of (cH _)))
              refine wpQuiet_nil ?_
              intro _ hw'
              obtain ⟨⟨dq, osq⟩, hw''⟩ := hw'
              subst hw''
              have hBr := below_regrown u dq osq
              go_wp2
              go_ret
              exact ⟨ret_int hf.symm, hbu.trans (hBr.mono hbu.size)⟩
            · have q6 : (version == 0) = false := by simpa using q4
              have hf := MF.out 4 (mf_form hF hKM.out hRM.out (by rw [hFrm.out, hH'.out, q1, q6]; simp))
              have q5 : (value == 0) = true := by simp [q3]
              have q7 : (value != 0) = false := by simp [q3]
              have q8 : (version != 0) = true := by simpa using q4
              clear q0 q3 q4
              refine wp_region_quiet_below (by kernel_rfl) (by kernel_rfl) ?_
              repeat (go_big_quiet_step (exact Calls.regrown_of (cH _)))
              refine wpQuiet_nil ?_
              intro _ hw'
              obtain ⟨⟨dq, osq⟩, hw''⟩ := hw'
              subst hw''
              have hBr := below_regrown u dq osq
              go_wp2
              go_ret
              exact ⟨ret_int hf.symm, hbu.trans (hBr.mono hbu.size)⟩
          · have q5 : (value == 0) = false := by simpa using q3
            have hf := MF.out 4 (mf_form hF hKM.out hRM.out (by rw [hFrm.out, hH'.out, q1, q5]; simp))
            have q7 : (value != 0) = true := by simpa using q3
            clear q0 q3
            refine wp_region_quiet_below (by kernel_rfl) (by kernel_rfl) ?_
            repeat (go_big_quiet_step (exact Calls.regrown_of (cH _)))
            refine wpQuiet_nil ?_
            intro _ hw'
            obtain ⟨⟨dq, osq⟩, hw''⟩ := hw'
            subst hw''
            have hBr := below_regrown u dq osq
            go_wp2
            go_ret
            exact ⟨ret_int hf.symm, hbu.trans (hBr.mono hbu.size)⟩
  · have hf := MF.out _ (mf_cfg hF)
    go_wp2_with (go_at_call 23; refine (check_any s p a len cap ls _ hLW).mono ?_; rintro e w1 ⟨rfl, hb1⟩)
    go_ret
    exact ⟨ret_int hf.symm, hB.trans (hb1.mono hB.size)⟩
end Go.Proofs.YtflfcjbgkpfgkaaDoor
/- What the listed tables of package wire hold, cell by cell, out of their reading as data. -/
namespace Go.Proofs.YtflfcjbgkpfgkaaDoor
open Go.ChangeShapes Go.WideShapes Go.ChangeAt Go.RowKit

def bRow {H : Type} (bs : List Bool) : DataW H := .agg (bs.map fun b => .lit (.bool b))
def bTab {H : Type} (tb : List (List Bool)) : DataW H := .agg (tb.map bRow)

section
variable {H : Type} {enc : TypeId × Value → H} {W : World} {base : Nat} {sp : Nat → Bool} {held : Bool}

theorem c1b : Tryd.prog.cellsOf 4 = 1 := by kernel_rfl
theorem c8b : Tryd.prog.cellsOf 95 = 8 := by kernel_rfl

theorem row_of {fuel : Nat} {cs : List Value} {bs : List Bool} {p : List MemPlace} (hb : bs.length = 8) (h : DataW.trod enc Tryd.prog W base sp held fuel 95 cs = some (bRow bs, p)) (j : Nat) (hj : j < 8) : cs[j]? = some (.bool (bs.getD j false)) := by
  obtain ⟨xs, m, rfl, hx, hl, hn, hel⟩ := DataW.trod_array Tryd.underlying95 h
  have hxs : xs.map (·.1) = bs.map fun b => (DataW.lit (.bool b) : DataW H) := by
    have := congrArg Prod.fst hx
    simpa [bRow] using this.symm
  have h1 := hel j hj
  rw [c1b, List.getElem?_eq_getElem (by omega)] at h1
  obtain ⟨b, hc, hx1⟩ := DataW.trod_bool Tryd.underlying4 h1
  have e1 : cs[j]? = some (.bool b) := by
    have := congrArg (·[0]?) hc
    simpa [List.getElem?_take, List.getElem?_drop] using this
  have e2 : (xs.map (·.1))[j]? = some (DataW.lit (.bool b) : DataW H) := by
    rw [List.getElem?_map, List.getElem?_eq_getElem (by omega), hx1]; rfl
  rw [hxs] at e2
  have hjb : j < bs.length := by omega
  simp [hjb] at e2
  rw [e1]
  simp [List.getD, hjb, e2]

theorem tab_of {fuel n : Nat} {t : TypeId} {cs : List Value} {tb : List (List Bool)} {p : List MemPlace} (ht : Tryd.prog.underlying t = some (.array n 95)) (hn : tb.length = n) (hb : ∀ i, i < n → (tb.getD i []).length = 8) (h : DataW.trod enc Tryd.prog W base sp held fuel t cs = some (bTab tb, p)) (i j : Nat) (hi : i < n) (hj : j < 8) : cs[i * 8 + j]? = some (.bool ((tb.getD i []).getD j false)) := by
  obtain ⟨xs, m, rfl, hx, hl, hlen, hel⟩ := DataW.trod_array ht h
  have hxs : xs.map (·.1) = tb.map bRow := by
    have := congrArg Prod.fst hx
    simpa [bTab] using this.symm
  have h1 := hel i hi
  rw [c8b, List.getElem?_eq_getElem (by omega)] at h1
  have e2 : (xs.map (·.1))[i]? = (tb.map (bRow (H := H)))[i]? := by rw [hxs]
  have hit : i < tb.length := by omega
  have hix : i < xs.length := by omega
  simp [hix, hit] at e2
  obtain ⟨d, q, hxi⟩ : ∃ d q, xs[i] = (d, q) := ⟨_, _, rfl⟩
  have e3 : d = bRow (tb.getD i []) := by
    rw [hxi] at e2
    simp [List.getD, hit]
    exact e2
  rw [hxi, e3] at h1
  have := row_of (hb i hi) h1 j hj
  rw [List.getElem?_take, if_pos hj, List.getElem?_drop] at this
  exact this

theorem has_of {fuel n g : Nat} {t : TypeId} {cs : Array Value} {tb : List (List Bool)} {p : List MemPlace} {name : String} (hg : Tryd.prog.globalNamed name = some g) (hv : W.var? Tryd.prog name = some cs) (ht : Tryd.prog.underlying t = some (.array n 95)) (hn : tb.length = n) (hb : ∀ i, i < n → (tb.getD i []).length = 8)
    (h : DataW.trod enc Tryd.prog W base sp held fuel t cs.toList = some (bTab tb, p)) : HasAt W g tb := by
  intro i j hi hj
  rw [World.var?_cell hg hv, ← Array.getElem?_toList]
  exact tab_of ht hn hb h i j (by omega) hj

theorem mHas_rows : ∀ i, i < 10 → (mHas.getD i []).length = 8 := by decide
theorem rHas_rows : ∀ i, i < 7 → (rHas.getD i []).length = 8 := by decide

theorem tops_of {fuel : Nat} {cs : Array Value} {p : List MemPlace} {name : String} (hg : Tryd.prog.globalNamed name = some 3) (hv : W.var? Tryd.prog name = some cs)
    (h : DataW.trod enc Tryd.prog W base sp held fuel 91 cs.toList = some (Lib.tabData .i64 topL, p)) : TopsAt W := by
  have e := Lib.cells_of_tab Tryd.underlying91 Tryd.underlying3 (by kernel_rfl) (by kernel_rfl) h
  have c : ∀ i, W.cell? ⟨3, i, none⟩ = (topL.map fun z => Value.int .i64 z)[i]? := by
    intro i
    rw [World.var?_cell hg hv, ← Array.getElem?_toList, e]
  unfold TopsAt
  simp only [c]
  simp [topL]
end
end Go.Proofs.YtflfcjbgkpfgkaaDoor
