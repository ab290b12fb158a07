/- The contracts of wire's reader: refuse, number, kind, end. -/
import Derived.Test.YtpikiaepomjmgaaDoorWBytes
import Derived.Test.YtpikiaepomjmgaaDoorWDec
namespace Go.Proofs.YtpikiaepomjmgaaDoor
open Go.ChangeShapes Go.WideShapes Go.ChangeAt Go.RowKit
set_option linter.unusedVariables false

/-- A reader in memory: it lies at R; the bytes that it reads lie below L. -/
structure RdAt (w : World) (R L : Nat) (a : Option Addr) (len cap : Nat) (st : RS) : Prop where
  c0 : w.cell? ⟨R, 0, none⟩ = some (.slice a len cap)
  c1 : w.cell? ⟨R, 1, none⟩ = some (.int .i64 st.wrong)
  f0 : w.frozen? ⟨R, 0, none⟩ = false
  f1 : w.frozen? ⟨R, 1, none⟩ = false
  isb : IsB w a len cap st.rest
  far : ∀ b off, a = some ⟨b, off, none⟩ → b < L
  hL : L ≤ R
  e0 : 0 ≤ st.wrong ∧ st.wrong ≤ 100
def RdTo (w : World) (R L : Nat) (st : RS) : Prop := ∃ a len cap, RdAt w R L a len cap st

theorem RdAt.lt {w : World} {R L : Nat} {a : Option Addr} {len cap : Nat} {st : RS} (h : RdAt w R L a len cap st) : R < w.heap.size := World.block_lt_of_cell? w _ h.c0
theorem RdTo.lt {w : World} {R L : Nat} {st : RS} (h : RdTo w R L st) : R < w.heap.size := by obtain ⟨a, len, cap, h⟩ := h; exact h.lt
theorem RdTo.hL {w : World} {R L : Nat} {st : RS} (h : RdTo w R L st) : L ≤ R := by obtain ⟨a, len, cap, h⟩ := h; exact h.hL

theorem RdTo.grown {w w' : World} {R L : Nat} {st : RS} {row : Option Nat} (h : RdTo w R L st) (hg : w.grownBy w' row) (hr : ∀ k, row = some k → L ≤ k ∧ k ≠ R) : RdTo w' R L st := by
  obtain ⟨a, len, cap, h⟩ := h
  have hb := hg.block R h.lt (fun e => (hr R e.symm).2 rfl)
  refine ⟨a, len, cap, ?_, ?_, ?_, ?_, h.isb.grown hg (fun b off e e' => ?_), h.far, h.hL, h.e0⟩
  · rw [World.cell?_of_block (a := ⟨R, 0, none⟩) hb]; exact h.c0
  · rw [World.cell?_of_block (a := ⟨R, 1, none⟩) hb]; exact h.c1
  · rw [World.frozen?_of_block (a := ⟨R, 0, none⟩) hb]; exact h.f0
  · rw [World.frozen?_of_block (a := ⟨R, 1, none⟩) hb]; exact h.f1
  · have := h.far b off e
    have := (hr b e'.symm).1
    omega

theorem grown_set {w w' : World} {R i : Nat} {v : Value} (h : w.grownBy w' (some R)) : w.grownBy (w'.setCell ⟨R, i, none⟩ v) (some R) :=
  ⟨h.os, h.tape, h.output, by simpa using h.size, fun k hk hne => by
    rw [Below.heap_setCell w' ⟨R, i, none⟩ v k (by intro e; exact hne (by rw [e]))]
    exact h.block k hk hne⟩
theorem grownR_refl (w : World) (row : Option Nat) : w.grownBy w row := ⟨rfl, rfl, rfl, Nat.le_refl _, fun _ _ _ => rfl⟩
theorem grownR_trans {a b c : World} {row : Option Nat} (h : a.grownBy b row) (k : b.grownBy c row) : a.grownBy c row := h.trans k

theorem IsB.drop {w : World} {a : Option Addr} {len cap : Nat} {bs : List Int} (h : IsB w a len cap bs) (k : Nat) (hk : k ≤ len) (hk0 : 0 < k) : ∃ b off, a = some ⟨b, off, none⟩ ∧ IsB w (some ⟨b, off + k, none⟩) (len - k) (cap - k) (bs.drop k) := by
  obtain ⟨h1, h2, h3, hbd, hn, h4⟩ := h
  obtain ⟨b, off, e, hlt, hl⟩ := h4 (by omega)
  refine ⟨b, off, e, by simp; omega, by omega, by omega, hbd.drop k, fun e => by simp at e, fun hp => ⟨b, off + k, rfl, hlt, fun i hi => ?_⟩⟩
  have := hl (k + i) (by omega)
  rw [show off + k + i = off + (k + i) by omega, this]
  simp [List.getD]

theorem refuse_any (R L : Nat) (st : RS) (e : Int) (w : World) (h : RdTo w R L st) (he : 0 ≤ e ∧ e ≤ 100) :
    Calls Tryd.prog 43 #[.pointer (some ⟨R, 0, none⟩), .int .i64 e] w fun r w' => r = .returned (.tuple #[]) ∧ RdTo w' R L (st.refuse e) ∧ w.grownBy w' (some R) := by
  obtain ⟨a, len, cap, c0, c1, f0, f1, hI, hfar, hLR, he0⟩ := h
  have hfar' : ∀ b off, a = some ⟨b, off, none⟩ → b ≠ R := fun b off e => by have := hfar b off e; omega
  by_cases hw : st.wrong = 0
  · have es : st.refuse e = ⟨st.rest, e⟩ := by simp [RS.refuse, hw]
    rw [es]
    rw [hw] at c1
    clear es
    go_enter Tryd.func43, Tryd.ntmps43
    go_wp2
    refine bodyPost_end (v := .tuple #[]) (by simp [results, Tryd.results43, go_sem]) rfl ⟨rfl, ⟨a, len, cap, by go_simp, by go_simp, by go_simp, by go_simp, hI.set _ _ hfar', hfar, hLR, he⟩, grown_set (grownR_refl _ _)⟩
  · have es : st.refuse e = st := by simp [RS.refuse, hw]
    rw [es]
    clear es
    go_enter Tryd.func43, Tryd.ntmps43
    go_wp2
    exact bodyPost_end (v := .tuple #[]) (by simp [results, Tryd.results43, go_sem]) rfl ⟨rfl, ⟨a, len, cap, c0, c1, f0, f1, hI, hfar, hLR, he0⟩, grownR_refl _ _⟩

theorem take_get {bs : List Int} {j : Nat} (h : j < bs.length) : bs.take (j + 1) = bs.take j ++ [bs.getD j 0] := by
  rw [List.take_succ_eq_append_getElem h]; simp [List.getD, h]

set_option maxRecDepth 100000 in
set_option maxHeartbeats 1000000 in
theorem number_any (R L : Nat) (st : RS) (k : Nat) (w : World) (h : RdTo w R L st) (hk : 1 ≤ k ∧ k ≤ 4) :
    Calls Tryd.prog 40 #[.pointer (some ⟨R, 0, none⟩), .int .i64 (k : Int)] w fun r w' => r = .returned (.int .i64 (st.num k).1) ∧ RdTo w' R L (st.num k).2 ∧ w.grownBy w' (some R) := by
  have hIs := h
  obtain ⟨a, len, cap, c0, c1, f0, f1, hI, hfar, hLR, he0⟩ := h
  have hlen := hI.1
  have hmax : len ≤ 9223372036854775807 := by have := hI.2.1; have := hI.2.2.1; unfold maxLen at this; omega
  have hmax' : (len : Int) ≤ 9223372036854775807 := by omega
  obtain ⟨k1, k4⟩ := hk
  have k1' : (1 : Int) ≤ k := by omega
  have k4' : (k : Int) ≤ 4 := by omega
  have hrf := fun w' hh => refuse_any R L st 5 w' hh (by omega)
  obtain ⟨rest, wrong⟩ := st
  simp only at hlen c1 hI he0 hrf
  by_cases hw : wrong = 0
  · subst hw
    by_cases hl : len < k
    · have hl' : (len : Int) < k := by omega
      have es : (RS.mk rest 0).num k = (0, ⟨rest, 5⟩) := num_short rfl (by simp only; omega)
      have er : (RS.mk rest 0).refuse 5 = ⟨rest, 5⟩ := by simp [RS.refuse]
      rw [er] at hrf
      rw [es]
      clear es er
      go_enter Tryd.func40, Tryd.ntmps40
      go_wp2_with (go_at_call 43; refine (hrf _ hIs).mono ?_; rintro e w1 ⟨rfl, h1, hg1⟩; obtain ⟨a1, l1, p1, h1'⟩ := id h1; have q0 := h1'.c0; have q1 := h1'.c1)
      go_ret
      exact ⟨rfl, h1, hg1⟩
    · have hl' : ¬ (len : Int) < k := by omega
      have es : (RS.mk rest 0).num k = (bval (rest.take k), ⟨rest.drop k, 0⟩) := num_ok rfl (by simp only; omega)
      rw [es]
      clear es hrf
      obtain ⟨b, off, rfl, hdr⟩ := hI.drop k (by omega) (by omega)
      obtain ⟨_, _, ee, hbl, hcell⟩ := hI.2.2.2.2.2 (by omega)
      simp only [Option.some.injEq, Addr.mk.injEq, and_true] at ee
      obtain ⟨rfl, rfl⟩ := ee
      have hbd := hI.2.2.2.1
      have hkc : k ≤ cap := by have := hI.2.1; omega
      have hkc' : (k : Int) ≤ cap := by omega
      have hkl' : (k : Int) ≤ len := by omega
      go_enter Tryd.func40, Tryd.ntmps40
      go_wp2
      go_loop [5, 29] (fun s5 s29 => ∃ j : Nat, j ≤ k ∧ s29 = .int .i64 j ∧ s5 = .int .i64 (bval (rest.take j))) (fun _ s29 => k - (intOf s29).toNat)
      case atStart => exact ⟨0, by omega, rfl, rfl⟩
      case round =>
        obtain ⟨j, hj, rfl, rfl⟩ := hrel
        by_cases hlt : j < k
        · have hlt' : (j : Int) < k := by omega
          have hr := hcell j (by omega)
          have hjr : j < rest.length := by omega
          have hb1 := hbd rest[j] (List.getElem_mem hjr)
          have hget : rest.getD j 0 = rest[j] := by simp [List.getD, hjr]
          rw [← hget] at hb1
          have hv := bval_bd j (rest.take j) (by simp; omega) (hbd.take j)
          have hp : (256 : Int) ^ j ≤ 16777216 := by
            rcases (by omega : j = 0 ∨ j = 1 ∨ j = 2 ∨ j = 3) with rfl | rfl | rfl | rfl <;> decide
          have hs : Hid (bval (rest.take (j + 1)) = bval (rest.take j) * 256 + rest.getD j 0) := by
            show bval _ = _
            rw [take_get hjr, bval_snoc]
          obtain ⟨x, ex⟩ : ∃ x, x = rest.getD j 0 := ⟨_, rfl⟩
          obtain ⟨n, en⟩ : ∃ n, n = bval (rest.take j) := ⟨_, rfl⟩
          rw [← ex] at hr hb1 hs
          rw [← en] at hv hs ⊢
          clear ex en hget
          obtain ⟨v0, v1⟩ := hv
          obtain ⟨x0, x1⟩ := hb1
          have v2 : n < 16777216 := by omega
          have hor := or_join v0 (by omega) x0 x1
          clear hp v1
          go_wp2
          first
            | (go_round
               case rel => exact ⟨j + 1, by omega, by go_num, by rw [hs.out]⟩
               case measure => simp [intOf]; omega)
            | exact ⟨⟨j + 1, by omega, by go_num, by rw [hs.out]⟩, by simp [intOf]; omega⟩
        · have hje : j = k := by omega
          subst hje
          have hbL := hfar b off rfl
          have hbR : ∀ (z b' off' : Nat), some (⟨b, z, none⟩ : Addr) = some ⟨b', off', none⟩ → b' ≠ R := fun z b' off' e => by simp at e; omega
          have hbL' : ∀ (z b' off' : Nat), some (⟨b, z, none⟩ : Addr) = some ⟨b', off', none⟩ → b' < L := fun z b' off' e => by simp at e; omega
          by_cases hcz : cap = j
          · have hlz : len = j := by have := hI.2.1; omega
            subst hcz
            have hrd : rest.drop cap = [] := List.drop_of_length_le (by omega)
            go_wp2
            go_ret
            refine ⟨rfl, ⟨some ⟨b, off, none⟩, 0, 0, by go_simp, by go_simp, by go_simp, by go_simp, ⟨rfl, Nat.le_refl _, Nat.zero_le _, fun x hx => by simp at hx, fun _ => rfl, fun h => absurd h (by omega)⟩, hbL' off, hLR, by simp⟩, grown_set (grownR_refl _ _)⟩
          · have hcz' : 0 < cap - j := by omega
            have hcz2 : ¬ ((cap : Int) - j = 0) := by omega
            go_wp2
            go_ret
            exact ⟨rfl, ⟨some ⟨b, off + j, none⟩, len - j, cap - j, by go_simp, by go_simp, by go_simp, by go_simp, hdr.set _ _ (hbR (off + j)), hbL' (off + j), hLR, by simp⟩, grown_set (grownR_refl _ _)⟩
  · have es : (RS.mk rest wrong).num k = (0, ⟨rest, wrong⟩) := num_wrong hw
    have er : (RS.mk rest wrong).refuse 5 = ⟨rest, wrong⟩ := by simp [RS.refuse, hw]
    rw [er] at hrf
    rw [es]
    clear es er
    by_cases hl : len < k
    · have hl' : (len : Int) < k := by omega
      go_enter Tryd.func40, Tryd.ntmps40
      go_wp2_with (go_at_call 43; refine (hrf _ hIs).mono ?_; rintro e w1 ⟨rfl, h1, hg1⟩; obtain ⟨a1, l1, p1, h1'⟩ := id h1; have q0 := h1'.c0; have q1 := h1'.c1)
      all_goals
        go_ret
        exact ⟨rfl, h1, hg1⟩
    · have hl' : ¬ (len : Int) < k := by omega
      go_enter Tryd.func40, Tryd.ntmps40
      go_wp2
      all_goals
        go_ret
        exact ⟨rfl, hIs, grownR_refl _ _⟩

theorem refuse_e {st : RS} {e : Int} : (st.refuse e).rest = st.rest := by unfold RS.refuse; split <;> rfl

theorem kindR_any (R L : Nat) (st : RS) (top : Int) (w : World) (h : RdTo w R L st) (ht : 0 ≤ top ∧ top ≤ 100) :
    Calls Tryd.prog 39 #[.pointer (some ⟨R, 0, none⟩), .int .i64 top] w fun r w' => r = .returned (.int .i64 (st.kind top).1) ∧ RdTo w' R L (st.kind top).2 ∧ w.grownBy w' (some R) := by
  have hn := number_any R L st 1 w h (by omega)
  obtain ⟨n, r1, en⟩ : ∃ n r1, st.num 1 = (n, r1) := ⟨_, _, rfl⟩
  unfold RS.kind
  rw [en] at hn ⊢
  simp only at hn ⊢
  have hrf := fun w' hh => refuse_any R L r1 3 w' hh (by omega)
  clear en
  by_cases h0 : n = 0
  · subst h0
    rw [if_pos (Or.inl rfl)]
    go_enter Tryd.func39, Tryd.ntmps39
    go_wp2_with (first
      | (go_at_call 40; refine hn.mono ?_; rintro e w1 ⟨rfl, h1, hg1⟩)
      | (go_at_call 43; refine (hrf _ h1).mono ?_; rintro e w2 ⟨rfl, h2, hg2⟩))
    go_ret
    exact ⟨rfl, h2, grownR_trans hg1 hg2⟩
  · by_cases htn : top ≤ n
    · rw [if_pos (Or.inr htn)]
      have hb0 : (n == 0) = false := by simpa using h0
      go_enter Tryd.func39, Tryd.ntmps39
      go_wp2_with (first
        | (go_at_call 40; refine hn.mono ?_; rintro e w1 ⟨rfl, h1, hg1⟩)
        | (go_at_call 43; refine (hrf _ h1).mono ?_; rintro e w2 ⟨rfl, h2, hg2⟩))
      go_ret
      exact ⟨rfl, h2, grownR_trans hg1 hg2⟩
    · rw [if_neg (by omega)]
      have hb0 : (n == 0) = false := by simpa using h0
      have htn' : n < top := by omega
      go_enter Tryd.func39, Tryd.ntmps39
      go_wp2_with (go_at_call 40; refine hn.mono ?_; rintro e w1 ⟨rfl, h1, hg1⟩)
      go_ret
      exact ⟨rfl, h1, hg1⟩

theorem endR_any (R L : Nat) (st : RS) (w : World) (h : RdTo w R L st) :
    Calls Tryd.prog 19 #[.pointer (some ⟨R, 0, none⟩)] w fun r w' => r = .returned (.int .i64 st.fin.wrong) ∧ w.grownBy w' (some R) := by
  have hrf := fun w' hh => refuse_any R L st 4 w' hh (by omega)
  have hIs := h
  obtain ⟨a, len, cap, c0, c1, f0, f1, hI, hfar, hLR, he0⟩ := h
  have hlen := hI.1
  have hmax : len ≤ 9223372036854775807 := by have := hI.2.1; have := hI.2.2.1; unfold maxLen at this; omega
  have hmax' : (len : Int) ≤ 9223372036854775807 := by omega
  unfold RS.fin
  by_cases hl : 0 < len
  · rw [if_pos (by omega)]
    have hl' : (0 : Int) < len := by omega
    obtain ⟨r2, e2⟩ : ∃ r2, r2 = st.refuse 4 := ⟨_, rfl⟩
    rw [← e2] at hrf ⊢
    clear e2
    go_enter Tryd.func19, Tryd.ntmps19
    go_wp2_with (go_at_call 43; refine (hrf _ hIs).mono ?_; rintro e w1 ⟨rfl, h1, hg1⟩; obtain ⟨a1, l1, p1, h1'⟩ := id h1; have q1 := h1'.c1)
    go_ret
    exact ⟨rfl, hg1⟩
  · rw [if_neg (by omega)]
    have hl' : ¬ (0 : Int) < len := by omega
    go_enter Tryd.func19, Tryd.ntmps19
    go_wp2
    go_ret
    exact ⟨rfl, grownR_refl _ _⟩

theorem txnRd_any (R L : Nat) (st : RS) (w : World) (h : RdTo w R L st) (hR : R < w.heap.size) :
    Calls Tryd.prog 41 #[.pointer (some ⟨R, 0, none⟩)] w fun r w' => r = .returned (.agg #[.int .i64 (st.num 1).1, .int .i64 ((st.num 1).2.num 3).1]) ∧ RdTo w' R L ((st.num 1).2.num 3).2 ∧ w.grownBy w' (some R) := by
  obtain ⟨W, hW⟩ : ∃ W : World, W = w.alloc (.cells #[.int .i64 0, .int .i64 0] 27) := ⟨_, rfl⟩
  have hG : w.grownBy W none := by rw [hW]; exact World.grownBy_alloc w _ none
  have zW : W.heap.size = w.heap.size + 1 := by rw [hW]; simp
  have d0 : W.cell? ⟨w.heap.size, 0, none⟩ = some (.int .i64 0) := by rw [hW]; go_simp
  have d1 : W.cell? ⟨w.heap.size, 1, none⟩ = some (.int .i64 0) := by rw [hW]; go_simp
  have f0 : W.frozen? ⟨w.heap.size, 0, none⟩ = false := by rw [hW]; go_simp
  have f1 : W.frozen? ⟨w.heap.size, 1, none⟩ = false := by rw [hW]; go_simp
  have hRW := h.grown hG (fun k hk => by cases hk)
  have hLR := h.hL
  have hne : some w.heap.size ≠ some R := by simp; omega
  have hn1 := fun w' hh => number_any R L st 1 w' hh (by omega)
  obtain ⟨n1, r1, e1⟩ : ∃ n r1, st.num 1 = (n, r1) := ⟨_, _, rfl⟩
  have hn2 := fun w' hh => number_any R L r1 3 w' hh (by omega)
  obtain ⟨n2, r2, e2⟩ : ∃ n r2, r1.num 3 = (n, r2) := ⟨_, _, rfl⟩
  rw [e1] at hn1 ⊢
  simp only at hn1 ⊢
  rw [e2] at hn2 ⊢
  simp only at hn2 ⊢
  clear e1 e2
  have KC : Hid (∀ V : World, W.grownBy V (some R) → V.cell? ⟨w.heap.size, 0, none⟩ = some (.int .i64 0) ∧ V.cell? ⟨w.heap.size, 1, none⟩ = some (.int .i64 0) ∧ V.frozen? ⟨w.heap.size, 0, none⟩ = false ∧ V.frozen? ⟨w.heap.size, 1, none⟩ = false) := by
    intro V hV
    have hb := hV.block w.heap.size (by omega) hne
    exact ⟨hV.cell d0 hne, hV.cell d1 hne, (World.frozen?_of_block (a := ⟨w.heap.size, 0, none⟩) hb).trans f0, (World.frozen?_of_block (a := ⟨w.heap.size, 1, none⟩) hb).trans f1⟩
  go_enter Tryd.func41, Tryd.ntmps41
  go_upto_region 1 with (fail)
  rw [← hW]
  clear hW d0 d1 f0 f1
  go_wp2_with (first
    | (go_at_call 40; refine (hn1 _ hRW).mono ?_; rintro e w1 ⟨rfl, h1, hg1⟩; clear hn1)
    | (go_at_call 40; refine (hn2 _ h1).mono ?_; rintro e w2 ⟨rfl, h2, hg2⟩; have hg : W.grownBy w2 (some R) := grownR_trans hg1 hg2; obtain ⟨k0, k1, k2, k3⟩ := KC.out _ hg))
  have hfin : w.grownBy ((w2.setCell ⟨w.heap.size, 0, none⟩ (.int .i64 n1)).setCell ⟨w.heap.size, 1, none⟩ (.int .i64 n2)) (some R) := by
    refine ⟨hg.os.trans hG.os, hg.tape.trans hG.tape, hg.output.trans hG.output, by have := hg.size; simp; omega, fun k hk hkne => ?_⟩
    rw [Below.heap_setCell _ _ _ k (by simp; omega), Below.heap_setCell _ _ _ k (by simp; omega), hg.block k (by omega) hkne, hG.block k hk (by simp)]
  have hset : w2.grownBy ((w2.setCell ⟨w.heap.size, 0, none⟩ (.int .i64 n1)).setCell ⟨w.heap.size, 1, none⟩ (.int .i64 n2)) (some w.heap.size) := grown_set (grown_set (grownR_refl _ _))
  refine bodyPost_ret (v := .agg #[.int .i64 n1, .int .i64 n2]) (by simp [results, Tryd.results41, go_sem, k0, k1]) rfl ⟨rfl, h2.grown hset (fun k hk => by simp at hk; omega), hfin⟩
end Go.Proofs.YtpikiaepomjmgaaDoor
