/- Texts of this claim, one behind the other. -/
import Derived.Test.YtflfcjbgkpfgkaaDoorM22TapeRecovers
import Derived.Test.YtflfcjbgkpfgkaaDoorM15TapeRecovers
import Derived.Deep.CutBlock
import Derived.Deep.DeepCutAuto
/- The contracts of the document's reader: num, yes, first, who. -/
namespace Go.Proofs.YtflfcjbgkpfgkaaDoor
open Go.ChangeShapes Go.WideShapes Go.ChangeAt Go.RowKit
set_option linter.unusedVariables false

theorem EyeAt.below {w w' : World} {R L : Nat} {bs : List Int} {a : Option Addr} {len cap pos : Nat} {st : RS} (h : EyeAt w R L bs a len cap pos st) (hb : Below w.heap.size w w') : EyeAt w' R L bs a len cap pos st := by
  have hlt := h.lt
  exact ⟨(hb.cell (p := ⟨R, 0, none⟩) hlt).trans h.c0, (hb.cell (p := ⟨R, 1, none⟩) hlt).trans h.c1, (hb.cell (p := ⟨R, 2, none⟩) hlt).trans h.c2, (hb.frozen (p := ⟨R, 1, none⟩) hlt).trans h.f1, (hb.frozen (p := ⟨R, 2, none⟩) hlt).trans h.f2, h.isb.below hb, h.hat, h.rel, h.far, h.hL, h.e0, h.big⟩
theorem EyeAt.to {w : World} {R L : Nat} {bs : List Int} {a : Option Addr} {len cap pos pos' : Nat} {st st' : RS} (h : EyeAt w R L bs a len cap pos st) (hp : pos' ≤ len) (hw : st'.wrong = st.wrong) (hr : st'.wrong = 0 → st'.rest = bs.drop pos') : EyeAt (w.setCell ⟨R, 1, none⟩ (.int .i64 (pos' : Int))) R L bs a len cap pos' st' := by
  obtain ⟨c0, c1, c2, f1, f2, hI, hat, hrl, hfar, hLR, he0, hbig⟩ := h
  have hfar' : ∀ b off, 0 < len → a = some ⟨b, off, none⟩ → b ≠ R := fun b off hl e => by have := hfar b off hl e; omega
  exact ⟨by go_simp, by go_simp, by rw [hw]; go_simp, by go_simp, by go_simp, hI.set0 _ _ hfar', hp, hr, hfar, hLR, by rw [hw]; exact he0, hbig⟩
theorem EyeAt.same {w : World} {R L : Nat} {bs : List Int} {a : Option Addr} {len cap pos : Nat} {st st' : RS} (h : EyeAt w R L bs a len cap pos st) (hw : st'.wrong = st.wrong) (hr : st'.wrong = 0 → st'.rest = bs.drop pos) : EyeAt w R L bs a len cap pos st' := ⟨h.c0, h.c1, by rw [hw]; exact h.c2, h.f1, h.f2, h.isb, h.hat, hr, h.far, h.hL, by rw [hw]; exact h.e0, h.big⟩
theorem grown_drewN (w : World) (n : Nat) (row : Option Nat) : w.grownBy (w.drewN n) row := by
  have h : Below w.heap.size w (w.drewN n) := below_drewN (Below.refl _ _) n
  exact ⟨h.os, h.tape, h.output, h.size, fun k hk _ => h.block k hk⟩

set_option maxRecDepth 100000 in
set_option maxHeartbeats 4000000 in
theorem eyeNum_any (R L : Nat) (bs : List Int) (st : RS) (k : Nat) (w : World) (h : EyeTo w R L bs st) (hk : 1 ≤ k ∧ k ≤ 4) :
    Calls Tryd.prog 29 #[.pointer (some ⟨R, 0, none⟩), .int .i64 (k : Int)] w fun r w' => ∃ n : Int, r = .returned (.int .i64 n) ∧ (0 ≤ n ∧ n < 4294967296) ∧ ((st.num k).2.wrong = 0 → n = (st.num k).1) ∧ EyeTo w' R L bs (st.num k).2 ∧ w.grownBy w' (some R) := by
  have hs := h
  obtain ⟨a, len, cap, pos, hE⟩ := h
  have hI := hE.isb
  have hlen : bs.length = len := hI.1
  have hmax : (len : Int) ≤ 9223372036854775807 := by have := hI.2.1; have := hI.2.2.1; unfold maxLen at this; omega
  have hcap : cap ≤ maxLen := hI.2.2.1
  unfold maxLen at hcap
  have hlc : len ≤ cap := hI.2.1
  obtain ⟨k1, k4⟩ := hk
  have hpos := hE.hat
  have hbig := hE.big
  have hrl := hE.rel
  have he0 := hE.e0
  have c0 := hE.c0
  have c1 := hE.c1
  have c2 := hE.c2
  have zR := hE.lt
  have hst := fun w' h1 => stop_any R L bs st 5 w' h1 (by omega)
  by_cases hbad : st.wrong = 5 ∨ len < pos + k
  · have hnum : st.num k = (0, st.refuse 5) ∧ (st.refuse 5).wrong ≠ 0 := by
      by_cases hw : st.wrong = 0
      · have h1 : st.rest.length < k := by
          rw [hrl hw, List.length_drop, hlen]
          omega
        have h2 : st.refuse 5 = ⟨st.rest, 5⟩ := by simp [RS.refuse, hw]
        exact ⟨by rw [h2]; exact num_short hw h1, by rw [h2]; simp⟩
      · have h2 : st.refuse 5 = st := by simp [RS.refuse, hw]
        exact ⟨by rw [h2]; exact num_stays hw, by rw [h2]; exact hw⟩
    rw [hnum.1]
    obtain ⟨S5, e5⟩ : ∃ S, S = st.refuse 5 := ⟨_, rfl⟩
    have hS5 := hnum.2
    rw [← e5] at hst hS5 ⊢
    clear e5 hnum
    obtain ⟨W, eW⟩ : ∃ x, x = st.wrong := ⟨_, rfl⟩
    rw [← eW] at c2 hbad he0
    clear eW hrl
    go_enter Tryd.func29, Tryd.ntmps29
    go_upto_region 1 with (fail)
    rcases (by omega : W = 5 ∨ (W ≠ 5 ∧ len < pos + k)) with h5 | ⟨h5, hl⟩
    · subst h5
      go_quiet (fail)
      have bN : Below w.heap.size w (w.drewN nq) := below_drewN (Below.refl _ _) nq
      have hg0 := grown_drewN w nq (some R)
      have hsV := hs.below bN
      obtain ⟨V, eV⟩ : ∃ V, V = w.drewN nq := ⟨_, rfl⟩
      rw [← eV] at bN hg0 hsV ⊢
      clear eV c0 c1 c2 hE
      go_upto_region 3 with (go_at_call 58; refine (hst _ hsV).mono ?_; rintro e w1 ⟨rfl, h1, hg1⟩)
      obtain ⟨a1, l1, p1, q1, hE1⟩ := h1
      have c0 := hE1.c0
      have c1 := hE1.c1
      have f1 := hE1.f1
      have z1 := hE1.lt
      go_wp2
      go_ret
      exact ⟨0, rfl, by omega, fun h0 => absurd h0 hS5, ⟨a1, l1, p1, l1, hE1.to (Nat.le_refl _) rfl (fun h0 => absurd h0 hS5)⟩, grown_set (hg0.trans hg1)⟩
    · have hwp : IntKind.i64.wrap ((pos : Int) + (k : Int)) = (pos : Int) + (k : Int) := by rw [IntKind.wrap_i64]; omega
      have hl' : (len : Int) < (pos : Int) + (k : Int) := by omega
      have h5' : (W == 5) = false := by simp [h5]
      go_quiet (fail)
      have bN : Below w.heap.size w (w.drewN nq) := below_drewN (Below.refl _ _) nq
      have hg0 := grown_drewN w nq (some R)
      have hsV := hs.below bN
      obtain ⟨V, eV⟩ : ∃ V, V = w.drewN nq := ⟨_, rfl⟩
      rw [← eV] at bN hg0 hsV ⊢
      clear eV c0 c1 c2 hE
      go_upto_region 3 with (go_at_call 58; refine (hst _ hsV).mono ?_; rintro e w1 ⟨rfl, h1, hg1⟩)
      obtain ⟨a1, l1, p1, q1, hE1⟩ := h1
      have c0 := hE1.c0
      have c1 := hE1.c1
      have f1 := hE1.f1
      have z1 := hE1.lt
      go_wp2
      go_ret
      exact ⟨0, rfl, by omega, fun h0 => absurd h0 hS5, ⟨a1, l1, p1, l1, hE1.to (Nat.le_refl _) rfl (fun h0 => absurd h0 hS5)⟩, grown_set (hg0.trans hg1)⟩
  · have h5 : st.wrong ≠ 5 := fun e => hbad (.inl e)
    have hl : pos + k ≤ len := by omega
    have hnum : ((st.num k).2.wrong = 0 → bval ((bs.drop pos).take k) = (st.num k).1) ∧ (st.num k).2.wrong = st.wrong ∧ ((st.num k).2.wrong = 0 → (st.num k).2.rest = bs.drop (pos + k)) := by
      by_cases hw : st.wrong = 0
      · have h1 : k ≤ st.rest.length := by
          rw [hrl hw, List.length_drop, hlen]
          omega
        rw [num_ok hw h1, hrl hw]
        exact ⟨fun _ => rfl, hw.symm, fun _ => by simp only [List.drop_drop]⟩
      · rw [num_stays hw]
        exact ⟨fun h0 => absurd h0 hw, rfl, fun h0 => absurd h0 hw⟩
    obtain ⟨S2, eS2⟩ : ∃ S, S = st.num k := ⟨_, rfl⟩
    rw [← eS2] at hnum ⊢
    clear eS2
    obtain ⟨hn1, hn2, hn3⟩ := hnum
    obtain ⟨W, eW⟩ : ∃ x, x = st.wrong := ⟨_, rfl⟩
    rw [← eW] at c2 h5 he0 hn2
    have hE0 : EyeAt w R L bs a len cap pos ⟨bs.drop pos, W⟩ := hE.same eW (fun _ => rfl)
    clear eW hrl hbad hE hst hs
    have hwp : IntKind.i64.wrap ((pos : Int) + (k : Int)) = (pos : Int) + (k : Int) := by rw [IntKind.wrap_i64]; omega
    have hl' : ¬ (len : Int) < (pos : Int) + (k : Int) := by omega
    have h5' : (W == 5) = false := by simp [h5]
    have hbyt := hI.2.2.2.1
    have HB : Hid (Byt (bs.drop pos)) := hbyt.drop pos
    have HLD : Hid ((bs.drop pos).length = len - pos) := by show _ = _; rw [List.length_drop, hlen]
    have HGD : Hid (∀ j, pos + j < len → (bs.drop pos).getD j 0 = bs.getD (pos + j) 0) := fun j hj => by simp [List.getD]
    go_enter Tryd.func29, Tryd.ntmps29
    go_upto_region 1 with (fail)
    go_quiet (fail)
    have bN : Below w.heap.size w (w.drewN nq) := below_drewN (Below.refl _ _) nq
    have hg0 := grown_drewN w nq (some R)
    have hE1 := hE0.below bN
    obtain ⟨V, eV⟩ : ∃ V, V = w.drewN nq := ⟨_, rfl⟩
    rw [← eV] at bN hg0 hE1 ⊢
    clear eV c0 c1 c2 hE0
    go_wp2
    go_loopw [5, 6] (fun s5 s6 wr => ∃ (j qq : Nat), s6 = .int .i64 (j : Int) ∧ j ≤ k ∧ s5 = .int .i64 (bval ((bs.drop pos).take j)) ∧ Hid (qq = pos + j) ∧ EyeAt wr R L bs a len cap qq ⟨bs.drop qq, W⟩ ∧ w.grownBy wr (some R)) (fun _ s6 _ => k - (intOf s6).toNat)
    case atStart => exact ⟨0, pos, rfl, Nat.zero_le _, rfl, rfl, hE1, hg0⟩
    case round =>
      clear hE1
      obtain ⟨j, qq, rfl, hj, rfl, hqq, hE, hg⟩ := hrel
      have c0 := hE.c0
      have c1 := hE.c1
      have f1 := hE.f1
      have zr := hE.lt
      by_cases hlt : j < k
      · have hlt' : (j : Int) < (k : Int) := by omega
        have hql : qq < len := by rw [hqq.out]; omega
        have hql' : (qq : Int) < (len : Int) := by omega
        have hjl : j < (bs.drop pos).length := by rw [HLD.out]; omega
        have hb1 := HB.out _ (List.getElem_mem hjl)
        have hgd := HGD.out j (by omega)
        have hge : (bs.drop pos).getD j 0 = (bs.drop pos)[j] := by simp only [List.getD, List.getElem?_eq_getElem hjl, Option.getD_some]
        rw [← hge, hgd] at hb1
        have hs2 : Hid (bval ((bs.drop pos).take (j + 1)) = bval ((bs.drop pos).take j) * 256 + bs.getD (pos + j) 0) := by show _ = _; rw [take_get hjl, bval_snoc, hgd]
        obtain ⟨b, off, rfl, hbl, hcell⟩ := hE.isb.2.2.2.2.2 (by omega)
        have hr := hcell qq hql
        rw [hqq.out] at hr
        have hv := bval_bd j ((bs.drop pos).take j) (by rw [List.length_take, HLD.out]; omega) (HB.out.take j)
        have hp : (256 : Int) ^ j ≤ 16777216 := by
          rcases (by omega : j = 0 ∨ j = 1 ∨ j = 2 ∨ j = 3) with rfl | rfl | rfl | rfl <;> decide
        obtain ⟨x, ex⟩ : ∃ x, x = bs.getD (pos + j) 0 := ⟨_, rfl⟩
        obtain ⟨n, en⟩ : ∃ n, n = bval ((bs.drop pos).take j) := ⟨_, rfl⟩
        rw [← ex] at hr hb1 hs2
        rw [← en] at hv hs2 ⊢
        rw [← hqq.out] at hr
        clear ex en hge hgd hcell
        obtain ⟨v0, v1⟩ := hv
        obtain ⟨y0, y1⟩ := hb1
        have v2 : n < 16777216 := by omega
        have hw1 : IntKind.i64.wrap (256 * n) = 256 * n := by rw [IntKind.wrap_i64]; omega
        have hw2 : IntKind.i64.wrap (256 * n + x) = 256 * n + x := by rw [IntKind.wrap_i64]; omega
        have hw3 : IntKind.i64.wrap ((qq : Int) + 1) = (qq : Int) + 1 := by rw [IntKind.wrap_i64]; omega
        have hw4 : IntKind.i64.wrap x = x := by rw [IntKind.wrap_i64]; omega
        go_upto_region 9 with (fail)
        go_quiet (fail)
        have bN2 : Below wr.heap.size wr (wr.drewN nq) := below_drewN (Below.refl _ _) nq
        have hg2 := grown_drewN wr nq (some R)
        have hE2 := hE.below bN2
        obtain ⟨V2, eV2⟩ : ∃ V, V = wr.drewN nq := ⟨_, rfl⟩
        rw [← eV2] at bN2 hg2 hE2 ⊢
        clear eV2 c0 c1 f1 zr hE hr
        have c0 := hE2.c0
        have c1 := hE2.c1
        have f1 := hE2.f1
        have zr := hE2.lt
        have hE3 := hE2.to (pos' := qq + 1) (st' := ⟨bs.drop (qq + 1), W⟩) (by omega) rfl (fun _ => rfl)
        have hg3 : w.grownBy (V2.setCell ⟨R, 1, none⟩ (.int .i64 ((qq + 1 : Nat) : Int))) (some R) := grown_set (hg.trans hg2)
        go_wp2
        go_roundw
        case rel => exact ⟨j + 1, qq + 1, by go_num, by omega, by rw [hs2.out]; congr 1; omega, by show _ = _; rw [hqq.out]; omega, by simpa using hE3, by simpa using hg3⟩
        case measure => simp [intOf]; omega
      · obtain rfl : j = k := by omega
        have hv := bval_bd j ((bs.drop pos).take j) (by rw [List.length_take, HLD.out]; omega) (HB.out.take j)
        have hp : (256 : Int) ^ j ≤ 4294967296 := by
          rcases (by omega : j = 1 ∨ j = 2 ∨ j = 3 ∨ j = 4) with rfl | rfl | rfl | rfl <;> decide
        have hfin : EyeTo wr R L bs S2.2 := ⟨a, len, cap, qq, hE.same hn2 (fun h0 => by rw [hn3 h0, hqq.out])⟩
        go_wp2
        go_ret
        exact ⟨_, rfl, ⟨hv.1, by omega⟩, hn1, hfin, hg⟩
end Go.Proofs.YtflfcjbgkpfgkaaDoor
/- The contracts of the document's reader: yes, first, who. -/
namespace Go.Proofs.YtflfcjbgkpfgkaaDoor
open Go.ChangeShapes Go.WideShapes Go.ChangeAt Go.RowKit
set_option linter.unusedVariables false

theorem num_down {st : RS} {k : Nat} (h : (st.num k).2.wrong = 0) : st.wrong = 0 := by
  by_cases hw : st.wrong = 0
  · exact hw
  · rw [num_stays hw] at h
    exact absurd h hw

set_option maxRecDepth 100000 in
set_option maxHeartbeats 2000000 in
theorem eyeYes_any (R L : Nat) (bs : List Int) (st : RS) (w : World) (h : EyeTo w R L bs st) :
    Calls Tryd.prog 31 #[.pointer (some ⟨R, 0, none⟩)] w fun r w' => ∃ n : Int, r = .returned (.bool (n == 1)) ∧ ((st.num 1).2.wrong = 0 → n = (st.num 1).1) ∧ EyeTo w' R L bs (if 1 < n then (st.num 1).2.refuse 4 else (st.num 1).2) ∧ w.grownBy w' (some R) := by
  have hN : ∀ w', EyeTo w' R L bs st → Calls Tryd.prog 29 #[.pointer (some ⟨R, 0, none⟩), .int .i64 1] w' fun r w'' => ∃ n : Int, r = .returned (.int .i64 n) ∧ (0 ≤ n ∧ n < 4294967296) ∧ ((st.num 1).2.wrong = 0 → n = (st.num 1).1) ∧ EyeTo w'' R L bs (st.num 1).2 ∧ w'.grownBy w'' (some R) := fun w' h1 => eyeNum_any R L bs st 1 w' h1 (by omega)
  have hS := fun w' h1 => stop_any R L bs (st.num 1).2 4 w' h1 (by omega)
  obtain ⟨S, eS⟩ : ∃ S, S = st.num 1 := ⟨_, rfl⟩
  rw [← eS] at hN hS ⊢
  clear eS
  go_enter Tryd.func31, Tryd.ntmps31
  go_upto_region 2 with (go_at_call 29; refine (hN _ h).mono ?_; rintro e w1 ⟨n, rfl, ⟨n0, n1⟩, hn, h1, hg1⟩)
  by_cases hn2 : 1 < n
  · have hne : (n == 1) = false := by simp; omega
    go_wp2_with (go_at_call 58; refine (hS _ h1).mono ?_; rintro e w2 ⟨rfl, h2, hg2⟩)
    go_ret
    exact ⟨n, by rw [hne]; rfl, hn, by rw [if_pos hn2]; exact h2, hg1.trans hg2⟩
  · go_wp2
    go_ret
    exact ⟨n, rfl, hn, by rw [if_neg (by omega)]; exact h1, hg1⟩

set_option maxRecDepth 100000 in
set_option maxHeartbeats 2000000 in
theorem eyeFirst_any (R L : Nat) (bs : List Int) (st : RS) (most : Int) (w : World) (h : EyeTo w R L bs st) (h0 : 0 ≤ (st.num 1).1) :
    Calls Tryd.prog 28 #[.pointer (some ⟨R, 0, none⟩), .int .i64 most] w fun r w' => r = .returned (.int .i64 (if (st.kind (most + 1)).2.wrong = 0 then (st.kind (most + 1)).1 else 0)) ∧ EyeTo w' R L bs (st.kind (most + 1)).2 ∧ w.grownBy w' (some R) := by
  have hN : ∀ w', EyeTo w' R L bs st → Calls Tryd.prog 29 #[.pointer (some ⟨R, 0, none⟩), .int .i64 1] w' fun r w'' => ∃ n : Int, r = .returned (.int .i64 n) ∧ (0 ≤ n ∧ n < 4294967296) ∧ ((st.num 1).2.wrong = 0 → n = (st.num 1).1) ∧ EyeTo w'' R L bs (st.num 1).2 ∧ w'.grownBy w'' (some R) := fun w' h1 => eyeNum_any R L bs st 1 w' h1 (by omega)
  have hS := fun w' h1 => stop_any R L bs (st.num 1).2 3 w' h1 (by omega)
  have HK : Hid (st.kind (most + 1) = if (st.num 1).1 = 0 ∨ most + 1 ≤ (st.num 1).1 then (0, (st.num 1).2.refuse 3) else st.num 1) := rfl
  obtain ⟨K, eK⟩ : ∃ K, K = st.kind (most + 1) := ⟨_, rfl⟩
  rw [← eK] at HK ⊢
  obtain ⟨S, eS⟩ : ∃ S, S = st.num 1 := ⟨_, rfl⟩
  rw [← eS] at hN hS HK h0
  clear eS eK
  obtain ⟨m, rs⟩ := S
  simp only [] at hN hS HK h0
  obtain ⟨A, eA⟩ : ∃ A, A = if K.2.wrong = 0 then K.1 else 0 := ⟨_, rfl⟩
  have HA : Hid (A = if K.2.wrong = 0 then K.1 else 0) := eA
  rw [← eA]
  clear eA
  obtain ⟨K1, K2⟩ := K
  simp only [] at HA ⊢
  go_enter Tryd.func28, Tryd.ntmps28
  go_upto_region 2 with (go_at_call 29; refine (hN _ h).mono ?_; rintro e w1 ⟨n, rfl, ⟨n0, n1⟩, hn, h1, hg1⟩)
  have h1' := h1
  obtain ⟨a1, l1, p1, q1, hE1⟩ := h1'
  have c2 := hE1.c2
  have z1 := hE1.lt
  by_cases hw : rs.wrong = 0
  · have hnm := hn hw
    subst hnm
    clear hn
    rw [hw] at c2
    by_cases hbad : n = 0 ∨ most + 1 ≤ n
    · have hK := HK.out
      rw [if_pos hbad] at hK
      simp only [Prod.mk.injEq] at hK
      have hin : inR n 1 most = false := inR_false (by omega)
      have h3 : (rs.refuse 3).wrong = 3 := by simp [RS.refuse, hw]
      have HA2 : Hid (A = 0) := by show _ = _; rw [HA.out, hK.2, if_neg (by rw [h3]; decide)]
      have HK2 : Hid (K2 = rs.refuse 3) := hK.2
      clear hK HK HA hbad
      go_upto_region 4 with (first | (go_at_call 57; refine (in_any _ _ _ _).mono ?_; rintro e u ⟨rfl, hu⟩; rw [hu, hin]; clear hu) | (go_at_call 58; refine (hS _ h1).mono ?_; rintro e w2 ⟨rfl, h2, hg2⟩))
      have h2' := h2
      obtain ⟨a2, l2, p2, q2, hE2⟩ := h2'
      have d2 := hE2.c2
      rw [h3] at d2
      have z2 := hE2.lt
      clear c2 z1 h3
      go_wp2
      go_ret
      exact ⟨by rw [HA2.out]; rfl, by rw [HK2.out]; exact h2, hg1.trans hg2⟩
    · have hK := HK.out
      rw [if_neg hbad] at hK
      simp only [Prod.mk.injEq] at hK
      have hin : inR n 1 most = true := inR_true (by omega) (by omega)
      have HA2 : Hid (A = n) := by show _ = _; rw [HA.out, hK.2, hK.1, if_pos hw]
      have HK2 : Hid (K2 = rs) := hK.2
      clear hK HK HA hbad
      go_wp2_with (go_at_call 57; refine (in_any _ _ _ _).mono ?_; rintro e u ⟨rfl, hu⟩; rw [hu, hin]; clear hu)
      go_ret
      exact ⟨by rw [HA2.out]; rfl, by rw [HK2.out]; exact h1, hg1⟩
  · have hK2 : K2 = rs := by
      have hK := HK.out
      split at hK
      · simp only [Prod.mk.injEq] at hK
        rw [hK.2]
        simp [RS.refuse, hw]
      · simp only [Prod.mk.injEq] at hK
        exact hK.2
    have HA2 : Hid (A = 0) := by show _ = _; rw [HA.out, hK2, if_neg hw]
    have HK2 : Hid (K2 = rs) := hK2
    obtain ⟨W, eW⟩ : ∃ x, x = rs.wrong := ⟨_, rfl⟩
    rw [← eW] at c2 hw
    clear HK HA hK2 hn eW
    have hw2 : (W == 0) = false := by simp [hw]
    go_wp2
    go_ret
    exact ⟨by rw [HA2.out]; rfl, by rw [HK2.out]; exact h1, hg1⟩

set_option maxRecDepth 100000 in
set_option maxHeartbeats 2000000 in
theorem eyeWho_any (R L : Nat) (bs : List Int) (st : RS) (w : World) (h : EyeTo w R L bs st) :
    Calls Tryd.prog 30 #[.pointer (some ⟨R, 0, none⟩)] w fun r w' => ∃ n m : Int, r = .returned (.agg #[.int .i64 n, .int .i64 m]) ∧ ((st.num 1).2.wrong = 0 → n = (st.num 1).1) ∧ (((st.num 1).2.num 3).2.wrong = 0 → m = ((st.num 1).2.num 3).1) ∧ EyeTo w' R L bs ((st.num 1).2.num 3).2 ∧ w.grownBy w' (some R) := by
  have hN : ∀ w', EyeTo w' R L bs st → Calls Tryd.prog 29 #[.pointer (some ⟨R, 0, none⟩), .int .i64 1] w' fun r w'' => ∃ n : Int, r = .returned (.int .i64 n) ∧ (0 ≤ n ∧ n < 4294967296) ∧ ((st.num 1).2.wrong = 0 → n = (st.num 1).1) ∧ EyeTo w'' R L bs (st.num 1).2 ∧ w'.grownBy w'' (some R) := fun w' h1 => eyeNum_any R L bs st 1 w' h1 (by omega)
  have hM : ∀ w', EyeTo w' R L bs (st.num 1).2 → Calls Tryd.prog 29 #[.pointer (some ⟨R, 0, none⟩), .int .i64 3] w' fun r w'' => ∃ n : Int, r = .returned (.int .i64 n) ∧ (0 ≤ n ∧ n < 4294967296) ∧ (((st.num 1).2.num 3).2.wrong = 0 → n = ((st.num 1).2.num 3).1) ∧ EyeTo w'' R L bs ((st.num 1).2.num 3).2 ∧ w'.grownBy w'' (some R) := fun w' h1 => eyeNum_any R L bs (st.num 1).2 3 w' h1 (by omega)
  obtain ⟨S, eS⟩ : ∃ S, S = st.num 1 := ⟨_, rfl⟩
  rw [← eS] at hN hM ⊢
  obtain ⟨T, eT⟩ : ∃ T, T = S.2.num 3 := ⟨_, rfl⟩
  rw [← eT] at hM ⊢
  clear eS eT
  have zR := h.lt
  obtain ⟨W, hW⟩ : ∃ W : World, W = w.alloc (.cells #[.int .i64 0, .int .i64 0] 27) := ⟨_, rfl⟩
  have bW : Below w.heap.size w W := by rw [hW]; exact (Below.refl _ _).alloc (Nat.le_refl _) _
  have hgW : w.grownBy W (some R) := ⟨bW.os, bW.tape, bW.output, bW.size, fun k hk _ => bW.block k hk⟩
  have c0 : W.cell? ⟨w.heap.size, 0, none⟩ = some (.int .i64 0) := by rw [hW]; go_simp
  have c1 : W.cell? ⟨w.heap.size, 1, none⟩ = some (.int .i64 0) := by rw [hW]; go_simp
  have f0 : W.frozen? ⟨w.heap.size, 0, none⟩ = false := by rw [hW]; go_simp
  have f1 : W.frozen? ⟨w.heap.size, 1, none⟩ = false := by rw [hW]; go_simp
  have zW : w.heap.size < W.heap.size := by rw [hW]; simp
  have hEW := h.below bW
  have hne : w.heap.size ≠ R := by omega
  have KW : Hid (∀ U, W.grownBy U (some R) → U.cell? ⟨w.heap.size, 0, none⟩ = some (.int .i64 0) ∧ U.cell? ⟨w.heap.size, 1, none⟩ = some (.int .i64 0) ∧ U.frozen? ⟨w.heap.size, 0, none⟩ = false ∧ U.frozen? ⟨w.heap.size, 1, none⟩ = false ∧ w.heap.size < U.heap.size) := fun U hU => by
    have hb := hU.block w.heap.size zW (by simpa using hne)
    exact ⟨(World.cell?_of_block (a := ⟨w.heap.size, 0, none⟩) hb).trans c0, (World.cell?_of_block (a := ⟨w.heap.size, 1, none⟩) hb).trans c1, (World.frozen?_of_block (a := ⟨w.heap.size, 0, none⟩) hb).trans f0, (World.frozen?_of_block (a := ⟨w.heap.size, 1, none⟩) hb).trans f1, Nat.lt_of_lt_of_le zW hU.size⟩
  go_enter Tryd.func30, Tryd.ntmps30
  go_upto_region 1 with (fail)
  rw [← hW]
  clear hW
  go_upto_region 2 with (go_at_call 29; refine (hN _ hEW).mono ?_; rintro e w1 ⟨n, rfl, _, hn, h1, hg1⟩)
  go_upto_region 3 with (go_at_call 29; refine (hM _ h1).mono ?_; rintro e w2 ⟨m, rfl, _, hm, h2, hg2⟩)
  have hgU := hg1.trans hg2
  clear c0 c1 f0 f1
  obtain ⟨c0, c1, f0, f1, zU⟩ := KW.out _ hgU
  have hE2 : EyeTo ((w2.setCell ⟨w.heap.size, 0, none⟩ (.int .i64 n)).setCell ⟨w.heap.size, 1, none⟩ (.int .i64 m)) R L bs T.2 := by
    have hLR := h.lt
    obtain ⟨aa, la, ca, pa, hEE⟩ := id h
    have hL := hEE.hL
    have g1 : w2.grownBy ((w2.setCell ⟨w.heap.size, 0, none⟩ (.int .i64 n)).setCell ⟨w.heap.size, 1, none⟩ (.int .i64 m)) (some w.heap.size) := grown_set (grown_set (grownR_refl _ _))
    exact h2.grown g1 (fun k hk => by simp at hk; omega)
  have hgF : w.grownBy ((w2.setCell ⟨w.heap.size, 0, none⟩ (.int .i64 n)).setCell ⟨w.heap.size, 1, none⟩ (.int .i64 m)) (some R) := by
    have g := hgW.trans hgU
    refine ⟨g.os, g.tape, g.output, by simpa using g.size, fun k hk hk2 => ?_⟩
    rw [Below.heap_setCell _ ⟨w.heap.size, 1, none⟩ _ k (by simp; omega), Below.heap_setCell _ ⟨w.heap.size, 0, none⟩ _ k (by simp; omega)]
    exact g.block k hk hk2
  go_wp2
  refine bodyPost_ret (v := .agg #[.int .i64 n, .int .i64 m]) (by simp [results, Tryd.results30, go_sem, c0, c1]) rfl ?_
  exact ⟨n, m, rfl, hn, hm, hE2, hgF⟩
end Go.Proofs.YtflfcjbgkpfgkaaDoor
/- The contract of the document's MessageOf: what msgOf tells. -/
namespace Go.Proofs.YtflfcjbgkpfgkaaDoor
open Go.ChangeShapes Go.WideShapes Go.ChangeAt Go.RowKit
set_option linter.unusedVariables false

/-- All that MessageOf has in memory: the eye at R, the message at M, the answer at Q, the config at C. -/
structure EM (w V : World) (R M Q C L : Nat) (bs : List Int) (vs cf : List Value) (st : RS) : Prop where
  eye : EyeTo V R L bs st
  msg : BoxN V M 12 vs
  res : BoxN V Q 12 [.int .i64 0, .int .i64 0, .int .i64 0, .int .i64 0, .int .i64 0, .int .i64 0, .int .i64 0, .int .i64 0, .int .i64 0, .int .i64 0, .bool false, .int .i64 0]
  cfg : BoxN V C 3 cf
  bel : Below w.heap.size w V
  ne : R ≠ M ∧ R ≠ Q ∧ R ≠ C ∧ M ≠ Q ∧ M ≠ C ∧ Q ≠ C
  le : w.heap.size ≤ R ∧ w.heap.size ≤ M ∧ w.heap.size ≤ Q ∧ w.heap.size ≤ C ∧ L ≤ w.heap.size
theorem EM.call {w V V' : World} {R M Q C L : Nat} {bs : List Int} {vs cf : List Value} {st st' : RS} (h : EM w V R M Q C L bs vs cf st) (hg : V.grownBy V' (some R)) (he : EyeTo V' R L bs st') : EM w V' R M Q C L bs vs cf st' :=
  ⟨he, h.msg.grown hg (by simpa using h.ne.1.symm), h.res.grown hg (by simpa using h.ne.2.1.symm), h.cfg.grown hg (by simpa using h.ne.2.2.1.symm), h.bel.grown hg h.bel.size (fun k hk => by simp at hk; have := h.le.1; omega), h.ne, h.le⟩
theorem EM.set {w V : World} {R M Q C L : Nat} {bs : List Int} {vs cf : List Value} {st : RS} (h : EM w V R M Q C L bs vs cf st) (k : Nat) (hk : k < 12) (v : Value) : EM w (V.setCell ⟨M, k, none⟩ v) R M Q C L bs (vs.set k v) cf st :=
  ⟨h.eye.grown (grown_set (grownR_refl _ _) : V.grownBy (V.setCell ⟨M, k, none⟩ v) (some M)) (fun j hj => by simp at hj; have := h.le; have := h.ne.1; omega), h.msg.set k hk v, h.res.far h.ne.2.2.2.1.symm, h.cfg.far h.ne.2.2.2.2.1.symm, h.bel.setCell (p := ⟨M, k, none⟩) h.le.2.1 v, h.ne, h.le⟩
theorem yes_same {r : RS} {n : Int} (h : (r.num 1).2.wrong = 0 → n = (r.num 1).1) : (if 1 < n then (r.num 1).2.refuse 4 else (r.num 1).2) = (r.part 5 1).2 := by
  rw [part_yes]
  simp only [RS.truth]
  by_cases hw : (r.num 1).2.wrong = 0
  · rw [h hw]
  · have hr : (r.num 1).2.refuse 4 = (r.num 1).2 := by simp [RS.refuse, hw]
    rw [hr]
    split <;> split <;> rfl


/-- Numbers that were read one behind the other: each is what was read, as long as nothing was wrong. -/
def Ch : List Nat → RS → List Int → RS → Prop
  | [], r, [], r' => r' = r
  | k :: ks, r, n :: ns, r' => ((r.num k).2.wrong = 0 → n = (r.num k).1) ∧ Ch ks (r.num k).2 ns r'
  | _, _, _, _ => False
theorem rd_down {ks : List Nat} {r : RS} (h : (rdNums ks r).2.wrong = 0) : r.wrong = 0 := by
  induction ks generalizing r with
  | nil => exact h
  | cons k ks ih => exact num_down (ih h)
theorem Ch.rd {ks : List Nat} {r r' : RS} {ns : List Int} (h : Ch ks r ns r') : r' = (rdNums ks r).2 ∧ (r'.wrong = 0 → ns = (rdNums ks r).1) := by
  induction ks generalizing r ns with
  | nil =>
    cases ns with
    | nil => exact ⟨h, fun _ => rfl⟩
    | cons _ _ => exact h.elim
  | cons k ks ih =>
    cases ns with
    | nil => exact h.elim
    | cons n ns =>
      obtain ⟨h1, h2⟩ := h
      obtain ⟨h3, h4⟩ := ih h2
      refine ⟨h3, fun hw => ?_⟩
      have hd : (r.num k).2.wrong = 0 := rd_down (by rw [← h3]; exact hw)
      show n :: ns = (r.num k).1 :: _
      rw [h1 hd, h4 hw]
theorem kind_zero {r : RS} (h : (r.kind 10).2.wrong ≠ 0) (h0 : r.wrong = 0) : (r.kind 10).1 = 0 := by
  unfold RS.kind at h ⊢
  split
  · rfl
  · rename_i hn
    rw [if_neg hn] at h
    by_cases hl : 1 ≤ r.rest.length
    · rw [num_ok h0 hl] at h; exact absurd rfl h
    · rw [num_short h0 (by omega)] at hn; exact absurd (Or.inl rfl) hn
theorem dec_nothing {r : RS} (h : (r.kind 10).2.wrong ≠ 0) (h0 : r.wrong = 0) : (decMsgRS r).2 = (r.kind 10).2 := by
  have hz := kind_zero h h0
  obtain ⟨K, eK⟩ : ∃ K, K = r.kind 10 := ⟨_, rfl⟩
  unfold decMsgRS
  rw [← eK] at h hz ⊢
  obtain ⟨k, q⟩ := K
  simp only at h hz ⊢
  subst hz
  have h1 : ∀ k, q.num k = (0, q) := fun k => num_wrong h
  simp [h1, mHasOf, mHas, decParts, widL]
theorem Ch.stays {ks : List Nat} {r r' : RS} {ns : List Int} (h : Ch ks r ns r') (hw : r.wrong ≠ 0) : r' = r := by
  induction ks generalizing r ns with
  | nil => cases ns with
    | nil => exact h
    | cons _ _ => exact h.elim
  | cons k ks ih => cases ns with
    | nil => exact h.elim
    | cons n ns =>
      have e : r.num k = (0, r) := num_wrong hw
      have h2 := h.2
      rw [e] at h2
      exact ih h2 hw
/-- What was read of a kind without a truth is the message. -/
theorem ch_msg {r r' : RS} {k : Nat} {ns : List Int} (hk : 1 ≤ k ∧ k ≤ 9) (h1 : (r.num 1).1 = k) (h0 : (r.num 1).2.wrong = 0) (h : Ch ((mWid k).drop 1) (r.num 1).2 ns r') (hT : k ≠ 4 ∧ k ≠ 7) :
    r' = (decMsgRS r).2 ∧ (r'.wrong = 0 → (decMsgRS r).1 = mMake k ((k : Int) :: ns)) := by
  have hks : mWid k = 1 :: (mWid k).drop 1 := by
    rcases (by omega : k = 1 ∨ k = 2 ∨ k = 3 ∨ k = 4 ∨ k = 5 ∨ k = 6 ∨ k = 7 ∨ k = 8 ∨ k = 9) with rfl | rfl | rfl | rfl | rfl | rfl | rfl | rfl | rfl <;> rfl
  have hc : Ch (mWid k) r ((k : Int) :: ns) r' := by rw [hks]; exact ⟨fun _ => h1.symm, h⟩
  obtain ⟨e1, e2⟩ := hc.rd
  have ht : ∀ l, mTruth k l = 0 := fun l => by
    rcases (by omega : k = 1 ∨ k = 2 ∨ k = 3 ∨ k = 5 ∨ k = 6 ∨ k = 8 ∨ k = 9) with rfl | rfl | rfl | rfl | rfl | rfl | rfl <;> rfl
  rw [dec_kind r k hk h1]
  refine ⟨?_, fun hw => ?_⟩
  · show r' = (rdNums (mWid k) r).2.truth _
    rw [ht, e1]; rfl
  · show mMake k _ = _
    rw [e2 hw]
/-- The same of a kind with a truth behind all. -/
theorem ch_yes {r r' : RS} {k : Nat} {ns : List Int} {n : Int} (hk : k = 4 ∨ k = 7) (h1 : (r.num 1).1 = k) (h0 : (r.num 1).2.wrong = 0) (h : Ch ((mWid k).drop 1) (r.num 1).2 (ns ++ [n]) r') (hl : ns.length = if k = 4 then 4 else 7) :
    (if 1 < n then r'.refuse 4 else r') = (decMsgRS r).2 ∧ ((if 1 < n then r'.refuse 4 else r').wrong = 0 → (decMsgRS r).1 = mMake k ((k : Int) :: (ns ++ [n]))) := by
  have hks : mWid k = 1 :: (mWid k).drop 1 := by rcases hk with rfl | rfl <;> rfl
  have hc : Ch (mWid k) r ((k : Int) :: (ns ++ [n])) r' := by rw [hks]; exact ⟨fun _ => h1.symm, h⟩
  obtain ⟨e1, e2⟩ := hc.rd
  have ht : mTruth k ((k : Int) :: (ns ++ [n])) = n := by
    rcases hk with rfl | rfl
    · match ns, hl with
      | [x1, x2, x3, x4], _ => rfl
    · match ns, hl with
      | [x1, x2, x3, x4, x5, x6, x7], _ => rfl
  rw [dec_kind r k (by omega) h1]
  by_cases hw : r'.wrong = 0
  · rw [← e2 hw, ht, ← e1]
    exact ⟨rfl, fun _ => rfl⟩
  · have er : (if 1 < n then r'.refuse 4 else r') = r' := by split; exact refuse_wrong hw; rfl
    rw [er]
    refine ⟨?_, fun h => absurd h hw⟩
    show r' = (rdNums (mWid k) r).2.truth _
    rw [← e1, truth_wrong hw]
def MV.cs (m : MV) : List Value := [.int .i64 m.kind, .int .i64 m.frm, .int .i64 m.dst, .int .i64 m.site, .int .i64 m.num, .int .i64 m.label, .int .i64 m.key, .int .i64 m.value, .int .i64 m.version, .int .i64 m.ask, .bool m.yes, .int .i64 m.code]

end Go.Proofs.YtflfcjbgkpfgkaaDoor
