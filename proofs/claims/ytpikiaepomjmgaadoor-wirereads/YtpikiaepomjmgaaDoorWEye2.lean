/- The contracts of the document's reader: num, yes, first, who. -/
import Derived.Test.YtpikiaepomjmgaaDoorWEye
namespace Go.Proofs.YtpikiaepomjmgaaDoor
open Go.ChangeShapes Go.WideShapes Go.ChangeAt Go.RowKit
set_option linter.unusedVariables false

theorem EyeAt.below {w w' : World} {R L : Nat} {bs : List Int} {a : Option Addr} {len cap pos : Nat} {st : RS} (h : EyeAt w R L bs a len cap pos st) (hb : Below w.heap.size w w') : EyeAt w' R L bs a len cap pos st := by
  have hlt := h.lt
  exact ⟨(hb.cell (p := ⟨R, 0, none⟩) hlt).trans h.c0, (hb.cell (p := ⟨R, 1, none⟩) hlt).trans h.c1, (hb.cell (p := ⟨R, 2, none⟩) hlt).trans h.c2, (hb.frozen (p := ⟨R, 1, none⟩) hlt).trans h.f1, (hb.frozen (p := ⟨R, 2, none⟩) hlt).trans h.f2, h.isb.below hb, h.hat, h.rel, h.far, h.hL, h.e0, h.big⟩
theorem EyeAt.to {w : World} {R L : Nat} {bs : List Int} {a : Option Addr} {len cap pos pos' : Nat} {st st' : RS} (h : EyeAt w R L bs a len cap pos st) (hp : pos' ≤ len) (hw : st'.wrong = st.wrong) (hr : st'.wrong = 0 → st'.rest = bs.drop pos') : EyeAt (w.setCell ⟨R, 1, none⟩ (.int .i64 (pos' : Int))) R L bs a len cap pos' st' := by
  obtain ⟨c0, c1, c2, f1, f2, hI, hat, hrl, hfar, hLR, he0, hbig⟩ := h
  have hfar' : ∀ b off, 0 < len → a = some ⟨b, off, none⟩ → b ≠ R := fun b off hl e => by have := hfar b off hl e; omega
  exact ⟨by go_simp, by go_simp, by rw [hw]; go_simp, by go_simp, by go_simp, hI.set0 _ _ hfar', hp, hr, hfar, hLR, by rw [hw]; exact he0, hbig⟩
theorem EyeAt.same {w : World} {R L : Nat} {bs : List Int} {a : Option Addr} {len cap pos : Nat} {st st' : RS} (h : EyeAt w R L bs a len cap pos st) (hw : st'.wrong = st.wrong) (hr : st'.wrong = 0 → st'.rest = bs.drop pos) : EyeAt w R L bs a len cap pos st' := ⟨h.c0, h.c1, by rw [hw]; exact h.c2, h.f1, h.f2, h.isb, h.hat, hr, h.far, h.hL, by rw [hw]; exact h.e0, h.big⟩
theorem grown_drewN (w : World) (n : Nat) (row : Option Nat) : w.grownBy (w.drewN n) row := by
  have h : Below w.heap.size w (w.drewN n) := below_drewN (Below.refl _ _) n
  exact ⟨h.os, h.tape, h.output, h.size, fun k hk _ => h.block k hk⟩

set_option maxRecDepth 100000 in
set_option maxHeartbeats 4000000 in
theorem eyeNum_any (R L : Nat) (bs : List Int) (st : RS) (k : Nat) (w : World) (h : EyeTo w R L bs st) (hk : 1 ≤ k ∧ k ≤ 4) :
    Calls Tryd.prog 23 #[.pointer (some ⟨R, 0, none⟩), .int .i64 (k : Int)] w fun r w' => ∃ n : Int, r = .returned (.int .i64 n) ∧ (0 ≤ n ∧ n < 4294967296) ∧ ((st.num k).2.wrong = 0 → n = (st.num k).1) ∧ EyeTo w' R L bs (st.num k).2 ∧ w.grownBy w' (some R) := by
  have hs := h
  obtain ⟨a, len, cap, pos, hE⟩ := h
  have hI := hE.isb
  have hlen : bs.length = len := hI.1
  have hmax : (len : Int) ≤ 9223372036854775807 := by have := hI.2.1; have := hI.2.2.1; unfold maxLen at this; omega
  have hcap : cap ≤ maxLen := hI.2.2.1
  unfold maxLen at hcap
  have hlc : len ≤ cap := hI.2.1
  obtain ⟨k1, k4⟩ := hk
  have hpos := hE.hat
  have hbig := hE.big
  have hrl := hE.rel
  have he0 := hE.e0
  have c0 := hE.c0
  have c1 := hE.c1
  have c2 := hE.c2
  have zR := hE.lt
  have hst := fun w' h1 => stop_any R L bs st 5 w' h1 (by omega)
  by_cases hbad : st.wrong = 5 ∨ len < pos + k
  · have hnum : st.num k = (0, st.refuse 5) ∧ (st.refuse 5).wrong ≠ 0 := by
      by_cases hw : st.wrong = 0
      · have h1 : st.rest.length < k := by
          rw [hrl hw, List.length_drop, hlen]
          omega
        have h2 : st.refuse 5 = ⟨st.rest, 5⟩ := by simp [RS.refuse, hw]
        exact ⟨by rw [h2]; exact num_short hw h1, by rw [h2]; simp⟩
      · have h2 : st.refuse 5 = st := by simp [RS.refuse, hw]
        exact ⟨by rw [h2]; exact num_stays hw, by rw [h2]; exact hw⟩
    rw [hnum.1]
    obtain ⟨S5, e5⟩ : ∃ S, S = st.refuse 5 := ⟨_, rfl⟩
    have hS5 := hnum.2
    rw [← e5] at hst hS5 ⊢
    clear e5 hnum
    obtain ⟨W, eW⟩ : ∃ x, x = st.wrong := ⟨_, rfl⟩
    rw [← eW] at c2 hbad he0
    clear eW hrl
    go_enter Tryd.func23, Tryd.ntmps23
    go_upto_region 1 with (fail)
    rcases (by omega : W = 5 ∨ (W ≠ 5 ∧ len < pos + k)) with h5 | ⟨h5, hl⟩
    · subst h5
      go_quiet (fail)
      have bN : Below w.heap.size w (w.drewN nq) := below_drewN (Below.refl _ _) nq
      have hg0 := grown_drewN w nq (some R)
      have hsV := hs.below bN
      obtain ⟨V, eV⟩ : ∃ V, V = w.drewN nq := ⟨_, rfl⟩
      rw [← eV] at bN hg0 hsV ⊢
      clear eV c0 c1 c2 hE
      go_upto_region 3 with (go_at_call 50; refine (hst _ hsV).mono ?_; rintro e w1 ⟨rfl, h1, hg1⟩)
      obtain ⟨a1, l1, p1, q1, hE1⟩ := h1
      have c0 := hE1.c0
      have c1 := hE1.c1
      have f1 := hE1.f1
      have z1 := hE1.lt
      go_wp2
      go_ret
      exact ⟨0, rfl, by omega, fun h0 => absurd h0 hS5, ⟨a1, l1, p1, l1, hE1.to (Nat.le_refl _) rfl (fun h0 => absurd h0 hS5)⟩, grown_set (hg0.trans hg1)⟩
    · have hwp : IntKind.i64.wrap ((pos : Int) + (k : Int)) = (pos : Int) + (k : Int) := by rw [IntKind.wrap_i64]; omega
      have hl' : (len : Int) < (pos : Int) + (k : Int) := by omega
      have h5' : (W == 5) = false := by simp [h5]
      go_quiet (fail)
      have bN : Below w.heap.size w (w.drewN nq) := below_drewN (Below.refl _ _) nq
      have hg0 := grown_drewN w nq (some R)
      have hsV := hs.below bN
      obtain ⟨V, eV⟩ : ∃ V, V = w.drewN nq := ⟨_, rfl⟩
      rw [← eV] at bN hg0 hsV ⊢
      clear eV c0 c1 c2 hE
      go_upto_region 3 with (go_at_call 50; refine (hst _ hsV).mono ?_; rintro e w1 ⟨rfl, h1, hg1⟩)
      obtain ⟨a1, l1, p1, q1, hE1⟩ := h1
      have c0 := hE1.c0
      have c1 := hE1.c1
      have f1 := hE1.f1
      have z1 := hE1.lt
      go_wp2
      go_ret
      exact ⟨0, rfl, by omega, fun h0 => absurd h0 hS5, ⟨a1, l1, p1, l1, hE1.to (Nat.le_refl _) rfl (fun h0 => absurd h0 hS5)⟩, grown_set (hg0.trans hg1)⟩
  · have h5 : st.wrong ≠ 5 := fun e => hbad (.inl e)
    have hl : pos + k ≤ len := by omega
    have hnum : ((st.num k).2.wrong = 0 → bval ((bs.drop pos).take k) = (st.num k).1) ∧ (st.num k).2.wrong = st.wrong ∧ ((st.num k).2.wrong = 0 → (st.num k).2.rest = bs.drop (pos + k)) := by
      by_cases hw : st.wrong = 0
      · have h1 : k ≤ st.rest.length := by
          rw [hrl hw, List.length_drop, hlen]
          omega
        rw [num_ok hw h1, hrl hw]
        exact ⟨fun _ => rfl, hw.symm, fun _ => by simp only [List.drop_drop]⟩
      · rw [num_stays hw]
        exact ⟨fun h0 => absurd h0 hw, rfl, fun h0 => absurd h0 hw⟩
    obtain ⟨S2, eS2⟩ : ∃ S, S = st.num k := ⟨_, rfl⟩
    rw [← eS2] at hnum ⊢
    clear eS2
    obtain ⟨hn1, hn2, hn3⟩ := hnum
    obtain ⟨W, eW⟩ : ∃ x, x = st.wrong := ⟨_, rfl⟩
    rw [← eW] at c2 h5 he0 hn2
    have hE0 : EyeAt w R L bs a len cap pos ⟨bs.drop pos, W⟩ := hE.same eW (fun _ => rfl)
    clear eW hrl hbad hE hst hs
    have hwp : IntKind.i64.wrap ((pos : Int) + (k : Int)) = (pos : Int) + (k : Int) := by rw [IntKind.wrap_i64]; omega
    have hl' : ¬ (len : Int) < (pos : Int) + (k : Int) := by omega
    have h5' : (W == 5) = false := by simp [h5]
    have hbyt := hI.2.2.2.1
    have HB : Hid (Byt (bs.drop pos)) := hbyt.drop pos
    have HLD : Hid ((bs.drop pos).length = len - pos) := by show _ = _; rw [List.length_drop, hlen]
    have HGD : Hid (∀ j, pos + j < len → (bs.drop pos).getD j 0 = bs.getD (pos + j) 0) := fun j hj => by simp [List.getD]
    go_enter Tryd.func23, Tryd.ntmps23
    go_upto_region 1 with (fail)
    go_quiet (fail)
    have bN : Below w.heap.size w (w.drewN nq) := below_drewN (Below.refl _ _) nq
    have hg0 := grown_drewN w nq (some R)
    have hE1 := hE0.below bN
    obtain ⟨V, eV⟩ : ∃ V, V = w.drewN nq := ⟨_, rfl⟩
    rw [← eV] at bN hg0 hE1 ⊢
    clear eV c0 c1 c2 hE0
    go_wp2
    go_loopw [5, 6] (fun s5 s6 wr => ∃ (j qq : Nat), s6 = .int .i64 (j : Int) ∧ j ≤ k ∧ s5 = .int .i64 (bval ((bs.drop pos).take j)) ∧ Hid (qq = pos + j) ∧ EyeAt wr R L bs a len cap qq ⟨bs.drop qq, W⟩ ∧ w.grownBy wr (some R)) (fun _ s6 _ => k - (intOf s6).toNat)
    case atStart => exact ⟨0, pos, rfl, Nat.zero_le _, rfl, rfl, hE1, hg0⟩
    case round =>
      clear hE1
      obtain ⟨j, qq, rfl, hj, rfl, hqq, hE, hg⟩ := hrel
      have c0 := hE.c0
      have c1 := hE.c1
      have f1 := hE.f1
      have zr := hE.lt
      by_cases hlt : j < k
      · have hlt' : (j : Int) < (k : Int) := by omega
        have hql : qq < len := by rw [hqq.out]; omega
        have hql' : (qq : Int) < (len : Int) := by omega
        have hjl : j < (bs.drop pos).length := by rw [HLD.out]; omega
        have hb1 := HB.out _ (List.getElem_mem hjl)
        have hgd := HGD.out j (by omega)
        have hge : (bs.drop pos).getD j 0 = (bs.drop pos)[j] := by simp only [List.getD, List.getElem?_eq_getElem hjl, Option.getD_some]
        rw [← hge, hgd] at hb1
        have hs2 : Hid (bval ((bs.drop pos).take (j + 1)) = bval ((bs.drop pos).take j) * 256 + bs.getD (pos + j) 0) := by show _ = _; rw [take_get hjl, bval_snoc, hgd]
        obtain ⟨b, off, rfl, hbl, hcell⟩ := hE.isb.2.2.2.2.2 (by omega)
        have hr := hcell qq hql
        rw [hqq.out] at hr
        have hv := bval_bd j ((bs.drop pos).take j) (by rw [List.length_take, HLD.out]; omega) (HB.out.take j)
        have hp : (256 : Int) ^ j ≤ 16777216 := by
          rcases (by omega : j = 0 ∨ j = 1 ∨ j = 2 ∨ j = 3) with rfl | rfl | rfl | rfl <;> decide
        obtain ⟨x, ex⟩ : ∃ x, x = bs.getD (pos + j) 0 := ⟨_, rfl⟩
        obtain ⟨n, en⟩ : ∃ n, n = bval ((bs.drop pos).take j) := ⟨_, rfl⟩
        rw [← ex] at hr hb1 hs2
        rw [← en] at hv hs2 ⊢
        rw [← hqq.out] at hr
        clear ex en hge hgd hcell
        obtain ⟨v0, v1⟩ := hv
        obtain ⟨y0, y1⟩ := hb1
        have v2 : n < 16777216 := by omega
        have hw1 : IntKind.i64.wrap (256 * n) = 256 * n := by rw [IntKind.wrap_i64]; omega
        have hw2 : IntKind.i64.wrap (256 * n + x) = 256 * n + x := by rw [IntKind.wrap_i64]; omega
        have hw3 : IntKind.i64.wrap ((qq : Int) + 1) = (qq : Int) + 1 := by rw [IntKind.wrap_i64]; omega
        have hw4 : IntKind.i64.wrap x = x := by rw [IntKind.wrap_i64]; omega
        go_upto_region 9 with (fail)
        go_quiet (fail)
        have bN2 : Below wr.heap.size wr (wr.drewN nq) := below_drewN (Below.refl _ _) nq
        have hg2 := grown_drewN wr nq (some R)
        have hE2 := hE.below bN2
        obtain ⟨V2, eV2⟩ : ∃ V, V = wr.drewN nq := ⟨_, rfl⟩
        rw [← eV2] at bN2 hg2 hE2 ⊢
        clear eV2 c0 c1 f1 zr hE hr
        have c0 := hE2.c0
        have c1 := hE2.c1
        have f1 := hE2.f1
        have zr := hE2.lt
        have hE3 := hE2.to (pos' := qq + 1) (st' := ⟨bs.drop (qq + 1), W⟩) (by omega) rfl (fun _ => rfl)
        have hg3 : w.grownBy (V2.setCell ⟨R, 1, none⟩ (.int .i64 ((qq + 1 : Nat) : Int))) (some R) := grown_set (hg.trans hg2)
        go_wp2
        go_roundw
        case rel => exact ⟨j + 1, qq + 1, by go_num, by omega, by rw [hs2.out]; congr 1; omega, by show _ = _; rw [hqq.out]; omega, by simpa using hE3, by simpa using hg3⟩
        case measure => simp [intOf]; omega
      · obtain rfl : j = k := by omega
        have hv := bval_bd j ((bs.drop pos).take j) (by rw [List.length_take, HLD.out]; omega) (HB.out.take j)
        have hp : (256 : Int) ^ j ≤ 4294967296 := by
          rcases (by omega : j = 1 ∨ j = 2 ∨ j = 3 ∨ j = 4) with rfl | rfl | rfl | rfl <;> decide
        have hfin : EyeTo wr R L bs S2.2 := ⟨a, len, cap, qq, hE.same hn2 (fun h0 => by rw [hn3 h0, hqq.out])⟩
        go_wp2
        go_ret
        exact ⟨_, rfl, ⟨hv.1, by omega⟩, hn1, hfin, hg⟩
end Go.Proofs.YtpikiaepomjmgaaDoor
