/- The contract of store.writesOf: the locks of a transaction that are for writing, in memory of their own; and of Writes. -/
import Derived.Test.YtekglahigjblkaaGreatDoorM7RecoverRebuilds
import Derived.Test.YtekglahigjblkaaGreatDoorM17RecoverRebuilds
import Derived.Deep.Cut
namespace Go.Proofs.YtekglahigjblkaaGreatDoor.St
open Go.ChangeShapes Go.WideShapes Go.ChangeAt Go.RowKit
set_option linter.unusedVariables false

def wOf (t : Int × Int) (k : LkV) : Bool := k.write && decide (k.t = t)
theorem filter_at {p : LkV → Bool} {xs : List LkV} {j : Nat} (hj : j < xs.length) : (xs.take (j + 1)).filter p = (xs.take j).filter p ++ (if p (xs.getD j default) then [xs.getD j default] else []) := by
  rw [take_at hj, List.filter_append]
  simp only [List.filter_cons, List.filter_nil]

set_option maxRecDepth 100000 in
set_option maxHeartbeats 4000000 in
theorem writesOf_any (s : SV) (t : Int × Int) (w : World) (h : IsLocks w s.la s.ll s.lc s.locks) (h24 : s.ll ≤ 24) :
    Calls Tryz.prog 69 #[s.val, .agg #[.int .i64 t.1, .int .i64 t.2]] w fun e w' => ∃ (ao : Option Addr) (cp : Nat), e = .returned (.slice ao (s.locks.filter (wOf t)).length cp) ∧ IsLocks w' ao (s.locks.filter (wOf t)).length cp (s.locks.filter (wOf t)) ∧ (∀ b off, ao = some ⟨b, off, none⟩ → w.heap.size ≤ b ∧ b < w'.heap.size) ∧ Below w.heap.size w w' := by
  obtain ⟨i0, hi, li0, li1, li2⟩ := info_parts lkInfo
  obtain ⟨ia, il, ic, la, ll, lc, da, dl, dc, oa, ol, oc, items, locks, doubts, over⟩ := s
  obtain ⟨ts, tn⟩ := t
  simp only [SV.val] at *
  obtain ⟨hlen, hcap, hmax, _, hmem⟩ := h
  have HL : Hid (locks.length = ll) := hlen
  clear hlen
  unfold maxLen at hmax
  obtain ⟨P, eP⟩ : ∃ P, P = wOf (ts, tn) := ⟨_, rfl⟩
  have EP : Hid (∀ y, P y = (y.write && decide (y.t = (ts, tn)))) := by show ∀ _, _; rw [eP]; intro y; rfl
  rw [← eP]
  clear eP
  obtain ⟨W, hW⟩ : ∃ W : World, W = (w.alloc (.cells #[.slice ia il ic, .slice la ll lc, .slice da dl dc, .slice oa ol oc] 31)).alloc (.cells #[.int .i64 ts, .int .i64 tn] 51) := ⟨_, rfl⟩
  have hB : Below w.heap.size w W := by rw [hW]; exact ((Below.refl _ _).alloc (Nat.le_refl _) _).alloc (by simp) _
  have zW : W.heap.size = w.heap.size + 2 := by rw [hW]; simp
  have z0 : w.heap.size < W.heap.size := by omega
  have z1 : w.heap.size + 1 < W.heap.size := by omega
  clear zW
  have c0 : W.cell? ⟨w.heap.size, 0, none⟩ = some (.slice ia il ic) := by rw [hW]; go_simp
  have c1 : W.cell? ⟨w.heap.size, 1, none⟩ = some (.slice la ll lc) := by rw [hW]; go_simp
  have c2 : W.cell? ⟨w.heap.size, 2, none⟩ = some (.slice da dl dc) := by rw [hW]; go_simp
  have c3 : W.cell? ⟨w.heap.size, 3, none⟩ = some (.slice oa ol oc) := by rw [hW]; go_simp
  have c4 : W.cell? ⟨w.heap.size + 1, 0, none⟩ = some (.int .i64 ts) := by rw [hW]; go_simp
  have c5 : W.cell? ⟨w.heap.size + 1, 1, none⟩ = some (.int .i64 tn) := by rw [hW]; go_simp
  have KA : Hid (∀ U : World, Below W.heap.size W U → U.cell? ⟨w.heap.size, 0, none⟩ = some (.slice ia il ic) ∧ U.cell? ⟨w.heap.size, 1, none⟩ = some (.slice la ll lc) ∧ U.cell? ⟨w.heap.size, 2, none⟩ = some (.slice da dl dc) ∧ U.cell? ⟨w.heap.size, 3, none⟩ = some (.slice oa ol oc) ∧ U.cell? ⟨w.heap.size + 1, 0, none⟩ = some (.int .i64 ts) ∧ U.cell? ⟨w.heap.size + 1, 1, none⟩ = some (.int .i64 tn)) := fun U hU =>
    ⟨(hU.cell (p := ⟨w.heap.size, 0, none⟩) z0).trans c0, (hU.cell (p := ⟨w.heap.size, 1, none⟩) z0).trans c1, (hU.cell (p := ⟨w.heap.size, 2, none⟩) z0).trans c2, (hU.cell (p := ⟨w.heap.size, 3, none⟩) z0).trans c3, (hU.cell (p := ⟨w.heap.size + 1, 0, none⟩) z1).trans c4, (hU.cell (p := ⟨w.heap.size + 1, 1, none⟩) z1).trans c5⟩
  go_enter Tryz.func69, Tryz.ntmps69
  go_wp2
  rw [← hW]
  clear hW
  go_loopw [5, 11] (fun s5 s11 wr => ∃ (k : Nat) (ys : List LkV) (ao : Option Addr) (cp : Nat), k ≤ ll ∧ s11 = .int .i64 k ∧ s5 = .slice ao ys.length cp ∧ wr.ownsRow W.heap.size 70 6 (.slice ao ys.length cp) ys.length (flat LkV.cells ys) ∧ Hid (ys = (locks.take k).filter P) ∧ ys.length ≤ k ∧ Below W.heap.size W wr) (fun _ s11 _ => ll - (intOf s11).toNat)
  case atStart => exact ⟨0, [], none, 0, Nat.zero_le _, rfl, rfl, World.ownsRow_nil _ _ _ _, by show _ = _; simp, Nat.le_refl _, Below.refl _ _⟩
  case round =>
    obtain ⟨k, ys, ao, cp, hk, rfl, rfl, hown, hys, hyk, hb⟩ := hrel
    have hwr := hB.trans (hb.mono hB.size)
    clear c0 c1 c2 c3 c4 c5
    obtain ⟨c0, c1, c2, c3, c4, c5⟩ := KA.out _ hb
    by_cases hlt : k < ll
    · have hlt' : (k : Int) < (ll : Int) := by omega
      obtain ⟨b, off, rfl, zb, hc⟩ := hmem (by omega)
      have hkl : k < locks.length := by have := HL.out; omega
      have hcells := hc k hlt
      have n1 := filter_at (p := P) hkl
      obtain ⟨x, ex⟩ : ∃ x, x = locks.getD k default := ⟨_, rfl⟩
      rw [← ex] at hcells n1
      clear ex
      rw [EP.out, ← hys.out] at n1
      have N1 : Hid ((locks.take (k + 1)).filter P = ys ++ (if (x.write && decide (x.t = (ts, tn))) = true then [x] else [])) := n1
      clear n1 hys
      obtain ⟨⟨site, num⟩, key, write, value, ask⟩ := x
      have a0 := hcells 0 (by decide)
      have a1 := hcells 1 (by decide)
      have a2 := hcells 2 (by decide)
      have a3 := hcells 3 (by decide)
      have a4 := hcells 4 (by decide)
      have a5 := hcells 5 (by decide)
      simp [LkV.cells] at a0 a1 a2 a3 a4 a5
      rw [← hwr.cell (p := ⟨b, off + k * 6, none⟩) zb] at a0
      rw [← hwr.cell (p := ⟨b, off + k * 6 + 1, none⟩) zb] at a1
      rw [← hwr.cell (p := ⟨b, off + k * 6 + 2, none⟩) zb] at a2
      rw [← hwr.cell (p := ⟨b, off + k * 6 + 3, none⟩) zb] at a3
      rw [← hwr.cell (p := ⟨b, off + k * 6 + 4, none⟩) zb] at a4
      rw [← hwr.cell (p := ⟨b, off + k * 6 + 5, none⟩) zb] at a5
      clear hcells hc
      obtain ⟨V, hV⟩ : ∃ V : World, V = wr.alloc (.cells #[.int .i64 site, .int .i64 num, .int .i64 key, .bool write, .int .i64 value, .int .i64 ask] 70) := ⟨_, rfl⟩
      have bV : Below W.heap.size W V := by rw [hV]; exact hb.alloc hb.size _
      have oV : V.ownsRow W.heap.size 70 6 (.slice ao ys.length cp) ys.length (flat LkV.cells ys) := by rw [hV]; exact hown.alloc _
      have zV : wr.heap.size < V.heap.size := by rw [hV]; simp
      have b0 : V.cell? ⟨wr.heap.size, 0, none⟩ = some (.int .i64 site) := by rw [hV]; go_simp
      have b1 : V.cell? ⟨wr.heap.size, 1, none⟩ = some (.int .i64 num) := by rw [hV]; go_simp
      have b2 : V.cell? ⟨wr.heap.size, 2, none⟩ = some (.int .i64 key) := by rw [hV]; go_simp
      have b3 : V.cell? ⟨wr.heap.size, 3, none⟩ = some (.bool write) := by rw [hV]; go_simp
      have b4 : V.cell? ⟨wr.heap.size, 4, none⟩ = some (.int .i64 value) := by rw [hV]; go_simp
      have b5 : V.cell? ⟨wr.heap.size, 5, none⟩ = some (.int .i64 ask) := by rw [hV]; go_simp
      go_upto_region 5 with (fail)
      rw [← hV]
      clear hV a0 a1 a2 a3 a4 a5 c0 c1 c2 c3 c4 c5
      obtain ⟨c0, c1, c2, c3, c4, c5⟩ := KA.out _ bV
      obtain ⟨T, eT⟩ : ∃ T, T = (write && decide ((site, num) = (ts, tn))) := ⟨_, rfl⟩
      simp only at N1
      rw [← eT] at N1
      have ET : Hid (T = (write && decide ((site, num) = (ts, tn)))) := eT
      clear eT
      go_cut [22] (fun s22 wc => s22 = .bool T ∧ wc = V)
      case first =>
        clear N1
        go_wp2
        all_goals go_meet
        all_goals (refine ⟨?_, rfl⟩; rw [ET.out]; first | (simp_all; done) | (simp_all; rfl) | (simp_all; omega))
      case rest =>
        obtain ⟨rfl, rfl⟩ := hcut
        cases T with
        | false =>
          go_wp2
          go_roundw
          case rel => exact ⟨k + 1, ys, ao, cp, by omega, by go_num, rfl, oV, by show _ = _; rw [N1.out]; simp, by omega, bV⟩
          case measure => simp [intOf]; omega
        | true =>
          have zX : W.heap.size ≤ wc.heap.size := bV.size
          have hne : ∀ m, (Value.slice ao ys.length cp).ownBlock = some m → W.heap.size ≤ m ∧ m < wc.heap.size := fun m hm => oV.lt m hm
          go_upto_region 7 with (at_builtin; refine wpList_append_lies _ (by rfl) (.tmp 23) (.tmp 25) 27 (by rfl) W.heap.size 70 i0 (.agg #[.int .i64 0, .int .i64 0, .int .i64 0, .bool false, .int .i64 0, .int .i64 0]) 6 48 Tryz.underlying27 hi li0 li1 li2 rfl (by decide) (.slice ao ys.length cp) ys.length (flat LkV.cells ys) (by rfl) (oV.alloc _) ⟨wc.heap.size, 0, none⟩ 1 1 (LkV.cells ⟨(site, num), key, write, value, ask⟩) (by rfl) rfl (news_at #[.int .i64 site, .int .i64 num, .int .i64 key, .bool write, .int .i64 value, .int .i64 ask] _ rfl) (lk_one _) (by omega) (by unfold maxLen; omega) (by omega) (by simp; omega) _ rfl ?_; intro g5 c5' w5 own5 gr5 at5 lt5)
          have hb5 : Below W.heap.size W w5 := (bV.alloc bV.size _).grown gr5 (by simp; omega) (fun q hq => (hne q hq).1)
          have ezs : Hid ((locks.take (k + 1)).filter P = ys ++ [⟨(site, num), key, write, value, ask⟩]) := by show _ = _; rw [N1.out]; simp
          have hO : w5.ownsRow W.heap.size 70 6 (.slice (some ⟨g5, 0, none⟩) (ys.length + 1) c5') (ys.length + 1) (flat LkV.cells (ys ++ [⟨(site, num), key, write, value, ask⟩])) := by
            rw [flat_append]
            simpa [flat] using own5
          obtain ⟨zs, ez⟩ : ∃ zs, zs = ys ++ [(⟨(site, num), key, write, value, ask⟩ : LkV)] := ⟨_, rfl⟩
          have elz : Hid (zs.length = ys.length + 1) := by rw [ez]; show _ = _; simp
          rw [← ez] at ezs hO
          clear ez
          go_wp2
          go_roundw
          case rel =>
            refine ⟨k + 1, zs, some ⟨g5, 0, none⟩, c5', by omega, by go_num, ?_, ?_, ezs.out.symm, ?_, hb5⟩
            · rw [elz.out]
            · rw [elz.out]; exact hO
            · rw [elz.out]; omega
          case measure => simp [intOf]; omega
    · have hke : k = ll := by omega
      have etk : locks.take k = locks := List.take_of_length_le (by have := HL.out; omega)
      have hy' := hys.out
      rw [etk] at hy'
      clear etk hke hys
      subst hy'
      obtain ⟨hR, hN⟩ := own_isRow lk_len hown rfl
      go_wp2
      go_ret
      exact ⟨ao, cp, rfl, hR, fun b off e => by have := hN b off e; have := hB.size; omega, hwr⟩

def cntErr (s : SV) (t : Int × Int) : Int := if storeOK s then (if txOK t then 0 else 2) else 9
def cntIs (s : SV) (t : Int × Int) : Int := if cntErr s t = 0 then ((s.locks.filter (wOf t)).length : Int) else 0
theorem ok_24 {s : SV} (h : storeOK s = true) : s.locks.length ≤ 24 := by
  unfold storeOK locksOK at h
  simp only [Bool.and_eq_true, decide_eq_true_eq] at h
  exact h.1.1.2.1
end Go.Proofs.YtekglahigjblkaaGreatDoor.St
