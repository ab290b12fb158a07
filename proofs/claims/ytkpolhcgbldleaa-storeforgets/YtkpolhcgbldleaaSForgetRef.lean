/- The contract of the document's ForgetOf. -/
import Derived.Test.YtkpolhcgbldleaaSForget
import Derived.Test.YtkpolhcgbldleaaSCopy
import Derived.Test.YtkpolhcgbldleaaSWritesRef
import Derived.Deep.RegionLaw
import Derived.Lib.QuietBelow
namespace Go.Proofs.Ytkpolhcgbldleaa.St
open Go.ChangeShapes Go.WideShapes Go.ChangeAt Go.RowKit
set_option linter.unusedVariables false

def wrD (s : SV) (d : DbV) : Bool := decide (0 < (s.locks.filter (wOf d.t)).length)
theorem keep_rd (l : List LkV) : keep rdT l = l.filter (fun k => k.write) := by
  unfold keep rdT
  congr 1
  funext k
  simp
theorem wr_no (s : SV) (d : DbV) : wrD s d = !(noL (keep rdT s.locks) d) := by
  unfold wrD noL
  rw [keep_rd, Bool.not_not, Bool.eq_iff_iff]
  simp only [decide_eq_true_eq, List.any_eq_true, List.mem_filter]
  constructor
  · intro h
    obtain ⟨k, hk⟩ := List.exists_mem_of_length_pos h
    rw [List.mem_filter] at hk
    simp [wOf] at hk
    exact ⟨k, ⟨hk.1, hk.2.1⟩, by simp [ofT, hk.2.2]⟩
  · rintro ⟨k, ⟨h1, h2⟩, h3⟩
    refine List.length_pos_of_mem (a := k) ?_
    rw [List.mem_filter]
    simp [ofT] at h3
    simp [wOf, h1, h2, h3]
theorem filter_at' {α : Type} [Inhabited α] {q : α → Bool} {xs : List α} {j : Nat} (hj : j < xs.length) : (xs.take (j + 1)).filter q = (xs.take j).filter q ++ (if q (xs.getD j default) then [xs.getD j default] else []) := by
  rw [take_at hj, List.filter_append]
  congr 1
  generalize xs.getD j default = x
  cases h : q x <;> simp [h]
theorem ok_txs {s : SV} (h : storeOK s = true) : ∀ d ∈ s.doubts, cntErr s d.t = 0 := by
  intro d hd
  obtain ⟨h1, h2, h3, h4⟩ := ok_parts h
  unfold doubtsOK at h4
  simp only [Bool.and_eq_true] at h4
  obtain ⟨k, hk, e⟩ := List.any_eq_true.1 (onceD_len _ _ _ _ h4.1 d hd).2
  simp [ofT] at e
  have hl : ∀ (r seen : List LkV), locksGo seen r = true → ∀ k ∈ r, txOK k.t = true := by
    intro r
    induction r with
    | nil => intro seen _ k hk; simp at hk
    | cons x r ih =>
      intro seen hg k hk
      simp only [locksGo, Bool.and_eq_true] at hg
      rcases List.mem_cons.1 hk with rfl | hk
      · have := hg.1.1
        unfold lockOK at this
        simp only [Bool.and_eq_true] at this
        exact this.1.1.1.1
      · exact ih _ hg.2 k hk
  unfold locksOK at h2
  simp only [Bool.and_eq_true] at h2
  have := hl _ _ h2.2 k hk
  rw [e] at this
  simp [cntErr, h, this]

set_option maxRecDepth 100000 in
set_option maxHeartbeats 8000000 in
theorem forgetRef_any (s : SV) (w : World) (h : IsStore w s) (h1 : s.il * 24 ≤ 140737488351232) (h2 : s.ll * 48 ≤ 140737488351232) (h3 : s.dl * 24 ≤ 140737488351232) (h4 : s.ol * 16 ≤ 140737488351232) :
    Calls Try.prog 21 #[s.val] w fun e w' => ∃ r : SV, e = .returned (.tuple #[r.val, .int .i64 (forgetErr s)]) ∧ IsStore w' r ∧ r.data = forgetData s ∧ Below w.heap.size w w' := by
  obtain ⟨i2, E2⟩ := lkElem
  obtain ⟨i3, E3⟩ := dbElem
  have hC := fun w' h1 => storeMay_any s w' h1
  have hCp := fun w' k => storeCopy_any s w' k h1 h2 h3 h4
  have hok : storeOK s = true → (s.il ≤ 8 ∧ s.ll ≤ 24 ∧ s.dl ≤ 24) ∧ ∀ i, i < s.dl → cntErr s (s.doubts.getD i default).t = 0 := fun e => ⟨ok_sizes e h, fun i hi => ok_txs e _ (getD_mem (by rw [h.doubts.1]; exact hi))⟩
  have HWO : Hid (∀ (t : Int × Int) (w' : World), IsStore w' s → cntErr s t = 0 → Calls Try.prog 57 #[s.val, .agg #[.int .i64 t.1, .int .i64 t.2]] w' fun e w'' => e = .returned (.tuple #[.int .i64 ((s.locks.filter (wOf t)).length : Nat), .int .i64 0]) ∧ Below w'.heap.size w' w'') := fun t w' g1 g2 => by
    have := writesRef_any s t w' g1
    rw [show cntIs s t = ((s.locks.filter (wOf t)).length : Int) by simp [cntIs, g2], g2] at this
    exact this
  obtain ⟨E, e0⟩ : ∃ R : Int, R = forgetErr s := ⟨_, rfl⟩
  obtain ⟨D, e1⟩ : ∃ R, R = forgetData s := ⟨_, rfl⟩
  obtain ⟨S, e2⟩ : ∃ R, R = storeOK s := ⟨_, rfl⟩
  obtain ⟨Q, eQ⟩ : ∃ Q, Q = wrD s := ⟨_, rfl⟩
  have HQ : Hid (∀ d, Q d = decide (0 < (s.locks.filter (wOf d.t)).length)) := by rw [eQ]; exact fun d => rfl
  have eE : Hid (E = if S then 0 else 9) := by rw [e2]; exact e0
  have eD : Hid (D = if E = 0 then ⟨s.items, s.locks.filter (fun k => k.write), (s.doubts.filter Q).map zeroD, s.over⟩ else PS.nil) := by
    have hk : keep (noL (keep rdT s.locks)) s.doubts = s.doubts.filter Q := by
      unfold keep
      rw [eQ]
      congr 1
      funext d
      rw [wr_no]
      rfl
    rw [e0, e1]
    show forgetData s = _
    unfold forgetData
    rw [hk, keep_rd]
  rw [← e0, ← e1]
  rw [← e2] at hC hok
  clear e0 e1 e2 eQ
  have HLl : Hid (s.locks.length = s.ll) := h.locks.1
  have HLd : Hid (s.doubts.length = s.dl) := h.doubts.1
  have hh := h
  obtain ⟨ia, il, ic, la, ll, lc, da, dl, dc, oa, ol, oc, items, locks, doubts, over⟩ := s
  simp only [SV.val] at *
  obtain ⟨W, hW⟩ : ∃ W : World, W = ((w.alloc (.cells #[.slice ia il ic, .slice la ll lc, .slice da dl dc, .slice oa ol oc] 27)).alloc (.cells #[.slice none 0 0, .slice none 0 0, .slice none 0 0, .slice none 0 0] 27)) := ⟨_, rfl⟩
  have hB : Below w.heap.size w W := by rw [hW]; exact (((Below.refl _ _).alloc (Nat.le_refl _) _).alloc (by simp) _)
  have zW : W.heap.size = w.heap.size + 2 := by rw [hW]; simp
  have zb0 : w.heap.size < W.heap.size := by omega
  have zb1 : w.heap.size + 1 < W.heap.size := by omega
  have HZW : Hid (W.heap.size = w.heap.size + 2) := zW
  clear zW
  have c0 : W.cell? ⟨w.heap.size, 0, none⟩ = some (.slice ia il ic) := by rw [hW]; go_simp
  have c1 : W.cell? ⟨w.heap.size, 1, none⟩ = some (.slice la ll lc) := by rw [hW]; go_simp
  have c2 : W.cell? ⟨w.heap.size, 2, none⟩ = some (.slice da dl dc) := by rw [hW]; go_simp
  have c3 : W.cell? ⟨w.heap.size, 3, none⟩ = some (.slice oa ol oc) := by rw [hW]; go_simp
  have r0 : W.cell? ⟨w.heap.size + 1, 0, none⟩ = some (.slice none 0 0) := by rw [hW]; go_simp
  have r1 : W.cell? ⟨w.heap.size + 1, 1, none⟩ = some (.slice none 0 0) := by rw [hW]; go_simp
  have r2 : W.cell? ⟨w.heap.size + 1, 2, none⟩ = some (.slice none 0 0) := by rw [hW]; go_simp
  have r3 : W.cell? ⟨w.heap.size + 1, 3, none⟩ = some (.slice none 0 0) := by rw [hW]; go_simp
  have rf0 : W.frozen? ⟨w.heap.size + 1, 0, none⟩ = false := by rw [hW]; go_simp
  have rf1 : W.frozen? ⟨w.heap.size + 1, 1, none⟩ = false := by rw [hW]; go_simp
  have rf2 : W.frozen? ⟨w.heap.size + 1, 2, none⟩ = false := by rw [hW]; go_simp
  have rf3 : W.frozen? ⟨w.heap.size + 1, 3, none⟩ = false := by rw [hW]; go_simp
  have rz : w.heap.size + 1 < W.heap.size := zb1
  have KA : Hid (∀ U : World, Below W.heap.size W U → U.cell? ⟨w.heap.size, 0, none⟩ = some (.slice ia il ic) ∧ U.cell? ⟨w.heap.size, 1, none⟩ = some (.slice la ll lc) ∧ U.cell? ⟨w.heap.size, 2, none⟩ = some (.slice da dl dc) ∧ U.cell? ⟨w.heap.size, 3, none⟩ = some (.slice oa ol oc) ∧ U.cell? ⟨w.heap.size + 1, 0, none⟩ = some (.slice none 0 0) ∧ U.cell? ⟨w.heap.size + 1, 1, none⟩ = some (.slice none 0 0) ∧ U.cell? ⟨w.heap.size + 1, 2, none⟩ = some (.slice none 0 0) ∧ U.cell? ⟨w.heap.size + 1, 3, none⟩ = some (.slice none 0 0) ∧ U.frozen? ⟨w.heap.size + 1, 0, none⟩ = false ∧ U.frozen? ⟨w.heap.size + 1, 1, none⟩ = false ∧ U.frozen? ⟨w.heap.size + 1, 2, none⟩ = false ∧ U.frozen? ⟨w.heap.size + 1, 3, none⟩ = false ∧ w.heap.size + 1 < U.heap.size) := fun U hU => ⟨(hU.cell (p := ⟨w.heap.size, 0, none⟩) zb0).trans c0, (hU.cell (p := ⟨w.heap.size, 1, none⟩) zb0).trans c1, (hU.cell (p := ⟨w.heap.size, 2, none⟩) zb0).trans c2, (hU.cell (p := ⟨w.heap.size, 3, none⟩) zb0).trans c3, (hU.cell (p := ⟨w.heap.size + 1, 0, none⟩) zb1).trans r0, (hU.cell (p := ⟨w.heap.size + 1, 1, none⟩) zb1).trans r1, (hU.cell (p := ⟨w.heap.size + 1, 2, none⟩) zb1).trans r2, (hU.cell (p := ⟨w.heap.size + 1, 3, none⟩) zb1).trans r3, (hU.frozen (p := ⟨w.heap.size + 1, 0, none⟩) zb1).trans rf0, (hU.frozen (p := ⟨w.heap.size + 1, 1, none⟩) zb1).trans rf1, (hU.frozen (p := ⟨w.heap.size + 1, 2, none⟩) zb1).trans rf2, (hU.frozen (p := ⟨w.heap.size + 1, 3, none⟩) zb1).trans rf3, Nat.lt_of_lt_of_le zb1 hU.size⟩
  have hSW := hh.below hB
  have HS : Hid (∀ U : World, Below W.heap.size W U → IsStore U ⟨ia, il, ic, la, ll, lc, da, dl, dc, oa, ol, oc, items, locks, doubts, over⟩) := fun U hU => hSW.below hU
  clear hh h
  go_enter Try.func21, Try.ntmps21
  go_upto_region 1 with (fail)
  rw [← hW]
  clear hW
  cases S with
  | false =>
    have hE : E = 9 := by rw [eE.out]; rfl
    have hD : D = PS.nil := by rw [eD.out, hE]; rfl
    go_wp2_with (go_at_call 28; refine (hC _ hSW).mono ?_; rintro e w1 ⟨rfl, hb1⟩; clear c0 c1 c2 c3 r0 r1 r2 r3 rf0 rf1 rf2 rf3 rz; obtain ⟨c0, c1, c2, c3, r0, r1, r2, r3, rf0, rf1, rf2, rf3, rz⟩ := KA.out _ hb1)
    refine bodyPost_ret (v := .tuple #[.agg #[.slice none 0 0, .slice none 0 0, .slice none 0 0, .slice none 0 0], .int .i64 9]) (by simp [results, Try.results21, go_sem, r0, r1, r2, r3]) rfl ?_
    rw [hD]
    try rw [hE]
    exact ⟨SV.nil, rfl, isStore_nil _, rfl, below_four (hB.trans (hb1.mono hB.size)) (by omega) (.slice none 0 0) (.slice none 0 0) (.slice none 0 0) (.slice none 0 0)⟩
  | true =>
    obtain ⟨⟨q1, q2, q3⟩, hct⟩ := hok rfl
    have HCT : Hid (∀ i, i < dl → cntErr ⟨ia, il, ic, la, ll, lc, da, dl, dc, oa, ol, oc, items, locks, doubts, over⟩ (doubts.getD i default).t = 0) := hct
    clear hok hct
    have hE : E = 0 := by rw [eE.out]; rfl
    have yD : Hid (D = ⟨items, locks.filter (fun k => k.write), (doubts.filter Q).map zeroD, over⟩) := by show _ = _; rw [eD.out, if_pos hE]
    go_upto_region 4 with (first
      | (go_at_call 28; refine (hC _ hSW).mono ?_; rintro e w1 ⟨rfl, hb1⟩; clear c0 c1 c2 c3 r0 r1 r2 r3 rf0 rf1 rf2 rf3 rz; obtain ⟨c0, c1, c2, c3, r0, r1, r2, r3, rf0, rf1, rf2, rf3, rz⟩ := KA.out _ hb1; have hS1 := hSW.below hb1)
      | (go_at_call 9; refine (hCp _ hS1).mono ?_; rintro e w2 ⟨⟨a0, n0, u0, a1, n1, u1, a2, n2, u2, a3, n3, u3, items', locks', doubts', over'⟩, rfl, hsame, hown, hb2'⟩; obtain ⟨v1, v2, v3, v4, v5, v6, v7, v8⟩ := hsame; simp only [] at v1 v2 v3 v4 v5 v6 v7 v8; obtain rfl := v1.symm; obtain rfl := v2.symm; obtain rfl := v3.symm; obtain rfl := v4.symm; obtain rfl := v5.symm; obtain rfl := v6.symm; obtain rfl := v7.symm; obtain rfl := v8.symm; simp only []; have hb2 : Below W.heap.size W w2 := hb1.trans (hb2'.mono hb1.size)))
    obtain ⟨X, hX⟩ : ∃ X : World, X = w2.alloc (.cells #[.slice a0 il u0, .slice a1 ll u1, .slice a2 dl u2, .slice a3 ol u3] 27) := ⟨_, rfl⟩
    have hb3 : Below w2.heap.size w2 X := by rw [hX]; exact (Below.refl _ _).alloc (Nat.le_refl _) _
    have bA : BoxN X w2.heap.size 4 [.slice a0 il u0, .slice a1 ll u1, .slice a2 dl u2, .slice a3 ol u3] := by rw [hX]; exact boxn_new w2 #[.slice a0 il u0, .slice a1 ll u1, .slice a2 dl u2, .slice a3 ol u3] 27 4 rfl
    have ownX : OwnStore X W.heap.size ⟨a0, il, u0, a1, ll, u1, a2, dl, u2, a3, ol, u3, items, locks, doubts, over⟩ := (hown.base hb1.size).below hb3
    have hbX : Below W.heap.size W X := hb2.trans (hb3.mono hb2.size)
    rw [← hX]
    obtain ⟨ma, em⟩ : ∃ m, m = w2.heap.size := ⟨_, rfl⟩
    have zm : W.heap.size ≤ ma := by rw [em]; exact hb2.size
    rw [← em] at bA ⊢
    clear hX hown em c0 c1 c2 c3 r0 r1 r2 r3 rf0 rf1 rf2 rf3 rz hS1 hC hCp hb2 hb2' hb1 hb3
    clear w2
    have xa0 := (bA.c 0 (by decide)).1
    have xa1 := (bA.c 1 (by decide)).1
    have xa2 := (bA.c 2 (by decide)).1
    have xa3 := (bA.c 3 (by decide)).1
    simp only [List.getD_cons_zero, List.getD_cons_succ] at xa0 xa1 xa2 xa3
    have bAl := bA.lt
    obtain ⟨Y, hY⟩ : ∃ Y : World, Y = X.alloc (.cells #[.slice a0 il u0, .slice none 0 0, .slice none 0 0, .slice a3 ol u3] 27) := ⟨_, rfl⟩
    have bXY : Below X.heap.size X Y := by rw [hY]; exact (Below.refl _ _).alloc (Nat.le_refl _) _
    have hM0 : Made W Y W.heap.size X.heap.size ⟨a0, il, u0, none, 0, 0, none, 0, 0, a3, ol, u3, items, [], [], over⟩ := by
      refine Made.new (w := X) ⟨ownX.items, World.ownsRow_nil _ _ _ _, World.ownsRow_nil _ _ _ _, ownX.over, ?_, ?_, ownX.ap_io, ?_, ?_, ?_⟩ hbX bXY (Nat.le_refl _) ?_ hbX.size
      · intro q _ hq; simp [Value.ownBlock] at hq
      · intro q _ hq; simp [Value.ownBlock] at hq
      · intro q hq; simp [Value.ownBlock] at hq
      · intro q hq; simp [Value.ownBlock] at hq
      · intro q hq; simp [Value.ownBlock] at hq
      · rw [hY]
        exact boxn_new X #[.slice a0 il u0, .slice none 0 0, .slice none 0 0, .slice a3 ol u3] 27 4 rfl
    go_upto_region 5 with (fail)
    rw [← hY]
    obtain ⟨m, em2⟩ : ∃ m, m = X.heap.size := ⟨_, rfl⟩
    have zam : ma < m := by rw [em2]; exact bAl
    rw [← em2] at hM0 ⊢
    have ownY := ownX.below bXY
    have bAY := bA.below bXY bA.lt
    have bXYs := bXY.size
    have bXYc := fun (pp : Addr) (hp : pp.block < X.heap.size) => bXY.cell (p := pp) hp
    have ownXs := ownX.isStore
    clear hY xa0 xa1 xa2 xa3 bA bAl bXY ownX
    have KC : Hid (∀ U : World, Below m Y U → (U.cell? ⟨ma, 0, none⟩ = some (.slice a0 il u0) ∧ U.cell? ⟨ma, 1, none⟩ = some (.slice a1 ll u1) ∧ U.cell? ⟨ma, 2, none⟩ = some (.slice a2 dl u2) ∧ U.cell? ⟨ma, 3, none⟩ = some (.slice a3 ol u3)) ∧ IsLocks U a1 ll u1 locks ∧ IsDoubts U a2 dl u2 doubts) := fun U hU => by
      have hp := bAY.below hU zam
      have row : ∀ {α : Type} [Inhabited α] {k : Nat} {cells : α → List Value} {a : Option Addr} {n c : Nat} {xs : List α}, IsRow k cells X a n c xs → IsRow k cells U a n c xs := by
        intro α _ k cells a n c xs hR
        obtain ⟨r1, r2, r3, r4, r5⟩ := hR
        refine ⟨r1, r2, r3, r4, fun hp => ?_⟩
        obtain ⟨b, off, e, hl, hc⟩ := r5 hp
        have hl' : b < m := by rw [em2]; exact hl
        refine ⟨b, off, e, ?_, fun i hi q hq => ?_⟩
        · exact Nat.lt_of_lt_of_le (Nat.lt_of_lt_of_le hl bXYs) hU.size
        · rw [hU.cell (p := ⟨b, off + i * k + q, none⟩) hl', bXYc ⟨b, off + i * k + q, none⟩ hl]
          exact hc i hi q hq
      exact ⟨⟨(hp.c 0 (by decide)).1, (hp.c 1 (by decide)).1, (hp.c 2 (by decide)).1, (hp.c 3 (by decide)).1⟩, row ownXs.locks, row ownXs.doubts⟩
    clear bXYs bXYc ownXs ownY bAY em2
    have mY : m ≤ Y.heap.size := Nat.le_of_lt hM0.box.lt
    go_wp2
    go_loopw [6] (fun i wr => ∃ (k : Nat) (a : Option Addr) (c : Nat) (ys : List LkV), i = .int .i64 (k : Int) ∧ k ≤ ll ∧ Hid (ys = (locks.take k).filter (fun k => k.write)) ∧ ys.length ≤ k ∧ Made W wr W.heap.size m ⟨a0, il, u0, a, ys.length, c, none, 0, 0, a3, ol, u3, items, ys, [], over⟩ ∧ (∀ q, (Value.slice a ys.length c).ownBlock = some q → m ≤ q) ∧ Below m Y wr) (fun i _ => ll - (intOf i).toNat)
    case atStart => exact ⟨0, none, 0, [], rfl, Nat.zero_le _, rfl, Nat.le_refl _, hM0, fun q hq => by simp [Value.ownBlock] at hq, Below.refl _ _⟩
    case round =>
      obtain ⟨k, a, c, ys, rfl, hk, hys, hyk, hM, hbk, hbm⟩ := hrel
      have HBK : Hid (∀ q, (Value.slice a ys.length c).ownBlock = some q → m ≤ q) := hbk
      clear hbk
      obtain ⟨⟨xa0, xa1, xa2, xa3⟩, hL, hDb⟩ := KC.out _ hbm
      obtain ⟨mz, x0, x1, x2, x3, g0, g1, g2, g3⟩ := hM.cells
      simp only [] at x0 x1 x2 x3
      have hsz := hM.sz
      by_cases hlt : k < ll
      · have hlt' : (k : Int) < (ll : Int) := by omega
        obtain ⟨b, off, rfl, zb, hc⟩ := hL.2.2.2.2 (by omega)
        have hcells := hc k hlt
        have HT : Hid ((locks.take (k + 1)).filter (fun k => k.write) = ys ++ (if (locks.getD k default).write then [locks.getD k default] else [])) := by show _ = _; rw [hys.out]; exact filter_at' (by rw [HLl.out]; exact hlt)
        obtain ⟨x, ex⟩ : ∃ x, x = locks.getD k default := ⟨_, rfl⟩
        rw [← ex] at hcells HT
        clear ex hc
        obtain ⟨⟨q0, q1'⟩, q2', q3', q4, q5⟩ := x
        have e0 := hcells 0 (by decide)
        have e1 := hcells 1 (by decide)
        have e2 := hcells 2 (by decide)
        have e3 := hcells 3 (by decide)
        have e4 := hcells 4 (by decide)
        have e5 := hcells 5 (by decide)
        simp only [LkV.cells, List.getElem?_cons_zero, List.getElem?_cons_succ, Nat.add_zero] at e0 e1 e2 e3 e4 e5
        clear hcells
        simp only [] at HT
        cases q3' with
        | true =>
          have HT' : Hid ((locks.take (k + 1)).filter (fun k => k.write) = ys ++ [⟨(q0, q1'), q2', true, q4, q5⟩]) := by show _ = _; rw [HT.out]; rfl
          go_upto_region 9 with (fail)
          go_region_law (first | (refine step_append_row E2 (by rfl) (.tmp 35) (.tmp 41) (by rfl) W.heap.size (.slice a ys.length c) ys.length ys (by rfl) (own_below hM.own.locks (by (with_reducible repeat (first | exact Below.refl _ _ | refine nD ?_ | refine nA ?_ _)); done)) _ 1 1 [⟨(q0, q1'), q2', true, q4, q5⟩] (by rfl) (isOne _ _ _ _ rfl rfl) (by unfold maxLen; omega) (by omega) (by simp; omega) ?_; intro a5 c5 w5 own5 gr5 at5; obtain ⟨cl5, fz5, hM5⟩ := hM.put_locks (by (with_reducible repeat (first | exact Below.refl _ _ | refine nD ?_ | refine nA ?_ _)); done) gr5 own5 at5; have z5 := hM5.box.lt; simp only [] at cl5; have hb5 : Below m Y w5 := Below.grown (hbm.trans (Below.mono (by (with_reducible repeat (first | exact Below.refl _ _ | refine nD ?_ | refine nA ?_ _)); done) (Nat.le_of_lt mz))) gr5 (by simp; omega) HBK.out; have HB5 : Hid (∀ q, (Value.slice a5 (ys.length + 1) c5).ownBlock = some q → m ≤ q) := (fun q hq => by rcases at5 with e | e <;> rw [e] at hq; exact HBK.out q hq; simp at hq; omega)))
          all_goals
            go_wp2
            go_roundw
            case rel =>
              have el : (ys ++ [(⟨(q0, q1'), q2', true, q4, q5⟩ : LkV)]).length = ys.length + 1 := by simp
              refine ⟨k + 1, a5, c5, ys ++ [(⟨(q0, q1'), q2', true, q4, q5⟩ : LkV)], by go_num, by omega, HT'.out.symm, by rw [el]; omega, ?_, by rw [el]; exact HB5.out, hb5.setCell (p := ⟨m, 1, none⟩) (Nat.le_refl _) _⟩
              rw [el]
              exact hM5
            case measure => simp [intOf]; omega
        | false =>
          have HT' : Hid ((locks.take (k + 1)).filter (fun k => k.write) = ys) := by show _ = _; rw [HT.out]; simp
          go_wp2
          go_roundw
          case rel => exact ⟨k + 1, a, c, ys, by go_num, by omega, HT'.out.symm, by omega, hM, HBK.out, hbm⟩
          case measure => simp [intOf]; omega
      · obtain rfl : ll = k := by omega
        have HYS : Hid (ys = locks.filter (fun k => k.write)) := by show _ = _; rw [hys.out, List.take_of_length_le (by rw [HLl.out]; exact Nat.le_refl _)]
        have hM1 := hM
        have hbm1 := hbm
        have HB1 := HBK
        go_wp2
        clear x0 x1 x2 x3 g0 g1 g2 g3 mz xa0 xa1 xa2 xa3 hM hbm hsz hL hDb HBK hys
        rename World => wo
        go_loopw [7, 8, 9] (fun i _ _ wr => ∃ (k : Nat) (b2 : Option Addr) (d2 : Nat) (zs : List DbV), i = .int .i64 (k : Int) ∧ k ≤ dl ∧ Hid (zs = ((doubts.take k).filter Q).map zeroD) ∧ zs.length ≤ k ∧ Made W wr W.heap.size m ⟨a0, il, u0, a, ys.length, c, b2, zs.length, d2, a3, ol, u3, items, ys, zs, over⟩ ∧ (∀ q, (Value.slice b2 zs.length d2).ownBlock = some q → m ≤ q) ∧ Below m Y wr) (fun i _ _ _ => dl - (intOf i).toNat)
        case atStart => exact ⟨0, none, 0, [], rfl, Nat.zero_le _, rfl, Nat.le_refl _, hM1, fun q hq => by simp [Value.ownBlock] at hq, hbm1⟩
        case round =>
          clear hM1 hbm1
          obtain ⟨k, b2, d2, zs, rfl, hk2, hzs, hzk, hM, hbk, hbm⟩ := hrel
          have HBK : Hid (∀ q, (Value.slice b2 zs.length d2).ownBlock = some q → m ≤ q) := hbk
          clear hbk
          obtain ⟨⟨xa0, xa1, xa2, xa3⟩, hL, hDb⟩ := KC.out _ hbm
          obtain ⟨mz, x0, x1, x2, x3, g0, g1, g2, g3⟩ := hM.cells
          simp only [] at x0 x1 x2 x3
          have hsz := hM.sz
          obtain ⟨c0, c1, c2, c3, r0, r1, r2, r3, rf0, rf1, rf2, rf3, rz⟩ := KA.out _ hM.bel
          by_cases hlt : k < dl
          · have hlt' : (k : Int) < (dl : Int) := by omega
            obtain ⟨b, off, rfl, zb, hc⟩ := hDb.2.2.2.2 (by omega)
            have hcells := hc k hlt
            have HT : Hid (((doubts.take (k + 1)).filter Q).map zeroD = zs ++ (if Q (doubts.getD k default) then [zeroD (doubts.getD k default)] else [])) := by
              show _ = _
              rw [hzs.out, filter_at' (by rw [HLd.out]; exact hlt), List.map_append]
              congr 1
              split <;> simp
            have hW1 := HWO.out (doubts.getD k default).t
            have hct := HCT.out k hlt
            have hQ := HQ.out (doubts.getD k default)
            obtain ⟨x, ex⟩ : ∃ x, x = doubts.getD k default := ⟨_, rfl⟩
            rw [← ex] at hcells HT hW1 hct hQ
            clear ex hc
            obtain ⟨⟨t0, t1⟩, ag⟩ := x
            have e0 := hcells 0 (by decide)
            have e1 := hcells 1 (by decide)
            have e2 := hcells 2 (by decide)
            simp only [DbV.cells, List.getElem?_cons_zero, List.getElem?_cons_succ, Nat.add_zero] at e0 e1 e2
            clear hcells
            simp only [] at HT hW1 hct hQ
            have hS2 := HS.out _ hM.bel
            obtain ⟨CN, eCN⟩ : ∃ CN, CN = (locks.filter (wOf (t0, t1))).length := ⟨_, rfl⟩
            rw [← eCN] at hW1 hQ
            clear eCN
            obtain ⟨B, eB⟩ : ∃ B, B = Q ⟨(t0, t1), ag⟩ := ⟨_, rfl⟩
            rw [← eB] at HT hQ
            clear eB
            have hWq := fun U hU => hW1 U hU hct
            have y0 := fun d os => cell_regrown c0 d os
            have y1 := fun d os => cell_regrown c1 d os
            have y2 := fun d os => cell_regrown c2 d os
            have y3 := fun d os => cell_regrown c3 d os
            have y4 := fun d os => cell_regrown xa2 d os
            have y5 := fun d os => cell_regrown e0 d os
            have y6 := fun d os => cell_regrown e1 d os
            go_upto_region 13 with (fail)
            refine wp_region_quiet_below (by kernel_rfl) (by kernel_rfl) ?_
            repeat (go_big_quiet_step ((exact Calls.regrown_of (hWq _ (hS2.below (below_regrown _ _ _))))))
            refine wpQuiet_nil ?_
            intro _ hw'
            obtain ⟨⟨dq, osq⟩, hw''⟩ := hw'
            subst hw''
            have bR := below_regrown wr dq osq
            obtain ⟨V, eV⟩ : ∃ V, V = Go.Sort.grow (Go.redrawn wr dq) osq := ⟨_, rfl⟩
            rw [← eV] at bR ⊢
            clear eV y0 y1 y2 y3 y4 y5 y6 c0 c1 c2 c3 r0 r1 r2 r3 rf0 rf1 rf2 rf3 rz x0 x1 x2 x3 g0 g1 g2 g3 mz xa0 xa1 xa2 xa3 hL hDb
            have hMV := hM.below bR
            have hbV : Below m Y V := hbm.trans (bR.mono (Nat.le_of_lt hM.box.lt))
            have e0' := (bR.cell (p := ⟨b, off + k * 3, none⟩) zb).trans e0
            have e1' := (bR.cell (p := ⟨b, off + k * 3 + 1, none⟩) zb).trans e1
            have e2' := (bR.cell (p := ⟨b, off + k * 3 + 2, none⟩) zb).trans e2
            clear e0 e1 e2 hM hbm hW1 hWq hct hS2
            obtain ⟨⟨xa0, xa1, xa2, xa3⟩, hL, hDb⟩ := KC.out _ hbV
            obtain ⟨mz, x0, x1, x2, x3, g0, g1, g2, g3⟩ := hMV.cells
            simp only [] at x0 x1 x2 x3
            have hsz2 := hMV.sz
            cases B with
            | true =>
              have hCN : (0 : Int) < (CN : Int) := by simp at hQ; omega
              clear hQ
              have HT' : Hid (((doubts.take (k + 1)).filter Q).map zeroD = zs ++ [⟨(t0, t1), 0⟩]) := by show _ = _; rw [HT.out]; rfl
              go_upto_region 15 with (fail)
              go_region_law (first | (refine step_append_row E3 (by rfl) (.tmp 65) (.tmp 73) (by rfl) W.heap.size (.slice b2 zs.length d2) zs.length zs (by rfl) (own_below hMV.own.doubts (by (with_reducible repeat (first | exact Below.refl _ _ | refine nD ?_ | refine nA ?_ _)); done)) _ 1 1 [⟨(t0, t1), 0⟩] (by rfl) (isOne _ _ _ _ rfl rfl) (by unfold maxLen; omega) (by omega) (by simp; omega) ?_; intro a5 c5 w5 own5 gr5 at5; obtain ⟨cl5, fz5, hM5⟩ := hMV.put_doubts (by (with_reducible repeat (first | exact Below.refl _ _ | refine nD ?_ | refine nA ?_ _)); done) gr5 own5 at5; have z5 := hM5.box.lt; simp only [] at cl5; have hb5 : Below m Y w5 := Below.grown (hbV.trans (Below.mono (by (with_reducible repeat (first | exact Below.refl _ _ | refine nD ?_ | refine nA ?_ _)); done) (Nat.le_of_lt mz))) gr5 (by simp; omega) HBK.out; have HB5 : Hid (∀ q, (Value.slice a5 (zs.length + 1) c5).ownBlock = some q → m ≤ q) := (fun q hq => by rcases at5 with e | e <;> rw [e] at hq; exact HBK.out q hq; simp at hq; omega)))
              all_goals
                go_wp2
                go_roundw
                case rel =>
                  have el : (zs ++ [(⟨(t0, t1), 0⟩ : DbV)]).length = zs.length + 1 := by simp
                  refine ⟨k + 1, a5, c5, zs ++ [(⟨(t0, t1), 0⟩ : DbV)], by go_num, by omega, HT'.out.symm, by rw [el]; omega, ?_, by rw [el]; exact HB5.out, hb5.setCell (p := ⟨m, 2, none⟩) (Nat.le_refl _) _⟩
                  rw [el]
                  exact hM5
                case measure => simp [intOf]; omega
            | false =>
              have hCN : ¬ (0 : Int) < (CN : Int) := by simp at hQ; omega
              clear hQ
              have HT' : Hid (((doubts.take (k + 1)).filter Q).map zeroD = zs) := by show _ = _; rw [HT.out]; simp
              go_wp2
              go_roundw
              case rel => exact ⟨k + 1, b2, d2, zs, by go_num, by omega, HT'.out.symm, by omega, hMV, HBK.out, hbV⟩
              case measure => simp [intOf]; omega
          · obtain rfl : dl = k := by omega
            have yD' : Hid (D = ⟨items, ys, zs, over⟩) := by show _ = _; rw [yD.out, HYS.out, hzs.out, List.take_of_length_le (by rw [HLd.out]; exact Nat.le_refl _)]
            go_wp2
            refine bodyPost_ret (v := .tuple #[.agg #[.slice a0 il u0, .slice a ys.length c, .slice b2 zs.length d2, .slice a3 ol u3], .int .i64 0]) (by simp [results, Try.results21, go_sem, r0, r1, r2, r3]) rfl ?_
            rw [yD'.out]
            try rw [hE]
            exact ⟨⟨a0, il, u0, a, ys.length, c, b2, zs.length, d2, a3, ol, u3, items, ys, zs, over⟩, rfl, (hM.own.four (b := w.heap.size + 1) (by omega) (.slice a0 il u0) (.slice a ys.length c) (.slice b2 zs.length d2) (.slice a3 ol u3)).isStore, rfl, below_four (hB.trans (hM.bel.mono hB.size)) (by omega) (.slice a0 il u0) (.slice a ys.length c) (.slice b2 zs.length d2) (.slice a3 ol u3)⟩
end Go.Proofs.Ytkpolhcgbldleaa.St
