/- Texts of this claim, one behind the other. -/
import Derived.Test.YtlaagfnoepcnlaaDoorM24LinesShows
import Derived.Test.YtlaagfnoepcnlaaDoorRows
import Derived.JoinedOf
import Derived.KernelRfl
/- The walk of the law LinesShows: it returns true and leaves what was in memory. -/
namespace Go.Proofs.YtlaagfnoepcnlaaDoor.Ln
open Go.ChangeShapes Go.WideShapes Go.ChangeAt Go.RowKit
open Go.Proofs.YtlaagfnoepcnlaaDoor.St (BoxN boxn_new own_below IsRow Elem flat own_isRow)
open Go.Proofs.YtlaagfnoepcnlaaDoor.Cn (ObAt)
open Go.Proofs.YtlaagfnoepcnlaaDoor.Ln.Av
set_option linter.unusedVariables false

theorem acts_isRow {U : World} {a : Option Addr} {n c : Nat} {xs : List AV} (h : IsActs U a n c xs) (hn : a = none → c = 0) : IsRow 12 AV.cells U a n c xs := by
  obtain ⟨h1, h2, h3, h4⟩ := h
  refine ⟨h1, h2, h3, hn, fun hp => ?_⟩
  obtain ⟨b, off, e, zb, hc⟩ := h4 hp
  exact ⟨b, off, e, zb, fun i hi j hj => (hc i (by omega)).1 j hj⟩
theorem acts_keeps {U : World} {a : Option Addr} {n c : Nat} {xs : List AV} (h : IsActs U a n c xs) : ∀ y ∈ xs, IsInts U y.ka y.kl y.kc y.keep := by
  intro y hy
  obtain ⟨i, hi, rfl⟩ := List.getElem_of_mem hy
  have h1 := h.1
  obtain ⟨b, off, -, -, hc⟩ := h.2.2.2 (by omega)
  have h2 := (hc i hi).2
  simpa [List.getD, hi] using h2
set_option maxRecDepth 100000 in
set_option maxHeartbeats 4000000 in
theorem linesShows_walk (s : Int) (a : Option Addr) (len cap : Nat) (p : Int) (ls : List (Int × Int)) (xa : Option Addr) (n xc : Nat) (xs : List AV) (w : World) (hs0 : (Lit.int .i64 s).wf = true) (hl : IsLabs w a len cap ls) (hp0 : (Lit.int .i64 p).wf = true) (hx : IsActs w xa n xc xs) (hxn : xa = none → xc = 0) (hsz : n * 120 ≤ 140737488355328 ∧ ∀ i, (xs.getD i default).keep.length * 8 ≤ 140737488355328) (hT : ∀ U, Below w.heap.size w U → LnT U) :
    Calls Tryd.prog 3 #[.agg #[.int .i64 s, .slice a len cap, .int .i64 p], .slice xa n xc] w fun e w' => e = .returned (.bool true) ∧ Below w.heap.size w w' := by
  obtain ⟨iA, EA⟩ := avElem
  have hn1 := hsz.1
  obtain ⟨W, hW⟩ : ∃ W : World, W = w.alloc (.cells #[.int .i64 s, .slice a len cap, .int .i64 p] 24) := ⟨_, rfl⟩
  have oC : ObAt W w.heap.size #[.int .i64 s, .slice a len cap, .int .i64 p] 24 := by rw [hW]; exact ObAt.new w _ _
  have bW : Below w.heap.size w W := by rw [hW]; exact (Below.refl _ _).alloc (Nat.le_refl _) _
  have KV : Hid (∀ U, Below W.heap.size W U → IsLabs U a len cap ls ∧ IsActs U xa n xc xs ∧ Below w.heap.size w U) := fun U hU => ⟨(hl.below bW).below hU, (hx.below bW).below hU, bW.trans (hU.mono bW.size)⟩
  have KC : Hid (∀ U, Below W.heap.size W U → U.cell? ⟨w.heap.size, 0, none⟩ = some (.int .i64 s) ∧ U.cell? ⟨w.heap.size, 1, none⟩ = some (.slice a len cap) ∧ U.cell? ⟨w.heap.size, 2, none⟩ = some (.int .i64 p) ∧ w.heap.size < U.heap.size) := fun U hU => by
    have h1 := oC.below hU
    exact ⟨h1.cell 0, h1.cell 1, h1.cell 2, h1.lt⟩
  have HSh : Hid (∀ U a6 c6, Below W.heap.size W U → IsRow 12 AV.cells U a6 n c6 xs → Calls Tryd.prog 9 #[.agg #[.int .i64 s, .slice a len cap, .int .i64 p], .slice a6 n c6] U fun e w' => e = .returned (.tuple #[.string ⟨(shAll s ls p xs).1.toArray⟩, .int .i64 (shAll s ls p xs).2.1, .int .i64 (shAll s ls p xs).2.2]) ∧ Below U.heap.size U w') := fun U a6 c6 hU r6 => by
    obtain ⟨h1, h2, h4⟩ := KV.out U hU
    exact show_any s p a len cap ls a6 n c6 xs U h1 (acts_row r6 (acts_keeps h2)) (fun X hX => hT X (h4.trans (hX.mono h4.size)))
  have HRf : Hid (∀ U, Below W.heap.size W U → Calls Tryd.prog 10 #[.agg #[.int .i64 s, .slice a len cap, .int .i64 p], .slice xa n xc] U fun e w' => e = .returned (.tuple #[.string ⟨(shAll s ls p xs).1.toArray⟩, .int .i64 (shAll s ls p xs).2.1, .int .i64 (shAll s ls p xs).2.2]) ∧ Below U.heap.size U w') := fun U hU => by
    obtain ⟨h1, h2, h4⟩ := KV.out U hU
    exact shownActs_any s p a len cap ls xa n xc xs U h1 h2
  obtain ⟨OUT, eO⟩ : ∃ x : ByteArray, x = ⟨(shAll s ls p xs).1.toArray⟩ := ⟨_, rfl⟩
  obtain ⟨RP, eP⟩ : ∃ x, x = (shAll s ls p xs).2.1 := ⟨_, rfl⟩
  obtain ⟨ERR, eE⟩ : ∃ x, x = (shAll s ls p xs).2.2 := ⟨_, rfl⟩
  rw [← eO, ← eP, ← eE] at HSh HRf
  have HSl : Hid (xs.length = n) := hx.1
  have KS : Hid (∀ U, Below W.heap.size W U → IsRow 12 AV.cells U xa n xc xs) := fun U hU => acts_isRow (KV.out U hU).2.1 hxn
  clear eO eP eE hs0 hp0 hl hx hT oC KV hsz
  go_enter Tryd.func3, Tryd.ntmps3
  go_upto_region 1 with (fail)
  rw [← hW]
  clear hW
  refine wp_region_inv (by kernel_rfl) [12, 13, 14, 15, 11, 16, 17, 18, 5, 6, 7] (fun L T u => ∃ (a6 : Option Addr) (c6 : Nat), Below W.heap.size W u ∧ (L 0 = true → T 12 = .agg #[.int .i64 s, .slice a len cap, .int .i64 p]) ∧ (L 1 = true → T 13 = .slice xa n xc) ∧ (L 2 = true → T 14 = .slice a6 n c6) ∧ (L 3 = true → T 15 = .tuple #[.string OUT, .int .i64 RP, .int .i64 ERR]) ∧ (L 4 = true → T 11 = .tuple #[.string OUT, .int .i64 RP, .int .i64 ERR]) ∧ (L 5 = true → T 16 = .string OUT) ∧ (L 6 = true → T 17 = .int .i64 RP) ∧ (L 7 = true → T 18 = .int .i64 ERR) ∧ (L 8 = true → T 5 = .string OUT) ∧ (L 9 = true → T 6 = .int .i64 RP) ∧ (L 10 = true → T 7 = .int .i64 ERR) ∧ (L 2 = true → IsRow 12 AV.cells u a6 n c6 xs)) (by decide) (by kernel_rfl) (by kernel_rfl) ?_ ?_ ?_
  · exact ⟨none, 0, (Below.refl _ _).drew, nofun, nofun, nofun, nofun, nofun, nofun, nofun, nofun, nofun, nofun, nofun, nofun⟩
  · refine ⟨?_, ?_, ?_, ?_, ?_, ?_, ?_, ?_, ?_, ?_, ?_, trivial⟩
    · rintro L T u hd hk hcl ⟨a6, c6, hb, f0, f1, f2, f3, f4, f5, f6, f7, f8, f9, f10, r2⟩ K hK
      simp only [fr, Act.put, List.setIfInBounds_toArray, List.set_cons_zero, List.set_cons_succ, updO] at hK ⊢
      simp [Region.binds] at hd
      obtain ⟨c0, c1, c2, zc⟩ := KC.out u hb
      rw [if_pos (by rfl)]
      simp only [Oper.wpv]
      go_simp
      exact hK _ _ ⟨a6, c6, hb, fun _ => rfl, f1, f2, f3, f4, f5, f6, f7, f8, f9, f10, r2⟩
    · rintro L T u hd hk hcl ⟨a6, c6, hb, f0, f1, f2, f3, f4, f5, f6, f7, f8, f9, f10, r2⟩ K hK
      simp only [fr, Act.put, List.setIfInBounds_toArray, List.set_cons_zero, List.set_cons_succ, updO] at hK ⊢
      simp [Region.binds] at hd
      rw [if_pos (by rfl)]
      simp only [Oper.wpv]
      go_simp
      exact hK _ _ ⟨a6, c6, hb, f0, fun _ => rfl, f2, f3, f4, f5, f6, f7, f8, f9, f10, r2⟩
    · rintro L T u hd hk hcl ⟨a6, c6, hb, f0, f1, f2, f3, f4, f5, f6, f7, f8, f9, f10, r2⟩ K hK
      simp only [fr, Act.put, List.setIfInBounds_toArray, List.set_cons_zero, List.set_cons_succ, updO] at hK ⊢
      simp [Region.binds] at hd
      have g1 := f1 (by simp [hd])
      have k3 := hcl 3 _ rfl
      simp [Region.binds] at k3
      rw [if_pos (by rfl)]
      simp only [Oper.wpv]
      refine St.wpv_append_row EA (.const (.slice none 0 0)) (.tmp 13) (by rfl) W.heap.size (.slice none 0 0) 0 [] (by rfl) (World.ownsRow_nil _ _ _ _) xa n xc xs g1 (KS.out _ hb) (by unfold maxLen; omega) (by omega) hb.size ?_
      intro b6 d6 u1 own1 gr1 at1
      have hg := grownN8 gr1
      simp only [Nat.zero_add, List.nil_append] at own1 ⊢
      have hR1 := (own_isRow av_len own1 HSl.out).1
      exact hK _ _ ⟨b6, d6, (sT hb hg), f0, f1, fun _ => rfl, f3, f4, f5, f6, f7, f8, f9, f10, fun _ => hR1⟩
    · rintro L T u hd hk hcl ⟨a6, c6, hb, f0, f1, f2, f3, f4, f5, f6, f7, f8, f9, f10, r2⟩ K hK
      simp only [fr, Act.put, List.setIfInBounds_toArray, List.set_cons_zero, List.set_cons_succ, updO] at hK ⊢
      simp [Region.binds] at hd
      have g0 := f0 (by simp [hd])
      have g2 := f2 (by simp [hd])
      have q2 := r2 (by simp [hd])
      rw [if_pos (by rfl)]
      simp only [Oper.wpv]
      go_simp
      refine (HSh.out u a6 c6 hb q2).mono ?_
      rintro e u3 ⟨rfl, hg⟩
      exact hK _ _ ⟨a6, c6, (sT hb hg), f0, f1, f2, fun _ => rfl, f4, f5, f6, f7, f8, f9, f10, fun h0 => St.IsRow.below (r2 h0) hg⟩
    · rintro L T u hd hk hcl ⟨a6, c6, hb, f0, f1, f2, f3, f4, f5, f6, f7, f8, f9, f10, r2⟩ K hK
      simp only [fr, Act.put, List.setIfInBounds_toArray, List.set_cons_zero, List.set_cons_succ, updO] at hK ⊢
      simp [Region.binds] at hd
      have g3 := f3 (by simp [hd])
      rw [if_pos (by rfl)]
      simp only [Oper.wpv]
      go_simp
      exact hK _ _ ⟨a6, c6, hb, f0, f1, f2, f3, fun _ => rfl, f5, f6, f7, f8, f9, f10, r2⟩
    · rintro L T u hd hk hcl ⟨a6, c6, hb, f0, f1, f2, f3, f4, f5, f6, f7, f8, f9, f10, r2⟩ K hK
      simp only [fr, Act.put, List.setIfInBounds_toArray, List.set_cons_zero, List.set_cons_succ, updO] at hK ⊢
      simp [Region.binds] at hd
      have g4 := f4 (by simp [hd])
      rw [if_pos (by rfl)]
      simp only [Oper.wpv]
      go_simp
      exact hK _ _ ⟨a6, c6, hb, f0, f1, f2, f3, f4, fun _ => rfl, f6, f7, f8, f9, f10, r2⟩
    · rintro L T u hd hk hcl ⟨a6, c6, hb, f0, f1, f2, f3, f4, f5, f6, f7, f8, f9, f10, r2⟩ K hK
      simp only [fr, Act.put, List.setIfInBounds_toArray, List.set_cons_zero, List.set_cons_succ, updO] at hK ⊢
      simp [Region.binds] at hd
      have g4 := f4 (by simp [hd])
      rw [if_pos (by rfl)]
      simp only [Oper.wpv]
      go_simp
      exact hK _ _ ⟨a6, c6, hb, f0, f1, f2, f3, f4, f5, fun _ => rfl, f7, f8, f9, f10, r2⟩
    · rintro L T u hd hk hcl ⟨a6, c6, hb, f0, f1, f2, f3, f4, f5, f6, f7, f8, f9, f10, r2⟩ K hK
      simp only [fr, Act.put, List.setIfInBounds_toArray, List.set_cons_zero, List.set_cons_succ, updO] at hK ⊢
      simp [Region.binds] at hd
      have g4 := f4 (by simp [hd])
      rw [if_pos (by rfl)]
      simp only [Oper.wpv]
      go_simp
      exact hK _ _ ⟨a6, c6, hb, f0, f1, f2, f3, f4, f5, f6, fun _ => rfl, f8, f9, f10, r2⟩
    · rintro L T u hd hk hcl ⟨a6, c6, hb, f0, f1, f2, f3, f4, f5, f6, f7, f8, f9, f10, r2⟩ K hK
      simp only [fr, Act.put, List.setIfInBounds_toArray, List.set_cons_zero, List.set_cons_succ, updO] at hK ⊢
      simp [Region.binds] at hd
      have g5 := f5 (by simp [hd])
      rw [if_pos (by rfl)]
      simp only [Oper.wpv]
      go_simp
      exact hK _ _ ⟨a6, c6, hb, f0, f1, f2, f3, f4, f5, f6, f7, fun _ => rfl, f9, f10, r2⟩
    · rintro L T u hd hk hcl ⟨a6, c6, hb, f0, f1, f2, f3, f4, f5, f6, f7, f8, f9, f10, r2⟩ K hK
      simp only [fr, Act.put, List.setIfInBounds_toArray, List.set_cons_zero, List.set_cons_succ, updO] at hK ⊢
      simp [Region.binds] at hd
      have g6 := f6 (by simp [hd])
      rw [if_pos (by rfl)]
      simp only [Oper.wpv]
      go_simp
      exact hK _ _ ⟨a6, c6, hb, f0, f1, f2, f3, f4, f5, f6, f7, f8, fun _ => rfl, f10, r2⟩
    · rintro L T u hd hk hcl ⟨a6, c6, hb, f0, f1, f2, f3, f4, f5, f6, f7, f8, f9, f10, r2⟩ K hK
      simp only [fr, Act.put, List.setIfInBounds_toArray, List.set_cons_zero, List.set_cons_succ, updO] at hK ⊢
      simp [Region.binds] at hd
      have g7 := f7 (by simp [hd])
      rw [if_pos (by rfl)]
      simp only [Oper.wpv]
      go_simp
      exact hK _ _ ⟨a6, c6, hb, f0, f1, f2, f3, f4, f5, f6, f7, f8, f9, fun _ => rfl, r2⟩
  · rintro L T u hl ⟨a6, c6, hb, f0, f1, f2, f3, f4, f5, f6, f7, f8, f9, f10, r2⟩
    simp only [fr, Act.put, List.setIfInBounds_toArray, List.set_cons_zero, List.set_cons_succ]
    have h11 := f8 (hl 8 (by decide))
    have h12 := f9 (hl 9 (by decide))
    have h13 := f10 (hl 10 (by decide))
    clear f0 f1 f2 f3 f4 f5 f6 f7 f8 f9 f10 r2 HSh KS HSl
    rw [h11, h12, h13]
    obtain ⟨c0, c1, c2, zc⟩ := KC.out u hb
    have hRf := HRf.out u hb
    go_upto_region 3 with (go_at_call 10; refine hRf.mono ?_; rintro e u4 ⟨rfl, bU4⟩)
    have bF := bW.trans ((sT hb bU4).mono bW.size)
    clear c0 c1 c2 zc hRf HRf KC
    go_wp2
    go_ret
    exact ⟨rfl, bF⟩
end Go.Proofs.YtlaagfnoepcnlaaDoor.Ln
/- Closed facts of the row of LinesShows, by the kernel. -/
namespace Go.Proofs.YtlaagfnoepcnlaaDoor.linesShowsProof
set_option maxRecDepth 100000
theorem c_inPlace : (Rows.linesShowsRow.inPlace == Tryd.pinned.checked.prog.inPlace 3) = true := by kernel_rfl
end Go.Proofs.YtlaagfnoepcnlaaDoor.linesShowsProof
/- Closed facts of the row of LinesShows, by the kernel. -/
namespace Go.Proofs.YtlaagfnoepcnlaaDoor.linesShowsProof
set_option maxRecDepth 100000
theorem c_unf : (Rows.linesShowsRow.unfollowed == Tryd.pinned.checked.prog.unfollowed 3) = true := by kernel_rfl
end Go.Proofs.YtlaagfnoepcnlaaDoor.linesShowsProof
