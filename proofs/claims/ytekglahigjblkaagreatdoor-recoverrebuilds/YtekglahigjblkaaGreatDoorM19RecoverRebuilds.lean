/- Texts of this claim, one behind the other. -/
import Derived.Test.YtekglahigjblkaaGreatDoorM14RecoverRebuilds
import Derived.Test.YtekglahigjblkaaGreatDoorM17RecoverRebuilds
import Derived.Test.YtekglahigjblkaaGreatDoorA18RecoverRebuilds
import Derived.Test.YtekglahigjblkaaGreatDoorM16RecoverRebuilds
import Derived.Deep.RegionWith
import Derived.Test.YtekglahigjblkaaGreatDoorM13RecoverRebuilds
/- What store.End makes of a store, on plain data; a list of items put in another's place, wherever it lies. -/
namespace Go.Proofs.YtekglahigjblkaaGreatDoor.St
open Go.ChangeShapes Go.WideShapes Go.ChangeAt Go.RowKit
set_option linter.unusedVariables false

def putAll (its : List ItV) (l : List LkV) : List ItV := l.foldl (fun a k => putI k.key k.value a) its
def endErr (s : SV) (t : Int × Int) (yes : Bool) : Int := if storeOK s then (if txOK t then 0 else 2) else 9
def endData (s : SV) (t : Int × Int) (yes : Bool) : PS := if endErr s t yes = 0 then ⟨if yes then putAll s.items (s.locks.filter (wOf t)) else s.items, keep (ofT t) s.locks, keep (dbT t) s.doubts, if t ∈ s.over then s.over else s.over ++ [t]⟩ else PS.nil
theorem put_bd (key value : Int) {v : Int} (h0 : 1 ≤ v) : ∀ (xs : List ItV), (∀ y ∈ xs, 0 ≤ y.version ∧ y.version ≤ v) → (putI key value xs).length ≤ xs.length + 1 ∧ ∀ y ∈ putI key value xs, 0 ≤ y.version ∧ y.version ≤ v + 1
  | [], _ => by simp [putI]; omega
  | x :: r, h => by
    have hx := h x (by simp)
    have hr : ∀ y ∈ r, 0 ≤ y.version ∧ y.version ≤ v := fun y hy => h y (by simp [hy])
    rw [putI]
    split
    · refine ⟨by simp, fun y hy => ?_⟩
      rcases List.mem_cons.1 hy with rfl | hy
      · simp; omega
      · have := hr y hy; omega
    · split
      · refine ⟨by simp, fun y hy => ?_⟩
        rcases List.mem_cons.1 hy with rfl | hy
        · simp; omega
        · rcases List.mem_cons.1 hy with rfl | hy
          · omega
          · have := hr y hy; omega
      · obtain ⟨q1, q2⟩ := put_bd key value h0 r hr
        refine ⟨by simp only [List.length_cons]; omega, fun y hy => ?_⟩
        rcases List.mem_cons.1 hy with rfl | hy
        · omega
        · exact q2 y hy
theorem putAll_at {its : List ItV} {l : List LkV} {k : Nat} (hk : k < l.length) : putAll its (l.take (k + 1)) = putI (l.getD k default).key (l.getD k default).value (putAll its (l.take k)) := by
  unfold putAll
  rw [take_at hk, List.foldl_append]
  rfl
/-- Another list of items, wherever it lies. -/
theorem Made.putg_items {W w w5 : World} {C m : Nat} {r : SV} (h : Made W w C m r) {a : Option Addr} {n c : Nat} {xs : List ItV} (hg : w.grownBy w5 (Value.slice r.ia r.il r.ic).ownBlock) (hown : w5.ownsRow C 68 3 (.slice a n c) n (flat ItV.cells xs))
    (hat : ∀ q, (Value.slice a n c).ownBlock = some q → (Value.slice r.ia r.il r.ic).ownBlock = some q ∨ w.heap.size ≤ q) :
    w5.cell? ⟨m, 0, none⟩ = some (Value.slice r.ia r.il r.ic) ∧ w5.frozen? ⟨m, 0, none⟩ = false ∧ Made W (w5.setCell ⟨m, 0, none⟩ (.slice a n c)) C m { r with ia := a, il := n, ic := c, items := xs } := by
  have hb5 : BoxN w5 m 4 r.box := h.box.grown hg (fun e => h.far_i e.symm)
  have o5 := h.own.put_items hg hown hat
  have hfar : (Value.slice a n c).ownBlock ≠ some m := by
    intro e
    rcases hat m e with e2 | e2
    · exact h.far_i e2
    · have := h.box.lt; omega
  have bel5 : Below C W w5 := h.bel.grown hg h.sz (fun q hq => (h.own.items.lt q hq).1)
  have gs := grown_setCell w5 ⟨m, 0, none⟩ (.slice a n c)
  refine ⟨(hb5.c 0 (by decide)).1, (hb5.c 0 (by decide)).2, ?_⟩
  exact ⟨⟨o5.items.kept gs (.inr hfar), o5.locks.kept gs (.inr h.far_l), o5.doubts.kept gs (.inr h.far_d), o5.over.kept gs (.inr h.far_o), o5.ap_il, o5.ap_id, o5.ap_io, o5.ap_ld, o5.ap_lo, o5.ap_do⟩, hb5.set 0 (by decide) _, hfar, h.far_l, h.far_d, h.far_o, h.le, bel5.setCell (p := ⟨m, 0, none⟩) h.le _⟩
end Go.Proofs.YtekglahigjblkaaGreatDoor.St
/- The contract of store.End. -/
namespace Go.Proofs.YtekglahigjblkaaGreatDoor.St
open Go.ChangeShapes Go.WideShapes Go.ChangeAt Go.RowKit
set_option linter.unusedVariables false

theorem asksG_lt {α : Type} {fn : Nat} {cps : Array Value} {val : α → Value} {p : α → Bool} {w : World} {row : Option Nat} (hE : Enters Tryz.prog fn) (h : ∀ (x : α) (w' : World), w.grownBy w' row → Calls Tryz.prog fn (#[val x] ++ cps) w' fun e w'' => e = .returned (.bool (p x)) ∧ Below w'.heap.size w' w'') : AsksG fn cps val p row w := ⟨hE, h⟩
theorem of_asksG (b0 : Nat) (t : Int × Int) (w : World) (row : Option Nat) (c00 : w.cell? ⟨b0, 0, none⟩ = some (.int .i64 t.1)) (c01 : w.cell? ⟨b0, 1, none⟩ = some (.int .i64 t.2)) (z0 : b0 < w.heap.size) (hne : some b0 ≠ row) : AsksG 90 #[.pointer (some ⟨b0, 0, none⟩)] LkV.val (ofT t) row w := by
  refine ⟨(of_asks b0 t w c00 c01 z0).1, fun x w' hg => ?_⟩
  have k0 : w'.cell? ⟨b0, 0, none⟩ = some (.int .i64 t.1) := by rw [World.cell?_of_block (a := ⟨b0, 0, none⟩) (hg.block b0 z0 hne)]; exact c00
  have k1 : w'.cell? ⟨b0, 1, none⟩ = some (.int .i64 t.2) := by rw [World.cell?_of_block (a := ⟨b0, 1, none⟩) (hg.block b0 z0 hne)]; exact c01
  exact (of_asks b0 t w' k0 k1 (Nat.lt_of_lt_of_le z0 hg.size)).2 x w' (Below.refl _ _)
theorem doubtOf_asksG (b0 : Nat) (t : Int × Int) (w : World) (row : Option Nat) (c00 : w.cell? ⟨b0, 0, none⟩ = some (.int .i64 t.1)) (c01 : w.cell? ⟨b0, 1, none⟩ = some (.int .i64 t.2)) (z0 : b0 < w.heap.size) (hne : some b0 ≠ row) : AsksG 92 #[.pointer (some ⟨b0, 0, none⟩)] DbV.val (dbT t) row w := by
  refine ⟨(doubtOf_asks b0 t w c00 c01 z0).1, fun x w' hg => ?_⟩
  have k0 : w'.cell? ⟨b0, 0, none⟩ = some (.int .i64 t.1) := by rw [World.cell?_of_block (a := ⟨b0, 0, none⟩) (hg.block b0 z0 hne)]; exact c00
  have k1 : w'.cell? ⟨b0, 1, none⟩ = some (.int .i64 t.2) := by rw [World.cell?_of_block (a := ⟨b0, 1, none⟩) (hg.block b0 z0 hne)]; exact c01
  exact (doubtOf_asks b0 t w' k0 k1 (Nat.lt_of_lt_of_le z0 hg.size)).2 x w' (Below.refl _ _)
/-- store.of, with where its box lies. -/
theorem of_at (t : Int × Int) (w : World) :
    Calls Tryz.prog 72 #[.agg #[.int .i64 t.1, .int .i64 t.2]] w fun e w' => e = .returned (.func (.func 90) #[] #[.pointer (some ⟨w.heap.size, 0, none⟩)]) ∧ w'.cell? ⟨w.heap.size, 0, none⟩ = some (.int .i64 t.1) ∧ w'.cell? ⟨w.heap.size, 1, none⟩ = some (.int .i64 t.2) ∧ w.heap.size < w'.heap.size ∧ Below w.heap.size w w' := by
  obtain ⟨ts, tn⟩ := t
  obtain ⟨W, hW⟩ : ∃ W : World, W = (w.alloc (.cells #[.int .i64 ts, .int .i64 tn] 51)) := ⟨_, rfl⟩
  have hB : Below w.heap.size w W := by rw [hW]; exact ((Below.refl _ _).alloc (Nat.le_refl _) _)
  have zW : w.heap.size < W.heap.size := by rw [hW]; simp
  have c00 : W.cell? ⟨w.heap.size, 0, none⟩ = some (.int .i64 ts) := by rw [hW]; go_simp
  have c01 : W.cell? ⟨w.heap.size, 1, none⟩ = some (.int .i64 tn) := by rw [hW]; go_simp
  go_enter Tryz.func72, Tryz.ntmps72
  go_wp2
  rw [← hW]
  go_ret
  exact ⟨rfl, c00, c01, zW, hB⟩
theorem doubtOf_at (t : Int × Int) (w : World) :
    Calls Tryz.prog 74 #[.agg #[.int .i64 t.1, .int .i64 t.2]] w fun e w' => e = .returned (.func (.func 92) #[] #[.pointer (some ⟨w.heap.size, 0, none⟩)]) ∧ w'.cell? ⟨w.heap.size, 0, none⟩ = some (.int .i64 t.1) ∧ w'.cell? ⟨w.heap.size, 1, none⟩ = some (.int .i64 t.2) ∧ w.heap.size < w'.heap.size ∧ Below w.heap.size w w' := by
  obtain ⟨ts, tn⟩ := t
  obtain ⟨W, hW⟩ : ∃ W : World, W = (w.alloc (.cells #[.int .i64 ts, .int .i64 tn] 51)) := ⟨_, rfl⟩
  have hB : Below w.heap.size w W := by rw [hW]; exact ((Below.refl _ _).alloc (Nat.le_refl _) _)
  have zW : w.heap.size < W.heap.size := by rw [hW]; simp
  have c00 : W.cell? ⟨w.heap.size, 0, none⟩ = some (.int .i64 ts) := by rw [hW]; go_simp
  have c01 : W.cell? ⟨w.heap.size, 1, none⟩ = some (.int .i64 tn) := by rw [hW]; go_simp
  go_enter Tryz.func74, Tryz.ntmps74
  go_wp2
  rw [← hW]
  go_ret
  exact ⟨rfl, c00, c01, zW, hB⟩

set_option maxRecDepth 100000 in
set_option maxHeartbeats 8000000 in
theorem end_own (s : SV) (t : Int × Int) (yes : Bool) (w : World) (h : IsStore w s) (hwf : ∀ t ∈ s.over, TxWf t) (h4 : s.ol * 16 ≤ 140737488351232) :
    Calls Tryz.prog 50 #[s.val, .agg #[.int .i64 t.1, .int .i64 t.2], .bool yes] w fun e w' => ∃ r : SV, e = .returned (.tuple #[r.val, .int .i64 (endErr s t yes)]) ∧ OwnStore w' w.heap.size r ∧ r.data = endData s t yes ∧ Below w.heap.size w w' := by
  obtain ⟨i4, E4⟩ := txElem
  have hC : ∀ w', IsStore w' s → Calls Tryz.prog 68 #[s.val, .agg #[.int .i64 t.1, .int .i64 t.2]] w' fun e w'' => e = .returned (.int .i64 (endErr s t yes)) ∧ Below w'.heap.size w' w'' := fun w' h1 => refuseTxn_any s t w' h1 hwf
  have hOwn := fun w' h1 k1 k2 k3 => own_any s w' h1 k1 k2 k3 (by omega)
  have hWO := fun w' h1 h2 => writesOf_any s t w' h1 h2
  have hOv := fun w' h1 => isOver_any s t w' h1
  have hOf := fun w' => of_at t w'
  have hDo := fun w' => doubtOf_at t w'
  have hok : endErr s t yes = 0 → (s.il ≤ 8 ∧ s.ll ≤ 24 ∧ s.dl ≤ 24) ∧ ∀ y ∈ s.items, 0 ≤ y.version ∧ y.version ≤ 1048576 := fun e => by
    have hs : storeOK s = true := by cases hs : storeOK s with | true => rfl | false => simp [endErr, hs] at e
    refine ⟨ok_sizes hs h, ?_⟩
    have hi := (ok_parts hs).1
    have : ∀ (l : List ItV) (lo : Int), itemsOK lo l = true → ∀ y ∈ l, 0 ≤ y.version ∧ y.version ≤ 1048576 := by
      intro l
      induction l with
      | nil => intro lo _ y hy; simp at hy
      | cons x r ih =>
        intro lo hh y hy
        simp only [itemsOK, Bool.and_eq_true] at hh
        rcases List.mem_cons.1 hy with rfl | hy
        · have := inR_of hh.1.2; omega
        · exact ih _ hh.2 y hy
    exact this _ _ hi
  obtain ⟨E, e0⟩ : ∃ R : Int, R = endErr s t yes := ⟨_, rfl⟩
  obtain ⟨D, e1⟩ : ∃ R, R = endData s t yes := ⟨_, rfl⟩
  obtain ⟨O, e2⟩ : ∃ R, R = decide (t ∈ s.over) := ⟨_, rfl⟩
  obtain ⟨F, e3⟩ : ∃ R, R = s.locks.filter (wOf t) := ⟨_, rfl⟩
  obtain ⟨KL, e5⟩ : ∃ R, R = keep (ofT t) s.locks := ⟨_, rfl⟩
  obtain ⟨KD, e6⟩ : ∃ R, R = keep (dbT t) s.doubts := ⟨_, rfl⟩
  have HKL : Hid (KL = keep (ofT t) s.locks) := e5
  have HKD : Hid (KD = keep (dbT t) s.doubts) := e6
  have HFl : Hid (F.length ≤ s.ll) := by show _ ≤ _; rw [e3, ← h.locks.1]; exact List.length_filter_le ..
  have eD : Hid (D = if E = 0 then ⟨if yes then putAll s.items F else s.items, KL, KD, if O then s.over else s.over ++ [t]⟩ else PS.nil) := by
    show _ = _
    rw [e0, e1, e2, e3, e5, e6]
    unfold endData
    simp only [decide_eq_true_eq]
  have HBAD : Hid (E ≠ 0 → D = PS.nil) := fun hE => by rw [eD.out, if_neg hE]
  rw [← e0, ← e1]
  rw [← e0] at hC hok
  rw [← e2] at hOv
  rw [← e3] at hWO
  clear e0 e1 e2 e3 e5 e6
  have hh := h
  obtain ⟨ia, il, ic, la, ll, lc, da, dl, dc, oa, ol, oc, items, locks, doubts, over⟩ := s
  obtain ⟨ts, tn⟩ := t
  simp only [SV.val] at *
  obtain ⟨W, hW⟩ : ∃ W : World, W = (((w.alloc (.cells #[.slice ia il ic, .slice la ll lc, .slice da dl dc, .slice oa ol oc] 31)).alloc (.cells #[.int .i64 ts, .int .i64 tn] 51)).alloc (.cells #[.slice none 0 0, .slice none 0 0, .slice none 0 0, .slice none 0 0] 31)) := ⟨_, rfl⟩
  have hB : Below w.heap.size w W := by rw [hW]; exact ((((Below.refl _ _).alloc (Nat.le_refl _) _).alloc (by simp) _).alloc (by simp; omega) _)
  have zW : W.heap.size = w.heap.size + 3 := by rw [hW]; simp
  have zb0 : w.heap.size < W.heap.size := by omega
  have zb1 : w.heap.size + 1 < W.heap.size := by omega
  have zb2 : w.heap.size + 1 + 1 < W.heap.size := by omega
  have HZW : Hid (W.heap.size = w.heap.size + 3) := zW
  clear zW
  have c0 : W.cell? ⟨w.heap.size, 0, none⟩ = some (.slice ia il ic) := by rw [hW]; go_simp
  have c1 : W.cell? ⟨w.heap.size, 1, none⟩ = some (.slice la ll lc) := by rw [hW]; go_simp
  have c2 : W.cell? ⟨w.heap.size, 2, none⟩ = some (.slice da dl dc) := by rw [hW]; go_simp
  have c3 : W.cell? ⟨w.heap.size, 3, none⟩ = some (.slice oa ol oc) := by rw [hW]; go_simp
  have t0 : W.cell? ⟨w.heap.size + 1, 0, none⟩ = some (.int .i64 ts) := by rw [hW]; go_simp
  have t1 : W.cell? ⟨w.heap.size + 1, 1, none⟩ = some (.int .i64 tn) := by rw [hW]; go_simp
  have r0 : W.cell? ⟨w.heap.size + 1 + 1, 0, none⟩ = some (.slice none 0 0) := by rw [hW]; go_simp
  have r1 : W.cell? ⟨w.heap.size + 1 + 1, 1, none⟩ = some (.slice none 0 0) := by rw [hW]; go_simp
  have r2 : W.cell? ⟨w.heap.size + 1 + 1, 2, none⟩ = some (.slice none 0 0) := by rw [hW]; go_simp
  have r3 : W.cell? ⟨w.heap.size + 1 + 1, 3, none⟩ = some (.slice none 0 0) := by rw [hW]; go_simp
  have rf0 : W.frozen? ⟨w.heap.size + 1 + 1, 0, none⟩ = false := by rw [hW]; go_simp
  have rf1 : W.frozen? ⟨w.heap.size + 1 + 1, 1, none⟩ = false := by rw [hW]; go_simp
  have rf2 : W.frozen? ⟨w.heap.size + 1 + 1, 2, none⟩ = false := by rw [hW]; go_simp
  have rf3 : W.frozen? ⟨w.heap.size + 1 + 1, 3, none⟩ = false := by rw [hW]; go_simp
  have rz : w.heap.size + 1 + 1 < W.heap.size := zb2
  have KA : Hid (∀ U : World, Below W.heap.size W U → U.cell? ⟨w.heap.size, 0, none⟩ = some (.slice ia il ic) ∧ U.cell? ⟨w.heap.size, 1, none⟩ = some (.slice la ll lc) ∧ U.cell? ⟨w.heap.size, 2, none⟩ = some (.slice da dl dc) ∧ U.cell? ⟨w.heap.size, 3, none⟩ = some (.slice oa ol oc) ∧ U.cell? ⟨w.heap.size + 1, 0, none⟩ = some (.int .i64 ts) ∧ U.cell? ⟨w.heap.size + 1, 1, none⟩ = some (.int .i64 tn) ∧ U.cell? ⟨w.heap.size + 1 + 1, 0, none⟩ = some (.slice none 0 0) ∧ U.cell? ⟨w.heap.size + 1 + 1, 1, none⟩ = some (.slice none 0 0) ∧ U.cell? ⟨w.heap.size + 1 + 1, 2, none⟩ = some (.slice none 0 0) ∧ U.cell? ⟨w.heap.size + 1 + 1, 3, none⟩ = some (.slice none 0 0) ∧ U.frozen? ⟨w.heap.size + 1 + 1, 0, none⟩ = false ∧ U.frozen? ⟨w.heap.size + 1 + 1, 1, none⟩ = false ∧ U.frozen? ⟨w.heap.size + 1 + 1, 2, none⟩ = false ∧ U.frozen? ⟨w.heap.size + 1 + 1, 3, none⟩ = false ∧ w.heap.size + 1 + 1 < U.heap.size) := fun U hU => ⟨(hU.cell (p := ⟨w.heap.size, 0, none⟩) zb0).trans c0, (hU.cell (p := ⟨w.heap.size, 1, none⟩) zb0).trans c1, (hU.cell (p := ⟨w.heap.size, 2, none⟩) zb0).trans c2, (hU.cell (p := ⟨w.heap.size, 3, none⟩) zb0).trans c3, (hU.cell (p := ⟨w.heap.size + 1, 0, none⟩) zb1).trans t0, (hU.cell (p := ⟨w.heap.size + 1, 1, none⟩) zb1).trans t1, (hU.cell (p := ⟨w.heap.size + 1 + 1, 0, none⟩) zb2).trans r0, (hU.cell (p := ⟨w.heap.size + 1 + 1, 1, none⟩) zb2).trans r1, (hU.cell (p := ⟨w.heap.size + 1 + 1, 2, none⟩) zb2).trans r2, (hU.cell (p := ⟨w.heap.size + 1 + 1, 3, none⟩) zb2).trans r3, (hU.frozen (p := ⟨w.heap.size + 1 + 1, 0, none⟩) zb2).trans rf0, (hU.frozen (p := ⟨w.heap.size + 1 + 1, 1, none⟩) zb2).trans rf1, (hU.frozen (p := ⟨w.heap.size + 1 + 1, 2, none⟩) zb2).trans rf2, (hU.frozen (p := ⟨w.heap.size + 1 + 1, 3, none⟩) zb2).trans rf3, Nat.lt_of_lt_of_le zb2 hU.size⟩
  have hSW := hh.below hB
  have HS : Hid (∀ U : World, Below W.heap.size W U → IsStore U ⟨ia, il, ic, la, ll, lc, da, dl, dc, oa, ol, oc, items, locks, doubts, over⟩) := fun U hU => hSW.below hU
  clear hh h
  go_enter Tryz.func50, Tryz.ntmps50
  go_upto_region 1 with (fail)
  rw [← hW]
  clear hW
  by_cases hE0 : E = 0
  · obtain ⟨⟨q1, q2, q3⟩, hver⟩ := hok hE0
    have HVER : Hid (∀ y ∈ items, 0 ≤ y.version ∧ y.version ≤ 1048576) := hver
    clear hok hver
    subst hE0
    have hFl := HFl.out
    go_upto_region 5 with (first
      | (go_at_call 68; refine (hC _ hSW).mono ?_; rintro e w1 ⟨rfl, hb1⟩; clear c0 c1 c2 c3 t0 t1 r0 r1 r2 r3 rf0 rf1 rf2 rf3 rz; obtain ⟨c0, c1, c2, c3, t0, t1, r0, r1, r2, r3, rf0, rf1, rf2, rf3, rz⟩ := KA.out _ hb1; have hS1 := hSW.below hb1)
      | (go_at_call 67; refine (hOwn _ hS1 (by omega) (by omega) (by omega)).mono ?_; rintro e w2 ⟨⟨a0, n0, u0, a1, n1, u1, a2, n2, u2, a3, n3, u3, items', locks', doubts', over'⟩, rfl, hsame, hown, hb2'⟩; obtain ⟨v1, v2, v3, v4, v5, v6, v7, v8⟩ := hsame; simp only [] at v1 v2 v3 v4 v5 v6 v7 v8; obtain rfl := v1.symm; obtain rfl := v2.symm; obtain rfl := v3.symm; obtain rfl := v4.symm; obtain rfl := v5.symm; obtain rfl := v6.symm; obtain rfl := v7.symm; obtain rfl := v8.symm; simp only []; have hb2 : Below W.heap.size W w2 := hb1.trans (hb2'.mono hb1.size)))
    obtain ⟨X, hX⟩ : ∃ X : World, X = w2.alloc (.cells #[.slice a0 il u0, .slice a1 ll u1, .slice a2 dl u2, .slice a3 ol u3] 31) := ⟨_, rfl⟩
    have hM0 : Made W X W.heap.size w2.heap.size ⟨a0, il, u0, a1, ll, u1, a2, dl, u2, a3, ol, u3, items, locks, doubts, over⟩ := by
      have hb3 : Below w2.heap.size w2 X := by rw [hX]; exact (Below.refl _ _).alloc (Nat.le_refl _) _
      refine Made.new (hown.base hb1.size) hb2 hb3 (Nat.le_refl _) ?_ hb2.size
      rw [hX]
      exact boxn_new w2 #[.slice a0 il u0, .slice a1 ll u1, .slice a2 dl u2, .slice a3 ol u3] 31 4 rfl
    rw [← hX]
    obtain ⟨m, em⟩ : ∃ m, m = w2.heap.size := ⟨_, rfl⟩
    have zm : W.heap.size ≤ m := by rw [em]; exact hb2.size
    rw [← em] at hM0 ⊢
    clear hX hown em c0 c1 c2 c3 t0 t1 r0 r1 r2 r3 rf0 rf1 rf2 rf3 rz hS1 hC hOwn hb2 hb2' hb1
    clear w2
    cases yes with
    | false =>
      go_upto_region 11 with (fail)
      have UL : Hid (∀ q, (Value.slice a1 ll u1).ownBlock = some q → q < X.heap.size) := hM0.under.locks
      have hDq : Below X.heap.size X X.drew := (Below.refl _ _).drew
      have hMq := hM0.below hDq
      obtain ⟨mz, x0, x1, x2, x3, g0, g1, g2, g3⟩ := hMq.cells
      simp only [] at x0 x1 x2 x3
      obtain ⟨c0, c1, c2, c3, t0, t1, r0, r1, r2, r3, rf0, rf1, rf2, rf3, rz⟩ := KA.out _ hMq.bel
      go_cut [43] (fun _ wc => Made W wc W.heap.size m ⟨a0, il, u0, a1, KL.length, u1, a2, dl, u2, a3, ol, u3, items, KL, doubts, over⟩)
      case first =>
        go_region_with (first | ((go_at_call 72; refine (hOf _).mono ?_; rintro e w4 ⟨rfl, k0, k1, kz, hb4⟩; have hM4 := hMq.below hb4; obtain ⟨mz4, y0, y1, y2, y3, j0, j1, j2, j3⟩ := hM4.cells; simp only [] at y0 y1 y2 y3; have hDel := deleteLock_any 90 #[.pointer (some ⟨X.drew.heap.size, 0, none⟩)] (ofT (ts, tn)) W.heap.size a1 ll u1 locks w4 hM4.own.locks (of_asksG X.drew.heap.size (ts, tn) w4 _ k0 k1 kz (fun e => Nat.lt_irrefl _ (UL.out _ e.symm))); rw [← HKL.out] at hDel)) | ((go_at_call 71; refine hDel.mono ?_; rintro e w5 ⟨rfl, own5, gr5⟩; obtain ⟨cl5, fz5, hM5⟩ := hM4.put_locks (Below.refl _ _) gr5 own5 (at_same _ _ _ _ _); simp only [] at cl5)))
        all_goals (go_wp2; go_meet; exact hM5)
      case rest =>
        have hMb := hcut
        go_upto_region 12 with (fail)
        clear hMq x0 x1 x2 x3 g0 g1 g2 g3 mz c0 c1 c2 c3 t0 t1 r0 r1 r2 r3 rf0 rf1 rf2 rf3 rz hcut hDq UL
        have UD : Hid (∀ q, (Value.slice a2 dl u2).ownBlock = some q → q < wc.heap.size) := hMb.under.doubts
        have hDq : Below wc.heap.size wc wc.drew := (Below.refl _ _).drew
        have hMq := hMb.below hDq
        obtain ⟨mz, x0, x1, x2, x3, g0, g1, g2, g3⟩ := hMq.cells
        simp only [] at x0 x1 x2 x3
        obtain ⟨c0, c1, c2, c3, t0, t1, r0, r1, r2, r3, rf0, rf1, rf2, rf3, rz⟩ := KA.out _ hMq.bel
        rename World => wd1
        go_cut [49] (fun _ wc => Made W wc W.heap.size m ⟨a0, il, u0, a1, KL.length, u1, a2, KD.length, u2, a3, ol, u3, items, KL, KD, over⟩)
        case first =>
          go_region_with (first | ((go_at_call 74; refine (hDo _).mono ?_; rintro e w4 ⟨rfl, k0, k1, kz, hb4⟩; have hM4 := hMq.below hb4; obtain ⟨mz4, y0, y1, y2, y3, j0, j1, j2, j3⟩ := hM4.cells; simp only [] at y0 y1 y2 y3; have hDel := deleteDoubt_any 92 #[.pointer (some ⟨wd1.drew.heap.size, 0, none⟩)] (dbT (ts, tn)) W.heap.size a2 dl u2 doubts w4 hM4.own.doubts (doubtOf_asksG wd1.drew.heap.size (ts, tn) w4 _ k0 k1 kz (fun e => Nat.lt_irrefl _ (UD.out _ e.symm))); rw [← HKD.out] at hDel)) | ((go_at_call 73; refine hDel.mono ?_; rintro e w5 ⟨rfl, own5, gr5⟩; obtain ⟨cl5, fz5, hM5⟩ := hM4.put_doubts (Below.refl _ _) gr5 own5 (at_same _ _ _ _ _); simp only [] at cl5)))
          all_goals (go_wp2; go_meet; exact hM5)
        case rest =>
          have hMc := hcut
          clear hMq hMb x0 x1 x2 x3 g0 g1 g2 g3 mz c0 c1 c2 c3 t0 t1 r0 r1 r2 r3 rf0 rf1 rf2 rf3 rz hcut hDq UD
          obtain ⟨c0, c1, c2, c3, t0, t1, r0, r1, r2, r3, rf0, rf1, rf2, rf3, rz⟩ := KA.out _ hMc.bel
          have hOc := (HS.out _ hMc.bel).over
          simp only [] at hOc
          cases O with
          | true =>
            have yD : Hid (D = ⟨items, KL, KD, over⟩) := by show _ = _; rw [eD.out]; first | rfl | (simp; done)
            go_upto_region 15 with (go_at_call 75; refine (hOv _ hOc).mono ?_; rintro e w6 ⟨rfl, hb6⟩)
            have hMd := hMc.below hb6
            clear c0 c1 c2 c3 t0 t1 r0 r1 r2 r3 rf0 rf1 rf2 rf3 rz
            obtain ⟨c0, c1, c2, c3, t0, t1, r0, r1, r2, r3, rf0, rf1, rf2, rf3, rz⟩ := KA.out _ hMd.bel
            obtain ⟨mz, x0, x1, x2, x3, g0, g1, g2, g3⟩ := hMd.cells
            simp only [] at x0 x1 x2 x3
            go_wp2
            refine bodyPost_ret (v := .tuple #[.agg #[.slice a0 il u0, .slice a1 KL.length u1, .slice a2 KD.length u2, .slice a3 ol u3], .int .i64 0]) (by simp [results, Tryz.results50, go_sem, r0, r1, r2, r3]) rfl ?_
            rw [yD.out]
            exact ⟨⟨a0, il, u0, a1, KL.length, u1, a2, KD.length, u2, a3, ol, u3, items, KL, KD, over⟩, rfl, (hMd.own.four (b := w.heap.size + 1 + 1) (by omega) (.slice a0 il u0) (.slice a1 KL.length u1) (.slice a2 KD.length u2) (.slice a3 ol u3)).base hB.size, rfl, below_four (hB.trans (hMd.bel.mono hB.size)) (by omega) (.slice a0 il u0) (.slice a1 KL.length u1) (.slice a2 KD.length u2) (.slice a3 ol u3)⟩
          | false =>
            have yD : Hid (D = ⟨items, KL, KD, over ++ [(ts, tn)]⟩) := by show _ = _; rw [eD.out]; first | rfl | (simp; done)
            go_upto_region 14 with (go_at_call 75; refine (hOv _ hOc).mono ?_; rintro e w6 ⟨rfl, hb6⟩)
            have hMd := hMc.below hb6
            clear c0 c1 c2 c3 t0 t1 r0 r1 r2 r3 rf0 rf1 rf2 rf3 rz
            obtain ⟨c0, c1, c2, c3, t0, t1, r0, r1, r2, r3, rf0, rf1, rf2, rf3, rz⟩ := KA.out _ hMd.bel
            obtain ⟨mz, x0, x1, x2, x3, g0, g1, g2, g3⟩ := hMd.cells
            simp only [] at x0 x1 x2 x3
            have zd := hMd.sz
            have hol := hMd.own.over
            simp only [] at hol
            go_upto_region 15 with (at_builtin; go_loud (refine wpList_append_row E4 (by rfl) _ _ (by rfl) W.heap.size (.slice a3 ol u3) ol over (by rfl) (own_below hol ((Below.refl _ _).alloc (Nat.le_refl _) _)) _ 1 1 [(ts, tn)] (by rfl) (isOne _ _ _ _ rfl rfl) (by unfold maxLen; omega) (by omega) (by simp; omega) ?_; intro a7 c7 w7 own7 gr7 at7; obtain ⟨cl7, fz7, hM7⟩ := hMd.put_over ((Below.refl _ _).alloc (Nat.le_refl _) _) gr7 own7 at7; simp only [] at cl7))
            obtain ⟨U7, hU7⟩ : ∃ U7 : World, U7 = w7.setCell ⟨m, 3, none⟩ (.slice a7 (ol + 1) c7) := ⟨_, rfl⟩
            rw [← hU7] at hM7 ⊢
            clear hU7 cl7 fz7 own7 gr7 at7 c0 c1 c2 c3 t0 t1 r0 r1 r2 r3 rf0 rf1 rf2 rf3 rz x0 x1 x2 x3 g0 g1 g2 g3 mz hMd
            obtain ⟨c0, c1, c2, c3, t0, t1, r0, r1, r2, r3, rf0, rf1, rf2, rf3, rz⟩ := KA.out _ hM7.bel
            obtain ⟨mz, x0, x1, x2, x3, g0, g1, g2, g3⟩ := hM7.cells
            simp only [] at x0 x1 x2 x3
            go_wp2
            refine bodyPost_ret (v := .tuple #[.agg #[.slice a0 il u0, .slice a1 KL.length u1, .slice a2 KD.length u2, .slice a7 (ol + 1) c7], .int .i64 0]) (by simp [results, Tryz.results50, go_sem, r0, r1, r2, r3]) rfl ?_
            rw [yD.out]
            exact ⟨⟨a0, il, u0, a1, KL.length, u1, a2, KD.length, u2, a7, ol + 1, c7, items, KL, KD, over ++ [(ts, tn)]⟩, rfl, (hM7.own.four (b := w.heap.size + 1 + 1) (by omega) (.slice a0 il u0) (.slice a1 KL.length u1) (.slice a2 KD.length u2) (.slice a7 (ol + 1) c7)).base hB.size, rfl, below_four (hB.trans (hM7.bel.mono hB.size)) (by omega) (.slice a0 il u0) (.slice a1 KL.length u1) (.slice a2 KD.length u2) (.slice a7 (ol + 1) c7)⟩
    | true =>
        obtain ⟨c0, c1, c2, c3, t0, t1, r0, r1, r2, r3, rf0, rf1, rf2, rf3, rz⟩ := KA.out _ hM0.bel
        have hLX := (HS.out _ hM0.bel).locks
        simp only [] at hLX
        have UX := hM0.under
        go_wp2_with (go_at_call 69; go_loud (refine (hWO _ hLX (by omega)).mono ?_; rintro e w3 ⟨ao, cp, rfl, hF3, hloc, hb3⟩))
        have hM3 := hM0.below hb3
        have HLOC : Hid (∀ b off, ao = some ⟨b, off, none⟩ → X.heap.size ≤ b ∧ b < w3.heap.size) := hloc
        have HUX : Hid (∀ q, (Value.slice a0 il u0).ownBlock = some q → q < X.heap.size) := UX.items
        have HMX : Hid (m < X.heap.size) := UX.m
        clear c0 c1 c2 c3 t0 t1 r0 r1 r2 r3 rf0 rf1 rf2 rf3 rz hLX hM0 hloc UX
        go_loopw [26, 11] (fun i _ wr => ∃ (k : Nat) (a : Option Addr) (n c : Nat) (its : List ItV), i = .int .i64 (k : Int) ∧ k ≤ F.length ∧ n ≤ il + k ∧ Hid (its = putAll items (F.take k)) ∧ Hid (∀ y ∈ its, 0 ≤ y.version ∧ y.version ≤ 1048576 + (k : Int)) ∧ Made W wr W.heap.size m ⟨a, n, c, a1, ll, u1, a2, dl, u2, a3, ol, u3, its, locks, doubts, over⟩ ∧ IsLocks wr ao F.length cp F ∧ Hid (∀ b off, ao = some ⟨b, off, none⟩ → X.heap.size ≤ b ∧ b < wr.heap.size ∧ (Value.slice a n c).ownBlock ≠ some b)) (fun i _ _ => F.length - (intOf i).toNat)
        case atStart => exact ⟨0, a0, il, u0, items, rfl, Nat.zero_le _, by omega, rfl, fun y hy => by have := HVER.out y hy; simp; omega, hM3, hF3, fun b off e => ⟨(HLOC.out b off e).1, (HLOC.out b off e).2, fun e2 => by have := HUX.out b e2; have := (HLOC.out b off e).1; omega⟩⟩
        case round =>
          obtain ⟨k, a, n, c, its, rfl, hk, hn, hits, hvr, hM, hF, hfar⟩ := hrel
          by_cases hlt : k < F.length
          · have hlt' : (k : Int) < (F.length : Int) := by omega
            obtain ⟨b, off, rfl, zb, hc⟩ := hF.2.2.2.2 (by omega)
            have hcells := hc k hlt
            have HPA : Hid (putAll items (F.take (k + 1)) = putI (F.getD k default).key (F.getD k default).value its) := by show _ = _; rw [hits.out]; exact putAll_at hlt
            obtain ⟨x, ex⟩ : ∃ x, x = F.getD k default := ⟨_, rfl⟩
            rw [← ex] at hcells HPA
            clear ex hc
            obtain ⟨⟨ks, kn⟩, kk, kw, kv, ka⟩ := x
            have e0 := hcells 0 (by decide)
            have e1 := hcells 1 (by decide)
            have e2 := hcells 2 (by decide)
            have e3 := hcells 3 (by decide)
            have e4 := hcells 4 (by decide)
            have e5 := hcells 5 (by decide)
            simp only [LkV.cells, List.getElem?_cons_zero, List.getElem?_cons_succ, Nat.add_zero] at e0 e1 e2 e3 e4 e5
            clear hcells
            simp only [] at HPA
            obtain ⟨Y, hY⟩ : ∃ Y : World, Y = wr.alloc (.cells #[.int .i64 ks, .int .i64 kn, .int .i64 kk, .bool kw, .int .i64 kv, .int .i64 ka] 70) := ⟨_, rfl⟩
            have bY : Below wr.heap.size wr Y := by rw [hY]; exact (Below.refl _ _).alloc (Nat.le_refl _) _
            have bk := boxn_new wr #[.int .i64 ks, .int .i64 kn, .int .i64 kk, .bool kw, .int .i64 kv, .int .i64 ka] 70 6 rfl
            rw [← hY] at bk
            go_upto_region 9 with (fail)
            rw [← hY]
            clear hY e0 e1 e2 e3 e4 e5
            have hMY := hM.below bY
            have hFY := hF.below bY
            obtain ⟨mz, x0, x1, x2, x3, g0, g1, g2, g3⟩ := hMY.cells
            simp only [] at x0 x1 x2 x3
            have k2 := (bk.c 2 (by decide)).1
            have k4 := (bk.c 4 (by decide)).1
            simp only [List.getD_cons_zero, List.getD_cons_succ] at k2 k4
            have bkl := bk.lt
            have HFAR := hfar.out b off rfl
            have hPut := put_any W.heap.size a n c its kk kv Y hMY.own.items hMY.sz (by omega) (fun y hy => by have := hvr.out y hy; omega)
            have HBD := put_bd kk kv (v := 1048576 + (k : Int)) (by omega) its hvr.out
            go_upto_region 10 with (go_at_call 70; refine hPut.mono ?_; rintro e w5 ⟨a5, n5, c5, rfl, own5, gr5, at5, hn5⟩; obtain ⟨cl5, fz5, hM5⟩ := hMY.putg_items gr5 own5 at5; simp only [] at cl5)
            have hF5 : IsLocks (w5.setCell ⟨m, 0, none⟩ (.slice a5 n5 c5)) (some ⟨b, off, none⟩) F.length cp F := by
              obtain ⟨r1, r2, r3, r4, r5⟩ := hFY
              refine ⟨r1, r2, r3, r4, fun hp => ?_⟩
              obtain ⟨b', off', e', hl', hc'⟩ := r5 hp
              simp at e'
              obtain ⟨rfl, rfl⟩ := e'
              have hbm : b ≠ m := by have := HMX.out; omega
              refine ⟨b, off, rfl, by have := gr5.size; simp; omega, fun i hi q hq => ?_⟩
              rw [World.cell?_of_block (a := ⟨b, off + i * 6 + q, none⟩) (Below.heap_setCell w5 ⟨m, 0, none⟩ _ b hbm), World.cell?_of_block (a := ⟨b, off + i * 6 + q, none⟩) (gr5.block b hl' (fun e => HFAR.2.2 e.symm))]
              exact hc' i hi q hq
            have HF5 : Hid (∀ b' off', some (⟨b, off, none⟩ : Addr) = some ⟨b', off', none⟩ → X.heap.size ≤ b' ∧ b' < (w5.setCell ⟨m, 0, none⟩ (.slice a5 n5 c5)).heap.size ∧ (Value.slice a5 n5 c5).ownBlock ≠ some b') := by
              intro b' off' e
              simp at e
              obtain ⟨rfl, rfl⟩ := e
              have h1 := gr5.size
              have h2 := bY.size
              refine ⟨HFAR.1, by simp; omega, fun e => ?_⟩
              rcases at5 b e with e2 | e2
              · exact HFAR.2.2 e2
              · have := HFAR.2.1; omega
            have HV5 : Hid (∀ y ∈ putI kk kv its, 0 ≤ y.version ∧ y.version ≤ 1048576 + ((k + 1 : Nat) : Int)) := fun y hy => by have := HBD.2 y hy; omega
            clear hvr hits HBD
            go_wp2
            go_roundw
            case rel => exact ⟨k + 1, a5, n5, c5, putI kk kv its, by go_num, by omega, by omega, HPA.out.symm, HV5, hM5, hF5, HF5⟩
            case measure => simp [intOf]; omega
          · have HEQ : Hid (its = putAll items F) := by show _ = _; rw [hits.out, List.take_of_length_le (by omega)]
            rw [HEQ.out] at hM
            clear hvr hits
            go_wp2
            have UL : Hid (∀ q, (Value.slice a1 ll u1).ownBlock = some q → q < wr.heap.size) := hM.under.locks
            have hDq : Below wr.heap.size wr wr.drew := (Below.refl _ _).drew
            have hMq := hM.below hDq
            obtain ⟨mz, x0, x1, x2, x3, g0, g1, g2, g3⟩ := hMq.cells
            simp only [] at x0 x1 x2 x3
            obtain ⟨c0, c1, c2, c3, t0, t1, r0, r1, r2, r3, rf0, rf1, rf2, rf3, rz⟩ := KA.out _ hMq.bel
            go_cut [43] (fun _ wc => Made W wc W.heap.size m ⟨a, n, c, a1, KL.length, u1, a2, dl, u2, a3, ol, u3, (putAll items F), KL, doubts, over⟩)
            case first =>
              go_region_with (first | ((go_at_call 72; refine (hOf _).mono ?_; rintro e w4 ⟨rfl, k0, k1, kz, hb4⟩; have hM4 := hMq.below hb4; obtain ⟨mz4, y0, y1, y2, y3, j0, j1, j2, j3⟩ := hM4.cells; simp only [] at y0 y1 y2 y3; have hDel := deleteLock_any 90 #[.pointer (some ⟨wr.drew.heap.size, 0, none⟩)] (ofT (ts, tn)) W.heap.size a1 ll u1 locks w4 hM4.own.locks (of_asksG wr.drew.heap.size (ts, tn) w4 _ k0 k1 kz (fun e => Nat.lt_irrefl _ (UL.out _ e.symm))); rw [← HKL.out] at hDel)) | ((go_at_call 71; refine hDel.mono ?_; rintro e w5 ⟨rfl, own5, gr5⟩; obtain ⟨cl5, fz5, hM5⟩ := hM4.put_locks (Below.refl _ _) gr5 own5 (at_same _ _ _ _ _); simp only [] at cl5)))
              all_goals (go_wp2; go_meet; exact hM5)
            case rest =>
              have hMb := hcut
              go_upto_region 12 with (fail)
              clear hMq x0 x1 x2 x3 g0 g1 g2 g3 mz c0 c1 c2 c3 t0 t1 r0 r1 r2 r3 rf0 rf1 rf2 rf3 rz hcut hDq UL
              have UD : Hid (∀ q, (Value.slice a2 dl u2).ownBlock = some q → q < wc.heap.size) := hMb.under.doubts
              have hDq : Below wc.heap.size wc wc.drew := (Below.refl _ _).drew
              have hMq := hMb.below hDq
              obtain ⟨mz, x0, x1, x2, x3, g0, g1, g2, g3⟩ := hMq.cells
              simp only [] at x0 x1 x2 x3
              obtain ⟨c0, c1, c2, c3, t0, t1, r0, r1, r2, r3, rf0, rf1, rf2, rf3, rz⟩ := KA.out _ hMq.bel
              rename World => wd1
              go_cut [49] (fun _ wc => Made W wc W.heap.size m ⟨a, n, c, a1, KL.length, u1, a2, KD.length, u2, a3, ol, u3, (putAll items F), KL, KD, over⟩)
              case first =>
                go_region_with (first | ((go_at_call 74; refine (hDo _).mono ?_; rintro e w4 ⟨rfl, k0, k1, kz, hb4⟩; have hM4 := hMq.below hb4; obtain ⟨mz4, y0, y1, y2, y3, j0, j1, j2, j3⟩ := hM4.cells; simp only [] at y0 y1 y2 y3; have hDel := deleteDoubt_any 92 #[.pointer (some ⟨wd1.drew.heap.size, 0, none⟩)] (dbT (ts, tn)) W.heap.size a2 dl u2 doubts w4 hM4.own.doubts (doubtOf_asksG wd1.drew.heap.size (ts, tn) w4 _ k0 k1 kz (fun e => Nat.lt_irrefl _ (UD.out _ e.symm))); rw [← HKD.out] at hDel)) | ((go_at_call 73; refine hDel.mono ?_; rintro e w5 ⟨rfl, own5, gr5⟩; obtain ⟨cl5, fz5, hM5⟩ := hM4.put_doubts (Below.refl _ _) gr5 own5 (at_same _ _ _ _ _); simp only [] at cl5)))
                all_goals (go_wp2; go_meet; exact hM5)
              case rest =>
                have hMc := hcut
                clear hMq hMb x0 x1 x2 x3 g0 g1 g2 g3 mz c0 c1 c2 c3 t0 t1 r0 r1 r2 r3 rf0 rf1 rf2 rf3 rz hcut hDq UD
                obtain ⟨c0, c1, c2, c3, t0, t1, r0, r1, r2, r3, rf0, rf1, rf2, rf3, rz⟩ := KA.out _ hMc.bel
                have hOc := (HS.out _ hMc.bel).over
                simp only [] at hOc
                cases O with
                | true =>
                  have yD : Hid (D = ⟨(putAll items F), KL, KD, over⟩) := by show _ = _; rw [eD.out]; first | rfl | (simp; done)
                  go_upto_region 15 with (go_at_call 75; refine (hOv _ hOc).mono ?_; rintro e w6 ⟨rfl, hb6⟩)
                  have hMd := hMc.below hb6
                  clear c0 c1 c2 c3 t0 t1 r0 r1 r2 r3 rf0 rf1 rf2 rf3 rz
                  obtain ⟨c0, c1, c2, c3, t0, t1, r0, r1, r2, r3, rf0, rf1, rf2, rf3, rz⟩ := KA.out _ hMd.bel
                  obtain ⟨mz, x0, x1, x2, x3, g0, g1, g2, g3⟩ := hMd.cells
                  simp only [] at x0 x1 x2 x3
                  go_wp2
                  refine bodyPost_ret (v := .tuple #[.agg #[.slice a n c, .slice a1 KL.length u1, .slice a2 KD.length u2, .slice a3 ol u3], .int .i64 0]) (by simp [results, Tryz.results50, go_sem, r0, r1, r2, r3]) rfl ?_
                  rw [yD.out]
                  exact ⟨⟨a, n, c, a1, KL.length, u1, a2, KD.length, u2, a3, ol, u3, (putAll items F), KL, KD, over⟩, rfl, (hMd.own.four (b := w.heap.size + 1 + 1) (by omega) (.slice a n c) (.slice a1 KL.length u1) (.slice a2 KD.length u2) (.slice a3 ol u3)).base hB.size, rfl, below_four (hB.trans (hMd.bel.mono hB.size)) (by omega) (.slice a n c) (.slice a1 KL.length u1) (.slice a2 KD.length u2) (.slice a3 ol u3)⟩
                | false =>
                  have yD : Hid (D = ⟨(putAll items F), KL, KD, over ++ [(ts, tn)]⟩) := by show _ = _; rw [eD.out]; first | rfl | (simp; done)
                  go_upto_region 14 with (go_at_call 75; refine (hOv _ hOc).mono ?_; rintro e w6 ⟨rfl, hb6⟩)
                  have hMd := hMc.below hb6
                  clear c0 c1 c2 c3 t0 t1 r0 r1 r2 r3 rf0 rf1 rf2 rf3 rz
                  obtain ⟨c0, c1, c2, c3, t0, t1, r0, r1, r2, r3, rf0, rf1, rf2, rf3, rz⟩ := KA.out _ hMd.bel
                  obtain ⟨mz, x0, x1, x2, x3, g0, g1, g2, g3⟩ := hMd.cells
                  simp only [] at x0 x1 x2 x3
                  have zd := hMd.sz
                  have hol := hMd.own.over
                  simp only [] at hol
                  go_upto_region 15 with (at_builtin; go_loud (refine wpList_append_row E4 (by rfl) _ _ (by rfl) W.heap.size (.slice a3 ol u3) ol over (by rfl) (own_below hol ((Below.refl _ _).alloc (Nat.le_refl _) _)) _ 1 1 [(ts, tn)] (by rfl) (isOne _ _ _ _ rfl rfl) (by unfold maxLen; omega) (by omega) (by simp; omega) ?_; intro a7 c7 w7 own7 gr7 at7; obtain ⟨cl7, fz7, hM7⟩ := hMd.put_over ((Below.refl _ _).alloc (Nat.le_refl _) _) gr7 own7 at7; simp only [] at cl7))
                  obtain ⟨U7, hU7⟩ : ∃ U7 : World, U7 = w7.setCell ⟨m, 3, none⟩ (.slice a7 (ol + 1) c7) := ⟨_, rfl⟩
                  rw [← hU7] at hM7 ⊢
                  clear hU7 cl7 fz7 own7 gr7 at7 c0 c1 c2 c3 t0 t1 r0 r1 r2 r3 rf0 rf1 rf2 rf3 rz x0 x1 x2 x3 g0 g1 g2 g3 mz hMd
                  obtain ⟨c0, c1, c2, c3, t0, t1, r0, r1, r2, r3, rf0, rf1, rf2, rf3, rz⟩ := KA.out _ hM7.bel
                  obtain ⟨mz, x0, x1, x2, x3, g0, g1, g2, g3⟩ := hM7.cells
                  simp only [] at x0 x1 x2 x3
                  go_wp2
                  refine bodyPost_ret (v := .tuple #[.agg #[.slice a n c, .slice a1 KL.length u1, .slice a2 KD.length u2, .slice a7 (ol + 1) c7], .int .i64 0]) (by simp [results, Tryz.results50, go_sem, r0, r1, r2, r3]) rfl ?_
                  rw [yD.out]
                  exact ⟨⟨a, n, c, a1, KL.length, u1, a2, KD.length, u2, a7, ol + 1, c7, (putAll items F), KL, KD, over ++ [(ts, tn)]⟩, rfl, (hM7.own.four (b := w.heap.size + 1 + 1) (by omega) (.slice a n c) (.slice a1 KL.length u1) (.slice a2 KD.length u2) (.slice a7 (ol + 1) c7)).base hB.size, rfl, below_four (hB.trans (hM7.bel.mono hB.size)) (by omega) (.slice a n c) (.slice a1 KL.length u1) (.slice a2 KD.length u2) (.slice a7 (ol + 1) c7)⟩
  · have hE : E ≠ 0 := hE0
    have hEE : E = E := rfl
    go_wp2_with (go_at_call 68; refine (hC _ hSW).mono ?_; rintro e w1 ⟨rfl, hb1⟩; clear c0 c1 c2 c3 t0 t1 r0 r1 r2 r3 rf0 rf1 rf2 rf3 rz; obtain ⟨c0, c1, c2, c3, t0, t1, r0, r1, r2, r3, rf0, rf1, rf2, rf3, rz⟩ := KA.out _ hb1)
    refine bodyPost_ret (v := .tuple #[.agg #[.slice none 0 0, .slice none 0 0, .slice none 0 0, .slice none 0 0], .int .i64 E]) (by simp [results, Tryz.results50, go_sem, r0, r1, r2, r3]) rfl ?_
    have y3 := HBAD.out hE
    rw [y3]
    try rw [hEE]
    exact ⟨SV.nil, rfl, ownStore_nil _ _, rfl, below_four (hB.trans (hb1.mono hB.size)) (by omega) (.slice none 0 0) (.slice none 0 0) (.slice none 0 0) (.slice none 0 0)⟩
theorem end_any (s : SV) (t : Int × Int) (yes : Bool) (w : World) (h : IsStore w s) (hwf : ∀ t ∈ s.over, TxWf t) (h4 : s.ol * 16 ≤ 140737488351232) :
    Calls Tryz.prog 50 #[s.val, .agg #[.int .i64 t.1, .int .i64 t.2], .bool yes] w fun e w' => ∃ r : SV, e = .returned (.tuple #[r.val, .int .i64 (endErr s t yes)]) ∧ IsStore w' r ∧ r.data = endData s t yes ∧ Below w.heap.size w w' :=
  (end_own s t yes w h hwf h4).mono fun e w' ⟨r, q1, q2, q3⟩ => ⟨r, q1, q2.isStore, q3⟩
end Go.Proofs.YtekglahigjblkaaGreatDoor.St
/- Contracts of store.by, and of the function that it hands back. -/
namespace Go.Proofs.YtekglahigjblkaaGreatDoor.St
open Go.ChangeShapes Go.WideShapes Go.ChangeAt Go.RowKit
set_option linter.unusedVariables false

def byT (t : Int × Int) (ky : Int) (k : LkV) : Bool := decide (k.t = t) && decide (k.key = ky)
set_option maxHeartbeats 1000000 in
theorem by_asks (b0 : Nat) (b1 : Nat) (t : Int × Int) (ky : Int) (w : World) (c00 : w.cell? ⟨b0, 0, none⟩ = some (.int .i64 t.1)) (c01 : w.cell? ⟨b0, 1, none⟩ = some (.int .i64 t.2)) (z0 : b0 < w.heap.size) (c10 : w.cell? ⟨b1, 0, none⟩ = some (.int .i64 ky)) (z1 : b1 < w.heap.size) : Asks 95 #[.pointer (some ⟨b0, 0, none⟩), .pointer (some ⟨b1, 0, none⟩)] LkV.val (byT t ky) w := by
  refine ⟨enters_of Tryz.func95 (by kernel_rfl) rfl, fun x w' hb => ?_⟩
  rw [← hb.cell (p := ⟨b0, 0, none⟩) z0] at c00
  rw [← hb.cell (p := ⟨b0, 1, none⟩) z0] at c01
  have y0 := Nat.lt_of_lt_of_le z0 hb.size
  rw [← hb.cell (p := ⟨b1, 0, none⟩) z1] at c10
  have y1 := Nat.lt_of_lt_of_le z1 hb.size
  obtain ⟨ts, tn⟩ := t
  obtain ⟨⟨site, num⟩, key, write, value, ask⟩ := x
  simp only [LkV.val] at *
  have hA : ∀ o, Below w'.heap.size w' (w'.alloc o) := fun o => (Below.refl _ _).alloc (Nat.le_refl _) _
  show Calls Tryz.prog 95 #[_, .pointer (some ⟨b0, 0, none⟩), .pointer (some ⟨b1, 0, none⟩)] w' _
  go_enter Tryz.func95, Tryz.ntmps95
  go_wp2
  all_goals go_ret
  all_goals exact ⟨ret_bool (by first | (simp_all [byT]; done) | (simp_all [byT]; rfl)), hA _⟩
theorem by_any (t : Int × Int) (ky : Int) (w : World) :
    Calls Tryz.prog 80 #[.agg #[.int .i64 t.1, .int .i64 t.2], .int .i64 ky] w fun e w' => ∃ b0 b1 : Nat, e = .returned (.func (.func 95) #[] #[.pointer (some ⟨b0, 0, none⟩), .pointer (some ⟨b1, 0, none⟩)]) ∧ Asks 95 #[.pointer (some ⟨b0, 0, none⟩), .pointer (some ⟨b1, 0, none⟩)] LkV.val (byT t ky) w' ∧ Below w.heap.size w w' := by
  obtain ⟨ts, tn⟩ := t
  simp only
  obtain ⟨W, hW⟩ : ∃ W : World, W = ((w.alloc (.cells #[.int .i64 ts, .int .i64 tn] 51)).alloc (.cells #[.int .i64 ky] 3)) := ⟨_, rfl⟩
  have hB : Below w.heap.size w W := by rw [hW]; exact (((Below.refl _ _).alloc (Nat.le_refl _) _).alloc (by simp) _)
  have zW : W.heap.size = w.heap.size + 2 := by rw [hW]; simp
  have c00 : W.cell? ⟨w.heap.size, 0, none⟩ = some (.int .i64 ts) := by rw [hW]; go_simp
  have c01 : W.cell? ⟨w.heap.size, 1, none⟩ = some (.int .i64 tn) := by rw [hW]; go_simp
  have c10 : W.cell? ⟨w.heap.size + 1, 0, none⟩ = some (.int .i64 ky) := by rw [hW]; go_simp
  have hq := by_asks w.heap.size (w.heap.size + 1) (ts, tn) ky W c00 c01 (by omega) c10 (by omega)
  go_enter Tryz.func80, Tryz.ntmps80
  go_wp2
  rw [← hW]
  go_ret
  exact ⟨_, _, rfl, hq, hB⟩
end Go.Proofs.YtekglahigjblkaaGreatDoor.St
