/- Texts of this claim, one behind the other. -/
import Derived.Test.YtgohpgollpjlnaaDoorM5ShowHidden
import Derived.Test.YtgohpgollpjlnaaDoorM4ShowHidden
import Derived.Test.YtgohpgollpjlnaaDoorM7ShowHidden
/- Contracts of store.writes, and of the function that it hands back. -/
namespace Go.Proofs.YtgohpgollpjlnaaDoor.St
open Go.ChangeShapes Go.WideShapes Go.ChangeAt Go.RowKit
set_option linter.unusedVariables false

def wrT (ky : Int) (k : LkV) : Bool := k.write && decide (k.key = ky)
set_option maxHeartbeats 1000000 in
theorem writes_asks (b0 : Nat) (ky : Int) (w : World) (c00 : w.cell? ⟨b0, 0, none⟩ = some (.int .i64 ky)) (z0 : b0 < w.heap.size) : Asks 116 #[.pointer (some ⟨b0, 0, none⟩)] LkV.val (wrT ky) w := by
  refine ⟨enters_of Tryd.func116 (by kernel_rfl) rfl, fun x w' hb => ?_⟩
  rw [← hb.cell (p := ⟨b0, 0, none⟩) z0] at c00
  have y0 := Nat.lt_of_lt_of_le z0 hb.size
  obtain ⟨⟨site, num⟩, key, write, value, ask⟩ := x
  simp only [LkV.val] at *
  have hA : ∀ o, Below w'.heap.size w' (w'.alloc o) := fun o => (Below.refl _ _).alloc (Nat.le_refl _) _
  show Calls Tryd.prog 116 #[_, .pointer (some ⟨b0, 0, none⟩)] w' _
  go_enter Tryd.func116, Tryd.ntmps116
  go_wp2
  all_goals go_ret
  all_goals exact ⟨ret_bool (by first | (simp_all [wrT]; done) | (simp_all [wrT]; rfl)), hA _⟩
theorem writes_any (ky : Int) (w : World) :
    Calls Tryd.prog 96 #[.int .i64 ky] w fun e w' => ∃ b0 : Nat, e = .returned (.func (.func 116) #[] #[.pointer (some ⟨b0, 0, none⟩)]) ∧ Asks 116 #[.pointer (some ⟨b0, 0, none⟩)] LkV.val (wrT ky) w' ∧ Below w.heap.size w w' := by
  obtain ⟨W, hW⟩ : ∃ W : World, W = (w.alloc (.cells #[.int .i64 ky] 3)) := ⟨_, rfl⟩
  have hB : Below w.heap.size w W := by rw [hW]; exact ((Below.refl _ _).alloc (Nat.le_refl _) _)
  have zW : W.heap.size = w.heap.size + 1 := by rw [hW]; simp
  have c00 : W.cell? ⟨w.heap.size, 0, none⟩ = some (.int .i64 ky) := by rw [hW]; go_simp
  have hq := writes_asks w.heap.size ky W c00 (by omega)
  go_enter Tryd.func96, Tryd.ntmps96
  go_wp2
  rw [← hW]
  go_ret
  exact ⟨_, rfl, hq, hB⟩
end Go.Proofs.YtgohpgollpjlnaaDoor.St
/- How a call that is handed a store and answers one begins: a box for the store, a box for the answer. -/
namespace Go.Proofs.YtgohpgollpjlnaaDoor.St
open Go.ChangeShapes Go.WideShapes Go.ChangeAt Go.RowKit
set_option linter.unusedVariables false

structure Pre (w W : World) (s : SV) : Prop where
  bel : Below w.heap.size w W
  sz : W.heap.size = w.heap.size + 2
  st : IsStore W s
  par : BoxN W w.heap.size 4 s.box
  res : BoxN W (w.heap.size + 1) 4 SV.nil.box
theorem pre_of (w : World) (s : SV) (h : IsStore w s) : Pre w ((w.alloc (.cells #[.slice s.ia s.il s.ic, .slice s.la s.ll s.lc, .slice s.da s.dl s.dc, .slice s.oa s.ol s.oc] 55)).alloc (.cells #[.slice none 0 0, .slice none 0 0, .slice none 0 0, .slice none 0 0] 55)) s := by
  have h1 : Below w.heap.size w (w.alloc (.cells #[.slice s.ia s.il s.ic, .slice s.la s.ll s.lc, .slice s.da s.dl s.dc, .slice s.oa s.ol s.oc] 55)) := (Below.refl _ _).alloc (Nat.le_refl _) _
  have h2 : Below w.heap.size w ((w.alloc (.cells #[.slice s.ia s.il s.ic, .slice s.la s.ll s.lc, .slice s.da s.dl s.dc, .slice s.oa s.ol s.oc] 55)).alloc (.cells #[.slice none 0 0, .slice none 0 0, .slice none 0 0, .slice none 0 0] 55)) := h1.alloc (by simp) _
  have b1 := boxn_new w #[.slice s.ia s.il s.ic, .slice s.la s.ll s.lc, .slice s.da s.dl s.dc, .slice s.oa s.ol s.oc] 55 4 rfl
  have b2 := boxn_new (w.alloc (.cells #[.slice s.ia s.il s.ic, .slice s.la s.ll s.lc, .slice s.da s.dl s.dc, .slice s.oa s.ol s.oc] 55)) #[.slice none 0 0, .slice none 0 0, .slice none 0 0, .slice none 0 0] 55 4 rfl
  refine ⟨h2, by simp, h.below h2, ?_, by simpa [SV.nil, SV.box] using b2⟩
  refine b1.below (B := (w.alloc (.cells #[.slice s.ia s.il s.ic, .slice s.la s.ll s.lc, .slice s.da s.dl s.dc, .slice s.oa s.ol s.oc] 55)).heap.size) ((Below.refl _ _).alloc (Nat.le_refl _) _) (by simp)
theorem Pre.z0 {w W : World} {s : SV} (h : Pre w W s) : w.heap.size < W.heap.size := by have := h.sz; omega
theorem Pre.z1 {w W : World} {s : SV} (h : Pre w W s) : w.heap.size + 1 < W.heap.size := by have := h.sz; omega
theorem Pre.cells {w W : World} {s : SV} (h : Pre w W s) (U : World) (hU : Below W.heap.size W U) : U.cell? ⟨w.heap.size, 0, none⟩ = some (.slice s.ia s.il s.ic) ∧ U.cell? ⟨w.heap.size, 1, none⟩ = some (.slice s.la s.ll s.lc) ∧ U.cell? ⟨w.heap.size, 2, none⟩ = some (.slice s.da s.dl s.dc) ∧ U.cell? ⟨w.heap.size, 3, none⟩ = some (.slice s.oa s.ol s.oc) := by
  have hp := h.par.below hU h.z0
  exact ⟨(hp.c 0 (by decide)).1, (hp.c 1 (by decide)).1, (hp.c 2 (by decide)).1, (hp.c 3 (by decide)).1⟩
theorem Pre.out {w W : World} {s : SV} (h : Pre w W s) (U : World) (hU : Below W.heap.size W U) : (w.heap.size + 1 < U.heap.size ∧ U.cell? ⟨w.heap.size + 1, 0, none⟩ = some (.slice none 0 0) ∧ U.cell? ⟨w.heap.size + 1, 1, none⟩ = some (.slice none 0 0) ∧ U.cell? ⟨w.heap.size + 1, 2, none⟩ = some (.slice none 0 0) ∧ U.cell? ⟨w.heap.size + 1, 3, none⟩ = some (.slice none 0 0)) ∧ U.frozen? ⟨w.heap.size + 1, 0, none⟩ = false ∧ U.frozen? ⟨w.heap.size + 1, 1, none⟩ = false ∧ U.frozen? ⟨w.heap.size + 1, 2, none⟩ = false ∧ U.frozen? ⟨w.heap.size + 1, 3, none⟩ = false := by
  have hp := h.res.below hU h.z1
  exact ⟨⟨hp.lt, (hp.c 0 (by decide)).1, (hp.c 1 (by decide)).1, (hp.c 2 (by decide)).1, (hp.c 3 (by decide)).1⟩, (hp.c 0 (by decide)).2, (hp.c 1 (by decide)).2, (hp.c 2 (by decide)).2, (hp.c 3 (by decide)).2⟩
theorem Pre.below {w W U : World} {s : SV} (h : Pre w W s) (hU : Below W.heap.size W U) : Below w.heap.size w U := h.bel.trans (hU.mono h.bel.size)
/-- What is told to the answer's box. -/
theorem Pre.done {w W U : World} {s r : SV} (h : Pre w W s) (hU : Below W.heap.size W U) (hr : IsStore U r) (hn : ∀ b off, (r.ia = some ⟨b, off, none⟩ ∧ 0 < r.il) ∨ (r.la = some ⟨b, off, none⟩ ∧ 0 < r.ll) ∨ (r.da = some ⟨b, off, none⟩ ∧ 0 < r.dl) ∨ (r.oa = some ⟨b, off, none⟩ ∧ 0 < r.ol) → b ≠ w.heap.size + 1) (p0 p1 p2 p3 : Value) :
    IsStore ((((U.setCell ⟨w.heap.size + 1, 0, none⟩ p0).setCell ⟨w.heap.size + 1, 1, none⟩ p1).setCell ⟨w.heap.size + 1, 2, none⟩ p2).setCell ⟨w.heap.size + 1, 3, none⟩ p3) r ∧ Below w.heap.size w ((((U.setCell ⟨w.heap.size + 1, 0, none⟩ p0).setCell ⟨w.heap.size + 1, 1, none⟩ p1).setCell ⟨w.heap.size + 1, 2, none⟩ p2).setCell ⟨w.heap.size + 1, 3, none⟩ p3) := by
  have far : ∀ {α : Type} [Inhabited α] {k : Nat} {cells : α → List Value} {U : World} {a : Option Addr} {n c : Nat} {xs : List α} (j : Nat) (v : Value), (∀ b off, a = some ⟨b, off, none⟩ ∧ 0 < n → b ≠ w.heap.size + 1) → IsRow k cells U a n c xs → IsRow k cells (U.setCell ⟨w.heap.size + 1, j, none⟩ v) a n c xs := by
    intro α _ k cells U a n c xs j v hne hR
    obtain ⟨r1, r2, r3, r4, r5⟩ := hR
    refine ⟨r1, r2, r3, r4, fun hp => ?_⟩
    obtain ⟨b, off, e, hl, hc⟩ := r5 hp
    refine ⟨b, off, e, by simpa using hl, fun i hi q hq => ?_⟩
    rw [World.cell?_of_block (a := ⟨b, off + i * k + q, none⟩) (Below.heap_setCell U ⟨w.heap.size + 1, j, none⟩ v b (hne b off ⟨e, hp⟩))]
    exact hc i hi q hq
  have n1 := fun b off (q : r.ia = some ⟨b, off, none⟩ ∧ 0 < r.il) => hn b off (.inl q)
  have n2 := fun b off (q : r.la = some ⟨b, off, none⟩ ∧ 0 < r.ll) => hn b off (.inr (.inl q))
  have n3 := fun b off (q : r.da = some ⟨b, off, none⟩ ∧ 0 < r.dl) => hn b off (.inr (.inr (.inl q)))
  have n4 := fun b off (q : r.oa = some ⟨b, off, none⟩ ∧ 0 < r.ol) => hn b off (.inr (.inr (.inr q)))
  refine ⟨⟨far 3 _ n1 (far 2 _ n1 (far 1 _ n1 (far 0 _ n1 hr.items))), far 3 _ n2 (far 2 _ n2 (far 1 _ n2 (far 0 _ n2 hr.locks))), far 3 _ n3 (far 2 _ n3 (far 1 _ n3 (far 0 _ n3 hr.doubts))), far 3 _ n4 (far 2 _ n4 (far 1 _ n4 (far 0 _ n4 hr.over)))⟩, ?_⟩
  refine Below.setCell (Below.setCell (Below.setCell (Below.setCell (h.below hU) ?_ _) ?_ _) ?_ _) ?_ _
  all_goals exact Nat.le_succ _
/-- The same of a store that was made behind the two boxes. -/
theorem Pre.made {w W U : World} {s r : SV} {m : Nat} (h : Pre w W s) (hM : Made W U W.heap.size m r) (p0 p1 p2 p3 : Value) :
    IsStore ((((U.setCell ⟨w.heap.size + 1, 0, none⟩ p0).setCell ⟨w.heap.size + 1, 1, none⟩ p1).setCell ⟨w.heap.size + 1, 2, none⟩ p2).setCell ⟨w.heap.size + 1, 3, none⟩ p3) r ∧ OwnStore ((((U.setCell ⟨w.heap.size + 1, 0, none⟩ p0).setCell ⟨w.heap.size + 1, 1, none⟩ p1).setCell ⟨w.heap.size + 1, 2, none⟩ p2).setCell ⟨w.heap.size + 1, 3, none⟩ p3) w.heap.size r ∧ Below w.heap.size w ((((U.setCell ⟨w.heap.size + 1, 0, none⟩ p0).setCell ⟨w.heap.size + 1, 1, none⟩ p1).setCell ⟨w.heap.size + 1, 2, none⟩ p2).setCell ⟨w.heap.size + 1, 3, none⟩ p3) := by
  have z1 := h.z1
  have ho : OwnStore ((((U.setCell ⟨w.heap.size + 1, 0, none⟩ p0).setCell ⟨w.heap.size + 1, 1, none⟩ p1).setCell ⟨w.heap.size + 1, 2, none⟩ p2).setCell ⟨w.heap.size + 1, 3, none⟩ p3) W.heap.size r :=
    (((hM.own.box (p := ⟨w.heap.size + 1, 0, none⟩) z1 p0).box (p := ⟨w.heap.size + 1, 1, none⟩) z1 p1).box (p := ⟨w.heap.size + 1, 2, none⟩) z1 p2).box (p := ⟨w.heap.size + 1, 3, none⟩) z1 p3
  refine ⟨ho.isStore, ho.base h.bel.size, ?_⟩
  refine Below.setCell (Below.setCell (Below.setCell (Below.setCell (h.below hM.bel) ?_ _) ?_ _) ?_ _) ?_ _
  all_goals exact Nat.le_succ _
end Go.Proofs.YtgohpgollpjlnaaDoor.St
/- What a tick makes of doubts, on plain data. -/
namespace Go.Proofs.YtgohpgollpjlnaaDoor.St
open Go.ChangeShapes Go.WideShapes Go.ChangeAt Go.RowKit
set_option linter.unusedVariables false

def agedD (p : Int) (d : DbV) : DbV := if p ≤ d.age + 1 then ⟨d.t, 0⟩ else ⟨d.t, d.age + 1⟩
def toldT (p : Int) (ds : List DbV) : List (Int × Int) := (ds.filter (fun d => decide (p ≤ d.age + 1))).map (fun d => d.t)
def ageErr (s : SV) (p : Int) : Int := if storeOK s then (if inR p 1 1048576 then 0 else 2) else 9
def PS.nil : PS := ⟨[], [], [], []⟩
def ageData (s : SV) (p : Int) : PS := if ageErr s p = 0 then ⟨s.items, s.locks, s.doubts.map (agedD p), s.over⟩ else PS.nil
def ageTold (s : SV) (p : Int) : List (Int × Int) := if ageErr s p = 0 then toldT p s.doubts else []
theorem mid_get {α : Type} [Inhabited α] (f : α → α) (ds : List α) {k : Nat} (hk : k < ds.length) : ((ds.take k).map f ++ ds.drop k).getD k default = ds.getD k default := by
  have h1 : ((ds.take k).map f).length = k := by simp; omega
  simp only [List.getD]
  rw [List.getElem?_append_right (by omega), h1, Nat.sub_self, List.getElem?_drop, Nat.add_zero]
theorem mid_set {α : Type} [Inhabited α] (f : α → α) (ds : List α) {k : Nat} (hk : k < ds.length) : ((ds.take k).map f ++ ds.drop k).set k (f (ds.getD k default)) = (ds.take (k + 1)).map f ++ ds.drop (k + 1) := by
  have h1 : ((ds.take k).map f).length = k := by simp; omega
  rw [List.set_append_right _ _ (by omega), h1, Nat.sub_self, drop_at hk, List.set_cons_zero, take_at hk]
  simp
theorem told_at (p : Int) (ds : List DbV) {k : Nat} (hk : k < ds.length) : toldT p (ds.take (k + 1)) = toldT p (ds.take k) ++ (if p ≤ (ds.getD k default).age + 1 then [(ds.getD k default).t] else []) := by
  unfold toldT
  rw [take_at hk, List.filter_append, List.map_append]
  congr 1
  generalize ds.getD k default = d
  by_cases h : p ≤ d.age + 1 <;> simp [h]
theorem told_len (p : Int) (ds : List DbV) : (toldT p ds).length ≤ ds.length := by
  unfold toldT
  rw [List.length_map]
  exact List.length_filter_le ..
theorem onceD_len (ls : List LkV) (ov : List (Int × Int)) : ∀ (r seen : List DbV), doubtsGo ls ov seen r = true → ∀ d ∈ r, inR d.age 0 1048576 = true ∧ ls.any (ofT d.t) = true
  | [], seen, _, d, hd => by simp at hd
  | x :: r, seen, h, d, hd => by
    simp only [doubtsGo, Bool.and_eq_true] at h
    rcases List.mem_cons.1 hd with rfl | hd
    · exact ⟨h.1.1.1.1, h.1.1.1.2⟩
    · exact onceD_len ls ov r _ h.2 d hd
/-- Doubts that may be: each once, each with a lock. -/
theorem doubts_nodup (ls : List LkV) (ov : List (Int × Int)) : ∀ (r seen : List DbV), doubtsGo ls ov seen r = true → (r.map (fun d => d.t)).Nodup ∧ (∀ d ∈ r, ∀ e ∈ seen, e.t ≠ d.t)
  | [], seen, _ => by simp
  | x :: r, seen, h => by
    simp only [doubtsGo, Bool.and_eq_true] at h
    obtain ⟨h1, h2⟩ := doubts_nodup ls ov r _ h.2
    have hx : ∀ e ∈ seen, e.t ≠ x.t := fun e he hh => by
      have h3 := h.1.1.2
      have : seen.any (dbT x.t) = true := List.any_eq_true.2 ⟨e, he, by simp [dbT, hh]⟩
      rw [this] at h3
      simp at h3
    refine ⟨?_, fun d hd e he => ?_⟩
    · simp only [List.map_cons, List.nodup_cons]
      refine ⟨fun hm => ?_, h1⟩
      obtain ⟨d, hd, he⟩ := List.mem_map.1 hm
      exact h2 d hd x (by simp) he.symm
    · rcases List.mem_cons.1 hd with rfl | hd
      · exact hx e he
      · exact h2 d hd e (by simp [he])
theorem items_len : ∀ (l : List ItV) (lo : Int), itemsOK lo l = true → l = [] ∨ lo + (l.length : Int) ≤ 8
  | [], lo, _ => .inl rfl
  | x :: r, lo, h => by
    simp only [itemsOK, Bool.and_eq_true] at h
    have hk := inR_of h.1.1.1
    right
    rcases items_len r _ h.2 with rfl | h2
    · simp; omega
    · simp only [List.length_cons]; omega
theorem nodup_sub {α : Type} [DecidableEq α] : ∀ (a b : List α), a.Nodup → (∀ x ∈ a, x ∈ b) → a.length ≤ b.length
  | [], b, _, _ => by simp
  | x :: r, b, hn, hs => by
    simp only [List.nodup_cons] at hn
    have hx := hs x (by simp)
    have h1 := nodup_sub r (b.erase x) hn.2 (fun y hy => (List.mem_erase_of_ne (fun (e : y = x) => hn.1 (by rw [← e]; exact hy))).2 (hs y (by simp [hy])))
    rw [List.length_erase_of_mem hx] at h1
    have : 0 < b.length := List.length_pos_of_mem hx
    simp only [List.length_cons]
    omega
theorem ok_parts {s : SV} (h : storeOK s = true) : itemsOK 0 s.items = true ∧ locksOK s.locks = true ∧ overGo [] s.over = true ∧ doubtsOK s.doubts s.locks s.over = true := by
  unfold storeOK at h
  simp only [Bool.and_eq_true] at h
  exact ⟨h.1.1.1, h.1.1.2, h.1.2, h.2⟩
theorem ok_sizes {w : World} {s : SV} (h : storeOK s = true) (hw : IsStore w s) : s.il ≤ 8 ∧ s.ll ≤ 24 ∧ s.dl ≤ 24 := by
  obtain ⟨h1, h2, h3, h4⟩ := ok_parts h
  have l24 : s.locks.length ≤ 24 := by
    unfold locksOK at h2
    simp only [Bool.and_eq_true, decide_eq_true_eq] at h2
    exact h2.1
  rw [← hw.items.1, ← hw.locks.1, ← hw.doubts.1]
  refine ⟨?_, l24, ?_⟩
  · rcases items_len _ _ h1 with e | e
    · rw [e]; simp
    · omega
  · unfold doubtsOK at h4
    simp only [Bool.and_eq_true] at h4
    obtain ⟨n1, _⟩ := doubts_nodup _ _ _ _ h4.1
    have := nodup_sub _ (s.locks.map (fun k => k.t)) n1 (fun t ht => by
      obtain ⟨d, hd, rfl⟩ := List.mem_map.1 ht
      obtain ⟨k, hk, e⟩ := List.any_eq_true.1 (onceD_len _ _ _ _ h4.1 d hd).2
      simp [ofT] at e
      exact List.mem_map.2 ⟨k, hk, e⟩)
    simp only [List.length_map] at this
    omega
theorem ok_ages {s : SV} (h : storeOK s = true) : ∀ d ∈ s.doubts, 0 ≤ d.age ∧ d.age ≤ 1048576 := by
  obtain ⟨h1, h2, h3, h4⟩ := ok_parts h
  unfold doubtsOK at h4
  simp only [Bool.and_eq_true] at h4
  exact fun d hd => inR_of (onceD_len _ _ _ _ h4.1 d hd).1
theorem getD_mem {α : Type} [Inhabited α] {l : List α} {i : Nat} (h : i < l.length) : l.getD i default ∈ l := by
  simp [List.getD, h]
theorem wrap_in' {n : Int} (h : -9223372036854775808 ≤ n ∧ n ≤ 9223372036854775807) : IntKind.i64.wrap n = n := by
  rw [IntKind.wrap_i64]
  omega

theorem wrap_in {n : Int} (h1 : -9223372036854775808 ≤ n) (h2 : n ≤ 9223372036854775807) : IntKind.i64.wrap n = n := wrap_in' ⟨h1, h2⟩
theorem set_getD {α : Type} [Inhabited α] (xs : List α) (k : Nat) (y : α) (hk : k < xs.length) : (xs.set k y).getD k default = y := by
  simp [List.getD, hk]
theorem ne_own {v : Value} {g B : Nat} (h : ∀ q, v.ownBlock = some q → B ≤ q) (hg : g < B) : v.ownBlock = none ∨ v.ownBlock ≠ some g := by
  cases e : v.ownBlock with
  | none => exact .inl rfl
  | some q => exact .inr fun e2 => by simp at e2; have := h q e; omega
end Go.Proofs.YtgohpgollpjlnaaDoor.St
