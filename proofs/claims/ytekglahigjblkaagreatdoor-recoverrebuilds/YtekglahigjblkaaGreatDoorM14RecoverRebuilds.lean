/- Texts of this claim, one behind the other. -/
import Derived.Test.YtekglahigjblkaaGreatDoorM13RecoverRebuilds
import Derived.Test.YtekglahigjblkaaGreatDoorM4RecoverRebuilds
import Derived.Deep.Cut
import Derived.Test.YtekglahigjblkaaGreatDoorM8RecoverRebuilds
import Derived.Laws.IdiomCopy
import Derived.Lib.SliceRun
/- What a tick makes of doubts, on plain data. -/
namespace Go.Proofs.YtekglahigjblkaaGreatDoor.St
open Go.ChangeShapes Go.WideShapes Go.ChangeAt Go.RowKit
set_option linter.unusedVariables false

def agedD (p : Int) (d : DbV) : DbV := if p ≤ d.age + 1 then ⟨d.t, 0⟩ else ⟨d.t, d.age + 1⟩
def toldT (p : Int) (ds : List DbV) : List (Int × Int) := (ds.filter (fun d => decide (p ≤ d.age + 1))).map (fun d => d.t)
def ageErr (s : SV) (p : Int) : Int := if storeOK s then (if inR p 1 1048576 then 0 else 2) else 9
def PS.nil : PS := ⟨[], [], [], []⟩
def ageData (s : SV) (p : Int) : PS := if ageErr s p = 0 then ⟨s.items, s.locks, s.doubts.map (agedD p), s.over⟩ else PS.nil
def ageTold (s : SV) (p : Int) : List (Int × Int) := if ageErr s p = 0 then toldT p s.doubts else []
theorem mid_get {α : Type} [Inhabited α] (f : α → α) (ds : List α) {k : Nat} (hk : k < ds.length) : ((ds.take k).map f ++ ds.drop k).getD k default = ds.getD k default := by
  have h1 : ((ds.take k).map f).length = k := by simp; omega
  simp only [List.getD]
  rw [List.getElem?_append_right (by omega), h1, Nat.sub_self, List.getElem?_drop, Nat.add_zero]
theorem mid_set {α : Type} [Inhabited α] (f : α → α) (ds : List α) {k : Nat} (hk : k < ds.length) : ((ds.take k).map f ++ ds.drop k).set k (f (ds.getD k default)) = (ds.take (k + 1)).map f ++ ds.drop (k + 1) := by
  have h1 : ((ds.take k).map f).length = k := by simp; omega
  rw [List.set_append_right _ _ (by omega), h1, Nat.sub_self, drop_at hk, List.set_cons_zero, take_at hk]
  simp
theorem told_at (p : Int) (ds : List DbV) {k : Nat} (hk : k < ds.length) : toldT p (ds.take (k + 1)) = toldT p (ds.take k) ++ (if p ≤ (ds.getD k default).age + 1 then [(ds.getD k default).t] else []) := by
  unfold toldT
  rw [take_at hk, List.filter_append, List.map_append]
  congr 1
  generalize ds.getD k default = d
  by_cases h : p ≤ d.age + 1 <;> simp [h]
theorem told_len (p : Int) (ds : List DbV) : (toldT p ds).length ≤ ds.length := by
  unfold toldT
  rw [List.length_map]
  exact List.length_filter_le ..
theorem onceD_len (ls : List LkV) (ov : List (Int × Int)) : ∀ (r seen : List DbV), doubtsGo ls ov seen r = true → ∀ d ∈ r, inR d.age 0 1048576 = true ∧ ls.any (ofT d.t) = true
  | [], seen, _, d, hd => by simp at hd
  | x :: r, seen, h, d, hd => by
    simp only [doubtsGo, Bool.and_eq_true] at h
    rcases List.mem_cons.1 hd with rfl | hd
    · exact ⟨h.1.1.1.1, h.1.1.1.2⟩
    · exact onceD_len ls ov r _ h.2 d hd
/-- Doubts that may be: each once, each with a lock. -/
theorem doubts_nodup (ls : List LkV) (ov : List (Int × Int)) : ∀ (r seen : List DbV), doubtsGo ls ov seen r = true → (r.map (fun d => d.t)).Nodup ∧ (∀ d ∈ r, ∀ e ∈ seen, e.t ≠ d.t)
  | [], seen, _ => by simp
  | x :: r, seen, h => by
    simp only [doubtsGo, Bool.and_eq_true] at h
    obtain ⟨h1, h2⟩ := doubts_nodup ls ov r _ h.2
    have hx : ∀ e ∈ seen, e.t ≠ x.t := fun e he hh => by
      have h3 := h.1.1.2
      have : seen.any (dbT x.t) = true := List.any_eq_true.2 ⟨e, he, by simp [dbT, hh]⟩
      rw [this] at h3
      simp at h3
    refine ⟨?_, fun d hd e he => ?_⟩
    · simp only [List.map_cons, List.nodup_cons]
      refine ⟨fun hm => ?_, h1⟩
      obtain ⟨d, hd, he⟩ := List.mem_map.1 hm
      exact h2 d hd x (by simp) he.symm
    · rcases List.mem_cons.1 hd with rfl | hd
      · exact hx e he
      · exact h2 d hd e (by simp [he])
theorem items_len : ∀ (l : List ItV) (lo : Int), itemsOK lo l = true → l = [] ∨ lo + (l.length : Int) ≤ 8
  | [], lo, _ => .inl rfl
  | x :: r, lo, h => by
    simp only [itemsOK, Bool.and_eq_true] at h
    have hk := inR_of h.1.1.1
    right
    rcases items_len r _ h.2 with rfl | h2
    · simp; omega
    · simp only [List.length_cons]; omega
theorem nodup_sub {α : Type} [DecidableEq α] : ∀ (a b : List α), a.Nodup → (∀ x ∈ a, x ∈ b) → a.length ≤ b.length
  | [], b, _, _ => by simp
  | x :: r, b, hn, hs => by
    simp only [List.nodup_cons] at hn
    have hx := hs x (by simp)
    have h1 := nodup_sub r (b.erase x) hn.2 (fun y hy => (List.mem_erase_of_ne (fun (e : y = x) => hn.1 (by rw [← e]; exact hy))).2 (hs y (by simp [hy])))
    rw [List.length_erase_of_mem hx] at h1
    have : 0 < b.length := List.length_pos_of_mem hx
    simp only [List.length_cons]
    omega
theorem ok_parts {s : SV} (h : storeOK s = true) : itemsOK 0 s.items = true ∧ locksOK s.locks = true ∧ overGo [] s.over = true ∧ doubtsOK s.doubts s.locks s.over = true := by
  unfold storeOK at h
  simp only [Bool.and_eq_true] at h
  exact ⟨h.1.1.1, h.1.1.2, h.1.2, h.2⟩
theorem ok_sizes {w : World} {s : SV} (h : storeOK s = true) (hw : IsStore w s) : s.il ≤ 8 ∧ s.ll ≤ 24 ∧ s.dl ≤ 24 := by
  obtain ⟨h1, h2, h3, h4⟩ := ok_parts h
  have l24 : s.locks.length ≤ 24 := by
    unfold locksOK at h2
    simp only [Bool.and_eq_true, decide_eq_true_eq] at h2
    exact h2.1
  rw [← hw.items.1, ← hw.locks.1, ← hw.doubts.1]
  refine ⟨?_, l24, ?_⟩
  · rcases items_len _ _ h1 with e | e
    · rw [e]; simp
    · omega
  · unfold doubtsOK at h4
    simp only [Bool.and_eq_true] at h4
    obtain ⟨n1, _⟩ := doubts_nodup _ _ _ _ h4.1
    have := nodup_sub _ (s.locks.map (fun k => k.t)) n1 (fun t ht => by
      obtain ⟨d, hd, rfl⟩ := List.mem_map.1 ht
      obtain ⟨k, hk, e⟩ := List.any_eq_true.1 (onceD_len _ _ _ _ h4.1 d hd).2
      simp [ofT] at e
      exact List.mem_map.2 ⟨k, hk, e⟩)
    simp only [List.length_map] at this
    omega
theorem ok_ages {s : SV} (h : storeOK s = true) : ∀ d ∈ s.doubts, 0 ≤ d.age ∧ d.age ≤ 1048576 := by
  obtain ⟨h1, h2, h3, h4⟩ := ok_parts h
  unfold doubtsOK at h4
  simp only [Bool.and_eq_true] at h4
  exact fun d hd => inR_of (onceD_len _ _ _ _ h4.1 d hd).1
theorem getD_mem {α : Type} [Inhabited α] {l : List α} {i : Nat} (h : i < l.length) : l.getD i default ∈ l := by
  simp [List.getD, h]
theorem wrap_in' {n : Int} (h : -9223372036854775808 ≤ n ∧ n ≤ 9223372036854775807) : IntKind.i64.wrap n = n := by
  rw [IntKind.wrap_i64]
  omega

theorem wrap_in {n : Int} (h1 : -9223372036854775808 ≤ n) (h2 : n ≤ 9223372036854775807) : IntKind.i64.wrap n = n := wrap_in' ⟨h1, h2⟩
theorem set_getD {α : Type} [Inhabited α] (xs : List α) (k : Nat) (y : α) (hk : k < xs.length) : (xs.set k y).getD k default = y := by
  simp [List.getD, hk]
theorem ne_own {v : Value} {g B : Nat} (h : ∀ q, v.ownBlock = some q → B ≤ q) (hg : g < B) : v.ownBlock = none ∨ v.ownBlock ≠ some g := by
  cases e : v.ownBlock with
  | none => exact .inl rfl
  | some q => exact .inr fun e2 => by simp at e2; have := h q e; omega
end Go.Proofs.YtekglahigjblkaaGreatDoor.St
/- The contract of store.put: a value at a key, as its next version, in a row of the caller's own. -/
namespace Go.Proofs.YtekglahigjblkaaGreatDoor.St
open Go.ChangeShapes Go.WideShapes Go.ChangeAt Go.RowKit
set_option linter.unusedVariables false

def geT (ky : Int) (x : ItV) : Bool := decide (ky ≤ x.key)
def putI (key value : Int) : List ItV → List ItV
  | [] => [⟨key, value, 1⟩]
  | x :: r => if x.key = key then ⟨key, value, x.version + 1⟩ :: r else if key < x.key then ⟨key, value, 1⟩ :: x :: r else x :: putI key value r
theorem put_none : ∀ (key value : Int) (xs : List ItV), idxI (geT key) xs < 0 → putI key value xs = xs ++ [⟨key, value, 1⟩]
  | key, value, [], _ => rfl
  | key, value, x :: r, h => by
    have hn : (x :: r).any (geT key) = false := by rw [← idxI_any]; simp; omega
    simp only [List.any_cons, Bool.or_eq_false_iff] at hn
    have h1 : ¬ key ≤ x.key := by simpa [geT] using hn.1
    have h2 : idxI (geT key) r < 0 := by
      have := idxI_any (geT key) r
      rw [hn.2] at this
      simp at this
      exact this
    rw [putI, if_neg (by omega), if_neg (by omega), put_none key value r h2]
    rfl
theorem put_some : ∀ (key value : Int) (xs : List ItV) (i : Nat), idxI (geT key) xs = (i : Int) → (key < (xs.getD i default).key → putI key value xs = insAt xs i ⟨key, value, 1⟩) ∧ (¬ key < (xs.getD i default).key → putI key value xs = xs.set i ⟨(xs.getD i default).key, value, (xs.getD i default).version + 1⟩)
  | key, value, [], i, h => by simp [idxI] at h
  | key, value, x :: r, i, h => by
    by_cases hx : key ≤ x.key
    · have : idxI (geT key) (x :: r) = 0 := by
        have := idxI_hit (p := geT key) (l := x :: r) (k := 0) (by simp) (fun i hi => by omega) (by simp [geT, hx])
        simpa using this
      rw [this] at h
      obtain rfl : i = 0 := by omega
      simp only [List.getD_cons_zero]
      refine ⟨fun hk => ?_, fun hk => ?_⟩
      · rw [putI, if_neg (by omega), if_pos hk]; rfl
      · obtain rfl : x.key = key := by omega
        rw [putI, if_pos rfl]; rfl
    · have hf : geT key x = false := by simp [geT]; omega
      have hi : idxI (geT key) (x :: r) = if idxI (geT key) r < 0 then -1 else idxI (geT key) r + 1 := by
        unfold idxI
        rw [List.findIdx?_cons, hf]
        cases e : r.findIdx? (geT key) with
        | none => simp
        | some q => simp; omega
      rw [hi] at h
      by_cases h0 : idxI (geT key) r < 0
      · rw [if_pos h0] at h; omega
      · rw [if_neg h0] at h
        obtain ⟨j, rfl⟩ : ∃ j, i = j + 1 := ⟨i - 1, by omega⟩
        obtain ⟨p1, p2⟩ := put_some key value r j (by omega)
        simp only [List.getD_cons_succ]
        have e0 : putI key value (x :: r) = x :: putI key value r := by rw [putI, if_neg (by omega), if_neg (by omega)]
        refine ⟨fun hk => ?_, fun hk => ?_⟩
        · rw [e0, p1 hk]; rfl
        · rw [e0, p2 hk]; rfl
set_option maxHeartbeats 1000000 in
theorem put1_asks (b : Nat) (ky : Int) (w : World) (c0 : w.cell? ⟨b, 0, none⟩ = some (.int .i64 ky)) (z : b < w.heap.size) : Asks 88 #[.pointer (some ⟨b, 0, none⟩)] ItV.val (geT ky) w := by
  refine ⟨enters_of Tryz.func88 (by kernel_rfl) rfl, fun x w' hb => ?_⟩
  rw [← hb.cell (p := ⟨b, 0, none⟩) z] at c0
  have y0 := Nat.lt_of_lt_of_le z hb.size
  obtain ⟨key, value, version⟩ := x
  simp only [ItV.val] at *
  have hA : ∀ o, Below w'.heap.size w' (w'.alloc o) := fun o => (Below.refl _ _).alloc (Nat.le_refl _) _
  show Calls Tryz.prog 88 #[_, .pointer (some ⟨b, 0, none⟩)] w' _
  go_enter Tryz.func88, Tryz.ntmps88
  go_wp2
  all_goals go_ret
  all_goals exact ⟨ret_bool (by first | (simp_all [geT]; done) | (simp_all [geT]; rfl) | (simp_all [geT]; omega)), hA _⟩

set_option maxRecDepth 100000 in
set_option maxHeartbeats 4000000 in
theorem put_any (B : Nat) (a : Option Addr) (n cap : Nat) (xs : List ItV) (key value : Int) (w : World) (h : w.ownsRow B 68 3 (.slice a n cap) n (flat ItV.cells xs)) (hB : B ≤ w.heap.size) (hn : n ≤ 99) (hvb : ∀ y ∈ xs, 0 ≤ y.version ∧ y.version ≤ 2000000) :
    Calls Tryz.prog 70 #[.slice a n cap, .int .i64 key, .int .i64 value] w fun e w' => ∃ a' n' c', e = .returned (.slice a' n' c') ∧ w'.ownsRow B 68 3 (.slice a' n' c') n' (flat ItV.cells (putI key value xs)) ∧ w.grownBy w' (Value.slice a n cap).ownBlock ∧ (∀ m, (Value.slice a' n' c').ownBlock = some m → (Value.slice a n cap).ownBlock = some m ∨ w.heap.size ≤ m) ∧ n' ≤ n + 1 := by
  have hl := own_len it_len (by decide) h
  have HL : Hid (xs.length = n) := hl
  have hIx := fun w' h1 h2 => indexItem_any 88 #[.pointer (some ⟨w.heap.size, 0, none⟩)] (geT key) a n cap xs w' h1 h2
  obtain ⟨i0, e0⟩ : ∃ R, R = idxI (geT key) xs := ⟨_, rfl⟩
  have hi0 := idxI_lt (p := geT key) (l := xs)
  have HPN : Hid (i0 < 0 → putI key value xs = xs ++ [⟨key, value, 1⟩]) := by rw [e0]; exact put_none key value xs
  have HPS : Hid (∀ i : Nat, i0 = (i : Int) → (key < (xs.getD i default).key → putI key value xs = insAt xs i ⟨key, value, 1⟩) ∧ (¬ key < (xs.getD i default).key → putI key value xs = xs.set i ⟨(xs.getD i default).key, value, (xs.getD i default).version + 1⟩)) := by rw [e0]; exact put_some key value xs
  rw [← e0, hl] at hi0
  rw [← e0] at hIx
  clear e0 hl
  obtain ⟨W, hW⟩ : ∃ W : World, W = w.alloc (.cells #[.int .i64 key] 3) := ⟨_, rfl⟩
  have bW : Below w.heap.size w W := by rw [hW]; exact (Below.refl _ _).alloc (Nat.le_refl _) _
  have c0 : W.cell? ⟨w.heap.size, 0, none⟩ = some (.int .i64 key) := by rw [hW]; go_simp
  have zW : w.heap.size < W.heap.size := by rw [hW]; simp
  have hAs := put1_asks w.heap.size key W c0 zW
  have hWo := own_below h bW
  have hrow := (own_isRow it_len hWo HL.out).1
  go_enter Tryz.func70, Tryz.ntmps70
  go_upto_region 2 with (go_at_call 87; rw [← hW]; refine (hIx _ hrow hAs).mono ?_; rintro e w1 ⟨rfl, hb1⟩)
  have own1 := own_below hWo hb1
  have k1 := (hb1.cell (p := ⟨w.heap.size, 0, none⟩) zW).trans c0
  have hbw1 := bW.trans (hb1.mono bW.size)
  have z1 : w.heap.size < w1.heap.size := Nat.lt_of_lt_of_le zW hb1.size
  clear hIx hAs hWo hrow c0 h
  by_cases h0 : i0 < 0
  · skip
    have HPQ : Hid (putI key value xs = insAt xs n ⟨key, value, 1⟩) := by
      show _ = _
      rw [HPN.out h0]
      unfold insAt
      rw [List.take_of_length_le (by rw [HL.out]; exact Nat.le_refl _), List.drop_eq_nil_of_le (by rw [HL.out]; exact Nat.le_refl _)]
    go_upto_region 4 with (fail)
    go_quiet (fail)
    obtain ⟨V1, eV1⟩ : ∃ V1, V1 = w1.drewN nq := ⟨_, rfl⟩
    have hq1 : Below w1.heap.size w1 V1 := by rw [eV1]; exact below_drewN (Below.refl _ _) nq
    rw [← eV1]
    have ownq := own_below own1 hq1
    have kq := (hq1.cell (p := ⟨w.heap.size, 0, none⟩) z1).trans k1
    have hbwq := hbw1.trans (hq1.mono hbw1.size)
    have zq : w.heap.size < V1.heap.size := Nat.lt_of_lt_of_le z1 hq1.size
    have hBq : B ≤ V1.heap.size := by omega
    clear own1 k1 eV1 hq1
    have hIns := insert_any B a n cap n xs ⟨key, 0, 0⟩ V1 _ rfl ownq (by omega) (by omega) (by omega)
    simp only [] at hIns
    go_upto_region 6 with (go_at_call 89; refine hIns.mono ?_; rintro e w5 ⟨a5, c5, rfl, own5, gr5, at5⟩)
    obtain ⟨g5, rfl⟩ : ∃ g5, a5 = some ⟨g5, 0, none⟩ := by
      rcases own5.2 with ⟨_, h0⟩ | ⟨g', cap', cur, hv, _⟩
      · omega
      · simp at hv; exact ⟨g', hv.1⟩
    have gr6 : w.grownBy w5 (Value.slice a n cap).ownBlock := grown_trans (grown_below (hbwq.trans (((Below.refl V1.heap.size V1).alloc (Nat.le_refl _) _).mono hbwq.size)) _) gr5
    have HG5 : Hid ((Value.slice a n cap).ownBlock = some g5 ∨ w.heap.size ≤ g5) := by
      rcases at5 with e | e
      · exact .inl (by rw [← e]; rfl)
      · refine .inr ?_
        have h1 : g5 = (V1.alloc (.cells #[.int .i64 key, .int .i64 0, .int .i64 0] 68)).heap.size := by simpa [Value.ownBlock] using e
        have h2 := hbwq.size
        simp at h1
        omega
    have hti : (xs.take n).length = n := by rw [List.length_take, HL.out]; omega
    have HLI : Hid ((insAt xs n ⟨key, 0, 0⟩).getD n default = ⟨key, 0, 0⟩) := by
      show _ = _
      unfold insAt
      simp only [List.getD]
      rw [List.getElem?_append_right (by omega), hti, Nat.sub_self]
      rfl
    have HPI : Hid (putI key value xs = (insAt xs n ⟨key, 0, 0⟩).set n ⟨key, value, 1⟩) := by
      show _ = _
      rw [HPQ.out]
      unfold insAt
      rw [List.set_append_right _ _ (by omega), hti, Nat.sub_self]
      rfl
    clear hti at5 gr5 hIns
    have hLl := own_len it_len (by decide) own5
    have hiL : n < (insAt xs n ⟨key, 0, 0⟩).length := by rw [hLl]; omega
    have hth1 := own_there own5 (k := n * 3 + 1) (by omega)
    have hth2 := own_there own5 (k := n * 3 + 2) (by omega)
    obtain ⟨u1, e1⟩ := Option.isSome_iff_exists.1 hth1.1
    have f1 := hth1.2
    have f2 := hth2.2
    have e2 : w5.cell? ⟨g5, n * 3 + 2, none⟩ = some (.int .i64 0) := by
      obtain ⟨b', off', e', _, hc⟩ := (own_isRow it_len own5 hLl).1.2.2.2.2 (by omega)
      simp at e'
      obtain ⟨rfl, rfl⟩ := e'
      have := hc n (by omega) 2 (by decide)
      rw [HLI.out, Nat.zero_add] at this
      exact this
    have o1 := own_setk own5 (k := n * 3 + 1) (by omega) (.int .i64 value)
    rw [flat_set it_len _ _ _ _ ⟨key, value, 0⟩ hiL (by decide) (by rw [HLI.out]; rfl)] at o1
    have o2 := own_setk o1 (k := n * 3 + 2) (by omega) (.int .i64 1)
    rw [flat_set it_len _ _ _ _ ⟨key, value, 1⟩ (by simpa using hiL) (by decide) (by rw [set_getD _ _ _ hiL]; rfl), List.set_set] at o2
    have g2 := grown_trans (grown_setCell w5 ⟨g5, n * 3 + 1, none⟩ (.int .i64 value)) (grown_setCell _ ⟨g5, n * 3 + 2, none⟩ (.int .i64 1))
    have HFIN : Hid (((w5.setCell ⟨g5, n * 3 + 1, none⟩ (.int .i64 value)).setCell ⟨g5, n * 3 + 2, none⟩ (.int .i64 1)).ownsRow B 68 3 (.slice (some ⟨g5, 0, none⟩) (n + 1) c5) (n + 1) (flat ItV.cells (putI key value xs)) ∧ w.grownBy ((w5.setCell ⟨g5, n * 3 + 1, none⟩ (.int .i64 value)).setCell ⟨g5, n * 3 + 2, none⟩ (.int .i64 1)) (Value.slice a n cap).ownBlock) := by
      refine ⟨by rw [HPI.out]; exact o2, ⟨g2.os.trans gr6.os, g2.tape.trans gr6.tape, g2.output.trans gr6.output, Nat.le_trans gr6.size g2.size, fun k hk hne => (g2.block k (Nat.lt_of_lt_of_le hk gr6.size) (fun e => ?_)).trans (gr6.block k hk hne)⟩⟩
      simp at e
      subst e
      rcases HG5.out with e | e
      · exact hne e.symm
      · omega
    have hin' : (n : Int) < ((n : Int) + 1) := by omega
    have hwv : IntKind.i64.wrap (0 + 1) = 1 := by rw [IntKind.wrap_i64]; omega
    clear hth1 hth2 o1 o2 g2 own5 hLl hiL
    go_wp2
    go_ret
    exact ⟨_, _, _, rfl, HFIN.out.1, HFIN.out.2, fun m hm => (show g5 = m by simpa [Value.ownBlock] using hm) ▸ HG5.out, by omega⟩
  · obtain ⟨i, rfl⟩ : ∃ i : Nat, i0 = (i : Int) := ⟨i0.toNat, by omega⟩
    have hi : i < n := by omega
    have hilt : (i : Int) < (n : Int) := by omega
    obtain ⟨g5, rfl⟩ : ∃ g5, a = some ⟨g5, 0, none⟩ := by
      rcases own1.2 with ⟨_, h0⟩ | ⟨g', cap', cur, hv, _⟩
      · omega
      · simp at hv; exact ⟨g', hv.1⟩
    have e0 : w1.cell? ⟨g5, i * 3, none⟩ = some (.int .i64 (xs.getD i default).key) := by
      obtain ⟨b', off', e', _, hc⟩ := (own_isRow it_len own1 HL.out).1.2.2.2.2 (by omega)
      simp at e'
      obtain ⟨rfl, rfl⟩ := e'
      have := hc i hi 0 (by decide)
      rw [Nat.zero_add] at this
      exact this
    have hvx := hvb _ (getD_mem (l := xs) (i := i) (by rw [HL.out]; exact hi))
    have HS1 : Hid (key < (xs.getD i default).key → putI key value xs = insAt xs i ⟨key, value, 1⟩) := (HPS.out i rfl).1
    have HS2 : Hid ((xs.getD i default).key ≤ key → putI key value xs = xs.set i ⟨(xs.getD i default).key, value, (xs.getD i default).version + 1⟩) := fun hh => (HPS.out i rfl).2 (by omega)
    clear HPS HPN
    obtain ⟨x, ex⟩ : ∃ x, x = xs.getD i default := ⟨_, rfl⟩
    have HX : Hid (xs.getD i default = x) := ex.symm
    rw [← ex] at e0 hvx HS1 HS2
    clear ex hvb
    obtain ⟨xk, xv, xw⟩ := x
    simp only [] at e0 hvx HS1 HS2
    have hne : ((i : Int) == (n : Int)) = false := by rw [beq_eq_false_iff_ne]; omega
    by_cases hk : key < xk
    · have hd : decide (key < xk) = true := by simp [hk]
      have HPQ : Hid (putI key value xs = insAt xs i ⟨key, value, 1⟩) := HS1.out hk
      clear HS1 HS2
      go_upto_region 4 with (fail)
      go_quiet (fail)
      obtain ⟨V1, eV1⟩ : ∃ V1, V1 = w1.drewN nq := ⟨_, rfl⟩
      have hq1 : Below w1.heap.size w1 V1 := by rw [eV1]; exact below_drewN (Below.refl _ _) nq
      rw [← eV1]
      have ownq := own_below own1 hq1
      have kq := (hq1.cell (p := ⟨w.heap.size, 0, none⟩) z1).trans k1
      have hbwq := hbw1.trans (hq1.mono hbw1.size)
      have zq : w.heap.size < V1.heap.size := Nat.lt_of_lt_of_le z1 hq1.size
      have hBq : B ≤ V1.heap.size := by omega
      clear own1 k1 eV1 hq1 e0
      obtain ⟨g0, eg0⟩ : ∃ g0, g0 = g5 := ⟨_, rfl⟩
      subst eg0
      have hIns := insert_any B (some ⟨g0, 0, none⟩) n cap i xs ⟨key, 0, 0⟩ V1 _ rfl ownq (by omega) (by omega) (by omega)
      simp only [] at hIns
      go_upto_region 6 with (go_at_call 89; refine hIns.mono ?_; rintro e w5 ⟨a5, c5, rfl, own5, gr5, at5⟩)
      obtain ⟨g5, rfl⟩ : ∃ g5, a5 = some ⟨g5, 0, none⟩ := by
        rcases own5.2 with ⟨_, h0⟩ | ⟨g', cap', cur, hv, _⟩
        · omega
        · simp at hv; exact ⟨g', hv.1⟩
      have gr6 : w.grownBy w5 (Value.slice (some ⟨g0, 0, none⟩) n cap).ownBlock := grown_trans (grown_below (hbwq.trans (((Below.refl V1.heap.size V1).alloc (Nat.le_refl _) _).mono hbwq.size)) _) gr5
      have HG5 : Hid ((Value.slice (some ⟨g0, 0, none⟩) n cap).ownBlock = some g5 ∨ w.heap.size ≤ g5) := by
        rcases at5 with e | e
        · exact .inl (by rw [← e]; rfl)
        · refine .inr ?_
          have h1 : g5 = (V1.alloc (.cells #[.int .i64 key, .int .i64 0, .int .i64 0] 68)).heap.size := by simpa [Value.ownBlock] using e
          have h2 := hbwq.size
          simp at h1
          omega
      have hti : (xs.take i).length = i := by rw [List.length_take, HL.out]; omega
      have HLI : Hid ((insAt xs i ⟨key, 0, 0⟩).getD i default = ⟨key, 0, 0⟩) := by
        show _ = _
        unfold insAt
        simp only [List.getD]
        rw [List.getElem?_append_right (by omega), hti, Nat.sub_self]
        rfl
      have HPI : Hid (putI key value xs = (insAt xs i ⟨key, 0, 0⟩).set i ⟨key, value, 1⟩) := by
        show _ = _
        rw [HPQ.out]
        unfold insAt
        rw [List.set_append_right _ _ (by omega), hti, Nat.sub_self]
        rfl
      clear hti at5 gr5 hIns
      have hLl := own_len it_len (by decide) own5
      have hiL : i < (insAt xs i ⟨key, 0, 0⟩).length := by rw [hLl]; omega
      have hth1 := own_there own5 (k := i * 3 + 1) (by omega)
      have hth2 := own_there own5 (k := i * 3 + 2) (by omega)
      obtain ⟨u1, e1⟩ := Option.isSome_iff_exists.1 hth1.1
      have f1 := hth1.2
      have f2 := hth2.2
      have e2 : w5.cell? ⟨g5, i * 3 + 2, none⟩ = some (.int .i64 0) := by
        obtain ⟨b', off', e', _, hc⟩ := (own_isRow it_len own5 hLl).1.2.2.2.2 (by omega)
        simp at e'
        obtain ⟨rfl, rfl⟩ := e'
        have := hc i (by omega) 2 (by decide)
        rw [HLI.out, Nat.zero_add] at this
        exact this
      have o1 := own_setk own5 (k := i * 3 + 1) (by omega) (.int .i64 value)
      rw [flat_set it_len _ _ _ _ ⟨key, value, 0⟩ hiL (by decide) (by rw [HLI.out]; rfl)] at o1
      have o2 := own_setk o1 (k := i * 3 + 2) (by omega) (.int .i64 1)
      rw [flat_set it_len _ _ _ _ ⟨key, value, 1⟩ (by simpa using hiL) (by decide) (by rw [set_getD _ _ _ hiL]; rfl), List.set_set] at o2
      have g2 := grown_trans (grown_setCell w5 ⟨g5, i * 3 + 1, none⟩ (.int .i64 value)) (grown_setCell _ ⟨g5, i * 3 + 2, none⟩ (.int .i64 1))
      have HFIN : Hid (((w5.setCell ⟨g5, i * 3 + 1, none⟩ (.int .i64 value)).setCell ⟨g5, i * 3 + 2, none⟩ (.int .i64 1)).ownsRow B 68 3 (.slice (some ⟨g5, 0, none⟩) (n + 1) c5) (n + 1) (flat ItV.cells (putI key value xs)) ∧ w.grownBy ((w5.setCell ⟨g5, i * 3 + 1, none⟩ (.int .i64 value)).setCell ⟨g5, i * 3 + 2, none⟩ (.int .i64 1)) (Value.slice (some ⟨g0, 0, none⟩) n cap).ownBlock) := by
        refine ⟨by rw [HPI.out]; exact o2, ⟨g2.os.trans gr6.os, g2.tape.trans gr6.tape, g2.output.trans gr6.output, Nat.le_trans gr6.size g2.size, fun k hk hne => (g2.block k (Nat.lt_of_lt_of_le hk gr6.size) (fun e => ?_)).trans (gr6.block k hk hne)⟩⟩
        simp at e
        subst e
        rcases HG5.out with e | e
        · exact hne e.symm
        · omega
      have hin' : (i : Int) < ((n : Int) + 1) := by omega
      have hwv : IntKind.i64.wrap (0 + 1) = 1 := by rw [IntKind.wrap_i64]; omega
      clear hth1 hth2 o1 o2 g2 own5 hLl hiL
      go_wp2
      go_ret
      exact ⟨_, _, _, rfl, HFIN.out.1, HFIN.out.2, fun m hm => (show g5 = m by simpa [Value.ownBlock] using hm) ▸ HG5.out, by omega⟩
    · have hd : decide (key < xk) = false := by simp; omega
      have HPI : Hid (putI key value xs = xs.set i ⟨xk, value, xw + 1⟩) := HS2.out (by omega)
      have HLI : Hid (xs.getD i default = ⟨xk, xv, xw⟩) := HX
      clear HS1 HS2
      go_upto_region 4 with (fail)
      go_quiet (fail)
      obtain ⟨V1, eV1⟩ : ∃ V1, V1 = w1.drewN nq := ⟨_, rfl⟩
      have hq1 : Below w1.heap.size w1 V1 := by rw [eV1]; exact below_drewN (Below.refl _ _) nq
      rw [← eV1]
      have ownq := own_below own1 hq1
      have kq := (hq1.cell (p := ⟨w.heap.size, 0, none⟩) z1).trans k1
      have hbwq := hbw1.trans (hq1.mono hbw1.size)
      have zq : w.heap.size < V1.heap.size := Nat.lt_of_lt_of_le z1 hq1.size
      have hBq : B ≤ V1.heap.size := by omega
      clear own1 k1 eV1 hq1 e0
      have gr6 : w.grownBy V1 (Value.slice (some ⟨g5, 0, none⟩) n cap).ownBlock := grown_below hbwq _
      have HG5 : Hid ((Value.slice (some ⟨g5, 0, none⟩) n cap).ownBlock = some g5 ∨ w.heap.size ≤ g5) := .inl rfl
      have hLl := own_len it_len (by decide) ownq
      have hiL : i < (xs).length := by rw [hLl]; omega
      have hth1 := own_there ownq (k := i * 3 + 1) (by omega)
      have hth2 := own_there ownq (k := i * 3 + 2) (by omega)
      obtain ⟨u1, e1⟩ := Option.isSome_iff_exists.1 hth1.1
      have f1 := hth1.2
      have f2 := hth2.2
      have e2 : V1.cell? ⟨g5, i * 3 + 2, none⟩ = some (.int .i64 xw) := by
        obtain ⟨b', off', e', _, hc⟩ := (own_isRow it_len ownq hLl).1.2.2.2.2 (by omega)
        simp at e'
        obtain ⟨rfl, rfl⟩ := e'
        have := hc i (by omega) 2 (by decide)
        rw [HLI.out, Nat.zero_add] at this
        exact this
      have o1 := own_setk ownq (k := i * 3 + 1) (by omega) (.int .i64 value)
      rw [flat_set it_len _ _ _ _ ⟨xk, value, xw⟩ hiL (by decide) (by rw [HLI.out]; rfl)] at o1
      have o2 := own_setk o1 (k := i * 3 + 2) (by omega) (.int .i64 (xw + 1))
      rw [flat_set it_len _ _ _ _ ⟨xk, value, (xw + 1)⟩ (by simpa using hiL) (by decide) (by rw [set_getD _ _ _ hiL]; rfl), List.set_set] at o2
      have g2 := grown_trans (grown_setCell V1 ⟨g5, i * 3 + 1, none⟩ (.int .i64 value)) (grown_setCell _ ⟨g5, i * 3 + 2, none⟩ (.int .i64 (xw + 1)))
      have HFIN : Hid (((V1.setCell ⟨g5, i * 3 + 1, none⟩ (.int .i64 value)).setCell ⟨g5, i * 3 + 2, none⟩ (.int .i64 (xw + 1))).ownsRow B 68 3 (.slice (some ⟨g5, 0, none⟩) n cap) n (flat ItV.cells (putI key value xs)) ∧ w.grownBy ((V1.setCell ⟨g5, i * 3 + 1, none⟩ (.int .i64 value)).setCell ⟨g5, i * 3 + 2, none⟩ (.int .i64 (xw + 1))) (Value.slice (some ⟨g5, 0, none⟩) n cap).ownBlock) := by
        refine ⟨by rw [HPI.out]; exact o2, ⟨g2.os.trans gr6.os, g2.tape.trans gr6.tape, g2.output.trans gr6.output, Nat.le_trans gr6.size g2.size, fun k hk hne => (g2.block k (Nat.lt_of_lt_of_le hk gr6.size) (fun e => ?_)).trans (gr6.block k hk hne)⟩⟩
        simp at e
        subst e
        rcases HG5.out with e | e
        · exact hne e.symm
        · omega
      have hin' : (i : Int) < ((n : Int)) := by omega
      have hwv : IntKind.i64.wrap (xw + 1) = (xw + 1) := by rw [IntKind.wrap_i64]; omega
      clear hth1 hth2 o1 o2 g2 ownq hLl hiL
      go_wp2
      go_ret
      exact ⟨_, _, _, rfl, HFIN.out.1, HFIN.out.2, fun m hm => (show g5 = m by simpa [Value.ownBlock] using hm) ▸ HG5.out, by omega⟩
end Go.Proofs.YtekglahigjblkaaGreatDoor.St
/- The contracts of slices.DeleteFunc at locks and doubts: of a row of the caller's own, what is meant taken out, in its place. -/
namespace Go.Proofs.YtekglahigjblkaaGreatDoor.St
open Go.ChangeShapes Go.WideShapes Go.ChangeAt Go.RowKit
set_option linter.unusedVariables false

/-- A function value that answers a question about an element, whatever became of that one block. -/
def AsksG {α : Type} (fn : Nat) (cps : Array Value) (val : α → Value) (p : α → Bool) (row : Option Nat) (w : World) : Prop :=
  Enters Tryz.prog fn ∧ ∀ (x : α) (w' : World), w.grownBy w' row → Calls Tryz.prog fn (#[val x] ++ cps) w' fun e w'' => e = .returned (.bool (p x)) ∧ Below w'.heap.size w' w''
theorem AsksG.asks {α : Type} {fn : Nat} {cps : Array Value} {val : α → Value} {p : α → Bool} {row : Option Nat} {w : World} (h : AsksG fn cps val p row w) : Asks fn cps val p w :=
  ⟨h.1, fun x u hu => h.2 x u (grown_below hu row)⟩
theorem mem_zeroCells {z : Array Value} {n : Nat} {v : Value} (h : v ∈ (Builtin.zeroCells z n).toList) : v ∈ z.toList := by
  simp only [Builtin.zeroCells, Array.toList_map, List.mem_map, Array.toList_range, List.mem_range] at h
  obtain ⟨i, hi, rfl⟩ := h
  have hz : 0 < z.size := by
    rcases Nat.eq_zero_or_pos z.size with e | e
    · rw [e] at hi; simp at hi
    · exact e
  have hm : i % z.size < z.size := Nat.mod_lt _ hz
  rw [getElem!_pos z _ hm]
  simp
theorem setL_pre (xs vs : List Value) (o : Nat) (h : o + vs.length ≤ xs.length) : (setL xs o vs).take o = xs.take o := by
  rw [setL_eq _ _ _ h, List.append_assoc, List.take_append_of_le_length (by rw [List.length_take]; omega), List.take_take, Nat.min_self]
def keep {α : Type} (p : α → Bool) (xs : List α) : List α := xs.filter (fun x => !(p x))
theorem keep_all {α : Type} [Inhabited α] {p : α → Bool} {xs : List α} (h : idxI p xs = -1) : keep p xs = xs := by
  unfold keep
  rw [List.filter_eq_self]
  intro x hx
  have : xs.any p = false := by rw [← idxI_any, h]; rfl
  have := List.any_eq_false.1 this x hx
  simpa using this
theorem keep_at {α : Type} [Inhabited α] {p : α → Bool} {xs : List α} {j : Nat} (hj : j < xs.length) : keep p (xs.take (j + 1)) = keep p (xs.take j) ++ (if p (xs.getD j default) then [] else [xs.getD j default]) := by
  unfold keep
  rw [take_at hj, List.filter_append]
  congr 1
  generalize xs.getD j default = x
  cases h : p x <;> simp [h]
theorem keep_idx {α : Type} [Inhabited α] {p : α → Bool} {xs : List α} {i : Nat} (h : idxI p xs = (i : Int)) : i < xs.length ∧ keep p (xs.take (i + 1)) = xs.take i := by
  unfold idxI at h
  cases e : xs.findIdx? p with
  | none => rw [e] at h; simp at h
  | some k =>
    rw [e] at h
    simp at h
    obtain rfl : k = i := by omega
    rw [List.findIdx?_eq_some_iff_getElem] at e
    obtain ⟨hk, hp, hn⟩ := e
    refine ⟨hk, ?_⟩
    rw [keep_at hk]
    have : p (xs.getD k default) = true := by simpa [List.getD, hk] using hp
    rw [this]
    simp only [↓reduceIte, List.append_nil]
    unfold keep
    rw [List.filter_eq_self]
    intro x hx
    obtain ⟨q, hq, rfl⟩ := List.getElem_of_mem hx
    simp only [List.length_take] at hq
    have := hn q (by omega)
    simpa using this

theorem run_clear_lock (w : World) (ty : TypeId) (b o m c : Nat) (h0 : 0 < m) (hc : ∀ j, j < m * 6 → (w.cell? ⟨b, o + j, none⟩).isSome = true ∧ w.frozen? ⟨b, o + j, none⟩ = false) :
    (Builtin.zeroCells (Value.cells (.agg #[.int .i64 0, .int .i64 0, .int .i64 0, .bool false, .int .i64 0, .int .i64 0])) m).toList.length = m * 6 ∧ (Builtin.clear_ #[27] ty #[.slice (some ⟨b, o, none⟩) m c]).run Tryz.prog w = .ok (.tuple #[]) (w.setCells b o (Builtin.zeroCells (Value.cells (.agg #[.int .i64 0, .int .i64 0, .int .i64 0, .bool false, .int .i64 0, .int .i64 0])) m).toList) := by
  have hv : ∀ w, (zeroValue 70).run Tryz.prog w = .ok (.agg #[.int .i64 0, .int .i64 0, .int .i64 0, .bool false, .int .i64 0, .int .i64 0]) w := fun w => by
    exact Tryz.zeroValue70 w
  have hl : (Builtin.zeroCells (Value.cells (.agg #[.int .i64 0, .int .i64 0, .int .i64 0, .bool false, .int .i64 0, .int .i64 0])) m).toList.length = m * 6 := by
    rw [Array.length_toList, size_zeroCells]
    rfl
  refine ⟨hl, ?_⟩
  have hst := run_storeCells_cells (P := Tryz.prog) b o (Builtin.zeroCells (Value.cells (.agg #[.int .i64 0, .int .i64 0, .int .i64 0, .bool false, .int .i64 0, .int .i64 0])) m).toList 0 w (fun j hj => (hc j (by rw [hl] at hj; exact hj)).1) (fun j hj => (hc j (by rw [hl] at hj; exact hj)).2) (by
    intro v hv'
    have := mem_zeroCells hv'
    simp [Value.cells] at this
    rcases this with h | h | h <;> subst h <;> rfl)
  simp only [Nat.add_zero] at hst
  obtain ⟨q, rfl⟩ : ∃ q, m = q + 1 := ⟨m - 1, by omega⟩
  simp [Builtin.clear_, run_underlying Tryz.underlying27, hv, hst]


set_option maxRecDepth 100000 in
set_option maxHeartbeats 4000000 in
theorem deleteLock_any (fn : Nat) (cps : Array Value) (p : LkV → Bool) (B : Nat) (a : Option Addr) (n cap : Nat) (xs : List LkV) (w : World) (h : w.ownsRow B 70 6 (.slice a n cap) n (flat LkV.cells xs)) (hF : AsksG fn cps LkV.val p (Value.slice a n cap).ownBlock w) :
    Calls Tryz.prog 71 #[.slice a n cap, .func (.func fn) #[] cps] w fun e w' => e = .returned (.slice a (keep p xs).length cap) ∧ w'.ownsRow B 70 6 (.slice a (keep p xs).length cap) (keep p xs).length (flat LkV.cells (keep p xs)) ∧ w.grownBy w' (Value.slice a n cap).ownBlock := by
  have hl := own_len lk_len (by decide) h
  obtain ⟨hrow, _⟩ := own_isRow lk_len h hl
  have hIx := fun w' h1 h2 => indexLock_any fn cps p a n cap xs w' h1 h2
  obtain ⟨i0, e0⟩ : ∃ R, R = idxI p xs := ⟨_, rfl⟩
  have hi0 := idxI_lt (p := p) (l := xs)
  rw [← e0] at hIx hi0
  by_cases hneg : i0 = -1
  · have hk := keep_all (p := p) (xs := xs) (by rw [← e0]; exact hneg)
    rw [hk, hl]
    subst hneg
    clear e0 hk
    have hA := hF.asks
    go_enter Tryz.func71, Tryz.ntmps71
    go_wp2_with (go_at_call 79; refine (hIx _ hrow hA).mono ?_; rintro e w1 ⟨rfl, hb1⟩)
    go_ret
    exact ⟨rfl, own_below h hb1, grown_below hb1 _⟩
  · obtain ⟨i1, rfl⟩ : ∃ i1 : Nat, i0 = (i1 : Int) := ⟨i0.toNat, by omega⟩
    obtain ⟨hi1, hk1⟩ := keep_idx (p := p) (xs := xs) e0.symm
    clear e0 hneg hi0
    rw [hl] at hi1
    obtain ⟨g, off, rfl, _, _⟩ := hrow.2.2.2.2 (by omega)
    have hoff : off = 0 := by
      rcases h.2 with ⟨hv, _⟩ | ⟨g', cap', cur, hv, _⟩
      · simp at hv
      · simp at hv; exact hv.1.2
    subst hoff
    have hcm : n ≤ cap ∧ cap ≤ maxLen := ⟨hrow.2.1, hrow.2.2.1⟩
    unfold maxLen at hcm
    have HK1 : Hid (keep p (xs.take (i1 + 1)) = xs.take i1) := hk1
    have HL : Hid (xs.length = n) := hl
    have hA := hF.asks
    obtain ⟨hEn, hFg⟩ := hF
    have HFG : Hid (∀ (x : LkV) (w' : World), w.grownBy w' (some g) → Calls Tryz.prog fn (#[LkV.val x] ++ cps) w' fun e w'' => e = .returned (.bool (p x)) ∧ Below w'.heap.size w' w'') := hFg
    unfold Enters at hEn
    clear hl hk1 hFg
    have hgl := h.lt g rfl
    obtain ⟨YS, eYS⟩ : ∃ YS, YS = keep p xs := ⟨_, rfl⟩
    have HYS : Hid (YS = keep p (xs.take n)) := by show _ = _; rw [eYS, List.take_of_length_le (by rw [HL.out]; exact Nat.le_refl _)]
    rw [← eYS]
    clear eYS
    have hm1 : ((i1 : Int) == -1) = false := by rw [beq_eq_false_iff_ne]; omega
    go_enter Tryz.func71, Tryz.ntmps71
    go_upto_region 5 with (go_at_call 79; refine (hIx _ hrow hA).mono ?_; rintro e w1 ⟨rfl, hb1⟩)
    have hg1 : w.grownBy w1 (some g) := grown_below hb1 _
    have own1 := own_below h hb1
    clear hA hIx hrow
    go_loopw [5, 6, 7] (fun s5 s6 _ wr => ∃ (i j : Nat) (L : List LkV), s5 = .int .i64 (i : Int) ∧ s6 = .int .i64 (j : Int) ∧ i < j ∧ j ≤ n ∧ wr.ownsRow B 70 6 (.slice (some ⟨g, 0, none⟩) n cap) n (flat LkV.cells L) ∧ Hid (L.take i = keep p (xs.take j)) ∧ Hid (L.drop j = xs.drop j) ∧ w.grownBy wr (some g)) (fun _ s6 _ _ => n - (intOf s6).toNat)
    case atStart => exact ⟨i1, i1 + 1, xs, rfl, by go_num, by omega, by omega, own1, HK1.out.symm, rfl, hg1⟩
    case round =>
      obtain ⟨i, j, L, rfl, rfl, hij, hjn, hown, hTk, hDr, hgr⟩ := hrel
      have hLl := own_len lk_len (by decide) hown
      have HLL : Hid (L.length = n) := hLl
      clear hLl
      by_cases hlt : j < n
      · have hlt' : (j : Int) < (n : Int) := by omega
        have HX : Hid (L.getD j default = xs.getD j default) := by
          show _ = _
          have h1 : j < L.length := by rw [HLL.out]; exact hlt
          have h2 : j < xs.length := by rw [HL.out]; exact hlt
          have h3 := hDr.out
          rw [drop_at h1, drop_at h2] at h3
          simp at h3
          simpa [List.getD] using h3.1
        have HD1 : Hid (L.drop (j + 1) = xs.drop (j + 1)) := by
          show _ = _
          have h3 := congrArg (List.drop 1) hDr.out
          simpa [List.drop_drop] using h3
        have HKA : Hid (keep p (xs.take (j + 1)) = L.take i ++ (if p (xs.getD j default) then [] else [xs.getD j default])) := by show _ = _; rw [hTk.out]; exact keep_at (by rw [HL.out]; exact hlt)
        obtain ⟨hrw, _⟩ := own_isRow lk_len hown HLL.out
        obtain ⟨b', off', e', zb, hc⟩ := hrw.2.2.2.2 (by omega)
        simp at e'
        obtain ⟨rfl, rfl⟩ := e'
        have hcells := hc j hlt
        rw [HX.out] at hcells
        have hcall := HFG.out (xs.getD j default)
        obtain ⟨x, ex⟩ : ∃ x, x = xs.getD j default := ⟨_, rfl⟩
        rw [← ex] at hcells HKA hcall
        clear ex hc hrw
        obtain ⟨⟨q0, q1⟩, q2, q3, q4, q5⟩ := x
        have a0 := hcells 0 (by decide)
        have a1 := hcells 1 (by decide)
        have a2 := hcells 2 (by decide)
        have a3 := hcells 3 (by decide)
        have a4 := hcells 4 (by decide)
        have a5 := hcells 5 (by decide)
        simp only [LkV.cells, List.getElem?_cons_zero, List.getElem?_cons_succ, Nat.add_zero, Nat.zero_add] at a0 a1 a2 a3 a4 a5
        clear hcells
        simp only [LkV.val] at hcall
        obtain ⟨P, eP⟩ : ∃ P, P = p ⟨(q0, q1), q2, q3, q4, q5⟩ := ⟨_, rfl⟩
        rw [← eP] at HKA hcall
        clear eP
        obtain ⟨V0, hV0⟩ : ∃ V0 : World, V0 = wr.alloc (.cells #[.int .i64 q0, .int .i64 q1, .int .i64 q2, .bool q3, .int .i64 q4, .int .i64 q5] 70) := ⟨_, rfl⟩
        have bV0 : Below wr.heap.size wr V0 := by rw [hV0]; exact (Below.refl _ _).alloc (Nat.le_refl _) _
        have bx := boxn_new wr #[.int .i64 q0, .int .i64 q1, .int .i64 q2, .bool q3, .int .i64 q4, .int .i64 q5] 70 6 rfl
        rw [← hV0] at bx
        have hgV0 : w.grownBy V0 (some g) := grown_trans hgr (grown_below bV0 _)
        go_upto_region 8 with (fail)
        rw [← hV0]
        clear hV0 a0 a1 a2 a3 a4 a5
        have b0 := (bx.c 0 (by decide)).1
        have b1 := (bx.c 1 (by decide)).1
        have b2 := (bx.c 2 (by decide)).1
        have b3 := (bx.c 3 (by decide)).1
        have b4 := (bx.c 4 (by decide)).1
        have b5 := (bx.c 5 (by decide)).1
        simp only [List.getD_cons_zero, List.getD_cons_succ] at b0 b1 b2 b3 b4 b5
        have bxl := bx.lt
        have hgw : g < wr.heap.size := (hown.lt g rfl).2
        cases P with
        | true =>
          have HKB : Hid (L.take i = keep p (xs.take (j + 1))) := by show _ = _; rw [HKA.out]; simp
          go_wp2_with (go_at_fn fn; refine (hcall _ hgV0).mono ?_; rintro e V ⟨rfl, hbV⟩)
          go_roundw
          case rel => exact ⟨i, j + 1, L, rfl, by go_num, by omega, by omega, own_below (own_below hown bV0) hbV, HKB, HD1, grown_trans hgV0 (grown_below hbV _)⟩
          case measure => simp [intOf]; omega
        | false =>
          have HKB : Hid ((L.set i ⟨(q0, q1), q2, q3, q4, q5⟩).take (i + 1) = keep p (xs.take (j + 1))) := by
            show _ = _
            have h1 : i < L.length := by rw [HLL.out]; omega
            rw [HKA.out, List.take_succ_eq_append_getElem (by simpa using h1), List.take_set_of_le (Nat.le_refl _)]
            simp
          have HDB : Hid ((L.set i ⟨(q0, q1), q2, q3, q4, q5⟩).drop (j + 1) = xs.drop (j + 1)) := by
            show _ = _
            rw [List.drop_set_of_lt (by omega)]
            exact HD1.out
          go_upto_region 9 with (go_at_fn fn; refine (hcall _ hgV0).mono ?_; rintro e V ⟨rfl, hbV⟩)
          have ownV := own_below (own_below hown bV0) hbV
          have bxV := bx.below hbV bx.lt
          clear b0 b1 b2 b3 b4 b5 bxl
          have b0 := (bxV.c 0 (by decide)).1
          have b1 := (bxV.c 1 (by decide)).1
          have b2 := (bxV.c 2 (by decide)).1
          have b3 := (bxV.c 3 (by decide)).1
          have b4 := (bxV.c 4 (by decide)).1
          have b5 := (bxV.c 5 (by decide)).1
          simp only [List.getD_cons_zero, List.getD_cons_succ] at b0 b1 b2 b3 b4 b5
          have bxl := bxV.lt
          have hgV : w.grownBy V (some g) := grown_trans hgV0 (grown_below hbV _)
          have hin : (i : Int) < (n : Int) := by omega
          have hth : ∀ q, q < 6 → (V.cell? ⟨g, i * 6 + q, none⟩).isSome = true ∧ V.frozen? ⟨g, i * 6 + q, none⟩ = false := fun q hq => own_there ownV (by omega)
          obtain ⟨u0, e0⟩ := Option.isSome_iff_exists.1 (hth 0 (by decide)).1
          have z0 := (hth 0 (by decide)).2
          obtain ⟨u1, e1⟩ := Option.isSome_iff_exists.1 (hth 1 (by decide)).1
          have z1 := (hth 1 (by decide)).2
          obtain ⟨u2, e2⟩ := Option.isSome_iff_exists.1 (hth 2 (by decide)).1
          have z2 := (hth 2 (by decide)).2
          obtain ⟨u3, e3⟩ := Option.isSome_iff_exists.1 (hth 3 (by decide)).1
          have z3 := (hth 3 (by decide)).2
          obtain ⟨u4, e4⟩ := Option.isSome_iff_exists.1 (hth 4 (by decide)).1
          have z4 := (hth 4 (by decide)).2
          obtain ⟨u5, e5⟩ := Option.isSome_iff_exists.1 (hth 5 (by decide)).1
          have z5 := (hth 5 (by decide)).2
          simp only [Nat.add_zero] at e0 z0
          clear hth
          have own2 := own_setCells (LkV.cells ⟨(q0, q1), q2, q3, q4, q5⟩) (i * 6) V _ ownV (by rw [lk_len]; omega)
          rw [flat_setL lk_len _ _ (by rw [HLL.out]; omega)] at own2
          have gr2 := grown_setCells g (LkV.cells ⟨(q0, q1), q2, q3, q4, q5⟩) (i * 6) V
          obtain ⟨U, hU⟩ : ∃ U : World, U = ((((((V.setCell ⟨g, i * 6, none⟩ (.int .i64 q0)).setCell ⟨g, i * 6 + 1, none⟩ (.int .i64 q1)).setCell ⟨g, i * 6 + 2, none⟩ (.int .i64 q2)).setCell ⟨g, i * 6 + 3, none⟩ (.bool q3)).setCell ⟨g, i * 6 + 4, none⟩ (.int .i64 q4)).setCell ⟨g, i * 6 + 5, none⟩ (.int .i64 q5)) := ⟨_, rfl⟩
          have own3 : U.ownsRow B 70 6 (.slice (some ⟨g, 0, none⟩) n cap) n (flat LkV.cells (L.set i ⟨(q0, q1), q2, q3, q4, q5⟩)) := by rw [hU]; exact own2
          have gr3 : w.grownBy U (some g) := by rw [hU]; exact grown_trans hgV gr2
          clear own2 gr2
          go_upto_region 10 with (fail)
          rw [← hU]
          clear hU
          go_wp2
          go_roundw
          case rel => exact ⟨i + 1, j + 1, L.set i ⟨(q0, q1), q2, q3, q4, q5⟩, by go_num, by go_num, by omega, by omega, own3, HKB, HDB, gr3⟩
          case measure => simp [intOf]; omega
      · obtain rfl : n = j := by omega
        have HYL : Hid (YS.length = i ∧ YS = L.take i) := by
          have h1 : YS = L.take i := by rw [HYS.out, hTk.out]
          refine ⟨?_, h1⟩
          rw [h1, List.length_take, HLL.out]
          omega
        have hcq : ∀ q, q < (n - i) * 6 → (wr.cell? ⟨g, i * 6 + q, none⟩).isSome = true ∧ wr.frozen? ⟨g, i * 6 + q, none⟩ = false := fun q hq => own_there hown (by rw [Nat.sub_mul] at hq; omega)
        have hcl := fun ty c => (run_clear_lock wr ty g (i * 6) (n - i) c (by omega) hcq).2
        have HVL : Hid ((Builtin.zeroCells (Value.cells (.agg #[.int .i64 0, .int .i64 0, .int .i64 0, .bool false, .int .i64 0, .int .i64 0])) (n - i)).toList.length = (n - i) * 6) := (run_clear_lock wr 0 g (i * 6) (n - i) 0 (by omega) hcq).1
        obtain ⟨vs, evs⟩ : ∃ vs, vs = (Builtin.zeroCells (Value.cells (.agg #[.int .i64 0, .int .i64 0, .int .i64 0, .bool false, .int .i64 0, .int .i64 0])) (n - i)).toList := ⟨_, rfl⟩
        rw [← evs] at HVL
        simp only [← evs] at hcl
        clear evs hcq
        have hic : i ≤ cap := by omega
        have hin : i ≤ n := by omega
        have hne : ¬ cap = i := by omega
        have hin' : (i : Int) ≤ (n : Int) := by omega
        have hnc : n ≤ cap := by omega
        have HFIN : Hid ((wr.setCells g (i * 6) vs).ownsRow B 70 6 (.slice (some ⟨g, 0, none⟩) i cap) i (flat LkV.cells (L.take i)) ∧ w.grownBy (wr.setCells g (i * 6) vs) (some g)) := by
          have hX : (flat LkV.cells L).length = n * 6 := by rw [flat_len lk_len, HLL.out]
          have hfit : i * 6 + vs.length ≤ n * 6 := by rw [HVL.out, ← Nat.add_mul]; exact Nat.mul_le_mul_right _ (by omega)
          have o1 := own_prefix (own_setCells vs (i * 6) wr _ hown hfit) (k := i) (by omega) (by omega)
          rw [setL_pre _ _ _ (by rw [hX]; exact hfit), flat_take lk_len] at o1
          exact ⟨o1, grown_trans hgr (grown_setCells g vs (i * 6) wr)⟩
        go_wp2
        go_ret
        obtain ⟨y1, y2⟩ := HYL.out
        rw [y1, y2]
        exact ⟨rfl, HFIN.out.1, HFIN.out.2⟩

theorem run_clear_doubt (w : World) (ty : TypeId) (b o m c : Nat) (h0 : 0 < m) (hc : ∀ j, j < m * 3 → (w.cell? ⟨b, o + j, none⟩).isSome = true ∧ w.frozen? ⟨b, o + j, none⟩ = false) :
    (Builtin.zeroCells (Value.cells (.agg #[.int .i64 0, .int .i64 0, .int .i64 0])) m).toList.length = m * 3 ∧ (Builtin.clear_ #[28] ty #[.slice (some ⟨b, o, none⟩) m c]).run Tryz.prog w = .ok (.tuple #[]) (w.setCells b o (Builtin.zeroCells (Value.cells (.agg #[.int .i64 0, .int .i64 0, .int .i64 0])) m).toList) := by
  have hv : ∀ w, (zeroValue 72).run Tryz.prog w = .ok (.agg #[.int .i64 0, .int .i64 0, .int .i64 0]) w := fun w => by
    exact Tryz.zeroValue72 w
  have hl : (Builtin.zeroCells (Value.cells (.agg #[.int .i64 0, .int .i64 0, .int .i64 0])) m).toList.length = m * 3 := by
    rw [Array.length_toList, size_zeroCells]
    rfl
  refine ⟨hl, ?_⟩
  have hst := run_storeCells_cells (P := Tryz.prog) b o (Builtin.zeroCells (Value.cells (.agg #[.int .i64 0, .int .i64 0, .int .i64 0])) m).toList 0 w (fun j hj => (hc j (by rw [hl] at hj; exact hj)).1) (fun j hj => (hc j (by rw [hl] at hj; exact hj)).2) (by
    intro v hv'
    have := mem_zeroCells hv'
    simp [Value.cells] at this
    subst this
    rfl)
  simp only [Nat.add_zero] at hst
  obtain ⟨q, rfl⟩ : ∃ q, m = q + 1 := ⟨m - 1, by omega⟩
  simp [Builtin.clear_, run_underlying Tryz.underlying28, hv, hst]


set_option maxRecDepth 100000 in
set_option maxHeartbeats 4000000 in
theorem deleteDoubt_any (fn : Nat) (cps : Array Value) (p : DbV → Bool) (B : Nat) (a : Option Addr) (n cap : Nat) (xs : List DbV) (w : World) (h : w.ownsRow B 72 3 (.slice a n cap) n (flat DbV.cells xs)) (hF : AsksG fn cps DbV.val p (Value.slice a n cap).ownBlock w) :
    Calls Tryz.prog 73 #[.slice a n cap, .func (.func fn) #[] cps] w fun e w' => e = .returned (.slice a (keep p xs).length cap) ∧ w'.ownsRow B 72 3 (.slice a (keep p xs).length cap) (keep p xs).length (flat DbV.cells (keep p xs)) ∧ w.grownBy w' (Value.slice a n cap).ownBlock := by
  have hl := own_len db_len (by decide) h
  obtain ⟨hrow, _⟩ := own_isRow db_len h hl
  have hIx := fun w' h1 h2 => indexDoubt_any fn cps p a n cap xs w' h1 h2
  obtain ⟨i0, e0⟩ : ∃ R, R = idxI p xs := ⟨_, rfl⟩
  have hi0 := idxI_lt (p := p) (l := xs)
  rw [← e0] at hIx hi0
  by_cases hneg : i0 = -1
  · have hk := keep_all (p := p) (xs := xs) (by rw [← e0]; exact hneg)
    rw [hk, hl]
    subst hneg
    clear e0 hk
    have hA := hF.asks
    go_enter Tryz.func73, Tryz.ntmps73
    go_wp2_with (go_at_call 91; refine (hIx _ hrow hA).mono ?_; rintro e w1 ⟨rfl, hb1⟩)
    go_ret
    exact ⟨rfl, own_below h hb1, grown_below hb1 _⟩
  · obtain ⟨i1, rfl⟩ : ∃ i1 : Nat, i0 = (i1 : Int) := ⟨i0.toNat, by omega⟩
    obtain ⟨hi1, hk1⟩ := keep_idx (p := p) (xs := xs) e0.symm
    clear e0 hneg hi0
    rw [hl] at hi1
    obtain ⟨g, off, rfl, _, _⟩ := hrow.2.2.2.2 (by omega)
    have hoff : off = 0 := by
      rcases h.2 with ⟨hv, _⟩ | ⟨g', cap', cur, hv, _⟩
      · simp at hv
      · simp at hv; exact hv.1.2
    subst hoff
    have hcm : n ≤ cap ∧ cap ≤ maxLen := ⟨hrow.2.1, hrow.2.2.1⟩
    unfold maxLen at hcm
    have HK1 : Hid (keep p (xs.take (i1 + 1)) = xs.take i1) := hk1
    have HL : Hid (xs.length = n) := hl
    have hA := hF.asks
    obtain ⟨hEn, hFg⟩ := hF
    have HFG : Hid (∀ (x : DbV) (w' : World), w.grownBy w' (some g) → Calls Tryz.prog fn (#[DbV.val x] ++ cps) w' fun e w'' => e = .returned (.bool (p x)) ∧ Below w'.heap.size w' w'') := hFg
    unfold Enters at hEn
    clear hl hk1 hFg
    have hgl := h.lt g rfl
    obtain ⟨YS, eYS⟩ : ∃ YS, YS = keep p xs := ⟨_, rfl⟩
    have HYS : Hid (YS = keep p (xs.take n)) := by show _ = _; rw [eYS, List.take_of_length_le (by rw [HL.out]; exact Nat.le_refl _)]
    rw [← eYS]
    clear eYS
    have hm1 : ((i1 : Int) == -1) = false := by rw [beq_eq_false_iff_ne]; omega
    go_enter Tryz.func73, Tryz.ntmps73
    go_upto_region 5 with (go_at_call 91; refine (hIx _ hrow hA).mono ?_; rintro e w1 ⟨rfl, hb1⟩)
    have hg1 : w.grownBy w1 (some g) := grown_below hb1 _
    have own1 := own_below h hb1
    clear hA hIx hrow
    go_loopw [5, 6, 7] (fun s5 s6 _ wr => ∃ (i j : Nat) (L : List DbV), s5 = .int .i64 (i : Int) ∧ s6 = .int .i64 (j : Int) ∧ i < j ∧ j ≤ n ∧ wr.ownsRow B 72 3 (.slice (some ⟨g, 0, none⟩) n cap) n (flat DbV.cells L) ∧ Hid (L.take i = keep p (xs.take j)) ∧ Hid (L.drop j = xs.drop j) ∧ w.grownBy wr (some g)) (fun _ s6 _ _ => n - (intOf s6).toNat)
    case atStart => exact ⟨i1, i1 + 1, xs, rfl, by go_num, by omega, by omega, own1, HK1.out.symm, rfl, hg1⟩
    case round =>
      obtain ⟨i, j, L, rfl, rfl, hij, hjn, hown, hTk, hDr, hgr⟩ := hrel
      have hLl := own_len db_len (by decide) hown
      have HLL : Hid (L.length = n) := hLl
      clear hLl
      by_cases hlt : j < n
      · have hlt' : (j : Int) < (n : Int) := by omega
        have HX : Hid (L.getD j default = xs.getD j default) := by
          show _ = _
          have h1 : j < L.length := by rw [HLL.out]; exact hlt
          have h2 : j < xs.length := by rw [HL.out]; exact hlt
          have h3 := hDr.out
          rw [drop_at h1, drop_at h2] at h3
          simp at h3
          simpa [List.getD] using h3.1
        have HD1 : Hid (L.drop (j + 1) = xs.drop (j + 1)) := by
          show _ = _
          have h3 := congrArg (List.drop 1) hDr.out
          simpa [List.drop_drop] using h3
        have HKA : Hid (keep p (xs.take (j + 1)) = L.take i ++ (if p (xs.getD j default) then [] else [xs.getD j default])) := by show _ = _; rw [hTk.out]; exact keep_at (by rw [HL.out]; exact hlt)
        obtain ⟨hrw, _⟩ := own_isRow db_len hown HLL.out
        obtain ⟨b', off', e', zb, hc⟩ := hrw.2.2.2.2 (by omega)
        simp at e'
        obtain ⟨rfl, rfl⟩ := e'
        have hcells := hc j hlt
        rw [HX.out] at hcells
        have hcall := HFG.out (xs.getD j default)
        obtain ⟨x, ex⟩ : ∃ x, x = xs.getD j default := ⟨_, rfl⟩
        rw [← ex] at hcells HKA hcall
        clear ex hc hrw
        obtain ⟨⟨q0, q1⟩, q2⟩ := x
        have a0 := hcells 0 (by decide)
        have a1 := hcells 1 (by decide)
        have a2 := hcells 2 (by decide)
        simp only [DbV.cells, List.getElem?_cons_zero, List.getElem?_cons_succ, Nat.add_zero, Nat.zero_add] at a0 a1 a2
        clear hcells
        simp only [DbV.val] at hcall
        obtain ⟨P, eP⟩ : ∃ P, P = p ⟨(q0, q1), q2⟩ := ⟨_, rfl⟩
        rw [← eP] at HKA hcall
        clear eP
        obtain ⟨V0, hV0⟩ : ∃ V0 : World, V0 = wr.alloc (.cells #[.int .i64 q0, .int .i64 q1, .int .i64 q2] 72) := ⟨_, rfl⟩
        have bV0 : Below wr.heap.size wr V0 := by rw [hV0]; exact (Below.refl _ _).alloc (Nat.le_refl _) _
        have bx := boxn_new wr #[.int .i64 q0, .int .i64 q1, .int .i64 q2] 72 3 rfl
        rw [← hV0] at bx
        have hgV0 : w.grownBy V0 (some g) := grown_trans hgr (grown_below bV0 _)
        go_upto_region 8 with (fail)
        rw [← hV0]
        clear hV0 a0 a1 a2
        have b0 := (bx.c 0 (by decide)).1
        have b1 := (bx.c 1 (by decide)).1
        have b2 := (bx.c 2 (by decide)).1
        simp only [List.getD_cons_zero, List.getD_cons_succ] at b0 b1 b2
        have bxl := bx.lt
        have hgw : g < wr.heap.size := (hown.lt g rfl).2
        cases P with
        | true =>
          have HKB : Hid (L.take i = keep p (xs.take (j + 1))) := by show _ = _; rw [HKA.out]; simp
          go_wp2_with (go_at_fn fn; refine (hcall _ hgV0).mono ?_; rintro e V ⟨rfl, hbV⟩)
          go_roundw
          case rel => exact ⟨i, j + 1, L, rfl, by go_num, by omega, by omega, own_below (own_below hown bV0) hbV, HKB, HD1, grown_trans hgV0 (grown_below hbV _)⟩
          case measure => simp [intOf]; omega
        | false =>
          have HKB : Hid ((L.set i ⟨(q0, q1), q2⟩).take (i + 1) = keep p (xs.take (j + 1))) := by
            show _ = _
            have h1 : i < L.length := by rw [HLL.out]; omega
            rw [HKA.out, List.take_succ_eq_append_getElem (by simpa using h1), List.take_set_of_le (Nat.le_refl _)]
            simp
          have HDB : Hid ((L.set i ⟨(q0, q1), q2⟩).drop (j + 1) = xs.drop (j + 1)) := by
            show _ = _
            rw [List.drop_set_of_lt (by omega)]
            exact HD1.out
          go_upto_region 9 with (go_at_fn fn; refine (hcall _ hgV0).mono ?_; rintro e V ⟨rfl, hbV⟩)
          have ownV := own_below (own_below hown bV0) hbV
          have bxV := bx.below hbV bx.lt
          clear b0 b1 b2 bxl
          have b0 := (bxV.c 0 (by decide)).1
          have b1 := (bxV.c 1 (by decide)).1
          have b2 := (bxV.c 2 (by decide)).1
          simp only [List.getD_cons_zero, List.getD_cons_succ] at b0 b1 b2
          have bxl := bxV.lt
          have hgV : w.grownBy V (some g) := grown_trans hgV0 (grown_below hbV _)
          have hin : (i : Int) < (n : Int) := by omega
          have hth : ∀ q, q < 3 → (V.cell? ⟨g, i * 3 + q, none⟩).isSome = true ∧ V.frozen? ⟨g, i * 3 + q, none⟩ = false := fun q hq => own_there ownV (by omega)
          obtain ⟨u0, e0⟩ := Option.isSome_iff_exists.1 (hth 0 (by decide)).1
          have z0 := (hth 0 (by decide)).2
          obtain ⟨u1, e1⟩ := Option.isSome_iff_exists.1 (hth 1 (by decide)).1
          have z1 := (hth 1 (by decide)).2
          obtain ⟨u2, e2⟩ := Option.isSome_iff_exists.1 (hth 2 (by decide)).1
          have z2 := (hth 2 (by decide)).2
          simp only [Nat.add_zero] at e0 z0
          clear hth
          have own2 := own_setCells (DbV.cells ⟨(q0, q1), q2⟩) (i * 3) V _ ownV (by rw [db_len]; omega)
          rw [flat_setL db_len _ _ (by rw [HLL.out]; omega)] at own2
          have gr2 := grown_setCells g (DbV.cells ⟨(q0, q1), q2⟩) (i * 3) V
          obtain ⟨U, hU⟩ : ∃ U : World, U = (((V.setCell ⟨g, i * 3, none⟩ (.int .i64 q0)).setCell ⟨g, i * 3 + 1, none⟩ (.int .i64 q1)).setCell ⟨g, i * 3 + 2, none⟩ (.int .i64 q2)) := ⟨_, rfl⟩
          have own3 : U.ownsRow B 72 3 (.slice (some ⟨g, 0, none⟩) n cap) n (flat DbV.cells (L.set i ⟨(q0, q1), q2⟩)) := by rw [hU]; exact own2
          have gr3 : w.grownBy U (some g) := by rw [hU]; exact grown_trans hgV gr2
          clear own2 gr2
          go_upto_region 10 with (fail)
          rw [← hU]
          clear hU
          go_wp2
          go_roundw
          case rel => exact ⟨i + 1, j + 1, L.set i ⟨(q0, q1), q2⟩, by go_num, by go_num, by omega, by omega, own3, HKB, HDB, gr3⟩
          case measure => simp [intOf]; omega
      · obtain rfl : n = j := by omega
        have HYL : Hid (YS.length = i ∧ YS = L.take i) := by
          have h1 : YS = L.take i := by rw [HYS.out, hTk.out]
          refine ⟨?_, h1⟩
          rw [h1, List.length_take, HLL.out]
          omega
        have hcq : ∀ q, q < (n - i) * 3 → (wr.cell? ⟨g, i * 3 + q, none⟩).isSome = true ∧ wr.frozen? ⟨g, i * 3 + q, none⟩ = false := fun q hq => own_there hown (by rw [Nat.sub_mul] at hq; omega)
        have hcl := fun ty c => (run_clear_doubt wr ty g (i * 3) (n - i) c (by omega) hcq).2
        have HVL : Hid ((Builtin.zeroCells (Value.cells (.agg #[.int .i64 0, .int .i64 0, .int .i64 0])) (n - i)).toList.length = (n - i) * 3) := (run_clear_doubt wr 0 g (i * 3) (n - i) 0 (by omega) hcq).1
        obtain ⟨vs, evs⟩ : ∃ vs, vs = (Builtin.zeroCells (Value.cells (.agg #[.int .i64 0, .int .i64 0, .int .i64 0])) (n - i)).toList := ⟨_, rfl⟩
        rw [← evs] at HVL
        simp only [← evs] at hcl
        clear evs hcq
        have hic : i ≤ cap := by omega
        have hin : i ≤ n := by omega
        have hne : ¬ cap = i := by omega
        have hin' : (i : Int) ≤ (n : Int) := by omega
        have hnc : n ≤ cap := by omega
        have HFIN : Hid ((wr.setCells g (i * 3) vs).ownsRow B 72 3 (.slice (some ⟨g, 0, none⟩) i cap) i (flat DbV.cells (L.take i)) ∧ w.grownBy (wr.setCells g (i * 3) vs) (some g)) := by
          have hX : (flat DbV.cells L).length = n * 3 := by rw [flat_len db_len, HLL.out]
          have hfit : i * 3 + vs.length ≤ n * 3 := by rw [HVL.out, ← Nat.add_mul]; exact Nat.mul_le_mul_right _ (by omega)
          have o1 := own_prefix (own_setCells vs (i * 3) wr _ hown hfit) (k := i) (by omega) (by omega)
          rw [setL_pre _ _ _ (by rw [hX]; exact hfit), flat_take db_len] at o1
          exact ⟨o1, grown_trans hgr (grown_setCells g vs (i * 3) wr)⟩
        go_wp2
        go_ret
        obtain ⟨y1, y2⟩ := HYL.out
        rw [y1, y2]
        exact ⟨rfl, HFIN.out.1, HFIN.out.2⟩

end Go.Proofs.YtekglahigjblkaaGreatDoor.St
