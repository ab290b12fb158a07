/- Texts of this claim, one behind the other. -/
import Derived.Test.YtgohpgollpjlnaaDoorM22ConsoleShows
import Derived.Test.YtgohpgollpjlnaaDoorM5ConsoleShows
import Derived.Test.YtgohpgollpjlnaaDoorM23ConsoleShows
import Derived.Lib.ItoaLen
import Derived.Lib.Join
import Derived.OwnWalk
import Derived.LoopTactic
import Derived.Deep.Cut
import Derived.Deep.DeepCutAuto
import Derived.Deep.RegionHeld3
import Derived.Test.YtgohpgollpjlnaaDoorM11ConsoleShows
import Derived.Test.YtgohpgollpjlnaaDoorM13ConsoleShows
/- console's verdict and lineAbout: words, and a line. -/
namespace Go.Proofs.YtgohpgollpjlnaaDoor.Cn
open Go.ChangeShapes Go.WideShapes Go.ChangeAt Go.RowKit
open Go.Proofs.YtgohpgollpjlnaaDoor.St (BoxN boxn_new own_below IsRow Elem flat flat_append own_isRow)
set_option linter.unusedVariables false

theorem lT {u v z : World} (h : Below u.heap.size u v) (k : Below v.heap.size v z) : Below u.heap.size u z := h.trans (k.mono h.size)
def stC (s : ByteArray) : List Value := [.string s]
theorem st_len (x : ByteArray) : (stC x).length = 1 := rfl
theorem st_one (y : ByteArray) : ∀ u ∈ stC y, u.oneCell' = true := by
  intro u hu
  simp only [stC, List.mem_cons, List.not_mem_nil, or_false] at hu
  rcases hu with rfl
  rfl
theorem stInfo : (Tryd.prog.info? 9).map (fun i => (i.zero, i.size, i.bytes)) = some (some (.string ⟨#[]⟩), 1, 16) := by kernel_rfl
theorem stElem : ∃ i, Elem 1 stC 9 41 i (.string ⟨#[]⟩) 16 := by
  obtain ⟨j0, hj, lj0, lj1, lj2⟩ := info_parts stInfo
  exact ⟨j0, st_len, by decide, st_one, Tryd.underlying41, hj, lj0, lj1, lj2, rfl⟩
theorem flat_st : ∀ (vs : List ByteArray), (flat stC vs).length = vs.length
  | [] => rfl
  | x :: r => by
    have := flat_st r
    simp only [flat, List.flatMap_cons, List.length_append, List.length_cons] at *
    rw [this]
    simp [stC, Nat.add_comm]
theorem row_new (X : World) (t : TypeId) (vs : List ByteArray) (cs : Array Value) (n : Nat) (hn : vs.length = n) (hc : cs.toList = flat stC vs) (hm : n ≤ maxLen) (h0 : 0 < n) : (X.alloc (.cells cs t)).ownsRow X.heap.size t 1 (.slice (some ⟨X.heap.size, 0, none⟩) n n) n (flat stC vs) := by
  have hl : (flat stC vs).length = n := by rw [← hn]; exact flat_st vs
  have hs : cs.size = n := by rw [← Array.length_toList, hc, hl]
  refine ⟨by rw [hl]; omega, Or.inr ⟨X.heap.size, n, cs, rfl, Nat.le_refl _, heap_alloc_new X _, Nat.le_refl _, hm, by omega, ?_⟩⟩
  rw [Nat.mul_one, ← hc, List.take_of_length_le (by simp [hs])]
theorem ownB {w : World} {B C : Nat} {te : TypeId} {k : Nat} {v : Value} {n : Nat} {xs : List Value} (h : w.ownsRow C te k v n xs) (hB : B ≤ C) : w.ownsRow B te k v n xs := by
  obtain ⟨h1, h2⟩ := h
  refine ⟨h1, ?_⟩
  rcases h2 with h2 | ⟨g, cap, cur, e, hb, r⟩
  · exact .inl h2
  · exact .inr ⟨g, cap, cur, e, Nat.le_trans hB hb, r⟩
def wDamage : ByteArray := ⟨#[100, 97, 109, 97, 103, 101]⟩
def wVerd (yes : Bool) : ByteArray := if yes then ⟨#[99, 111, 109, 109, 105, 116]⟩ else ⟨#[97, 98, 111, 114, 116]⟩
def verdB (yes dmg : Bool) : List ByteArray := if dmg then [wVerd yes, wDamage] else [wVerd yes]
theorem words1 (X : World) (a : ByteArray) (q : Nat) (hq : q = X.heap.size) : IsRow 1 stC (X.alloc (.cells #[.string a] 9)) (some ⟨q, 0, none⟩) 1 1 [a] := hq ▸ (own_isRow st_len (row_new X 9 [a] #[.string a] 1 rfl rfl (by unfold maxLen; omega) (by decide)) rfl).1
theorem words2 (X : World) (a b : ByteArray) (q : Nat) (hq : q = X.heap.size) : IsRow 1 stC (X.alloc (.cells #[.string a, .string b] 9)) (some ⟨q, 0, none⟩) 2 2 [a, b] := hq ▸ (own_isRow st_len (row_new X 9 [a, b] #[.string a, .string b] 2 rfl rfl (by unfold maxLen; omega) (by decide)) rfl).1
/-- Words in memory that a call made. -/
def WordsIs (w w' : World) (e : Ending) (ws : List ByteArray) : Prop := ∃ a n, e = .returned (.slice a n n) ∧ IsRow 1 stC w' a n n ws ∧ Below w.heap.size w w'
set_option maxRecDepth 100000 in
set_option maxHeartbeats 2000000 in
theorem verdict_any (t1 t2 : Int) (yes dmg : Bool) (w : World) :
    Calls Tryd.prog 52 #[.agg #[.int .i64 t1, .int .i64 t2, .bool yes, .bool dmg]] w fun e w' => WordsIs w w' e (verdB yes dmg) := by
  have HB : Hid (∀ (x : Array Value) (y : TypeId), Below w.heap.size w ((w.alloc (.cells #[.int .i64 t1, .int .i64 t2, .bool yes, .bool dmg] 48)).alloc (.cells x y))) := fun x y => ((Below.refl _ _).alloc (Nat.le_refl _) _).alloc (by simp) _
  cases dmg
  · cases yes
    all_goals
      go_enter Tryd.func52, Tryd.ntmps52
      go_wp2
      refine bodyPost_ret (v := .slice (some ⟨w.heap.size + 1, 0, none⟩) 1 1) (by simp [results, Tryd.results52, go_sem]) rfl ?_
      refine ⟨_, 1, rfl, ?_, HB.out _ _⟩
      exact words1 (w.alloc (.cells #[.int .i64 t1, .int .i64 t2, .bool _, .bool false] 48)) _ _ (by simp)
  · cases yes
    all_goals
      go_enter Tryd.func52, Tryd.ntmps52
      go_wp2
      refine bodyPost_ret (v := .slice (some ⟨w.heap.size + 1, 0, none⟩) 2 2) (by simp [results, Tryd.results52, go_sem]) rfl ?_
      refine ⟨_, 2, rfl, ?_, HB.out _ _⟩
      exact words2 (w.alloc (.cells #[.int .i64 t1, .int .i64 t2, .bool _, .bool true] 48)) _ _ _ (by simp)
/-- A line. -/
def lineBy (p t1 t2 : Int) (rest : List ByteArray) : ByteArray := ⟨(Lib.join ([Lib.itoa p, Lib.itoa t1, Lib.itoa t2] ++ rest.map (·.data.toList)) [32]).toArray⟩ ++ ⟨#[10]⟩
def i64 (n : Int) : Prop := -9223372036854775808 ≤ n ∧ n ≤ 9223372036854775807
theorem lens_le (m : Nat) : ∀ (l : List (List UInt8)), (∀ x ∈ l, x.length ≤ m) → Lib.lens l ≤ m * l.length := by
  intro l
  induction l with
  | nil => intro _; simp [Lib.lens]
  | cons x r ih =>
    intro h
    have h1 := h x (by simp)
    have h2 := ih (fun y hy => h y (by simp [hy]))
    simp only [Lib.lens, List.map_cons, List.sum_cons, List.length_cons] at *
    rw [Nat.mul_add]
    omega
theorem line_len (p t1 t2 : Int) (rest : List ByteArray) (hp : i64 p) (h1 : i64 t1) (h2 : i64 t2) (hr : rest.length ≤ 4) (hz : ∀ x ∈ rest, x.size ≤ 30) :
    (Lib.join ([Lib.itoa p, Lib.itoa t1, Lib.itoa t2] ++ rest.map (·.data.toList)) [32]).length ≤ 217 := by
  rw [List.cons_append, Lib.join_length]
  have h8 := lens_le 30 (Lib.itoa p :: ([Lib.itoa t1, Lib.itoa t2] ++ rest.map (·.data.toList))) (fun x hx => by
    have e1 := Lib.itoa_length_le p hp.1 hp.2
    have e2 := Lib.itoa_length_le t1 h1.1 h1.2
    have e3 := Lib.itoa_length_le t2 h2.1 h2.2
    simp only [List.cons_append, List.nil_append, List.mem_cons, List.mem_map] at hx
    rcases hx with rfl | rfl | rfl | ⟨y, hy, rfl⟩
    · omega
    · omega
    · omega
    · exact hz y hy)
  simp only [List.length_cons, List.length_append, List.length_map, List.length_nil] at *
  omega
set_option maxRecDepth 100000 in
set_option maxHeartbeats 4000000 in
theorem line_any (p t1 t2 : Int) (ra : Option Addr) (rn rc : Nat) (rest : List ByteArray) (w : World) (hp : i64 p) (h1 : i64 t1) (h2 : i64 t2) (hR : IsRow 1 stC w ra rn rc rest) (hr : rn ≤ 4) (hz : ∀ x ∈ rest, x.size ≤ 30) (hT : ∀ U, Below w.heap.size w U → Lib.TabIs Tryd.prog U "internal/strconv.uint64pow10" .u64 Lib.pow10Tab) :
    Calls Tryd.prog 49 #[.int .i64 p, .agg #[.int .i64 t1, .int .i64 t2], .slice ra rn rc] w fun e w' => e = .returned (.string (lineBy p t1 t2 rest)) ∧ Below w.heap.size w w' := by
  obtain ⟨iE, ES⟩ := stElem
  have hrl := hR.1
  have hln := line_len p t1 t2 rest hp h1 h2 (by omega) hz
  obtain ⟨W, hW⟩ : ∃ W : World, W = w.alloc (.cells #[.int .i64 t1, .int .i64 t2] 23) := ⟨_, rfl⟩
  have oT : ObAt W w.heap.size #[.int .i64 t1, .int .i64 t2] 23 := by rw [hW]; exact ObAt.new w _ _
  have bW : Below w.heap.size w W := by rw [hW]; exact (Below.refl _ _).alloc (Nat.le_refl _) _
  have HI : Hid (∀ (n : Int) (U : World), i64 n → Below W.heap.size W U → Calls Tryd.prog 50 #[.int .i64 n] U fun e w' => e = .returned (.string ⟨(Lib.itoa n).toArray⟩) ∧ Below U.heap.size U w') := fun n U hn hU => by
    refine (Tryd.strconv_Itoa n hn.1 hn.2 U (hT U (bW.trans (hU.mono bW.size)))).mono ?_
    rintro e w' ⟨rfl, k, os, rfl⟩
    refine ⟨rfl, ⟨rfl, rfl, rfl, by simp [Go.Sort.grow, World.drewN], fun j hj => ?_⟩⟩
    simp only [Go.Sort.grow, World.drewN]
    rw [Array.getElem?_append_left hj]
  have HX : Hid (∀ U, Below W.heap.size W U → U.cell? ⟨w.heap.size, 0, none⟩ = some (.int .i64 t1) ∧ U.cell? ⟨w.heap.size, 1, none⟩ = some (.int .i64 t2)) := fun U hU => ⟨(oT.below hU).cell 0, (oT.below hU).cell 1⟩
  have HRw : Hid (∀ U, Below W.heap.size W U → IsRow 1 stC U ra rn rc rest) := fun U hU => (hR.below bW).below hU
  obtain ⟨sp, ep⟩ : ∃ s : ByteArray, s = ⟨(Lib.itoa p).toArray⟩ := ⟨_, rfl⟩
  obtain ⟨s1, e1⟩ : ∃ s : ByteArray, s = ⟨(Lib.itoa t1).toArray⟩ := ⟨_, rfl⟩
  obtain ⟨s2, e2⟩ : ∃ s : ByteArray, s = ⟨(Lib.itoa t2).toArray⟩ := ⟨_, rfl⟩
  have HC0 : Hid (∀ U, Below W.heap.size W U → Calls Tryd.prog 50 #[.int .i64 p] U fun e w' => e = .returned (.string sp) ∧ Below U.heap.size U w') := fun U hU => by rw [ep]; exact HI.out p U hp hU
  have HC1 : Hid (∀ U, Below W.heap.size W U → Calls Tryd.prog 50 #[.int .i64 t1] U fun e w' => e = .returned (.string s1) ∧ Below U.heap.size U w') := fun U hU => by rw [e1]; exact HI.out t1 U h1 hU
  have HC2 : Hid (∀ U, Below W.heap.size W U → Calls Tryd.prog 50 #[.int .i64 t2] U fun e w' => e = .returned (.string s2) ∧ Below U.heap.size U w') := fun U hU => by rw [e2]; exact HI.out t2 U h2 hU
  have HD : Hid (([sp, s1, s2] ++ rest).map (·.data.toList) = [Lib.itoa p, Lib.itoa t1, Lib.itoa t2] ++ rest.map (·.data.toList)) := by
    show _ = _
    rw [ep, e1, e2]
    simp
  have HL : Hid ((Lib.join ([Lib.itoa p, Lib.itoa t1, Lib.itoa t2] ++ rest.map (·.data.toList)) [32]).length ≤ 217) := hln
  obtain ⟨J, eJ⟩ : ∃ J, J = Lib.join ([Lib.itoa p, Lib.itoa t1, Lib.itoa t2] ++ rest.map (·.data.toList)) [32] := ⟨_, rfl⟩
  have HJ : Hid (lineBy p t1 t2 rest = ⟨J.toArray⟩ ++ ⟨#[10]⟩) := by show _ = _; rw [eJ]; rfl
  have HJ2 : Hid (Lib.join (([sp, s1, s2] ++ rest).map (·.data.toList)) [32] = J) := by show _ = _; rw [HD.out, eJ]
  have hJl : J.length ≤ 217 := by rw [eJ]; exact hln
  clear ep e1 e2 eJ HD HL HI hln oT hR hp h1 h2 hz hT
  go_enter Tryd.func49, Tryd.ntmps49
  go_upto_region 1 with (fail)
  rw [← hW]
  clear hW
  refine wp_region_inv (by kernel_rfl) [8, 9, 10, 11, 12, 13, 14, 15, 16, 17, 18, 7] (fun L T u => ∃ (a6 : Option Addr) (c6 : Nat) (bA : Nat), True ∧ (L 0 = true → T 8 = .int .i64 p) ∧ (L 1 = true → T 9 = .string sp) ∧ (L 2 = true → T 10 = .pointer (some ⟨w.heap.size, 0, none⟩)) ∧ (L 3 = true → T 11 = .int .i64 t1) ∧ (L 4 = true → T 12 = .string s1) ∧ (L 5 = true → T 13 = .pointer (some ⟨w.heap.size, 1, none⟩)) ∧ (L 6 = true → T 14 = .int .i64 t2) ∧ (L 7 = true → T 15 = .string s2) ∧ (L 9 = true → T 17 = .slice ra rn rc) ∧ (L 10 = true → T 18 = .slice a6 (3 + rn) c6) ∧ (L 11 = true → T 7 = .slice a6 (3 + rn) c6) ∧ (L 10 = false → Below W.heap.size W u) ∧ (L 10 = true → (IsRow 1 stC u a6 (3 + rn) c6 ([sp, s1, s2] ++ rest) ∧ Below W.heap.size W u)) ∧ (L 8 = true → L 10 = false → (T 16 = .slice (some ⟨bA, 0, none⟩) 3 3 ∧ W.heap.size ≤ bA ∧ bA < u.heap.size)) ∧ (L 8 = true → L 10 = false → u.ownsRow W.heap.size 9 1 (.slice (some ⟨bA, 0, none⟩) 3 3) 3 (flat stC [sp, s1, s2]))) (by decide) (by kernel_rfl) (by kernel_rfl) ?_ ?_ ?_
  · exact ⟨none, 0, 0, trivial, nofun, nofun, nofun, nofun, nofun, nofun, nofun, nofun, nofun, nofun, nofun, fun _ => (Below.refl _ _).drew, nofun, nofun, nofun⟩
  · refine ⟨?_, ?_, ?_, ?_, ?_, ?_, ?_, ?_, ?_, ?_, ?_, ?_, trivial⟩
    · rintro L T u hd hk hcl ⟨a6, c6, bA, hb, p0, p1, p2, p3, p4, p5, p6, p7, p9, p10, p11, c1, c2, pa8, bv8⟩ K hK
      simp only [fr, Act.put, List.setIfInBounds_toArray, List.set_cons_zero, List.set_cons_succ, updO] at hK ⊢
      simp [Region.binds] at hd
      rw [if_pos (by rfl)]
      simp only [Oper.wpv]
      go_simp
      exact hK _ _ ⟨a6, c6, bA, hb, fun _ => rfl, p1, p2, p3, p4, p5, p6, p7, p9, p10, p11, c1, c2, pa8, bv8⟩
    · rintro L T u hd hk hcl ⟨a6, c6, bA, hb, p0, p1, p2, p3, p4, p5, p6, p7, p9, p10, p11, c1, c2, pa8, bv8⟩ K hK
      simp only [fr, Act.put, List.setIfInBounds_toArray, List.set_cons_zero, List.set_cons_succ, updO] at hK ⊢
      simp [Region.binds] at hd
      have g0 := p0 (by simp [hd])
      have k10 := hcl 10 _ rfl
      simp [Region.binds] at k10
      have k8 := hcl 8 _ rfl
      simp [Region.binds] at k8
      have hE : L 10 = false := by cases h : L 10 with | false => rfl | true => have a10 := k10 h; have a8 := k8 (by simp [a10]); simp [hk] at a8
      rw [if_pos (by rfl)]
      simp only [Oper.wpv]
      go_simp
      refine (HC0.out u (c1 hE)).mono ?_
      rintro e u1 ⟨rfl, hg⟩
      exact hK _ _ ⟨a6, c6, bA, hb, p0, fun _ => rfl, p2, p3, p4, p5, p6, p7, p9, p10, p11, fun _ => lT (c1 hE) hg, fun h => absurd (show L 10 = true from h) (by simp [hE]), fun h0 h1 => ⟨(pa8 h0 h1).1, (pa8 h0 h1).2.1, Nat.lt_of_lt_of_le (pa8 h0 h1).2.2 hg.size⟩, fun h0 h1 => own_below (bv8 h0 h1) hg⟩
    · rintro L T u hd hk hcl ⟨a6, c6, bA, hb, p0, p1, p2, p3, p4, p5, p6, p7, p9, p10, p11, c1, c2, pa8, bv8⟩ K hK
      simp only [fr, Act.put, List.setIfInBounds_toArray, List.set_cons_zero, List.set_cons_succ, updO] at hK ⊢
      simp [Region.binds] at hd
      rw [if_pos (by rfl)]
      simp only [Oper.wpv]
      go_simp
      exact hK _ _ ⟨a6, c6, bA, hb, p0, p1, fun _ => rfl, p3, p4, p5, p6, p7, p9, p10, p11, c1, c2, pa8, bv8⟩
    · rintro L T u hd hk hcl ⟨a6, c6, bA, hb, p0, p1, p2, p3, p4, p5, p6, p7, p9, p10, p11, c1, c2, pa8, bv8⟩ K hK
      simp only [fr, Act.put, List.setIfInBounds_toArray, List.set_cons_zero, List.set_cons_succ, updO] at hK ⊢
      simp [Region.binds] at hd
      have g2 := p2 (by simp [hd])
      have k10 := hcl 10 _ rfl
      simp [Region.binds] at k10
      have k8 := hcl 8 _ rfl
      simp [Region.binds] at k8
      have k4 := hcl 4 _ rfl
      simp [Region.binds] at k4
      have hE : L 10 = false := by cases h : L 10 with | false => rfl | true => have a10 := k10 h; have a8 := k8 (by simp [a10]); have a4 := k4 (by simp [a8]); simp [hk] at a4
      obtain ⟨x0, x1⟩ := HX.out u (c1 hE)
      rw [if_pos (by rfl)]
      simp only [Oper.wpv]
      go_simp
      exact hK _ _ ⟨a6, c6, bA, hb, p0, p1, p2, fun _ => rfl, p4, p5, p6, p7, p9, p10, p11, c1, c2, pa8, bv8⟩
    · rintro L T u hd hk hcl ⟨a6, c6, bA, hb, p0, p1, p2, p3, p4, p5, p6, p7, p9, p10, p11, c1, c2, pa8, bv8⟩ K hK
      simp only [fr, Act.put, List.setIfInBounds_toArray, List.set_cons_zero, List.set_cons_succ, updO] at hK ⊢
      simp [Region.binds] at hd
      have g3 := p3 (by simp [hd])
      have k10 := hcl 10 _ rfl
      simp [Region.binds] at k10
      have k8 := hcl 8 _ rfl
      simp [Region.binds] at k8
      have hE : L 10 = false := by cases h : L 10 with | false => rfl | true => have a10 := k10 h; have a8 := k8 (by simp [a10]); simp [hk] at a8
      rw [if_pos (by rfl)]
      simp only [Oper.wpv]
      go_simp
      refine (HC1.out u (c1 hE)).mono ?_
      rintro e u1 ⟨rfl, hg⟩
      exact hK _ _ ⟨a6, c6, bA, hb, p0, p1, p2, p3, fun _ => rfl, p5, p6, p7, p9, p10, p11, fun _ => lT (c1 hE) hg, fun h => absurd (show L 10 = true from h) (by simp [hE]), fun h0 h1 => ⟨(pa8 h0 h1).1, (pa8 h0 h1).2.1, Nat.lt_of_lt_of_le (pa8 h0 h1).2.2 hg.size⟩, fun h0 h1 => own_below (bv8 h0 h1) hg⟩
    · rintro L T u hd hk hcl ⟨a6, c6, bA, hb, p0, p1, p2, p3, p4, p5, p6, p7, p9, p10, p11, c1, c2, pa8, bv8⟩ K hK
      simp only [fr, Act.put, List.setIfInBounds_toArray, List.set_cons_zero, List.set_cons_succ, updO] at hK ⊢
      simp [Region.binds] at hd
      rw [if_pos (by rfl)]
      simp only [Oper.wpv]
      go_simp
      exact hK _ _ ⟨a6, c6, bA, hb, p0, p1, p2, p3, p4, fun _ => rfl, p6, p7, p9, p10, p11, c1, c2, pa8, bv8⟩
    · rintro L T u hd hk hcl ⟨a6, c6, bA, hb, p0, p1, p2, p3, p4, p5, p6, p7, p9, p10, p11, c1, c2, pa8, bv8⟩ K hK
      simp only [fr, Act.put, List.setIfInBounds_toArray, List.set_cons_zero, List.set_cons_succ, updO] at hK ⊢
      simp [Region.binds] at hd
      have g5 := p5 (by simp [hd])
      have k10 := hcl 10 _ rfl
      simp [Region.binds] at k10
      have k8 := hcl 8 _ rfl
      simp [Region.binds] at k8
      have k7 := hcl 7 _ rfl
      simp [Region.binds] at k7
      have hE : L 10 = false := by cases h : L 10 with | false => rfl | true => have a10 := k10 h; have a8 := k8 (by simp [a10]); have a7 := k7 (by simp [a8]); simp [hk] at a7
      obtain ⟨x0, x1⟩ := HX.out u (c1 hE)
      rw [if_pos (by rfl)]
      simp only [Oper.wpv]
      go_simp
      exact hK _ _ ⟨a6, c6, bA, hb, p0, p1, p2, p3, p4, p5, fun _ => rfl, p7, p9, p10, p11, c1, c2, pa8, bv8⟩
    · rintro L T u hd hk hcl ⟨a6, c6, bA, hb, p0, p1, p2, p3, p4, p5, p6, p7, p9, p10, p11, c1, c2, pa8, bv8⟩ K hK
      simp only [fr, Act.put, List.setIfInBounds_toArray, List.set_cons_zero, List.set_cons_succ, updO] at hK ⊢
      simp [Region.binds] at hd
      have g6 := p6 (by simp [hd])
      have k10 := hcl 10 _ rfl
      simp [Region.binds] at k10
      have k8 := hcl 8 _ rfl
      simp [Region.binds] at k8
      have hE : L 10 = false := by cases h : L 10 with | false => rfl | true => have a10 := k10 h; have a8 := k8 (by simp [a10]); simp [hk] at a8
      rw [if_pos (by rfl)]
      simp only [Oper.wpv]
      go_simp
      refine (HC2.out u (c1 hE)).mono ?_
      rintro e u1 ⟨rfl, hg⟩
      exact hK _ _ ⟨a6, c6, bA, hb, p0, p1, p2, p3, p4, p5, p6, fun _ => rfl, p9, p10, p11, fun _ => lT (c1 hE) hg, fun h => absurd (show L 10 = true from h) (by simp [hE]), fun h0 h1 => ⟨(pa8 h0 h1).1, (pa8 h0 h1).2.1, Nat.lt_of_lt_of_le (pa8 h0 h1).2.2 hg.size⟩, fun h0 h1 => own_below (bv8 h0 h1) hg⟩
    · rintro L T u hd hk hcl ⟨a6, c6, bA, hb, p0, p1, p2, p3, p4, p5, p6, p7, p9, p10, p11, c1, c2, pa8, bv8⟩ K hK
      simp only [fr, Act.put, List.setIfInBounds_toArray, List.set_cons_zero, List.set_cons_succ, updO] at hK ⊢
      simp [Region.binds] at hd
      have k10 := hcl 10 _ rfl
      simp [Region.binds] at k10
      have hE : L 10 = false := by cases h : L 10 with | false => rfl | true => have a10 := k10 h; simp [hk] at a10
      have g1 := p1 (by simp [hd])
      have g4 := p4 (by simp [hd])
      have g7 := p7 (by simp [hd])
      have k11 := hcl 11 _ rfl
      simp [Region.binds] at k11
      have hg : Below u.heap.size u (u.alloc (.cells #[.string sp, .string s1, .string s2] 9)) := (Below.refl _ _).alloc (Nat.le_refl _) _
      rw [if_pos (by rfl)]
      simp only [Oper.wpv]
      go_simp
      exact hK _ _ ⟨a6, c6, u.heap.size, hb, p0, p1, p2, p3, p4, p5, p6, p7, p9, p10, p11, fun _ => lT (c1 hE) hg, fun h => absurd (show L 10 = true from h) (by simp [hE]), fun _ _ => ⟨rfl, (c1 hE).size, by simp⟩, fun _ _ => ownB (row_new u 9 [sp, s1, s2] #[.string sp, .string s1, .string s2] 3 rfl rfl (by unfold maxLen; omega) (by decide)) (c1 hE).size⟩
    · rintro L T u hd hk hcl ⟨a6, c6, bA, hb, p0, p1, p2, p3, p4, p5, p6, p7, p9, p10, p11, c1, c2, pa8, bv8⟩ K hK
      simp only [fr, Act.put, List.setIfInBounds_toArray, List.set_cons_zero, List.set_cons_succ, updO] at hK ⊢
      simp [Region.binds] at hd
      rw [if_pos (by rfl)]
      simp only [Oper.wpv]
      go_simp
      exact hK _ _ ⟨a6, c6, bA, hb, p0, p1, p2, p3, p4, p5, p6, p7, fun _ => rfl, p10, p11, c1, c2, pa8, bv8⟩
    · rintro L T u hd hk hcl ⟨a6, c6, bA, hb, p0, p1, p2, p3, p4, p5, p6, p7, p9, p10, p11, c1, c2, pa8, bv8⟩ K hK
      simp only [fr, Act.put, List.setIfInBounds_toArray, List.set_cons_zero, List.set_cons_succ, updO] at hK ⊢
      simp [Region.binds] at hd
      have hE : L 10 = false := hk
      have g8 := pa8 (by simp [hd]) hE
      have g9 := p9 (by simp [hd])
      have k11 := hcl 11 _ rfl
      simp [Region.binds] at k11
      have HOW := bv8 (by simp [hd]) hE
      obtain ⟨q1, q2, q3⟩ := g8
      rw [if_pos (by rfl)]
      simp only [Oper.wpv]
      refine St.wpv_append_row ES (.tmp 16) (.tmp 17) (by rfl) W.heap.size (.slice (some ⟨bA, 0, none⟩) 3 3) 3 [sp, s1, s2] q1 HOW ra rn rc rest g9 (HRw.out u (c1 hE)) (by unfold maxLen; omega) (by omega) (c1 hE).size ?_
      intro a6 c6 u6 own6 gr6 at6
      have hu6 : Below W.heap.size W u6 := (c1 hE).grown gr6 (c1 hE).size (fun q hq => by have := Option.some.inj (show some bA = some q from hq); omega)
      have hrow6 := (own_isRow st_len own6 (by simp; omega)).1
      exact hK _ _ ⟨a6, c6, bA, hb, p0, p1, p2, p3, p4, p5, p6, p7, p9, fun _ => rfl, fun h => absurd (show L 11 = true from h) (by intro hh; have a11 := k11 hh; simp [hk] at a11), fun h0 => Bool.noConfusion (show true = false from h0), fun _ => ⟨hrow6, hu6⟩, fun h0 h1 => Bool.noConfusion (show true = false from h1), fun h0 h1 => Bool.noConfusion (show true = false from h1)⟩
    · rintro L T u hd hk hcl ⟨a6, c6, bA, hb, p0, p1, p2, p3, p4, p5, p6, p7, p9, p10, p11, c1, c2, pa8, bv8⟩ K hK
      simp only [fr, Act.put, List.setIfInBounds_toArray, List.set_cons_zero, List.set_cons_succ, updO] at hK ⊢
      simp [Region.binds] at hd
      have g10 := p10 (by simp [hd])
      rw [if_pos (by rfl)]
      simp only [Oper.wpv]
      go_simp
      exact hK _ _ ⟨a6, c6, bA, hb, p0, p1, p2, p3, p4, p5, p6, p7, p9, p10, fun _ => rfl, c1, c2, pa8, bv8⟩
  · rintro L T u hl ⟨a6, c6, bA, hb, p0, p1, p2, p3, p4, p5, p6, p7, p9, p10, p11, c1, c2, pa8, bv8⟩
    simp only [fr, Act.put, List.setIfInBounds_toArray, List.set_cons_zero, List.set_cons_succ]
    have h7 := p11 (hl 11 (by decide))
    obtain ⟨hrow, hb⟩ := c2 (hl 10 (by decide))
    clear p0 p1 p2 p3 p4 p5 p6 p7 p9 p10 p11 c1 c2 pa8 bv8 HC0 HC1 HC2 HX HRw
    rw [h7]
    clear h7
    obtain ⟨g1, g2, g3, g4, g5⟩ := hrow
    obtain ⟨bk, off, rfl, hbk, hcl⟩ := g5 (by omega)
    have hJn := Tryd.strings_Join bk off c6 ([sp, s1, s2] ++ rest) ⟨#[32]⟩ u (fun j x hx => by
      have hj := (List.getElem?_eq_some_iff.1 hx).1
      have := hcl j (by omega) 0 (by decide)
      rw [Nat.mul_one, Nat.add_zero] at this
      rw [this]
      have hx2 : ([sp, s1, s2] ++ rest).getD j default = x := by rw [List.getD, hx]; rfl
      rw [hx2]
      rfl) hbk (by omega) (by omega) (by rw [show (⟨#[32]⟩ : ByteArray).data.toList = [32] from rfl, HJ2.out]; omega)
    rw [show (⟨#[32]⟩ : ByteArray).data.toList = [32] from rfl, HJ2.out, g1] at hJn
    have hz9 : ¬ (9223372036854775807 < J.length + 1) := by omega
    clear hcl g1 g2 g3 g4 HJ2
    go_wp2_with (go_at_call 88; refine hJn.mono ?_; rintro e u2 ⟨rfl, hu2⟩)
    go_ret
    exact ⟨congrArg (fun z => Ending.returned (.string z)) HJ.out.symm, (bW.trans (hb.mono bW.size)).trans (hu2.mono (lT bW hb).size)⟩
end Go.Proofs.YtgohpgollpjlnaaDoor.Cn
/- console's list: who is prepared, line by line, of the labels that are seen. -/
namespace Go.Proofs.YtgohpgollpjlnaaDoor.Cn
open Go.ChangeShapes Go.WideShapes Go.ChangeAt Go.RowKit
open Go.Proofs.YtgohpgollpjlnaaDoor.St (BoxN boxn_new SV IsStore IsRow DbV storeOK TxWf own_below)
open Go.Proofs.YtgohpgollpjlnaaDoor.Pt (IsStores)
set_option linter.unusedVariables false

def ageB (a : Int) : ByteArray := ⟨(Lib.itoa a).toArray⟩
def dbLine (k : Int) (d : DbV) : List UInt8 := (lineBy k d.t.1 d.t.2 [ageB d.age]).data.toList
def listDb (k : Int) (s : SV) : List DbV → List UInt8
  | [] => []
  | d :: r => (if prepB s d.t then dbLine k d else []) ++ listDb k s r
def listGo (ls : List (Int × Int)) (l : Int) : Nat → List SV → List UInt8
  | _, [] => []
  | k, s :: r => (if seesP ls l k then listDb k s s.doubts else []) ++ listGo ls l (k + 1) r
theorem listGo_at {ls : List (Int × Int)} {l : Int} {ss : List SV} {k : Nat} (hk : k < ss.length) : listGo ls l k (ss.drop k) = (if seesP ls l k then listDb k (ss.getD k default) (ss.getD k default).doubts else []) ++ listGo ls l (k + 1) (ss.drop (k + 1)) := by
  rw [List.drop_eq_getElem_cons hk, listGo]
  have : ss.getD k default = ss[k] := by simp [List.getD, hk]
  rw [this]
theorem listDb_at {k : Int} {s : SV} {ds : List DbV} {i : Nat} (hi : i < ds.length) : listDb k s (ds.drop i) = (if prepB s (ds.getD i default).t then dbLine k (ds.getD i default) else []) ++ listDb k s (ds.drop (i + 1)) := by
  rw [List.drop_eq_getElem_cons hi, listDb]
  have : ds.getD i default = ds[i] := by simp [List.getD, hi]
  rw [this]
theorem box_words {u : World} {q : Nat} {x : ByteArray} (h : BoxN u q 1 [.string x]) : IsRow 1 stC u (some ⟨q, 0, none⟩) 1 1 [x] := by
  refine ⟨rfl, Nat.le_refl _, by unfold maxLen; omega, (fun e => by cases e), fun _ => ⟨q, 0, rfl, h.lt, fun i hi j hj => ?_⟩⟩
  obtain rfl : i = 0 := by omega
  obtain rfl : j = 0 := by omega
  exact (h.c 0 (by decide)).1
theorem ageB_size {a : Int} (h : i64 a) : (ageB a).size ≤ 30 := by
  have := Lib.itoa_length_le a h.1 h.2
  show (Lib.itoa a).toArray.size ≤ 30
  simp
  omega
set_option maxRecDepth 100000 in
set_option maxHeartbeats 8000000 in
theorem list_any (s p : Int) (a : Option Addr) (len cap : Nat) (ls : List (Int × Int)) (l : Int) (sa : Option Addr) (n sc : Nat) (ss : List SV) (w : World) (hl : IsLabs w a len cap ls) (h6 : len ≤ 6) (hl0 : 0 ≤ l) (hl1 : l < (len : Int)) (hS : IsStores w sa n sc ss) (hn : n ≤ 6)
    (hI : ∀ i, i < n → ∀ d ∈ (ss.getD i default).doubts, i64 d.t.1 ∧ i64 d.t.2 ∧ i64 d.age) (hZ : (listGo ls l 0 ss).length ≤ 140737488355328) (hT : ∀ U, Below w.heap.size w U → Lib.TabIs Tryd.prog U "internal/strconv.uint64pow10" .u64 Lib.pow10Tab) :
    Calls Tryd.prog 24 #[.agg #[.int .i64 s, .slice a len cap, .int .i64 p], .int .i64 l, .slice sa n sc] w fun e w' => e = .returned (.string ⟨(listGo ls l 0 ss).toArray⟩) ∧ Below w.heap.size w w' := by
  obtain ⟨TOT, eTOT⟩ : ∃ T, T = listGo ls l 0 ss := ⟨_, rfl⟩
  rw [← eTOT] at hZ ⊢
  have hsl := hS.row.1
  obtain ⟨V, hV⟩ : ∃ V : World, V = (w.alloc (.cells #[.int .i64 s, .slice a len cap, .int .i64 p] 32)).alloc (.cells #[.pointer none, .slice none 0 0] 98) := ⟨_, rfl⟩
  have oC : ObAt V w.heap.size #[.int .i64 s, .slice a len cap, .int .i64 p] 32 := by rw [hV]; exact (ObAt.new w _ _).below ((Below.refl _ _).alloc (Nat.le_refl _) _)
  have hB0 : Bld (w.heap.size + 1) (w.heap.size + 1) [] V := by
    rw [hV]
    have h8 := Bld.new (w.alloc (.cells #[.int .i64 s, .slice a len cap, .int .i64 p] 32)) (w.heap.size + 1) (by simp)
    simpa using h8
  have bV : Below w.heap.size w V := by rw [hV]; exact ((Below.refl _ _).alloc (Nat.le_refl _) _).alloc (by simp) _
  have zV : V.heap.size = w.heap.size + 2 := by rw [hV]; simp
  have KV : Hid (∀ U, Below (w.heap.size + 1) V U → ObAt U w.heap.size #[.int .i64 s, .slice a len cap, .int .i64 p] 32 ∧ IsStores U sa n sc ss ∧ IsLabs U a len cap ls ∧ Below w.heap.size w U) := fun U hU => by
    have b2 : Below w.heap.size w U := bV.trans (hU.mono (by omega))
    exact ⟨(hU.block w.heap.size (by omega)).trans oC, hS.below b2, hl.below b2, b2⟩
  have KSee : Hid (∀ (U : World) (k : Int), Below (w.heap.size + 1) V U → Calls Tryd.prog 46 #[.agg #[.int .i64 s, .slice a len cap, .int .i64 p], .int .i64 l, .int .i64 k] U fun e w' => e = .returned (.bool (seesP ls l k)) ∧ Below U.heap.size U w') := fun U k hU => sees_any s p a len cap ls l k U (KV.out U hU).2.2.1 h6 hl0 hl1
  have KT : Hid (∀ U, Below (w.heap.size + 1) V U → ∀ X, Below U.heap.size U X → Lib.TabIs Tryd.prog X "internal/strconv.uint64pow10" .u64 Lib.pow10Tab) := fun U hU X hX => hT X ((KV.out U hU).2.2.2.trans (hX.mono (KV.out U hU).2.2.2.size))
  have HI : Hid (∀ i, i < n → ∀ d ∈ (ss.getD i default).doubts, i64 d.t.1 ∧ i64 d.t.2 ∧ i64 d.age) := hI
  have HTot : Hid ([] ++ listGo ls l 0 (ss.drop 0) = TOT) := by show _ = _; rw [eTOT]; rfl
  have HZ : Hid (TOT.length ≤ 140737488355328) := hZ
  clear hl hS hI hT oC eTOT hZ h6 hl0 hl1
  go_enter Tryd.func24, Tryd.ntmps24
  go_upto_region 2 with (fail)
  rw [← hV]
  clear hV
  have bV0 : Below (w.heap.size + 1) V V := Below.refl _ _
  go_upto_region 3 with (fail)
  go_loopw [14, 8, 9] (fun s14 _ _ wo => ∃ (k : Nat) (lc : List UInt8), s14 = .int .i64 (k : Int) ∧ k ≤ n ∧ Bld (w.heap.size + 1) (w.heap.size + 1) lc wo ∧ Below (w.heap.size + 1) V wo ∧ Hid (lc ++ listGo ls l k (ss.drop k) = TOT)) (fun s14 _ _ _ => n - (intOf s14).toNat)
  case atStart => exact ⟨0, [], rfl, by omega, hB0, bV0, HTot⟩
  case round =>
    obtain ⟨k, lc, rfl, hk, hBd, hbw, hTo⟩ := hrel
    obtain ⟨wo, ewo⟩ : ∃ X : World, X = wr := ⟨_, rfl⟩
    subst ewo
    clear hB0 HTot bV0
    have zwo : w.heap.size + 2 ≤ wo.heap.size := by have := hbw.size; omega
    by_cases hlt : k < n
    · have hlt' : (k : Int) < (n : Int) := by omega
      obtain ⟨oCr, hSr, -, -⟩ := KV.out wo hbw
      have hSk := (hSr.each k hlt).1
      obtain ⟨b1, o1, rfl, zb1, e0, e1, e2, e3⟩ := hSr.at hlt
      have HT2 : Hid (lc ++ ((if seesP ls l k then listDb k (ss.getD k default) (ss.getD k default).doubts else []) ++ listGo ls l (k + 1) (ss.drop (k + 1))) = TOT) := by show _ = _; rw [← listGo_at (by omega)]; exact hTo.out
      have hIk := HI.out k hlt
      obtain ⟨r, er⟩ : ∃ r, r = ss.getD k default := ⟨_, rfl⟩
      rw [← er] at hSk e0 e1 e2 e3 HT2 hIk
      have KX : Hid (∀ U, Below (w.heap.size + 1) V U → IsStore U r) := fun U hU => by rw [er]; exact ((KV.out U hU).2.1.each k hlt).1
      clear er hTo hSr
      obtain ⟨ra0, rn0, rc0, ra1, rn1, rc1, ra2, rn2, rc2, ra3, rn3, rc3, ri, rl, rd, ro⟩ := r
      simp only [] at e0 e1 e2 e3 HT2 hIk
      go_upto_region 5 with (fail)
      obtain ⟨X1, eX1⟩ : ∃ X : World, X = wo.alloc (.cells #[.slice ra0 rn0 rc0, .slice ra1 rn1 rc1, .slice ra2 rn2 rc2, .slice ra3 rn3 rc3] 55) := ⟨_, rfl⟩
      have bX1 : Below wo.heap.size wo X1 := by rw [eX1]; exact (Below.refl _ _).alloc (Nat.le_refl _) _
      have oS : ObAt X1 wo.heap.size #[.slice ra0 rn0 rc0, .slice ra1 rn1 rc1, .slice ra2 rn2 rc2, .slice ra3 rn3 rc3] 55 := by rw [eX1]; exact ObAt.new wo _ _
      rw [← eX1]
      clear eX1 e0 e1 e2 e3
      have bX1V : Below (w.heap.size + 1) V X1 := hbw.trans (bX1.mono (by omega))
      have oCx := oCr.below bX1
      have c0 : X1.cell? ⟨w.heap.size, 0, none⟩ = some (.int .i64 s) := oCx.cell 0
      have c1 : X1.cell? ⟨w.heap.size, 1, none⟩ = some (.slice a len cap) := oCx.cell 1
      have c2 : X1.cell? ⟨w.heap.size, 2, none⟩ = some (.int .i64 p) := oCx.cell 2
      have zc := oCx.lt
      have hSee := KSee.out X1 k bX1V
      clear oCr oCx
      obtain ⟨SE, eSE⟩ : ∃ SE, SE = seesP ls l (k : Int) := ⟨_, rfl⟩
      rw [← eSE] at hSee HT2
      clear eSE
      cases SE with
      | false =>
        simp only [Bool.false_eq_true, if_false, List.nil_append] at HT2
        have hBd1 := hBd.below bX1
        clear hSk hIk oS hBd
        go_wp2_with (go_at_call 46; refine hSee.mono ?_; rintro e U2 ⟨rfl, bU2⟩)
        go_roundw
        case rel => exact ⟨k + 1, lc, by go_num, by omega, hBd1.below bU2, bX1V.trans (bU2.mono (by have := bX1.size; omega)), HT2⟩
        case measure => simp [intOf]; omega
      | true =>
        simp only [if_true] at HT2
        go_upto_region 6 with (go_at_call 46; refine hSee.mono ?_; rintro e X2 ⟨rfl, bX2⟩)
        clear c0 c1 c2 zc hSee
        have hBd2 := (hBd.below bX1).below bX2
        have oS2 := oS.below bX2
        have bX2V : Below (w.heap.size + 1) V X2 := bX1V.trans (bX2.mono (by have := bX1.size; omega))
        have hD0 := ((hSk.below bX1).below bX2).doubts
        have hDl := hD0.1
        have hDm : rn2 ≤ 9223372036854775807 := by have h8 := hD0.2.1; have h9 := hD0.2.2.1; unfold maxLen at h9; simp only [] at h8 h9; omega
        have HT3 : Hid (lc ++ listDb k ⟨ra0, rn0, rc0, ra1, rn1, rc1, ra2, rn2, rc2, ra3, rn3, rc3, ri, rl, rd, ro⟩ (rd.drop 0) ++ listGo ls l (k + 1) (ss.drop (k + 1)) = TOT) := by show _ = _; rw [List.append_assoc]; exact HT2.out
        have d0 : X2.cell? ⟨wo.heap.size, 2, none⟩ = some (.slice ra2 rn2 rc2) := oS2.cell 2
        have zd := oS2.lt
        clear hSk oS hBd HT2 hD0
        go_upto_region 7 with (fail)
        clear d0 zd
        go_loopw [27, 11] (fun s27 _ wr => ∃ (j : Nat) (l1 : List UInt8), s27 = .int .i64 (j : Int) ∧ j ≤ rn2 ∧ Bld (w.heap.size + 1) (w.heap.size + 1) l1 wr ∧ Below (w.heap.size + 1) V wr ∧ ObAt wr wo.heap.size #[.slice ra0 rn0 rc0, .slice ra1 rn1 rc1, .slice ra2 rn2 rc2, .slice ra3 rn3 rc3] 55 ∧ Hid (l1 ++ listDb k ⟨ra0, rn0, rc0, ra1, rn1, rc1, ra2, rn2, rc2, ra3, rn3, rc3, ri, rl, rd, ro⟩ (rd.drop j) ++ listGo ls l (k + 1) (ss.drop (k + 1)) = TOT)) (fun s27 _ _ => rn2 - (intOf s27).toNat)
        case atStart => exact ⟨0, lc, rfl, by omega, hBd2, bX2V, oS2, HT3⟩
        case round =>
          obtain ⟨j, l1, rfl, hj, hB1, hby, oSy, hT1⟩ := hrel
          clear hBd2 oS2 HT3
          have zwr : w.heap.size + 2 ≤ wr.heap.size := by have := hby.size; omega
          by_cases hjl : j < rn2
          · have hjl' : (j : Int) < (rn2 : Int) := by omega
            have HJ : Hid (j + 1 ≤ rn2) := hjl
            have hjm : (j : Int) + 1 ≤ 9223372036854775807 := by omega
            have hSt := KX.out wr hby
            obtain ⟨b2, o2, rfl, zb2, hc⟩ := hSt.doubts.2.2.2.2 (by show 0 < rn2; omega)
            have e0 := hc j hjl 0 (by decide)
            have e1 := hc j hjl 1 (by decide)
            have e2 := hc j hjl 2 (by decide)
            have HT4 : Hid (l1 ++ ((if prepB ⟨ra0, rn0, rc0, ra1, rn1, rc1, some ⟨b2, o2, none⟩, rn2, rc2, ra3, rn3, rc3, ri, rl, rd, ro⟩ (rd.getD j default).t then dbLine k (rd.getD j default) else []) ++ listDb k ⟨ra0, rn0, rc0, ra1, rn1, rc1, some ⟨b2, o2, none⟩, rn2, rc2, ra3, rn3, rc3, ri, rl, rd, ro⟩ (rd.drop (j + 1))) ++ listGo ls l (k + 1) (ss.drop (k + 1)) = TOT) := by show _ = _; rw [← listDb_at (by omega)]; exact hT1.out
            have hIj := hIk (rd.getD j default) (by rw [List.getD, List.getElem?_eq_getElem (by omega)]; exact List.getElem_mem _)
            obtain ⟨d, ed⟩ : ∃ d, d = rd.getD j default := ⟨_, rfl⟩
            simp only [] at e0 e1 e2
            rw [← ed] at e0 e1 e2 HT4 hIj
            clear ed hT1 hc
            obtain ⟨⟨t1, t2⟩, ag⟩ := d
            simp only [DbV.cells, List.getElem?_cons_zero, List.getElem?_cons_succ, Nat.add_zero] at e0 e1 e2 HT4 hIj
            go_upto_region 9 with (fail)
            obtain ⟨Y1, eY1⟩ : ∃ X : World, X = wr.alloc (.cells #[.int .i64 t1, .int .i64 t2, .int .i64 ag] 60) := ⟨_, rfl⟩
            have bY1 : Below wr.heap.size wr Y1 := by rw [eY1]; exact (Below.refl _ _).alloc (Nat.le_refl _) _
            have oD : ObAt Y1 wr.heap.size #[.int .i64 t1, .int .i64 t2, .int .i64 ag] 60 := by rw [eY1]; exact ObAt.new wr _ _
            rw [← eY1]
            clear eY1 e0 e1 e2
            have bY1V : Below (w.heap.size + 1) V Y1 := hby.trans (bY1.mono (by omega))
            have oS1 := oSy.below bY1
            have hB2 := hB1.below bY1
            have f0 : Y1.cell? ⟨wr.heap.size, 0, none⟩ = some (.int .i64 t1) := oD.cell 0
            have f1 : Y1.cell? ⟨wr.heap.size, 1, none⟩ = some (.int .i64 t2) := oD.cell 1
            have f2 : Y1.cell? ⟨wr.heap.size, 2, none⟩ = some (.int .i64 ag) := oD.cell 2
            have zf := oD.lt
            have g0 : Y1.cell? ⟨wo.heap.size, 0, none⟩ = some (.slice ra0 rn0 rc0) := oS1.cell 0
            have g1 : Y1.cell? ⟨wo.heap.size, 1, none⟩ = some (.slice ra1 rn1 rc1) := oS1.cell 1
            have g2 : Y1.cell? ⟨wo.heap.size, 2, none⟩ = some (.slice (some ⟨b2, o2, none⟩) rn2 rc2) := oS1.cell 2
            have g3 : Y1.cell? ⟨wo.heap.size, 3, none⟩ = some (.slice ra3 rn3 rc3) := oS1.cell 3
            have zg := oS1.lt
            have hPr := prep_any ⟨ra0, rn0, rc0, ra1, rn1, rc1, some ⟨b2, o2, none⟩, rn2, rc2, ra3, rn3, rc3, ri, rl, rd, ro⟩ t1 t2 Y1 (hSt.below bY1)
            simp only [SV.val] at hPr
            obtain ⟨PB, ePB⟩ : ∃ x, x = prepB ⟨ra0, rn0, rc0, ra1, rn1, rc1, some ⟨b2, o2, none⟩, rn2, rc2, ra3, rn3, rc3, ri, rl, rd, ro⟩ (t1, t2) := ⟨_, rfl⟩
            rw [← ePB] at hPr HT4
            clear ePB hSt hB1 oSy
            cases PB with
            | false =>
              simp only [Bool.false_eq_true, if_false, List.nil_append] at HT4
              clear hIj oD
              go_wp2_with (go_at_call 47; refine hPr.mono ?_; rintro e U2 ⟨rfl, bU2⟩)
              go_roundw
              case rel => exact ⟨j + 1, l1, by go_num, HJ.out, hB2.below bU2, bY1V.trans (bU2.mono (by have := bY1.size; omega)), oS1.below bU2, HT4⟩
              case measure => have := HJ.out; simp [intOf]; omega
            | true =>
              simp only [if_true] at HT4
              go_upto_region 10 with (go_at_call 47; refine hPr.mono ?_; rintro e Y2 ⟨rfl, bY2⟩)
              clear f0 f1 f2 zf g0 g1 g2 g3 zg hPr
              have hB3 := hB2.below bY2
              have oS3 := oS1.below bY2
              have oD3 := oD.below bY2
              have bY2V : Below (w.heap.size + 1) V Y2 := bY1V.trans (bY2.mono (by have := bY1.size; omega))
              have zY2 : w.heap.size + 2 ≤ Y2.heap.size := by have := bY2V.size; omega
              obtain ⟨i1, i2, i3⟩ := hIj
              obtain ⟨agb, eag⟩ : ∃ x, x = ageB ag := ⟨_, rfl⟩
              obtain ⟨lnb, eln⟩ : ∃ x, x = lineBy k t1 t2 [agb] := ⟨_, rfl⟩
              have hLD : dbLine k ⟨(t1, t2), ag⟩ = lnb.data.toList := by rw [eln, eag]; rfl
              rw [hLD] at HT4
              have hlz : l1.length + lnb.size ≤ 140737488355328 := by
                have h8 := congrArg List.length HT4.out
                have h9 := HZ.out
                have h10 : lnb.data.toList.length = lnb.size := rfl
                simp only [List.length_append] at h8
                omega
              have HIt : Hid (∀ U, Below Y2.heap.size Y2 U → Calls Tryd.prog 50 #[.int .i64 ag] U fun e w' => e = .returned (.string agb) ∧ Below U.heap.size U w') := fun U hU => by
                refine (Tryd.strconv_Itoa ag i3.1 i3.2 U (KT.out Y2 bY2V U hU)).mono ?_
                rintro e w' ⟨rfl, kk, os, rfl⟩
                refine ⟨by rw [eag]; rfl, ⟨rfl, rfl, rfl, by simp [Go.Sort.grow, World.drewN], fun j hj => ?_⟩⟩
                simp only [Go.Sort.grow, World.drewN]
                rw [Array.getElem?_append_left hj]
              have HLn : Hid (∀ U (q : Nat), Below Y2.heap.size Y2 U → BoxN U q 1 [.string agb] → Calls Tryd.prog 49 #[.int .i64 (k : Int), .agg #[.int .i64 t1, .int .i64 t2], .slice (some ⟨q, 0, none⟩) 1 1] U fun e w' => e = .returned (.string lnb) ∧ Below U.heap.size U w') := fun U q hU hq => by
                rw [eln]
                exact line_any k t1 t2 (some ⟨q, 0, none⟩) 1 1 [agb] U (by unfold i64; omega) i1 i2 (box_words hq) (by omega) (fun x hx => by simp at hx; subst hx; rw [eag]; exact ageB_size i3) (fun X hX => KT.out Y2 bY2V X (hU.trans (hX.mono hU.size)))
              have HWr : Hid (∀ U, Below Y2.heap.size Y2 U → Calls Tryd.prog 48 #[.pointer (some ⟨w.heap.size + 1, 0, none⟩), .string lnb] U fun e w' => e = .returned (.tuple #[.int .i64 lnb.size, .nilIface]) ∧ (Bld (w.heap.size + 1) (w.heap.size + 1) (l1 ++ lnb.data.toList) w' ∧ Below (w.heap.size + 1) V w' ∧ ObAt w' wo.heap.size #[.slice ra0 rn0 rc0, .slice ra1 rn1 rc1, .slice (some ⟨b2, o2, none⟩) rn2 rc2, .slice ra3 rn3 rc3] 55)) := fun U hU => by
                have zU := hU.size
                refine (write_any (w.heap.size + 1) (w.heap.size + 1) l1 lnb U (hB3.below hU) hlz (by omega)).mono ?_
                rintro e w' ⟨rfl, h1, h2, h3⟩
                exact ⟨rfl, h1, (bY2V.trans (hU.mono (by omega))).trans h2, (oS3.below hU).kept h3 (by omega) (by decide)⟩
              have HXc : Hid (∀ U, Below Y2.heap.size Y2 U → U.cell? ⟨wr.heap.size, 0, none⟩ = some (.int .i64 t1) ∧ U.cell? ⟨wr.heap.size, 1, none⟩ = some (.int .i64 t2) ∧ U.cell? ⟨wr.heap.size, 2, none⟩ = some (.int .i64 ag)) := fun U hU => ⟨(oD3.below hU).cell 0, (oD3.below hU).cell 1, (oD3.below hU).cell 2⟩
              clear hB2 hB3 oS1 oS3 oD oD3 eln eag hLD i1 i2 i3 hlz
              refine wp_region_inv (by kernel_rfl) [35, 36, 37, 38, 39, 40, 41, 42, 43] (fun L T u => ∃ (bA : Nat), True ∧ (L 0 = true → T 35 = .int .i64 (k : Int)) ∧ (L 1 = true → T 36 = .pointer (some ⟨wr.heap.size, 0, none⟩)) ∧ (L 2 = true → T 37 = .agg #[.int .i64 t1, .int .i64 t2]) ∧ (L 3 = true → T 38 = .pointer (some ⟨wr.heap.size, 2, none⟩)) ∧ (L 4 = true → T 39 = .int .i64 ag) ∧ (L 5 = true → T 40 = .string agb) ∧ (L 7 = true → T 42 = .string lnb) ∧ (L 8 = false → Below Y2.heap.size Y2 u) ∧ (L 8 = true → (Bld (w.heap.size + 1) (w.heap.size + 1) (l1 ++ lnb.data.toList) u ∧ Below (w.heap.size + 1) V u ∧ ObAt u wo.heap.size #[.slice ra0 rn0 rc0, .slice ra1 rn1 rc1, .slice (some ⟨b2, o2, none⟩) rn2 rc2, .slice ra3 rn3 rc3] 55)) ∧ (L 6 = true → L 8 = false → (T 41 = .slice (some ⟨bA, 0, none⟩) 1 1 ∧ Y2.heap.size ≤ bA ∧ bA < u.heap.size)) ∧ (L 6 = true → L 8 = false → BoxN u bA 1 [.string agb])) (by decide) (by kernel_rfl) (by kernel_rfl) ?_ ?_ ?_
              · exact ⟨0, trivial, nofun, nofun, nofun, nofun, nofun, nofun, nofun, fun _ => (Below.refl _ _).drew, nofun, nofun, nofun⟩
              · refine ⟨?_, ?_, ?_, ?_, ?_, ?_, ?_, ?_, ?_, trivial⟩
                · rintro L T u hd hk hcl ⟨bA, hb, p0, p1, p2, p3, p4, p5, p7, c1, c2, pa6, bv6⟩ K hK
                  simp only [fr, Act.put, List.setIfInBounds_toArray, List.set_cons_zero, List.set_cons_succ, updO] at hK ⊢
                  simp [Region.binds] at hd
                  rw [if_pos (by rfl)]
                  simp only [Oper.wpv]
                  go_simp
                  exact hK _ _ ⟨bA, hb, fun _ => rfl, p1, p2, p3, p4, p5, p7, c1, c2, pa6, bv6⟩
                · rintro L T u hd hk hcl ⟨bA, hb, p0, p1, p2, p3, p4, p5, p7, c1, c2, pa6, bv6⟩ K hK
                  simp only [fr, Act.put, List.setIfInBounds_toArray, List.set_cons_zero, List.set_cons_succ, updO] at hK ⊢
                  simp [Region.binds] at hd
                  rw [if_pos (by rfl)]
                  simp only [Oper.wpv]
                  go_simp
                  exact hK _ _ ⟨bA, hb, p0, fun _ => rfl, p2, p3, p4, p5, p7, c1, c2, pa6, bv6⟩
                · rintro L T u hd hk hcl ⟨bA, hb, p0, p1, p2, p3, p4, p5, p7, c1, c2, pa6, bv6⟩ K hK
                  simp only [fr, Act.put, List.setIfInBounds_toArray, List.set_cons_zero, List.set_cons_succ, updO] at hK ⊢
                  simp [Region.binds] at hd
                  have g1 := p1 (by simp [hd])
                  have k8 := hcl 8 _ rfl
                  simp [Region.binds] at k8
                  have k7 := hcl 7 _ rfl
                  simp [Region.binds] at k7
                  have hE : L 8 = false := by cases h : L 8 with | false => rfl | true => have a8 := k8 h; have a7 := k7 (by simp [a8]); simp [hk] at a7
                  obtain ⟨x0, x1, x2⟩ := HXc.out u (c1 hE)
                  rw [if_pos (by rfl)]
                  simp only [Oper.wpv]
                  go_simp
                  exact hK _ _ ⟨bA, hb, p0, p1, fun _ => rfl, p3, p4, p5, p7, c1, c2, pa6, bv6⟩
                · rintro L T u hd hk hcl ⟨bA, hb, p0, p1, p2, p3, p4, p5, p7, c1, c2, pa6, bv6⟩ K hK
                  simp only [fr, Act.put, List.setIfInBounds_toArray, List.set_cons_zero, List.set_cons_succ, updO] at hK ⊢
                  simp [Region.binds] at hd
                  rw [if_pos (by rfl)]
                  simp only [Oper.wpv]
                  go_simp
                  exact hK _ _ ⟨bA, hb, p0, p1, p2, fun _ => rfl, p4, p5, p7, c1, c2, pa6, bv6⟩
                · rintro L T u hd hk hcl ⟨bA, hb, p0, p1, p2, p3, p4, p5, p7, c1, c2, pa6, bv6⟩ K hK
                  simp only [fr, Act.put, List.setIfInBounds_toArray, List.set_cons_zero, List.set_cons_succ, updO] at hK ⊢
                  simp [Region.binds] at hd
                  have g3 := p3 (by simp [hd])
                  have k8 := hcl 8 _ rfl
                  simp [Region.binds] at k8
                  have k7 := hcl 7 _ rfl
                  simp [Region.binds] at k7
                  have k6 := hcl 6 _ rfl
                  simp [Region.binds] at k6
                  have k5 := hcl 5 _ rfl
                  simp [Region.binds] at k5
                  have hE : L 8 = false := by cases h : L 8 with | false => rfl | true => have a8 := k8 h; have a7 := k7 (by simp [a8]); have a6 := k6 (by simp [a7]); have a5 := k5 (by simp [a6]); simp [hk] at a5
                  obtain ⟨x0, x1, x2⟩ := HXc.out u (c1 hE)
                  rw [if_pos (by rfl)]
                  simp only [Oper.wpv]
                  go_simp
                  exact hK _ _ ⟨bA, hb, p0, p1, p2, p3, fun _ => rfl, p5, p7, c1, c2, pa6, bv6⟩
                · rintro L T u hd hk hcl ⟨bA, hb, p0, p1, p2, p3, p4, p5, p7, c1, c2, pa6, bv6⟩ K hK
                  simp only [fr, Act.put, List.setIfInBounds_toArray, List.set_cons_zero, List.set_cons_succ, updO] at hK ⊢
                  simp [Region.binds] at hd
                  have g4 := p4 (by simp [hd])
                  have k8 := hcl 8 _ rfl
                  simp [Region.binds] at k8
                  have k7 := hcl 7 _ rfl
                  simp [Region.binds] at k7
                  have k6 := hcl 6 _ rfl
                  simp [Region.binds] at k6
                  have hE : L 8 = false := by cases h : L 8 with | false => rfl | true => have a8 := k8 h; have a7 := k7 (by simp [a8]); have a6 := k6 (by simp [a7]); simp [hk] at a6
                  rw [if_pos (by rfl)]
                  simp only [Oper.wpv]
                  go_simp
                  refine (HIt.out u (c1 hE)).mono ?_
                  rintro e u1 ⟨rfl, hg⟩
                  exact hK _ _ ⟨bA, hb, p0, p1, p2, p3, p4, fun _ => rfl, p7, fun _ => lT (c1 hE) hg, fun h => absurd (show L 8 = true from h) (by simp [hE]), fun h0 h1 => ⟨(pa6 h0 h1).1, (pa6 h0 h1).2.1, Nat.lt_of_lt_of_le (pa6 h0 h1).2.2 hg.size⟩, fun h0 h1 => (bv6 h0 h1).below hg (bv6 h0 h1).lt⟩
                · rintro L T u hd hk hcl ⟨bA, hb, p0, p1, p2, p3, p4, p5, p7, c1, c2, pa6, bv6⟩ K hK
                  simp only [fr, Act.put, List.setIfInBounds_toArray, List.set_cons_zero, List.set_cons_succ, updO] at hK ⊢
                  simp [Region.binds] at hd
                  have k8 := hcl 8 _ rfl
                  simp [Region.binds] at k8
                  have k7 := hcl 7 _ rfl
                  simp [Region.binds] at k7
                  have hE : L 8 = false := by cases h : L 8 with | false => rfl | true => have a8 := k8 h; have a7 := k7 (by simp [a8]); simp [hk] at a7
                  have g5 := p5 (by simp [hd])
                  have hg : Below u.heap.size u (u.alloc (.cells #[.string agb] 9)) := (Below.refl _ _).alloc (Nat.le_refl _) _
                  rw [if_pos (by rfl)]
                  simp only [Oper.wpv]
                  go_simp
                  exact hK _ _ ⟨u.heap.size, hb, p0, p1, p2, p3, p4, p5, p7, fun _ => lT (c1 hE) hg, fun h => absurd (show L 8 = true from h) (by simp [hE]), fun _ _ => ⟨rfl, (c1 hE).size, by simp⟩, fun _ _ => boxn_new u #[.string agb] 9 1 rfl⟩
                · rintro L T u hd hk hcl ⟨bA, hb, p0, p1, p2, p3, p4, p5, p7, c1, c2, pa6, bv6⟩ K hK
                  simp only [fr, Act.put, List.setIfInBounds_toArray, List.set_cons_zero, List.set_cons_succ, updO] at hK ⊢
                  simp [Region.binds] at hd
                  have k8 := hcl 8 _ rfl
                  simp [Region.binds] at k8
                  have hE : L 8 = false := by cases h : L 8 with | false => rfl | true => have a8 := k8 h; simp [hk] at a8
                  have g0 := p0 (by simp [hd])
                  have g2 := p2 (by simp [hd])
                  have g6 := pa6 (by simp [hd]) hE
                  have k8 := hcl 8 _ rfl
                  simp [Region.binds] at k8
                  have hE : L 8 = false := by cases h : L 8 with | false => rfl | true => have a8 := k8 h; simp [hk] at a8
                  rw [if_pos (by rfl)]
                  simp only [Oper.wpv]
                  go_simp
                  refine (HLn.out u bA (c1 hE) (bv6 (by simp [hd]) hE)).mono ?_
                  rintro e u1 ⟨rfl, hg⟩
                  exact hK _ _ ⟨bA, hb, p0, p1, p2, p3, p4, p5, fun _ => rfl, fun _ => lT (c1 hE) hg, fun h => absurd (show L 8 = true from h) (by simp [hE]), fun h0 h1 => ⟨(pa6 h0 h1).1, (pa6 h0 h1).2.1, Nat.lt_of_lt_of_le (pa6 h0 h1).2.2 hg.size⟩, fun h0 h1 => (bv6 h0 h1).below hg (bv6 h0 h1).lt⟩
                · rintro L T u hd hk hcl ⟨bA, hb, p0, p1, p2, p3, p4, p5, p7, c1, c2, pa6, bv6⟩ K hK
                  simp only [fr, Act.put, List.setIfInBounds_toArray, List.set_cons_zero, List.set_cons_succ, updO] at hK ⊢
                  simp [Region.binds] at hd
                  have g7 := p7 (by simp [hd])
                  have hE : L 8 = false := hk
                  rw [if_pos (by rfl)]
                  simp only [Oper.wpv]
                  go_simp
                  refine (HWr.out u (c1 hE)).mono ?_
                  rintro e u1 ⟨rfl, hg⟩
                  exact hK _ _ ⟨bA, hb, p0, p1, p2, p3, p4, p5, p7, fun h => Bool.noConfusion (show true = false from h), fun _ => hg, fun h0 h1 => Bool.noConfusion (show true = false from h1), fun h0 h1 => Bool.noConfusion (show true = false from h1)⟩
              · rintro L T u hl ⟨bA, hb, p0, p1, p2, p3, p4, p5, p7, c1, c2, pa6, bv6⟩
                simp only [fr, Act.put, List.setIfInBounds_toArray, List.set_cons_zero, List.set_cons_succ]
                obtain ⟨hB5, b5, o5⟩ := c2 (hl 8 (by decide))
                clear p0 p1 p2 p3 p4 p5 p7 c1 c2 pa6 bv6 HIt HLn HWr HXc
                go_wp2
                go_roundw
                case rel => exact ⟨j + 1, l1 ++ lnb.data.toList, by go_num, HJ.out, hB5, b5, o5, by show _ = _; rw [← HT4.out]; simp only [List.append_assoc]⟩
                case measure => have := HJ.out; simp [intOf]; omega
          · obtain rfl : j = rn2 := by omega
            have hnl : ¬ ((j : Int) < (j : Int)) := by omega
            have HT5 : Hid (l1 ++ listGo ls l (k + 1) (ss.drop (k + 1)) = TOT) := by
              show _ = _
              have h9 : rd.drop j = [] := List.drop_of_length_le (by have h10 : rd.length = j := hDl; omega)
              rw [← hT1.out, h9]
              simp [listDb]
            clear hT1 oSy
            go_wp2
            go_roundw
            case rel => exact ⟨k + 1, l1, by go_num, by omega, hB1, hby, HT5⟩
            case measure => simp [intOf]; omega
    · obtain rfl : k = n := by omega
      have hnl : ¬ ((k : Int) < (k : Int)) := by omega
      have HE : Hid (lc = TOT) := by
        show _ = _
        have := hTo.out
        rw [List.drop_of_length_le (by omega)] at this
        simpa [listGo] using this
      have hSt := string_any (w.heap.size + 1) (w.heap.size + 1) lc wo hBd (by omega)
      have hb2 := (KV.out wo hbw).2.2.2
      clear hTo
      go_wp2_with (go_at_call 51; refine hSt.mono ?_; rintro e U2 ⟨rfl, -, bU2, -⟩)
      go_ret
      exact ⟨by rw [← HE.out]; rfl, hb2.trans (bU2.mono (by omega))⟩
end Go.Proofs.YtgohpgollpjlnaaDoor.Cn
/- console's audit: what was forced, line by line, of the labels that are seen. -/
namespace Go.Proofs.YtgohpgollpjlnaaDoor.Cn
open Go.ChangeShapes Go.WideShapes Go.ChangeAt Go.RowKit
open Go.Proofs.YtgohpgollpjlnaaDoor.St (BoxN boxn_new SV IsStore IsRow DbV storeOK TxWf own_below)
open Go.Proofs.YtgohpgollpjlnaaDoor.Pt (IsStores NV IsNotes)
set_option linter.unusedVariables false

/-- Notes of a label, and where they lie. -/
structure NL where
  a : Option Addr
  n : Nat
  c : Nat
  ns : List NV
instance : Inhabited NL := ⟨⟨none, 0, 0, []⟩⟩
def nlC (x : NL) : List Value := [.slice x.a x.n x.c]
structure IsNLs (w : World) (a : Option Addr) (n cap : Nat) (xs : List NL) : Prop where
  row : IsRow 1 nlC w a n cap xs
  each : ∀ i, i < n → IsNotes w (xs.getD i default).a (xs.getD i default).n (xs.getD i default).c (xs.getD i default).ns
theorem IsNLs.below {w w' : World} {a : Option Addr} {n cap : Nat} {xs : List NL} (h : IsNLs w a n cap xs) (hb : Below w.heap.size w w') : IsNLs w' a n cap xs :=
  ⟨h.row.below hb, fun i hi => St.IsRow.below (h.each i hi) hb⟩
theorem IsNLs.at {w : World} {a : Option Addr} {n cap : Nat} {xs : List NL} (h : IsNLs w a n cap xs) {k : Nat} (hk : k < n) : ∃ b off, a = some ⟨b, off, none⟩ ∧ b < w.heap.size ∧ w.cell? ⟨b, off + k, none⟩ = some (.slice (xs.getD k default).a (xs.getD k default).n (xs.getD k default).c) := by
  obtain ⟨b, off, e, hl, hc⟩ := h.row.2.2.2.2 (by omega)
  have := hc k hk 0 (by decide)
  rw [Nat.mul_one, Nat.add_zero] at this
  exact ⟨b, off, e, hl, this⟩
def ntLine (k : Int) (x : NV) : List UInt8 := (lineBy k x.site x.num (verdB x.yes x.dmg)).data.toList
def auditNs (k : Int) : List NV → List UInt8
  | [] => []
  | x :: r => ntLine k x ++ auditNs k r
def auditGo (ls : List (Int × Int)) (l : Int) : Nat → List NL → List UInt8
  | _, [] => []
  | k, x :: r => (if seesP ls l k then auditNs k x.ns else []) ++ auditGo ls l (k + 1) r
theorem auditGo_at {ls : List (Int × Int)} {l : Int} {xs : List NL} {k : Nat} (hk : k < xs.length) : auditGo ls l k (xs.drop k) = (if seesP ls l k then auditNs k (xs.getD k default).ns else []) ++ auditGo ls l (k + 1) (xs.drop (k + 1)) := by
  rw [List.drop_eq_getElem_cons hk, auditGo]
  have : xs.getD k default = xs[k] := by simp [List.getD, hk]
  rw [this]
theorem auditNs_at {k : Int} {ds : List NV} {i : Nat} (hi : i < ds.length) : auditNs k (ds.drop i) = ntLine k (ds.getD i default) ++ auditNs k (ds.drop (i + 1)) := by
  rw [List.drop_eq_getElem_cons hi, auditNs]
  have : ds.getD i default = ds[i] := by simp [List.getD, hi]
  rw [this]
theorem verdB_len (yes dmg : Bool) : (verdB yes dmg).length ≤ 2 ∧ ∀ x ∈ verdB yes dmg, x.size ≤ 30 := by
  cases yes <;> cases dmg <;> exact ⟨by decide, by decide⟩
set_option maxRecDepth 100000 in
set_option maxHeartbeats 8000000 in
theorem audit_any (s p : Int) (a : Option Addr) (len cap : Nat) (ls : List (Int × Int)) (l : Int) (sa : Option Addr) (n sc : Nat) (ss : List NL) (w : World) (hl : IsLabs w a len cap ls) (h6 : len ≤ 6) (hl0 : 0 ≤ l) (hl1 : l < (len : Int)) (hS : IsNLs w sa n sc ss) (hn : n ≤ 6)
    (hI : ∀ i, i < n → ∀ x ∈ (ss.getD i default).ns, i64 x.site ∧ i64 x.num) (hZ : (auditGo ls l 0 ss).length ≤ 140737488355328) (hT : ∀ U, Below w.heap.size w U → Lib.TabIs Tryd.prog U "internal/strconv.uint64pow10" .u64 Lib.pow10Tab) :
    Calls Tryd.prog 26 #[.agg #[.int .i64 s, .slice a len cap, .int .i64 p], .int .i64 l, .slice sa n sc] w fun e w' => e = .returned (.string ⟨(auditGo ls l 0 ss).toArray⟩) ∧ Below w.heap.size w w' := by
  obtain ⟨TOT, eTOT⟩ : ∃ T, T = auditGo ls l 0 ss := ⟨_, rfl⟩
  rw [← eTOT] at hZ ⊢
  have hsl := hS.row.1
  obtain ⟨V, hV⟩ : ∃ V : World, V = (w.alloc (.cells #[.int .i64 s, .slice a len cap, .int .i64 p] 32)).alloc (.cells #[.pointer none, .slice none 0 0] 98) := ⟨_, rfl⟩
  have oC : ObAt V w.heap.size #[.int .i64 s, .slice a len cap, .int .i64 p] 32 := by rw [hV]; exact (ObAt.new w _ _).below ((Below.refl _ _).alloc (Nat.le_refl _) _)
  have hB0 : Bld (w.heap.size + 1) (w.heap.size + 1) [] V := by
    rw [hV]
    have h8 := Bld.new (w.alloc (.cells #[.int .i64 s, .slice a len cap, .int .i64 p] 32)) (w.heap.size + 1) (by simp)
    simpa using h8
  have bV : Below w.heap.size w V := by rw [hV]; exact ((Below.refl _ _).alloc (Nat.le_refl _) _).alloc (by simp) _
  have zV : V.heap.size = w.heap.size + 2 := by rw [hV]; simp
  have KV : Hid (∀ U, Below (w.heap.size + 1) V U → ObAt U w.heap.size #[.int .i64 s, .slice a len cap, .int .i64 p] 32 ∧ IsNLs U sa n sc ss ∧ IsLabs U a len cap ls ∧ Below w.heap.size w U) := fun U hU => by
    have b2 : Below w.heap.size w U := bV.trans (hU.mono (by omega))
    exact ⟨(hU.block w.heap.size (by omega)).trans oC, hS.below b2, hl.below b2, b2⟩
  have KSee : Hid (∀ (U : World) (k : Int), Below (w.heap.size + 1) V U → Calls Tryd.prog 46 #[.agg #[.int .i64 s, .slice a len cap, .int .i64 p], .int .i64 l, .int .i64 k] U fun e w' => e = .returned (.bool (seesP ls l k)) ∧ Below U.heap.size U w') := fun U k hU => sees_any s p a len cap ls l k U (KV.out U hU).2.2.1 h6 hl0 hl1
  have KT : Hid (∀ U, Below (w.heap.size + 1) V U → ∀ X, Below U.heap.size U X → Lib.TabIs Tryd.prog X "internal/strconv.uint64pow10" .u64 Lib.pow10Tab) := fun U hU X hX => hT X ((KV.out U hU).2.2.2.trans (hX.mono (KV.out U hU).2.2.2.size))
  have HI : Hid (∀ i, i < n → ∀ x ∈ (ss.getD i default).ns, i64 x.site ∧ i64 x.num) := hI
  have HTot : Hid ([] ++ auditGo ls l 0 (ss.drop 0) = TOT) := by show _ = _; rw [eTOT]; rfl
  have HZ : Hid (TOT.length ≤ 140737488355328) := hZ
  clear hl hS hI hT oC eTOT hZ h6 hl0 hl1
  go_enter Tryd.func26, Tryd.ntmps26
  go_upto_region 2 with (fail)
  rw [← hV]
  clear hV
  have bV0 : Below (w.heap.size + 1) V V := Below.refl _ _
  go_upto_region 3 with (fail)
  go_loopw [14, 8, 9] (fun s14 _ _ wr => ∃ (k : Nat) (lc : List UInt8), s14 = .int .i64 (k : Int) ∧ k ≤ n ∧ Bld (w.heap.size + 1) (w.heap.size + 1) lc wr ∧ Below (w.heap.size + 1) V wr ∧ Hid (lc ++ auditGo ls l k (ss.drop k) = TOT)) (fun s14 _ _ _ => n - (intOf s14).toNat)
  case atStart => exact ⟨0, [], rfl, by omega, hB0, bV0, HTot⟩
  case round =>
    obtain ⟨k, lc, rfl, hk, hBd, hbw, hTo⟩ := hrel
    obtain ⟨wo, ewo⟩ : ∃ X : World, X = wr := ⟨_, rfl⟩
    subst ewo
    clear hB0 HTot bV0
    have zwo : w.heap.size + 2 ≤ wo.heap.size := by have := hbw.size; omega
    by_cases hlt : k < n
    · have hlt' : (k : Int) < (n : Int) := by omega
      obtain ⟨oCr, hSr, -, -⟩ := KV.out wo hbw
      obtain ⟨b1, o1, rfl, zb1, e0⟩ := hSr.at hlt
      have HT2 : Hid (lc ++ ((if seesP ls l k then auditNs k (ss.getD k default).ns else []) ++ auditGo ls l (k + 1) (ss.drop (k + 1))) = TOT) := by show _ = _; rw [← auditGo_at (by omega)]; exact hTo.out
      have hIk := HI.out k hlt
      obtain ⟨r, er⟩ : ∃ r, r = ss.getD k default := ⟨_, rfl⟩
      have KX : Hid (∀ U, Below (w.heap.size + 1) V U → IsNotes U r.a r.n r.c r.ns) := fun U hU => by rw [er]; exact (KV.out U hU).2.1.each k hlt
      rw [← er] at e0 HT2 hIk
      clear er hTo hSr
      obtain ⟨ra, rn, rc, rd⟩ := r
      simp only [] at e0 HT2 hIk KX
      have c0 : wo.cell? ⟨w.heap.size, 0, none⟩ = some (.int .i64 s) := oCr.cell 0
      have c1 : wo.cell? ⟨w.heap.size, 1, none⟩ = some (.slice a len cap) := oCr.cell 1
      have c2 : wo.cell? ⟨w.heap.size, 2, none⟩ = some (.int .i64 p) := oCr.cell 2
      have zc := oCr.lt
      have hSee := KSee.out wo k hbw
      clear oCr
      obtain ⟨SE, eSE⟩ : ∃ SE, SE = seesP ls l (k : Int) := ⟨_, rfl⟩
      rw [← eSE] at hSee HT2
      clear eSE
      cases SE with
      | false =>
        simp only [Bool.false_eq_true, if_false, List.nil_append] at HT2
        clear hIk
        go_wp2_with (go_at_call 46; refine hSee.mono ?_; rintro e U2 ⟨rfl, bU2⟩)
        go_roundw
        case rel => exact ⟨k + 1, lc, by go_num, by omega, hBd.below bU2, hbw.trans (bU2.mono (by omega)), HT2⟩
        case measure => simp [intOf]; omega
      | true =>
        simp only [if_true] at HT2
        go_upto_region 6 with (go_at_call 46; refine hSee.mono ?_; rintro e X2 ⟨rfl, bX2⟩)
        clear c0 c1 c2 zc hSee
        have hBd2 := hBd.below bX2
        have bX2V : Below (w.heap.size + 1) V X2 := hbw.trans (bX2.mono (by omega))
        have hD0 : IsNotes X2 ra rn rc rd := KX.out X2 bX2V
        have hDl : rd.length = rn := hD0.1
        have hDm : rn ≤ 9223372036854775807 := by have h8 := hD0.2.1; have h9 := hD0.2.2.1; unfold maxLen at h9; omega
        have HT3 : Hid (lc ++ auditNs k (rd.drop 0) ++ auditGo ls l (k + 1) (ss.drop (k + 1)) = TOT) := by show _ = _; rw [List.append_assoc]; exact HT2.out
        clear hBd HT2 hD0 e0
        go_upto_region 7 with (fail)
        go_loopw [26, 11] (fun s26 _ wy => ∃ (j : Nat) (l1 : List UInt8), s26 = .int .i64 (j : Int) ∧ j ≤ rn ∧ Bld (w.heap.size + 1) (w.heap.size + 1) l1 wy ∧ Below (w.heap.size + 1) V wy ∧ Hid (l1 ++ auditNs k (rd.drop j) ++ auditGo ls l (k + 1) (ss.drop (k + 1)) = TOT)) (fun s26 _ _ => rn - (intOf s26).toNat)
        case atStart => exact ⟨0, lc, rfl, by omega, hBd2, bX2V, HT3⟩
        case round =>
          obtain ⟨j, l1, rfl, hj, hB1, hby, hT1⟩ := hrel
          clear hBd2 HT3
          have zwr : w.heap.size + 2 ≤ wr.heap.size := by have := hby.size; omega
          by_cases hjl : j < rn
          · have hjl' : (j : Int) < (rn : Int) := by omega
            have HJ : Hid (j + 1 ≤ rn) := hjl
            have hjm : (j : Int) + 1 ≤ 9223372036854775807 := by omega
            obtain ⟨b2, o2, rfl, zb2, hc⟩ := (KX.out wr hby).2.2.2.2 (by omega)
            have e0 := hc j hjl 0 (by decide)
            have e1 := hc j hjl 1 (by decide)
            have e2 := hc j hjl 2 (by decide)
            have e3 := hc j hjl 3 (by decide)
            have HT4 : Hid (l1 ++ (ntLine k (rd.getD j default) ++ auditNs k (rd.drop (j + 1))) ++ auditGo ls l (k + 1) (ss.drop (k + 1)) = TOT) := by show _ = _; rw [← auditNs_at (by omega)]; exact hT1.out
            have hIj := hIk (rd.getD j default) (by rw [List.getD, List.getElem?_eq_getElem (by omega)]; exact List.getElem_mem _)
            obtain ⟨d, ed⟩ : ∃ d, d = rd.getD j default := ⟨_, rfl⟩
            rw [← ed] at e0 e1 e2 e3 HT4 hIj
            clear ed hT1 hc
            obtain ⟨t1, t2, ty, tg⟩ := d
            simp only [NV.cells, List.getElem?_cons_zero, List.getElem?_cons_succ, Nat.add_zero] at e0 e1 e2 e3 HT4 hIj
            go_upto_region 9 with (fail)
            obtain ⟨Y2, eY1⟩ : ∃ X : World, X = wr.alloc (.cells #[.int .i64 t1, .int .i64 t2, .bool ty, .bool tg] 48) := ⟨_, rfl⟩
            have bY1 : Below wr.heap.size wr Y2 := by rw [eY1]; exact (Below.refl _ _).alloc (Nat.le_refl _) _
            have oD3 : ObAt Y2 wr.heap.size #[.int .i64 t1, .int .i64 t2, .bool ty, .bool tg] 48 := by rw [eY1]; exact ObAt.new wr _ _
            rw [← eY1]
            clear eY1 e0 e1 e2 e3
            have bY2V : Below (w.heap.size + 1) V Y2 := hby.trans (bY1.mono (by omega))
            have hB3 := hB1.below bY1
            have zY2 : w.heap.size + 2 ≤ Y2.heap.size := by have := bY2V.size; omega
            obtain ⟨i1, i2⟩ := hIj
            obtain ⟨lnb, eln⟩ : ∃ x, x = lineBy k t1 t2 (verdB ty tg) := ⟨_, rfl⟩
            have hLD : ntLine k ⟨t1, t2, ty, tg⟩ = lnb.data.toList := by rw [eln]; rfl
            rw [hLD] at HT4
            have hlz : l1.length + lnb.size ≤ 140737488355328 := by
              have h8 := congrArg List.length HT4.out
              have h9 := HZ.out
              have h10 : lnb.data.toList.length = lnb.size := rfl
              simp only [List.length_append] at h8
              omega
            have HVd : Hid (∀ U, Below Y2.heap.size Y2 U → Calls Tryd.prog 52 #[.agg #[.int .i64 t1, .int .i64 t2, .bool ty, .bool tg]] U fun e w' => ∃ av nv, e = .returned (.slice av nv nv) ∧ IsRow 1 stC w' av nv nv (verdB ty tg) ∧ Below U.heap.size U w') := fun U _ => verdict_any t1 t2 ty tg U
            have HLn : Hid (∀ U av nv, Below Y2.heap.size Y2 U → IsRow 1 stC U av nv nv (verdB ty tg) → Calls Tryd.prog 49 #[.int .i64 (k : Int), .agg #[.int .i64 t1, .int .i64 t2], .slice av nv nv] U fun e w' => e = .returned (.string lnb) ∧ Below U.heap.size U w') := fun U av nv hU hq => by
              rw [eln]
              exact line_any k t1 t2 av nv nv (verdB ty tg) U (by unfold i64; omega) i1 i2 hq (by have h8 := hq.1; have h9 := (verdB_len ty tg).1; omega) (verdB_len ty tg).2 (fun X hX => KT.out Y2 bY2V X (hU.trans (hX.mono hU.size)))
            have HWr : Hid (∀ U, Below Y2.heap.size Y2 U → Calls Tryd.prog 48 #[.pointer (some ⟨w.heap.size + 1, 0, none⟩), .string lnb] U fun e w' => e = .returned (.tuple #[.int .i64 lnb.size, .nilIface]) ∧ (Bld (w.heap.size + 1) (w.heap.size + 1) (l1 ++ lnb.data.toList) w' ∧ Below (w.heap.size + 1) V w')) := fun U hU => by
              have zU := hU.size
              refine (write_any (w.heap.size + 1) (w.heap.size + 1) l1 lnb U (hB3.below hU) hlz (by omega)).mono ?_
              rintro e w' ⟨rfl, h1, h2, h3⟩
              exact ⟨rfl, h1, (bY2V.trans (hU.mono (by omega))).trans h2⟩
            have HXc : Hid (∀ U, Below Y2.heap.size Y2 U → U.cell? ⟨wr.heap.size, 0, none⟩ = some (.int .i64 t1) ∧ U.cell? ⟨wr.heap.size, 1, none⟩ = some (.int .i64 t2) ∧ U.cell? ⟨wr.heap.size, 2, none⟩ = some (.bool ty) ∧ U.cell? ⟨wr.heap.size, 3, none⟩ = some (.bool tg)) := fun U hU => ⟨(oD3.below hU).cell 0, (oD3.below hU).cell 1, (oD3.below hU).cell 2, (oD3.below hU).cell 3⟩
            clear hB3 oD3 eln hLD i1 i2 hlz hB1
            refine wp_region_inv (by kernel_rfl) [30, 31, 32, 33, 34, 35, 36] (fun L T u => ∃ (av : Option Addr) (nv : Nat), True ∧ (L 0 = true → T 30 = .int .i64 (k : Int)) ∧ (L 1 = true → T 31 = .pointer (some ⟨wr.heap.size, 0, none⟩)) ∧ (L 2 = true → T 32 = .agg #[.int .i64 t1, .int .i64 t2]) ∧ (L 3 = true → T 33 = .agg #[.int .i64 t1, .int .i64 t2, .bool ty, .bool tg]) ∧ (L 4 = true → T 34 = .slice av nv nv) ∧ (L 5 = true → T 35 = .string lnb) ∧ (L 6 = false → Below Y2.heap.size Y2 u) ∧ (L 6 = true → (Bld (w.heap.size + 1) (w.heap.size + 1) (l1 ++ lnb.data.toList) u ∧ Below (w.heap.size + 1) V u)) ∧ (L 4 = true → L 6 = false → IsRow 1 stC u av nv nv (verdB ty tg))) (by decide) (by kernel_rfl) (by kernel_rfl) ?_ ?_ ?_
            · exact ⟨none, 0, trivial, nofun, nofun, nofun, nofun, nofun, nofun, fun _ => (Below.refl _ _).drew, nofun, nofun⟩
            · refine ⟨?_, ?_, ?_, ?_, ?_, ?_, ?_, trivial⟩
              · rintro L T u hd hk hcl ⟨av, nv, hb, p0, p1, p2, p3, p4, p5, c1, c2, wv⟩ K hK
                simp only [fr, Act.put, List.setIfInBounds_toArray, List.set_cons_zero, List.set_cons_succ, updO] at hK ⊢
                simp [Region.binds] at hd
                rw [if_pos (by rfl)]
                simp only [Oper.wpv]
                go_simp
                exact hK _ _ ⟨av, nv, hb, fun _ => rfl, p1, p2, p3, p4, p5, c1, c2, wv⟩
              · rintro L T u hd hk hcl ⟨av, nv, hb, p0, p1, p2, p3, p4, p5, c1, c2, wv⟩ K hK
                simp only [fr, Act.put, List.setIfInBounds_toArray, List.set_cons_zero, List.set_cons_succ, updO] at hK ⊢
                simp [Region.binds] at hd
                rw [if_pos (by rfl)]
                simp only [Oper.wpv]
                go_simp
                exact hK _ _ ⟨av, nv, hb, p0, fun _ => rfl, p2, p3, p4, p5, c1, c2, wv⟩
              · rintro L T u hd hk hcl ⟨av, nv, hb, p0, p1, p2, p3, p4, p5, c1, c2, wv⟩ K hK
                simp only [fr, Act.put, List.setIfInBounds_toArray, List.set_cons_zero, List.set_cons_succ, updO] at hK ⊢
                simp [Region.binds] at hd
                have g1 := p1 (by simp [hd])
                have k6 := hcl 6 _ rfl
                simp [Region.binds] at k6
                have k5 := hcl 5 _ rfl
                simp [Region.binds] at k5
                have hE : L 6 = false := by cases h : L 6 with | false => rfl | true => have a6 := k6 h; have a5 := k5 (by simp [a6]); simp [hk] at a5
                obtain ⟨x0, x1, x2, x3⟩ := HXc.out u (c1 hE)
                rw [if_pos (by rfl)]
                simp only [Oper.wpv]
                go_simp
                exact hK _ _ ⟨av, nv, hb, p0, p1, fun _ => rfl, p3, p4, p5, c1, c2, wv⟩
              · rintro L T u hd hk hcl ⟨av, nv, hb, p0, p1, p2, p3, p4, p5, c1, c2, wv⟩ K hK
                simp only [fr, Act.put, List.setIfInBounds_toArray, List.set_cons_zero, List.set_cons_succ, updO] at hK ⊢
                simp [Region.binds] at hd
                have k6 := hcl 6 _ rfl
                simp [Region.binds] at k6
                have k5 := hcl 5 _ rfl
                simp [Region.binds] at k5
                have k4 := hcl 4 _ rfl
                simp [Region.binds] at k4
                have hE : L 6 = false := by cases h : L 6 with | false => rfl | true => have a6 := k6 h; have a5 := k5 (by simp [a6]); have a4 := k4 (by simp [a5]); simp [hk] at a4
                obtain ⟨x0, x1, x2, x3⟩ := HXc.out u (c1 hE)
                rw [if_pos (by rfl)]
                simp only [Oper.wpv]
                go_simp
                exact hK _ _ ⟨av, nv, hb, p0, p1, p2, fun _ => rfl, p4, p5, c1, c2, wv⟩
              · rintro L T u hd hk hcl ⟨av, nv, hb, p0, p1, p2, p3, p4, p5, c1, c2, wv⟩ K hK
                simp only [fr, Act.put, List.setIfInBounds_toArray, List.set_cons_zero, List.set_cons_succ, updO] at hK ⊢
                simp [Region.binds] at hd
                have g3 := p3 (by simp [hd])
                have k5 := hcl 5 _ rfl
                simp [Region.binds] at k5
                have k6 := hcl 6 _ rfl
                simp [Region.binds] at k6
                have k6 := hcl 6 _ rfl
                simp [Region.binds] at k6
                have k5 := hcl 5 _ rfl
                simp [Region.binds] at k5
                have hE : L 6 = false := by cases h : L 6 with | false => rfl | true => have a6 := k6 h; have a5 := k5 (by simp [a6]); simp [hk] at a5
                rw [if_pos (by rfl)]
                simp only [Oper.wpv]
                go_simp
                refine (HVd.out u (c1 hE)).mono ?_
                rintro e u1 ⟨av, nv, rfl, hrow, hg⟩
                exact hK _ _ ⟨av, nv, hb, p0, p1, p2, p3, fun _ => rfl, fun h => absurd (show L 5 = true from h) (by intro hh; have a5 := k5 hh; simp [hk] at a5), fun _ => lT (c1 hE) hg, fun h => absurd (show L 6 = true from h) (by simp [hE]), fun _ _ => hrow⟩
              · rintro L T u hd hk hcl ⟨av, nv, hb, p0, p1, p2, p3, p4, p5, c1, c2, wv⟩ K hK
                simp only [fr, Act.put, List.setIfInBounds_toArray, List.set_cons_zero, List.set_cons_succ, updO] at hK ⊢
                simp [Region.binds] at hd
                have g0 := p0 (by simp [hd])
                have g2 := p2 (by simp [hd])
                have g4 := p4 (by simp [hd])
                have k6 := hcl 6 _ rfl
                simp [Region.binds] at k6
                have hE : L 6 = false := by cases h : L 6 with | false => rfl | true => have a6 := k6 h; simp [hk] at a6
                rw [if_pos (by rfl)]
                simp only [Oper.wpv]
                go_simp
                refine (HLn.out u av nv (c1 hE) (wv (by simp [hd]) hE)).mono ?_
                rintro e u1 ⟨rfl, hg⟩
                exact hK _ _ ⟨av, nv, hb, p0, p1, p2, p3, p4, fun _ => rfl, fun _ => lT (c1 hE) hg, fun h => absurd (show L 6 = true from h) (by simp [hE]), fun h0 h1 => St.IsRow.below (wv h0 h1) hg⟩
              · rintro L T u hd hk hcl ⟨av, nv, hb, p0, p1, p2, p3, p4, p5, c1, c2, wv⟩ K hK
                simp only [fr, Act.put, List.setIfInBounds_toArray, List.set_cons_zero, List.set_cons_succ, updO] at hK ⊢
                simp [Region.binds] at hd
                have g5 := p5 (by simp [hd])
                have hE : L 6 = false := hk
                rw [if_pos (by rfl)]
                simp only [Oper.wpv]
                go_simp
                refine (HWr.out u (c1 hE)).mono ?_
                rintro e u1 ⟨rfl, hg⟩
                exact hK _ _ ⟨av, nv, hb, p0, p1, p2, p3, p4, p5, fun h => Bool.noConfusion (show true = false from h), fun _ => hg, fun h0 h1 => Bool.noConfusion (show true = false from h1)⟩
            · rintro L T u hl ⟨av, nv, hb, p0, p1, p2, p3, p4, p5, c1, c2, wv⟩
              simp only [fr, Act.put, List.setIfInBounds_toArray, List.set_cons_zero, List.set_cons_succ]
              obtain ⟨hB5, b5⟩ := c2 (hl 6 (by decide))
              clear p0 p1 p2 p3 p4 p5 c1 c2 wv HVd HLn HWr HXc
              go_wp2
              go_roundw
              case rel => exact ⟨j + 1, l1 ++ lnb.data.toList, by go_num, HJ.out, hB5, b5, by show _ = _; rw [← HT4.out]; simp only [List.append_assoc]⟩
              case measure => have := HJ.out; simp [intOf]; omega
          · obtain rfl : j = rn := by omega
            have hnl : ¬ ((j : Int) < (j : Int)) := by omega
            have HT5 : Hid (l1 ++ auditGo ls l (k + 1) (ss.drop (k + 1)) = TOT) := by
              show _ = _
              have h9 : rd.drop j = [] := List.drop_of_length_le (by omega)
              rw [← hT1.out, h9]
              simp [auditNs]
            clear hT1
            go_wp2
            go_roundw
            case rel => exact ⟨k + 1, l1, by go_num, by omega, hB1, hby, HT5⟩
            case measure => simp [intOf]; omega
    · obtain rfl : k = n := by omega
      have hnl : ¬ ((k : Int) < (k : Int)) := by omega
      have HE : Hid (lc = TOT) := by
        show _ = _
        have := hTo.out
        rw [List.drop_of_length_le (by omega)] at this
        simpa [auditGo] using this
      have hSt := string_any (w.heap.size + 1) (w.heap.size + 1) lc wo hBd (by omega)
      have hb2 := (KV.out wo hbw).2.2.2
      clear hTo
      go_wp2_with (go_at_call 51; refine hSt.mono ?_; rintro e U2 ⟨rfl, -, bU2, -⟩)
      go_ret
      exact ⟨by rw [← HE.out]; rfl, hb2.trans (bU2.mono (by omega))⟩
end Go.Proofs.YtgohpgollpjlnaaDoor.Cn
