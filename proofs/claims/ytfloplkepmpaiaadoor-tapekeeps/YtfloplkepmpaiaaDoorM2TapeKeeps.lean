/- Texts of this claim, one behind the other. -/
import Derived.Test.YtfloplkepmpaiaaDoorProg
import Derived.WalkKit
import Derived.ProofKit
import Derived.Below
import Derived.OpenShut
import Derived.Test.YtfloplkepmpaiaaDoorA0TapeKeeps
import Derived.Deep.QuietTactic
import Derived.BigQuiet
import Derived.LoopTactic
import Derived.WalkSmall
/- Contracts of picked and Lab: a number from 0 on below another one; a label of a raw number. -/
namespace Go.Proofs.YtfloplkepmpaiaaDoor
open Go.ChangeShapes Go.WideShapes Go.ChangeAt Go.RowKit

def pk (n m : Int) : Int := (if n < 0 then -(n + 1) else n) % m
theorem pk_bd (n m : Int) (h : 0 < m) : 0 ≤ pk n m ∧ pk n m < m := ⟨Int.emod_nonneg _ (by omega), Int.emod_lt_of_pos _ h⟩
theorem pk_neg {n m : Int} (h : n < 0) : pk n m = (-(n + 1)) % m := by simp [pk, h]
theorem pk_pos {n m : Int} (h : ¬ n < 0) : pk n m = n % m := by simp [pk, h]

theorem i64_bd {n : Int} (h : (Lit.int .i64 n).wf = true) : -9223372036854775808 ≤ n ∧ n ≤ 9223372036854775807 := by
  have := bounds_i64 h
  omega

theorem picked_any (n m : Int) (w : World) (hn : -9223372036854775808 ≤ n ∧ n ≤ 9223372036854775807) (hm : 0 < m) (hm2 : m ≤ 9223372036854775807) :
    Calls Tryd.prog 12 #[.int .i64 n, .int .i64 m] w fun e w' => e = .returned (.int .i64 (pk n m)) ∧ w' = w := by
  obtain ⟨h1, h2⟩ := hn
  by_cases h : n < 0
  · rw [pk_neg h]
    go_enter Tryd.func12, Tryd.ntmps12
    go_wp2
    go_ret
    exact ⟨ret_int (by rw [← Int.tmod_eq_emod_of_nonneg (by omega), Int.neg_tmod]), rfl⟩
  · rw [pk_pos h]
    have h0 : 0 ≤ n := by omega
    go_enter Tryd.func12, Tryd.ntmps12
    go_wp2
    go_ret
    exact ⟨rfl, rfl⟩

def labL (n : Int) : Int := pk n 3
def labC (n : Int) : Int := pk (n.tdiv 3) 4
theorem labL_bd (n : Int) : 0 ≤ labL n ∧ labL n ≤ 2 := by have := pk_bd n 3 (by decide); unfold labL; omega
theorem labC_bd (n : Int) : 0 ≤ labC n ∧ labC n ≤ 3 := by have := pk_bd (n.tdiv 3) 4 (by decide); unfold labC; omega
theorem tdiv_bd {n m : Int} (hn : -9223372036854775808 ≤ n ∧ n ≤ 9223372036854775807) (hm : 0 < m) : -9223372036854775808 ≤ n.tdiv m ∧ n.tdiv m ≤ 9223372036854775807 := by
  rcases Int.le_total 0 n with h | h
  · have h1 : 0 ≤ n.tdiv m := Int.tdiv_nonneg h (by omega)
    have h2 : n.tdiv m ≤ n := Int.tdiv_le_self m h
    omega
  · have e : n.tdiv m = -((-n).tdiv m) := by rw [Int.neg_tdiv]; omega
    have h1 : 0 ≤ (-n).tdiv m := Int.tdiv_nonneg (by omega) (by omega)
    have h2 : (-n).tdiv m ≤ -n := Int.tdiv_le_self m (by omega)
    omega

theorem lab_any (n : Int) (w : World) (hn : -9223372036854775808 ≤ n ∧ n ≤ 9223372036854775807) :
    Calls Tryd.prog 22 #[.int .i64 n] w fun e w' => e = .returned (.agg #[.int .i64 (labL n), .int .i64 (labC n)]) ∧ Below w.heap.size w w' := by
  have hd := tdiv_bd hn (m := 3) (by decide)
  obtain ⟨_, _⟩ := id hn
  unfold labL labC
  go_enter Tryd.func22, Tryd.ntmps22
  go_wp2_with (go_at_call 12; refine (picked_any _ _ _ (by assumption) (by decide) (by decide)).mono ?_; rintro e w1 ⟨rfl, rfl⟩)
  exact bodyPost_ret (v := .agg #[.int .i64 (pk n 3), .int .i64 (pk (n.tdiv 3) 4)]) (by simp [results, Tryd.results22, go_sem]) rfl ⟨rfl, (Below.refl _ _).alloc (Nat.le_refl _) _⟩
end Go.Proofs.YtfloplkepmpaiaaDoor
/- Contracts of slices.Index and slices.Contains at labels: Contains tells whether a label is among those of a slice; what was in memory stays. -/
namespace Go.Proofs.YtfloplkepmpaiaaDoor
open Go.ChangeShapes Go.WideShapes Go.ChangeAt Go.RowKit

/-- Labels that lie in memory one behind the other. -/
def Labs (w : World) (b off : Nat) (ls : List (Int × Int)) : Prop :=
  b < w.heap.size ∧ ∀ i, i < ls.length → w.cell? ⟨b, off + i * 2, none⟩ = some (.int .i64 (ls.getD i (0, 0)).1) ∧ w.cell? ⟨b, off + i * 2 + 1, none⟩ = some (.int .i64 (ls.getD i (0, 0)).2)

theorem Labs.below {w w' : World} {b off : Nat} {ls : List (Int × Int)} (h : Labs w b off ls) (hb : Below w.heap.size w w') : Labs w' b off ls := by
  obtain ⟨hc, _⟩ := bcell hb
  refine ⟨Nat.lt_of_lt_of_le h.1 hb.size, fun i hi => ?_⟩
  rw [hc _ _ h.1, hc _ _ h.1]
  exact h.2 i hi

theorem Labs.take {w : World} {b off : Nat} {ls : List (Int × Int)} (h : Labs w b off ls) (k : Nat) : Labs w b off (ls.take k) := by
  refine ⟨h.1, fun i hi => ?_⟩
  have hi' : i < k ∧ i < ls.length := by simp at hi; omega
  have := h.2 i hi'.2
  simpa [List.getD, List.getElem?_take, hi'.1] using this

theorem not_take_succ {ls : List (Int × Int)} {k : Nat} {p : Int × Int} (hk : k < ls.length) (h : p ∉ ls.take k) (hne : ¬ (p.1 = (ls.getD k (0, 0)).1 ∧ p.2 = (ls.getD k (0, 0)).2)) : p ∉ ls.take (k + 1) := by
  rw [List.take_succ_eq_append_getElem hk]
  simp only [List.mem_append, List.mem_singleton, not_or]
  refine ⟨h, fun e => hne ?_⟩
  simp [List.getD, hk, e]

theorem mem_of_getD {ls : List (Int × Int)} {k : Nat} {p : Int × Int} (hk : k < ls.length) (h1 : p.1 = (ls.getD k (0, 0)).1) (h2 : p.2 = (ls.getD k (0, 0)).2) : p ∈ ls := by
  have : p = ls[k] := by
    simp [List.getD, hk] at h1 h2
    exact Prod.ext h1 h2
  rw [this]
  exact List.getElem_mem hk

set_option maxHeartbeats 1000000 in
theorem index_any (b off cap : Nat) (ls : List (Int × Int)) (x y : Int) (w : World) (hl : ls.length ≤ 100) (h : Labs w b off ls) :
    Calls Tryd.prog 55 #[.slice (some ⟨b, off, none⟩) ls.length cap, .agg #[.int .i64 x, .int .i64 y]] w fun e w' => ∃ r : Int, e = .returned (.int .i64 r) ∧ (0 ≤ r ↔ (x, y) ∈ ls) ∧ Below w.heap.size w w' := by
  go_enter Tryd.func55, Tryd.ntmps55
  go_wp2
  go_loopw [8] (fun i wr => ∃ k : Nat, k ≤ ls.length ∧ i = .int .i64 k ∧ (x, y) ∉ ls.take k ∧ Below (w.heap.size + 1) (w.alloc (.cells #[.int .i64 x, .int .i64 y] 64)) wr) (fun i _ => ls.length - (intOf i).toNat)
  case atStart => exact ⟨0, Nat.zero_le _, rfl, by simp, Below.refl _ _⟩
  case round =>
    obtain ⟨k, hk, rfl, hno, hb⟩ := hrel
    by_cases hlt : k < ls.length
    · have hbw : Below w.heap.size w wr := ((Below.refl _ _).alloc (Nat.le_refl _) _).trans (hb.mono (by omega))
      have hr := (h.below hbw).2 k hlt
      obtain ⟨p, hp⟩ : ∃ p, p = (ls.getD k (0, 0)).1 := ⟨_, rfl⟩
      obtain ⟨q, hq⟩ : ∃ q, q = (ls.getD k (0, 0)).2 := ⟨_, rfl⟩
      rw [← hp, ← hq] at hr
      obtain ⟨c0, c1⟩ := hr
      have c2 : wr.cell? ⟨w.heap.size, 0, none⟩ = some (.int .i64 x) := by
        rw [hb.cell (p := ⟨w.heap.size, 0, none⟩) (by simp)]; go_simp
      have c3 : wr.cell? ⟨w.heap.size, 1, none⟩ = some (.int .i64 y) := by
        rw [hb.cell (p := ⟨w.heap.size, 1, none⟩) (by simp)]; go_simp
      by_cases e1 : x = p
      · by_cases e2 : y = q
        · have hm : (x, y) ∈ ls := mem_of_getD hlt (by rw [e1, hp]) (by rw [e2, hq])
          clear hp hq
          subst e1 e2
          go_wp2
          go_quiet (fail)
          go_wp2
          go_ret
          exact ⟨k, rfl, by simp [hm], below_drewN hbw nq⟩
        · have hn := not_take_succ (p := (x, y)) hlt hno (by rw [← hp, ← hq]; simp [e2])
          have e3 : (y == q) = false := by simpa using e2
          clear hp hq
          subst e1
          go_wp2
          go_quiet (fail)
          go_wp2
          go_roundw
          case rel => exact ⟨k + 1, by omega, by go_num, hn, below_drewN hb nq⟩
          case measure => simp [intOf]; omega
      · have hn := not_take_succ (p := (x, y)) hlt hno (by rw [← hp, ← hq]; simp [e1])
        have e3 : (x == p) = false := by simpa using e1
        clear hp hq
        go_wp2
        go_quiet (fail)
        go_wp2
        go_roundw
        case rel => exact ⟨k + 1, by omega, by go_num, hn, below_drewN hb nq⟩
        case measure => simp [intOf]; omega
    · have he : k = ls.length := by omega
      subst he
      rw [List.take_length] at hno
      go_wp2
      go_ret
      exact ⟨-1, rfl, by simp [hno], ((Below.refl _ _).alloc (Nat.le_refl _) _).trans (hb.mono (by omega))⟩

theorem contains_any (b off n cap : Nat) (ls : List (Int × Int)) (x y : Int) (w : World) (hn : ls.length = n) (hl : n ≤ 100) (h : Labs w b off ls) :
    Calls Tryd.prog 44 #[.slice (some ⟨b, off, none⟩) n cap, .agg #[.int .i64 x, .int .i64 y]] w fun e w' => e = .returned (.bool (decide ((x, y) ∈ ls))) ∧ Below w.heap.size w w' := by
  subst hn
  have hA : Below w.heap.size w (w.alloc (.cells #[.int .i64 x, .int .i64 y] 64)) := (Below.refl _ _).alloc (Nat.le_refl _) _
  go_enter Tryd.func44, Tryd.ntmps44
  go_wp2_with (go_at_call 55; refine (index_any _ _ _ _ _ _ _ hl (h.below hA)).mono ?_; rintro e w1 ⟨r, rfl, hr, hb1⟩)
  go_ret
  exact ⟨rfl, hA.trans (hb1.mono (by simp))⟩
end Go.Proofs.YtfloplkepmpaiaaDoor
/- What a config's fault is, on numbers: of the sites, the labels one by one, the patience; and contracts of the two small range tests. -/
namespace Go.Proofs.YtfloplkepmpaiaaDoor
open Go.ChangeShapes Go.WideShapes Go.ChangeAt Go.RowKit

def inB (l c : Int) : Bool := decide (0 ≤ l ∧ l ≤ 9 ∧ 0 ≤ c ∧ c ≤ 15)

/-- The fault of the first label that has one: 'seen' are those ahead. -/
def labFault (seen : List (Int × Int)) : List (Int × Int) → Int
  | [] => 0
  | a :: r => if inB a.1 a.2 = false then 2 else if a ∈ seen then 7 else labFault (seen ++ [a]) r

def cfgFault (s : Int) (ls : List (Int × Int)) (p : Int) : Int :=
  if s < 1 ∨ 4 < s then 2 else if ls.length < 1 ∨ 6 < ls.length then 1 else if labFault [] ls ≠ 0 then labFault [] ls else if p < 1 ∨ 1048576 < p then 2 else 0

theorem cfg_sites {s : Int} {ls : List (Int × Int)} {p : Int} (h : s < 1 ∨ 4 < s) : cfgFault s ls p = 2 := by simp [cfgFault, h]
theorem cfg_size {s : Int} {ls : List (Int × Int)} {p : Int} (h1 : 1 ≤ s) (h2 : s ≤ 4) (h : ls.length < 1 ∨ 6 < ls.length) : cfgFault s ls p = 1 := by
  unfold cfgFault
  rw [if_neg (by omega), if_pos h]
theorem cfg_lab {s : Int} {ls : List (Int × Int)} {p : Int} {f : Int} (h1 : 1 ≤ s) (h2 : s ≤ 4) (h3 : 1 ≤ ls.length) (h4 : ls.length ≤ 6) (h : labFault [] ls = f) (hf : f ≠ 0) : cfgFault s ls p = f := by
  unfold cfgFault
  rw [if_neg (by omega), if_neg (by omega), if_pos (by rw [h]; exact hf), h]
theorem cfg_late {s : Int} {ls : List (Int × Int)} {p : Int} (h1 : 1 ≤ s) (h2 : s ≤ 4) (h3 : 1 ≤ ls.length) (h4 : ls.length ≤ 6) (h : labFault [] ls = 0) (hp : p < 1 ∨ 1048576 < p) : cfgFault s ls p = 2 := by
  unfold cfgFault
  rw [if_neg (by omega), if_neg (by omega), if_neg (by simp [h]), if_pos hp]
theorem cfg_ok {s : Int} {ls : List (Int × Int)} {p : Int} (h1 : 1 ≤ s) (h2 : s ≤ 4) (h3 : 1 ≤ ls.length) (h4 : ls.length ≤ 6) (h : labFault [] ls = 0) (p1 : 1 ≤ p) (p2 : p ≤ 1048576) : cfgFault s ls p = 0 := by
  unfold cfgFault
  rw [if_neg (by omega), if_neg (by omega), if_neg (by simp [h]), if_neg (by omega)]

theorem cfg_zero {s : Int} {ls : List (Int × Int)} {p : Int} (h : cfgFault s ls p = 0) : 1 ≤ s ∧ s ≤ 4 ∧ 1 ≤ ls.length ∧ ls.length ≤ 6 ∧ labFault [] ls = 0 ∧ 1 ≤ p ∧ p ≤ 1048576 := by
  unfold cfgFault at h
  split at h
  · simp at h
  · split at h
    · simp at h
    · split at h
      · contradiction
      · split at h
        · simp at h
        · rename_i _ _ hz _
          have : labFault [] ls = 0 := Classical.not_not.1 hz
          omega

/-- Where the labels ahead of place k have no fault: the whole's fault is that of the rest. -/
def labAt (ls : List (Int × Int)) (k : Nat) : Prop := labFault [] ls = labFault (ls.take k) (ls.drop k)

theorem labAt_zero (ls : List (Int × Int)) : labAt ls 0 := by simp [labAt]
theorem drop_here {ls : List (Int × Int)} {k : Nat} (hk : k < ls.length) : ls.drop k = ls.getD k (0, 0) :: ls.drop (k + 1) := by
  rw [List.drop_eq_getElem_cons hk]; simp [List.getD, hk]
theorem take_here {ls : List (Int × Int)} {k : Nat} (hk : k < ls.length) : ls.take (k + 1) = ls.take k ++ [ls.getD k (0, 0)] := by
  rw [List.take_succ_eq_append_getElem hk]; simp [List.getD, hk]
theorem labAt_range {ls : List (Int × Int)} {k : Nat} (hk : k < ls.length) (h : labAt ls k) (hb : inB (ls.getD k (0, 0)).1 (ls.getD k (0, 0)).2 = false) : labFault [] ls = 2 := by
  rw [h, drop_here hk, labFault, if_pos hb]
theorem labAt_twice {ls : List (Int × Int)} {k : Nat} (hk : k < ls.length) (h : labAt ls k) (hb : inB (ls.getD k (0, 0)).1 (ls.getD k (0, 0)).2 = true) (hm : ls.getD k (0, 0) ∈ ls.take k) : labFault [] ls = 7 := by
  rw [h, drop_here hk, labFault, if_neg (by rw [hb]; simp), if_pos hm]
theorem labAt_succ {ls : List (Int × Int)} {k : Nat} (hk : k < ls.length) (h : labAt ls k) (hb : inB (ls.getD k (0, 0)).1 (ls.getD k (0, 0)).2 = true) (hm : ls.getD k (0, 0) ∉ ls.take k) : labAt ls (k + 1) := by
  unfold labAt
  rw [h, drop_here hk, labFault, if_neg (by rw [hb]; simp), if_neg hm, take_here hk]
theorem labAt_end {ls : List (Int × Int)} (h : labAt ls ls.length) : labFault [] ls = 0 := by
  rw [h, List.drop_length]; rfl

def inR (n lo hi : Int) : Bool := decide (lo ≤ n ∧ n ≤ hi)
theorem inR_true {n lo hi : Int} (h1 : lo ≤ n) (h2 : n ≤ hi) : inR n lo hi = true := by simp [inR, h1, h2]
theorem inR_false {n lo hi : Int} (h : n < lo ∨ hi < n) : inR n lo hi = false := by simp [inR]; omega
theorem inR_of {n lo hi : Int} (h : inR n lo hi = true) : lo ≤ n ∧ n ≤ hi := by simpa [inR] using h
theorem inR_not {n lo hi : Int} (h : inR n lo hi = false) : n < lo ∨ hi < n := by simp [inR] at h; omega

theorem within_any (n lo hi : Int) (w : World) :
    Calls Tryd.prog 36 #[.int .i64 n, .int .i64 lo, .int .i64 hi] w fun e w' => e = .returned (.bool (inR n lo hi)) ∧ w' = w := by
  go_enter Tryd.func36, Tryd.ntmps36
  go_wp2
  all_goals go_ret
  all_goals exact ⟨ret_bool (by unfold inR; rw [Bool.eq_iff_iff]; simp; omega), rfl⟩

theorem inB_of (x y : Int) : inB x y = (inR x 0 9 && inR y 0 15) := by
  unfold inB inR
  rw [Bool.eq_iff_iff]
  simp
  omega

theorem inBounds_any (l c : Int) (w : World) :
    Calls Tryd.prog 43 #[.agg #[.int .i64 l, .int .i64 c]] w fun e w' => e = .returned (.bool (inB l c)) ∧ Below w.heap.size w w' := by
  have hA : Below w.heap.size w (w.alloc (.cells #[.int .i64 l, .int .i64 c] 64)) := (Below.refl _ _).alloc (Nat.le_refl _) _
  rw [inB_of]
  cases h1 : inR l 0 9 with
  | false =>
    go_enter Tryd.func43, Tryd.ntmps43
    go_wp2_with (go_at_call 36; refine (within_any _ _ _ _).mono ?_; rintro e w1 ⟨rfl, hu1⟩; rw [hu1]; clear hu1)
    go_ret
    exact ⟨rfl, hA⟩
  | true =>
    go_enter Tryd.func43, Tryd.ntmps43
    go_wp2_with (go_at_call 36; refine (within_any _ _ _ _).mono ?_; rintro e w1 ⟨rfl, hu1⟩; rw [hu1]; clear hu1)
    go_ret
    exact ⟨by simp, hA⟩
end Go.Proofs.YtfloplkepmpaiaaDoor
