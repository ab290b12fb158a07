/- Texts of this claim, one behind the other. -/
import Derived.Test.YtekglahigjblkaaGreatDoorProg
import Derived.WalkKit
import Derived.ProofKit
import Derived.Below
import Derived.Deep.QuietTactic
import Derived.BigQuiet
import Derived.LoopTactic
import Derived.WalkSmall
import Derived.Test.YtekglahigjblkaaGreatDoorA0RecoverRebuilds
import Derived.BigRegion
import Derived.RegionTactic
import Derived.Deep.RegionWith
/- Contracts of slices.Index and slices.Contains at labels: Contains tells whether a label is among those of a slice; what was in memory stays. -/
namespace Go.Proofs.YtekglahigjblkaaGreatDoor
open Go.ChangeShapes Go.WideShapes Go.ChangeAt Go.RowKit

/-- Labels that lie in memory one behind the other. -/
def Labs (w : World) (b off : Nat) (ls : List (Int × Int)) : Prop :=
  b < w.heap.size ∧ ∀ i, i < ls.length → w.cell? ⟨b, off + i * 2, none⟩ = some (.int .i64 (ls.getD i (0, 0)).1) ∧ w.cell? ⟨b, off + i * 2 + 1, none⟩ = some (.int .i64 (ls.getD i (0, 0)).2)

theorem Labs.below {w w' : World} {b off : Nat} {ls : List (Int × Int)} (h : Labs w b off ls) (hb : Below w.heap.size w w') : Labs w' b off ls := by
  obtain ⟨hc, _⟩ := bcell hb
  refine ⟨Nat.lt_of_lt_of_le h.1 hb.size, fun i hi => ?_⟩
  rw [hc _ _ h.1, hc _ _ h.1]
  exact h.2 i hi

theorem Labs.take {w : World} {b off : Nat} {ls : List (Int × Int)} (h : Labs w b off ls) (k : Nat) : Labs w b off (ls.take k) := by
  refine ⟨h.1, fun i hi => ?_⟩
  have hi' : i < k ∧ i < ls.length := by simp at hi; omega
  have := h.2 i hi'.2
  simpa [List.getD, List.getElem?_take, hi'.1] using this

theorem not_take_succ {ls : List (Int × Int)} {k : Nat} {p : Int × Int} (hk : k < ls.length) (h : p ∉ ls.take k) (hne : ¬ (p.1 = (ls.getD k (0, 0)).1 ∧ p.2 = (ls.getD k (0, 0)).2)) : p ∉ ls.take (k + 1) := by
  rw [List.take_succ_eq_append_getElem hk]
  simp only [List.mem_append, List.mem_singleton, not_or]
  refine ⟨h, fun e => hne ?_⟩
  simp [List.getD, hk, e]

theorem mem_of_getD {ls : List (Int × Int)} {k : Nat} {p : Int × Int} (hk : k < ls.length) (h1 : p.1 = (ls.getD k (0, 0)).1) (h2 : p.2 = (ls.getD k (0, 0)).2) : p ∈ ls := by
  have : p = ls[k] := by
    simp [List.getD, hk] at h1 h2
    exact Prod.ext h1 h2
  rw [this]
  exact List.getElem_mem hk

set_option maxHeartbeats 1000000 in
theorem index_any (b off cap : Nat) (ls : List (Int × Int)) (x y : Int) (w : World) (hl : ls.length ≤ 100) (h : Labs w b off ls) :
    Calls Tryz.prog 58 #[.slice (some ⟨b, off, none⟩) ls.length cap, .agg #[.int .i64 x, .int .i64 y]] w fun e w' => ∃ r : Int, e = .returned (.int .i64 r) ∧ (0 ≤ r ↔ (x, y) ∈ ls) ∧ Below w.heap.size w w' := by
  go_enter Tryz.func58, Tryz.ntmps58
  go_wp2
  go_loopw [8] (fun i wr => ∃ k : Nat, k ≤ ls.length ∧ i = .int .i64 k ∧ (x, y) ∉ ls.take k ∧ Below (w.heap.size + 1) (w.alloc (.cells #[.int .i64 x, .int .i64 y] 87)) wr) (fun i _ => ls.length - (intOf i).toNat)
  case atStart => exact ⟨0, Nat.zero_le _, rfl, by simp, Below.refl _ _⟩
  case round =>
    obtain ⟨k, hk, rfl, hno, hb⟩ := hrel
    by_cases hlt : k < ls.length
    · have hbw : Below w.heap.size w wr := ((Below.refl _ _).alloc (Nat.le_refl _) _).trans (hb.mono (by omega))
      have hr := (h.below hbw).2 k hlt
      obtain ⟨p, hp⟩ : ∃ p, p = (ls.getD k (0, 0)).1 := ⟨_, rfl⟩
      obtain ⟨q, hq⟩ : ∃ q, q = (ls.getD k (0, 0)).2 := ⟨_, rfl⟩
      rw [← hp, ← hq] at hr
      obtain ⟨c0, c1⟩ := hr
      have c2 : wr.cell? ⟨w.heap.size, 0, none⟩ = some (.int .i64 x) := by
        rw [hb.cell (p := ⟨w.heap.size, 0, none⟩) (by simp)]; go_simp
      have c3 : wr.cell? ⟨w.heap.size, 1, none⟩ = some (.int .i64 y) := by
        rw [hb.cell (p := ⟨w.heap.size, 1, none⟩) (by simp)]; go_simp
      by_cases e1 : x = p
      · by_cases e2 : y = q
        · have hm : (x, y) ∈ ls := mem_of_getD hlt (by rw [e1, hp]) (by rw [e2, hq])
          clear hp hq
          subst e1 e2
          go_wp2
          go_quiet (fail)
          go_wp2
          go_ret
          exact ⟨k, rfl, by simp [hm], below_drewN hbw nq⟩
        · have hn := not_take_succ (p := (x, y)) hlt hno (by rw [← hp, ← hq]; simp [e2])
          have e3 : (y == q) = false := by simpa using e2
          clear hp hq
          subst e1
          go_wp2
          go_quiet (fail)
          go_wp2
          go_roundw
          case rel => exact ⟨k + 1, by omega, by go_num, hn, below_drewN hb nq⟩
          case measure => simp [intOf]; omega
      · have hn := not_take_succ (p := (x, y)) hlt hno (by rw [← hp, ← hq]; simp [e1])
        have e3 : (x == p) = false := by simpa using e1
        clear hp hq
        go_wp2
        go_quiet (fail)
        go_wp2
        go_roundw
        case rel => exact ⟨k + 1, by omega, by go_num, hn, below_drewN hb nq⟩
        case measure => simp [intOf]; omega
    · have he : k = ls.length := by omega
      subst he
      rw [List.take_length] at hno
      go_wp2
      go_ret
      exact ⟨-1, rfl, by simp [hno], ((Below.refl _ _).alloc (Nat.le_refl _) _).trans (hb.mono (by omega))⟩

theorem contains_any (b off n cap : Nat) (ls : List (Int × Int)) (x y : Int) (w : World) (hn : ls.length = n) (hl : n ≤ 100) (h : Labs w b off ls) :
    Calls Tryz.prog 43 #[.slice (some ⟨b, off, none⟩) n cap, .agg #[.int .i64 x, .int .i64 y]] w fun e w' => e = .returned (.bool (decide ((x, y) ∈ ls))) ∧ Below w.heap.size w w' := by
  subst hn
  have hA : Below w.heap.size w (w.alloc (.cells #[.int .i64 x, .int .i64 y] 87)) := (Below.refl _ _).alloc (Nat.le_refl _) _
  go_enter Tryz.func43, Tryz.ntmps43
  go_wp2_with (go_at_call 58; refine (index_any _ _ _ _ _ _ _ hl (h.below hA)).mono ?_; rintro e w1 ⟨r, rfl, hr, hb1⟩)
  go_ret
  exact ⟨rfl, hA.trans (hb1.mono (by simp))⟩
end Go.Proofs.YtekglahigjblkaaGreatDoor
/- What a config's fault is, on numbers: of the sites, the labels one by one, the patience; and contracts of the two small range tests. -/
namespace Go.Proofs.YtekglahigjblkaaGreatDoor
open Go.ChangeShapes Go.WideShapes Go.ChangeAt Go.RowKit

def inB (l c : Int) : Bool := decide (0 ≤ l ∧ l ≤ 9 ∧ 0 ≤ c ∧ c ≤ 15)

/-- The fault of the first label that has one: 'seen' are those ahead. -/
def labFault (seen : List (Int × Int)) : List (Int × Int) → Int
  | [] => 0
  | a :: r => if inB a.1 a.2 = false then 2 else if a ∈ seen then 7 else labFault (seen ++ [a]) r

def cfgFault (s : Int) (ls : List (Int × Int)) (p : Int) : Int :=
  if s < 1 ∨ 4 < s then 2 else if ls.length < 1 ∨ 6 < ls.length then 1 else if labFault [] ls ≠ 0 then labFault [] ls else if p < 1 ∨ 1048576 < p then 2 else 0

theorem cfg_sites {s : Int} {ls : List (Int × Int)} {p : Int} (h : s < 1 ∨ 4 < s) : cfgFault s ls p = 2 := by simp [cfgFault, h]
theorem cfg_size {s : Int} {ls : List (Int × Int)} {p : Int} (h1 : 1 ≤ s) (h2 : s ≤ 4) (h : ls.length < 1 ∨ 6 < ls.length) : cfgFault s ls p = 1 := by
  unfold cfgFault
  rw [if_neg (by omega), if_pos h]
theorem cfg_lab {s : Int} {ls : List (Int × Int)} {p : Int} {f : Int} (h1 : 1 ≤ s) (h2 : s ≤ 4) (h3 : 1 ≤ ls.length) (h4 : ls.length ≤ 6) (h : labFault [] ls = f) (hf : f ≠ 0) : cfgFault s ls p = f := by
  unfold cfgFault
  rw [if_neg (by omega), if_neg (by omega), if_pos (by rw [h]; exact hf), h]
theorem cfg_late {s : Int} {ls : List (Int × Int)} {p : Int} (h1 : 1 ≤ s) (h2 : s ≤ 4) (h3 : 1 ≤ ls.length) (h4 : ls.length ≤ 6) (h : labFault [] ls = 0) (hp : p < 1 ∨ 1048576 < p) : cfgFault s ls p = 2 := by
  unfold cfgFault
  rw [if_neg (by omega), if_neg (by omega), if_neg (by simp [h]), if_pos hp]
theorem cfg_ok {s : Int} {ls : List (Int × Int)} {p : Int} (h1 : 1 ≤ s) (h2 : s ≤ 4) (h3 : 1 ≤ ls.length) (h4 : ls.length ≤ 6) (h : labFault [] ls = 0) (p1 : 1 ≤ p) (p2 : p ≤ 1048576) : cfgFault s ls p = 0 := by
  unfold cfgFault
  rw [if_neg (by omega), if_neg (by omega), if_neg (by simp [h]), if_neg (by omega)]

theorem cfg_zero {s : Int} {ls : List (Int × Int)} {p : Int} (h : cfgFault s ls p = 0) : 1 ≤ s ∧ s ≤ 4 ∧ 1 ≤ ls.length ∧ ls.length ≤ 6 ∧ labFault [] ls = 0 ∧ 1 ≤ p ∧ p ≤ 1048576 := by
  unfold cfgFault at h
  split at h
  · simp at h
  · split at h
    · simp at h
    · split at h
      · contradiction
      · split at h
        · simp at h
        · rename_i _ _ hz _
          have : labFault [] ls = 0 := Classical.not_not.1 hz
          omega

/-- Where the labels ahead of place k have no fault: the whole's fault is that of the rest. -/
def labAt (ls : List (Int × Int)) (k : Nat) : Prop := labFault [] ls = labFault (ls.take k) (ls.drop k)

theorem labAt_zero (ls : List (Int × Int)) : labAt ls 0 := by simp [labAt]
theorem drop_here {ls : List (Int × Int)} {k : Nat} (hk : k < ls.length) : ls.drop k = ls.getD k (0, 0) :: ls.drop (k + 1) := by
  rw [List.drop_eq_getElem_cons hk]; simp [List.getD, hk]
theorem take_here {ls : List (Int × Int)} {k : Nat} (hk : k < ls.length) : ls.take (k + 1) = ls.take k ++ [ls.getD k (0, 0)] := by
  rw [List.take_succ_eq_append_getElem hk]; simp [List.getD, hk]
theorem labAt_range {ls : List (Int × Int)} {k : Nat} (hk : k < ls.length) (h : labAt ls k) (hb : inB (ls.getD k (0, 0)).1 (ls.getD k (0, 0)).2 = false) : labFault [] ls = 2 := by
  rw [h, drop_here hk, labFault, if_pos hb]
theorem labAt_twice {ls : List (Int × Int)} {k : Nat} (hk : k < ls.length) (h : labAt ls k) (hb : inB (ls.getD k (0, 0)).1 (ls.getD k (0, 0)).2 = true) (hm : ls.getD k (0, 0) ∈ ls.take k) : labFault [] ls = 7 := by
  rw [h, drop_here hk, labFault, if_neg (by rw [hb]; simp), if_pos hm]
theorem labAt_succ {ls : List (Int × Int)} {k : Nat} (hk : k < ls.length) (h : labAt ls k) (hb : inB (ls.getD k (0, 0)).1 (ls.getD k (0, 0)).2 = true) (hm : ls.getD k (0, 0) ∉ ls.take k) : labAt ls (k + 1) := by
  unfold labAt
  rw [h, drop_here hk, labFault, if_neg (by rw [hb]; simp), if_neg hm, take_here hk]
theorem labAt_end {ls : List (Int × Int)} (h : labAt ls ls.length) : labFault [] ls = 0 := by
  rw [h, List.drop_length]; rfl

def inR (n lo hi : Int) : Bool := decide (lo ≤ n ∧ n ≤ hi)
theorem inR_true {n lo hi : Int} (h1 : lo ≤ n) (h2 : n ≤ hi) : inR n lo hi = true := by simp [inR, h1, h2]
theorem inR_false {n lo hi : Int} (h : n < lo ∨ hi < n) : inR n lo hi = false := by simp [inR]; omega
theorem inR_of {n lo hi : Int} (h : inR n lo hi = true) : lo ≤ n ∧ n ≤ hi := by simpa [inR] using h
theorem inR_not {n lo hi : Int} (h : inR n lo hi = false) : n < lo ∨ hi < n := by simp [inR] at h; omega

theorem within_any (n lo hi : Int) (w : World) :
    Calls Tryz.prog 41 #[.int .i64 n, .int .i64 lo, .int .i64 hi] w fun e w' => e = .returned (.bool (inR n lo hi)) ∧ w' = w := by
  go_enter Tryz.func41, Tryz.ntmps41
  go_wp2
  all_goals go_ret
  all_goals exact ⟨ret_bool (by unfold inR; rw [Bool.eq_iff_iff]; simp; omega), rfl⟩

theorem inB_of (x y : Int) : inB x y = (inR x 0 9 && inR y 0 15) := by
  unfold inB inR
  rw [Bool.eq_iff_iff]
  simp
  omega

theorem inBounds_any (l c : Int) (w : World) :
    Calls Tryz.prog 42 #[.agg #[.int .i64 l, .int .i64 c]] w fun e w' => e = .returned (.bool (inB l c)) ∧ Below w.heap.size w w' := by
  have hA : Below w.heap.size w (w.alloc (.cells #[.int .i64 l, .int .i64 c] 87)) := (Below.refl _ _).alloc (Nat.le_refl _) _
  rw [inB_of]
  cases h1 : inR l 0 9 with
  | false =>
    go_enter Tryz.func42, Tryz.ntmps42
    go_wp2_with (go_at_call 41; refine (within_any _ _ _ _).mono ?_; rintro e w1 ⟨rfl, hu1⟩; rw [hu1]; clear hu1)
    go_ret
    exact ⟨rfl, hA⟩
  | true =>
    go_enter Tryz.func42, Tryz.ntmps42
    go_wp2_with (go_at_call 41; refine (within_any _ _ _ _).mono ?_; rintro e w1 ⟨rfl, hu1⟩; rw [hu1]; clear hu1)
    go_ret
    exact ⟨by simp, hA⟩
end Go.Proofs.YtekglahigjblkaaGreatDoor
/- The contract of label.Check: at every config it returns the fault that cfgFault tells, and leaves what was in memory. -/
namespace Go.Proofs.YtekglahigjblkaaGreatDoor
open Go.ChangeShapes Go.WideShapes Go.ChangeAt Go.RowKit

/-- The labels of a config as they come: a slice of so many labels. -/
def IsLabs (w : World) (a : Option Addr) (len cap : Nat) (ls : List (Int × Int)) : Prop :=
  ls.length = len ∧ len ≤ cap ∧ cap ≤ maxLen ∧ (0 < len → ∃ b off, a = some ⟨b, off, none⟩ ∧ Labs w b off ls)

theorem IsLabs.below {w w' : World} {a : Option Addr} {len cap : Nat} {ls : List (Int × Int)} (h : IsLabs w a len cap ls) (hb : Below w.heap.size w w') : IsLabs w' a len cap ls := by
  obtain ⟨h1, h2, h3, h4⟩ := h
  refine ⟨h1, h2, h3, fun hp => ?_⟩
  obtain ⟨b, off, e, hl⟩ := h4 hp
  exact ⟨b, off, e, hl.below hb⟩

theorem check_sites (s p : Int) (a : Option Addr) (len cap : Nat) (w : World) (hs : s < 1 ∨ 4 < s) :
    Calls Tryz.prog 24 #[.agg #[.int .i64 s, .slice a len cap, .int .i64 p]] w fun e w' => e = .returned (.int .i64 2) ∧ Below w.heap.size w w' := by
  have hA : Below w.heap.size w (w.alloc (.cells #[.int .i64 s, .slice a len cap, .int .i64 p] 24)) := (Below.refl _ _).alloc (Nat.le_refl _) _
  have h1 := inR_false hs
  go_enter Tryz.func24, Tryz.ntmps24
  go_wp2_with (go_at_call 41; refine (within_any _ _ _ _).mono ?_; rintro e w1 ⟨rfl, hu1⟩; rw [hu1]; clear hu1)
  go_ret
  exact ⟨rfl, hA⟩

theorem check_size (s p : Int) (a : Option Addr) (len cap : Nat) (w : World) (h1 : 1 ≤ s) (h2 : s ≤ 4) (hn : len < 1 ∨ 6 < len) :
    Calls Tryz.prog 24 #[.agg #[.int .i64 s, .slice a len cap, .int .i64 p]] w fun e w' => e = .returned (.int .i64 1) ∧ Below w.heap.size w w' := by
  have hA : Below w.heap.size w (w.alloc (.cells #[.int .i64 s, .slice a len cap, .int .i64 p] 24)) := (Below.refl _ _).alloc (Nat.le_refl _) _
  have h3 := inR_true h1 h2
  have h4 : inR (len : Int) 1 6 = false := inR_false (by omega)
  go_enter Tryz.func24, Tryz.ntmps24
  go_wp2_with (go_at_call 41; refine (within_any _ _ _ _).mono ?_; rintro e w1 ⟨rfl, hu1⟩; rw [hu1]; clear hu1)
  go_ret
  exact ⟨rfl, hA⟩

set_option maxHeartbeats 1000000 in
theorem check_labs (s p : Int) (b off : Nat) (cap : Nat) (ls : List (Int × Int)) (w : World) (h1 : 1 ≤ s) (h2 : s ≤ 4) (h3 : 1 ≤ ls.length) (h4 : ls.length ≤ 6) (hc : ls.length ≤ cap) (h : Labs w b off ls) :
    Calls Tryz.prog 24 #[.agg #[.int .i64 s, .slice (some ⟨b, off, none⟩) ls.length cap, .int .i64 p]] w fun e w' => e = .returned (.int .i64 (cfgFault s ls p)) ∧ Below w.heap.size w w' := by
  have i3 : (1 : Int) ≤ (ls.length : Int) := by omega
  have i4 : (ls.length : Int) ≤ 6 := by omega
  have r1 := inR_true h1 h2
  have r2 : inR (ls.length : Int) 1 6 = true := inR_true (by omega) (by omega)
  go_enter Tryz.func24, Tryz.ntmps24
  go_wp2_with (go_at_call 41; refine (within_any _ _ _ _).mono ?_; rintro e w1 ⟨rfl, hu1⟩; rw [hu1]; clear hu1)
  go_loopw [17] (fun i wr => ∃ k : Nat, k ≤ ls.length ∧ i = .int .i64 k ∧ labAt ls k ∧ Below (w.heap.size + 1) (w.alloc (.cells #[.int .i64 s, .slice (some ⟨b, off, none⟩) ls.length cap, .int .i64 p] 24)) wr) (fun i _ => ls.length - (intOf i).toNat)
  case atStart => exact ⟨0, Nat.zero_le _, rfl, labAt_zero _, Below.refl _ _⟩
  case round =>
    obtain ⟨k, hk, rfl, hat, hb⟩ := hrel
    have hbw : Below w.heap.size w wr := ((Below.refl _ _).alloc (Nat.le_refl _) _).trans (hb.mono (by omega))
    have d0 : wr.cell? ⟨w.heap.size, 0, none⟩ = some (.int .i64 s) := by
      rw [hb.cell (p := ⟨w.heap.size, 0, none⟩) (by simp)]; go_simp
    have d1 : wr.cell? ⟨w.heap.size, 1, none⟩ = some (.slice (some ⟨b, off, none⟩) ls.length cap) := by
      rw [hb.cell (p := ⟨w.heap.size, 1, none⟩) (by simp)]; go_simp
    have d2 : wr.cell? ⟨w.heap.size, 2, none⟩ = some (.int .i64 p) := by
      rw [hb.cell (p := ⟨w.heap.size, 2, none⟩) (by simp)]; go_simp
    have hz : w.heap.size < wr.heap.size := by have := hb.size; simp at this; omega
    by_cases hlt : k < ls.length
    · have hr := (h.below hbw).2 k hlt
      obtain ⟨x, hx⟩ : ∃ p, p = (ls.getD k (0, 0)).1 := ⟨_, rfl⟩
      obtain ⟨y, hy⟩ : ∃ q, q = (ls.getD k (0, 0)).2 := ⟨_, rfl⟩
      rw [← hx, ← hy] at hr
      obtain ⟨c0, c1⟩ := hr
      have hxy : ls.getD k (0, 0) = (x, y) := Prod.ext hx.symm hy.symm
      clear hx hy
      have hA1 : Below wr.heap.size wr (wr.alloc (.cells #[.int .i64 x, .int .i64 y] 87)) := (Below.refl _ _).alloc (Nat.le_refl _) _
      cases hB : inB x y with
      | false =>
        have hf : cfgFault s ls p = 2 := cfg_lab h1 h2 h3 h4 (labAt_range hlt hat (by rw [hxy]; exact hB)) (by decide)
        clear hxy
        go_wp2_with (go_at_call 42; refine (inBounds_any _ _ _).mono ?_; rintro e w1 ⟨rfl, hb1⟩)
        go_ret
        exact ⟨ret_int hf.symm, hbw.trans ((hA1.mono (by omega)).trans (hb1.mono (by simp; omega)))⟩
      | true =>
        have hT : Hid ((x, y) ∈ ls.take k → cfgFault s ls p = 7) := fun hmem => cfg_lab h1 h2 h3 h4 (labAt_twice hlt hat (by rw [hxy]; exact hB) (by rw [hxy]; exact hmem)) (by decide)
        have hS : Hid ((x, y) ∉ ls.take k → labAt ls (k + 1)) := fun hmem => labAt_succ hlt hat (by rw [hxy]; exact hB) (by rw [hxy]; exact hmem)
        clear hxy
        go_wp2_with (go_at_call 42; refine (inBounds_any _ _ _).mono ?_; rintro e w1 ⟨rfl, hb1⟩)
        have hb1' : Below wr.heap.size wr w1 := hA1.trans (hb1.mono (by simp))
        have f1 : w1.cell? ⟨w.heap.size, 1, none⟩ = some (.slice (some ⟨b, off, none⟩) ls.length cap) := by
          rw [hb1'.cell (p := ⟨w.heap.size, 1, none⟩) hz]; exact d1
        have f2 : w1.cell? ⟨wr.heap.size, 0, none⟩ = some (.int .i64 x) := by
          rw [hb1.cell (p := ⟨wr.heap.size, 0, none⟩) (by simp)]; go_simp
        have f3 : w1.cell? ⟨wr.heap.size, 1, none⟩ = some (.int .i64 y) := by
          rw [hb1.cell (p := ⟨wr.heap.size, 1, none⟩) (by simp)]; go_simp
        have hL1 : Labs w1.drew b off (ls.take k) := (((h.below hbw).below hb1').below (Below.refl _ _).drew).take k
        have hLn : (ls.take k).length = k := by simp; omega
        have hk100 : k ≤ 100 := by omega
        have hkc : (k : Int) ≤ (cap : Int) := by omega
        go_region_with (go_at_call 43; refine (contains_any b off k cap (ls.take k) x y _ hLn hk100 hL1).mono ?_; rintro e w2 ⟨rfl, hb2⟩)
        all_goals
          have hb3 : Below (w.heap.size + 1) (w.alloc (.cells #[.int .i64 s, .slice (some ⟨b, off, none⟩) ls.length cap, .int .i64 p] 24)) w2 := hb.trans ((hb1'.mono hz).trans ((Below.refl _ _).drew.trans (hb2.mono (by have := hb1'.size; simp; omega))))
          have hb4 : Below w.heap.size w w2 := ((Below.refl _ _).alloc (Nat.le_refl _) _).trans (hb3.mono (by omega))
          by_cases hmem : (x, y) ∈ ls.take k
          · have hf := hT.out hmem
            go_wp2
            go_ret
            exact ⟨ret_int hf.symm, hb4⟩
          · have hn := hS.out hmem
            go_wp2
            go_roundw
            case rel => exact ⟨k + 1, by omega, by go_num, hn, hb3⟩
            case measure => simp [intOf]; omega
    · have he : k = ls.length := by omega
      subst he
      have hf := labAt_end hat
      by_cases hp : p < 1 ∨ 1048576 < p
      · have hr := inR_false hp
        go_wp2_with (go_at_call 41; refine (within_any _ _ _ _).mono ?_; rintro e w1 ⟨rfl, hu1⟩; rw [hu1]; clear hu1)
        go_ret
        exact ⟨ret_int (cfg_late h1 h2 h3 h4 hf hp).symm, hbw⟩
      · have hr : inR p 1 1048576 = true := inR_true (by omega) (by omega)
        go_wp2_with (go_at_call 41; refine (within_any _ _ _ _).mono ?_; rintro e w1 ⟨rfl, hu1⟩; rw [hu1]; clear hu1)
        go_ret
        exact ⟨ret_int (cfg_ok h1 h2 h3 h4 hf (by omega) (by omega)).symm, hbw⟩

theorem check_any (s p : Int) (a : Option Addr) (len cap : Nat) (ls : List (Int × Int)) (w : World) (h : IsLabs w a len cap ls) :
    Calls Tryz.prog 24 #[.agg #[.int .i64 s, .slice a len cap, .int .i64 p]] w fun e w' => e = .returned (.int .i64 (cfgFault s ls p)) ∧ Below w.heap.size w w' := by
  obtain ⟨rfl, h2, _, h4⟩ := h
  by_cases hs : s < 1 ∨ 4 < s
  · rw [cfg_sites hs]
    exact check_sites s p a _ cap w hs
  · by_cases hn : ls.length < 1 ∨ 6 < ls.length
    · rw [cfg_size (by omega) (by omega) hn]
      exact check_size s p a _ cap w (by omega) (by omega) hn
    · obtain ⟨b, off, rfl, hL⟩ := h4 (by omega)
      exact check_labs s p b off cap ls w (by omega) (by omega) (by omega) (by omega) h2 hL
end Go.Proofs.YtekglahigjblkaaGreatDoor
