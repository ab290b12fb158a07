/- The contract of label.purgeKeep: a copy of an act's Keep, in a crash with 0 at the places of labels that are not seen; in memory of its own. -/
import Derived.Test.YtppnhcnkcbhbiaaHides
import Derived.Test.YtppnhcnkcbhbiaaOwnMore
import Derived.LoopTactic
import Derived.WalkSmall
import Derived.Deep.AppendLies
namespace Go.Proofs.Ytppnhcnkcbhbiaa
open Go.ChangeShapes Go.WideShapes Go.ChangeAt Go.RowKit
set_option linter.unusedVariables false

theorem intInfo : (Try.prog.info? 3).map (fun i => (i.zero, i.size, i.bytes)) = some (some (.int .i64 0), 1, 8) := by kernel_rfl

def AV.val (a : AV) : Value := .agg #[.int .i64 a.kind, .int .i64 a.site, .int .i64 a.to, .int .i64 a.label, .int .i64 a.pick, .slice a.ka a.kl a.kc, .int .i64 a.c0, .int .i64 a.c1, .int .i64 a.c2, .int .i64 a.c3, .int .i64 a.c4, .string a.line]

/-- The Keep behind k rounds. -/
def keepAt (ls : List (Int × Int)) (l : Int) (keep : List Int) (k : Nat) : List Int := keep.zipIdx.map fun p => if p.2 < k ∧ hid ls l (p.2 : Int) = true then 0 else p.1
theorem keepAt_len (ls : List (Int × Int)) (l : Int) (keep : List Int) (k : Nat) : (keepAt ls l keep k).length = keep.length := by simp [keepAt]
theorem keepAt_zero (ls : List (Int × Int)) (l : Int) (keep : List Int) : keepAt ls l keep 0 = keep := by
  unfold keepAt
  apply List.ext_getElem (by simp)
  intro i h1 h2
  simp
theorem keepAt_end (ls : List (Int × Int)) (l : Int) (keep : List Int) : keepAt ls l keep keep.length = keepOf ls l 6 keep := by
  unfold keepAt keepOf
  rw [if_pos rfl]
  apply List.ext_getElem (by simp)
  intro i h1 h2
  have hi : i < keep.length := by simpa using h1
  simp [hi]
theorem keepAt_hid (ls : List (Int × Int)) (l : Int) (keep : List Int) (k : Nat) (hk : k < keep.length) (h : hid ls l (k : Int) = true) : keepAt ls l keep (k + 1) = (keepAt ls l keep k).set k 0 := by
  unfold keepAt
  apply List.ext_getElem (by simp)
  intro i h1 h2
  simp only [List.getElem_map, List.getElem_zipIdx, List.getElem_set, Nat.zero_add]
  by_cases e : k = i
  · subst e
    simp [h]
  · have : i < k + 1 ↔ i < k := by omega
    simp [e, this]
theorem keepAt_not (ls : List (Int × Int)) (l : Int) (keep : List Int) (k : Nat) (h : hid ls l (k : Int) = false) : keepAt ls l keep (k + 1) = keepAt ls l keep k := by
  unfold keepAt
  apply List.ext_getElem (by simp)
  intro i h1 h2
  simp only [List.getElem_map, List.getElem_zipIdx, Nat.zero_add]
  by_cases e : k = i
  · subst e
    simp [h]
  · have : i < k + 1 ↔ i < k := by omega
    simp [this]

theorem news_ints {w : World} {b off : Nat} {zs : List Int} (h : ∀ i, i < zs.length → w.cell? ⟨b, off + i, none⟩ = some (.int .i64 (zs.getD i 0))) : ∀ j u, (zs.map (Value.int .i64))[j]? = some u → w.cell? ((⟨b, off, none⟩ : Addr).add j) = some u := by
  intro j u hu
  have e : (⟨b, off, none⟩ : Addr).add j = ⟨b, off + j, none⟩ := by
    unfold Addr.add
    by_cases hj : j = 0 <;> simp [hj]
  have hj : j < zs.length := by
    have := (List.getElem?_eq_some_iff.1 hu).1
    simpa using this
  rw [e, h j hj, ← hu]
  simp [List.getD, hj]
theorem ints_one (zs : List Int) : ∀ u ∈ zs.map (Value.int .i64), u.oneCell' = true := by
  intro u hu
  simp at hu
  obtain ⟨_, _, rfl⟩ := hu
  rfl

set_option maxHeartbeats 2000000 in
theorem purgeKeep_any (s p : Int) (ad : Option Addr) (len cap : Nat) (ls : List (Int × Int)) (l : Int) (a : AV) (w : World) (h : IsLabs w ad len cap ls) (hl : plc l len = true) (hk : IsInts w a.ka a.kl a.kc a.keep) (hsz : a.keep.length * 8 ≤ 140737488355328) :
    Calls Try.prog 26 #[.agg #[.int .i64 s, .slice ad len cap, .int .i64 p], .int .i64 l, a.val] w fun e w' => ∃ v, e = .returned v ∧ w'.ownsRow w.heap.size 3 1 v a.keep.length ((keepOf ls l a.kind a.keep).map (Value.int .i64)) ∧ Below w.heap.size w w' := by
  obtain ⟨i0, hi, li0, li1, li2⟩ := info_parts intInfo
  obtain ⟨kind, site, to, label, pick, ka, kl, kc, c0, c1, c2, c3, c4, line, keep⟩ := a
  simp only [AV.val] at hk hsz ⊢
  obtain ⟨hlen, hkc, hkm, hbd, hrow⟩ := id hk
  have hA : Below w.heap.size w ((w.alloc (.cells #[.int .i64 s, .slice ad len cap, .int .i64 p] 25)).alloc (.cells #[.int .i64 kind, .int .i64 site, .int .i64 to, .int .i64 label, .int .i64 pick, .slice ka kl kc, .int .i64 c0, .int .i64 c1, .int .i64 c2, .int .i64 c3, .int .i64 c4, .string line] 47)) := ((Below.refl _ _).alloc (Nat.le_refl _) _).alloc (by simp) _
  obtain ⟨W, hW⟩ : ∃ W : World, W = (w.alloc (.cells #[.int .i64 s, .slice ad len cap, .int .i64 p] 25)).alloc (.cells #[.int .i64 kind, .int .i64 site, .int .i64 to, .int .i64 label, .int .i64 pick, .slice ka kl kc, .int .i64 c0, .int .i64 c1, .int .i64 c2, .int .i64 c3, .int .i64 c4, .string line] 47) := ⟨_, rfl⟩
  have zW : W.heap.size = w.heap.size + 2 := by rw [hW]; simp
  have d0 : W.cell? ⟨w.heap.size, 0, none⟩ = some (.int .i64 s) := by rw [hW]; go_simp
  have d1 : W.cell? ⟨w.heap.size, 1, none⟩ = some (.slice ad len cap) := by rw [hW]; go_simp
  have d2 : W.cell? ⟨w.heap.size, 2, none⟩ = some (.int .i64 p) := by rw [hW]; go_simp
  have e0 : W.cell? ⟨w.heap.size + 1, 0, none⟩ = some (.int .i64 kind) := by rw [hW]; go_simp
  have e5 : W.cell? ⟨w.heap.size + 1, 5, none⟩ = some (.slice ka kl kc) := by rw [hW]; go_simp
  rw [← hW] at hA
  have hkW := hk.below hA
  have hLW := h.below hA
  by_cases hz : keep.length = 0
  · obtain rfl : keep = [] := List.length_eq_zero_iff.1 hz
    obtain rfl : kl = 0 := by simpa using hlen.symm
    have hko : keepOf ls l kind [] = [] := by unfold keepOf; split <;> rfl
    rw [hko]
    have hnil := World.ownsRow_nil W w.heap.size 3 1
    cases ka with
    | none =>
      by_cases h6 : kind = 6
      · subst h6
        go_enter Try.func26, Try.ntmps26
        go_wp2
        rw [← hW]
        clear hW
        go_loopw [18] (fun i wr => i = .int .i64 0 ∧ wr = W) (fun _ _ => 0)
        case atStart => exact ⟨rfl, rfl⟩
        case round =>
          obtain ⟨rfl, rfl⟩ := hrel
          go_wp2
          go_ret
          exact ⟨_, rfl, hnil, hA⟩
      · go_enter Try.func26, Try.ntmps26
        go_wp2
        rw [← hW]
        clear hW
        go_ret
        exact ⟨_, rfl, hnil, hA⟩
    | some x =>
      by_cases h6 : kind = 6
      · subst h6
        go_enter Try.func26, Try.ntmps26
        go_wp2_with (at_builtin; rw [← hW]; clear hW; refine wpList_append_own _ rfl _ _ 22 rfl (w.heap.size + 2) 3 i0 (.int .i64 0) 1 8 Try.underlying22 hi li0 li1 li2 rfl (by decide) (.slice none 0 0) 0 [] rfl (World.ownsRow_nil _ _ _ _) x 0 kc [] rfl rfl (by intro j u hj; simp at hj) (by intro u hu; simp at hu) (by unfold maxLen; omega) (by omega) (by omega) ?_)
        intro v' w2 hown hgrow hnv
        have hnv' : v' = .slice none 0 0 := by simpa using hnv
        subst hnv'
        have hBw : Below W.heap.size W w2 := (Below.refl _ _).grown hgrow (Nat.le_refl _) (by intro k hk'; exact absurd hk' (by simp [Value.ownBlock]))
        have hB2 : Below w.heap.size w w2 := hA.trans (hBw.mono hA.size)
        have f0 := (hBw.cell (p := ⟨w.heap.size + 1, 0, none⟩) (by show w.heap.size + 1 < _; omega)).trans e0
        have hnil2 := World.ownsRow_nil w2 w.heap.size 3 1
        clear hown hgrow hnv
        go_wp2
        go_loopw [18] (fun i wr => i = .int .i64 0 ∧ wr = w2) (fun _ _ => 0)
        case atStart => exact ⟨rfl, rfl⟩
        case round =>
          obtain ⟨rfl, rfl⟩ := hrel
          go_wp2
          go_ret
          exact ⟨_, rfl, hnil2, hB2⟩
      · go_enter Try.func26, Try.ntmps26
        go_wp2_with (at_builtin; rw [← hW]; clear hW; refine wpList_append_own _ rfl _ _ 22 rfl (w.heap.size + 2) 3 i0 (.int .i64 0) 1 8 Try.underlying22 hi li0 li1 li2 rfl (by decide) (.slice none 0 0) 0 [] rfl (World.ownsRow_nil _ _ _ _) x 0 kc [] rfl rfl (by intro j u hj; simp at hj) (by intro u hu; simp at hu) (by unfold maxLen; omega) (by omega) (by omega) ?_)
        intro v' w2 hown hgrow hnv
        have hnv' : v' = .slice none 0 0 := by simpa using hnv
        subst hnv'
        have hBw : Below W.heap.size W w2 := (Below.refl _ _).grown hgrow (Nat.le_refl _) (by intro k hk'; exact absurd hk' (by simp [Value.ownBlock]))
        have hB2 : Below w.heap.size w w2 := hA.trans (hBw.mono hA.size)
        have f0 := (hBw.cell (p := ⟨w.heap.size + 1, 0, none⟩) (by show w.heap.size + 1 < _; omega)).trans e0
        have hnil2 := World.ownsRow_nil w2 w.heap.size 3 1
        clear hown hgrow hnv
        go_wp2
        go_ret
        exact ⟨_, rfl, hnil2, hB2⟩
  · obtain ⟨b, off, rfl, hbW, hcell⟩ := hkW.2.2.2.2 (by omega)
    have hkl : kl = keep.length := hlen.symm
    subst hkl
    by_cases h6 : kind = 6
    · subst h6
      have hn0 : 0 < keep.length := by omega
      obtain ⟨n, hn⟩ : ∃ n, n = keep.length := ⟨_, rfl⟩
      rw [← hn] at hn0 hcell hsz hlen hkc ⊢
      have HN : Hid (n = keep.length) := hn
      have hlm : (keep.map (Value.int .i64)).length = n * 1 := by rw [hn]; simp
      rw [← hn] at e5
      simp only [← hn] at hW
      clear hn hkW hrow hk
      go_enter Try.func26, Try.ntmps26
      go_wp2_with (at_builtin; rw [← hW]; clear hW; refine wpList_append_own _ rfl _ _ 22 rfl (w.heap.size + 2) 3 i0 (.int .i64 0) 1 8 Try.underlying22 hi li0 li1 li2 rfl (by decide) (.slice none 0 0) 0 [] rfl (World.ownsRow_nil _ _ _ _) ⟨b, off, none⟩ n kc (keep.map (Value.int .i64)) rfl hlm (news_ints (by rw [← HN.out]; exact hcell)) (ints_one keep) (by unfold maxLen; omega) (by omega) (by omega) ?_)
      intro v' w2 hown hgrow _
      try simp only [Nat.zero_add, List.nil_append] at hown
      have hBw : Below W.heap.size W w2 := (Below.refl _ _).grown hgrow (Nat.le_refl _) (by intro k hk'; exact absurd hk' (by simp [Value.ownBlock]))
      have f0 := (hBw.cell (p := ⟨w.heap.size + 1, 0, none⟩) (by show w.heap.size + 1 < _; omega)).trans e0
      obtain ⟨g, cp, hv, hg1, hg2⟩ := World.ownsRow.form hown hn0
      rw [hv] at hown ⊢
      clear hgrow hv
      go_wp2
      go_loopw [18] (fun i wr => ∃ k : Nat, k ≤ n ∧ i = .int .i64 k ∧ wr.ownsRow (w.heap.size + 2) 3 1 (.slice (some ⟨g, 0, none⟩) n cp) n ((keepAt ls l keep k).map (Value.int .i64)) ∧ Below W.heap.size W wr) (fun i _ => n - (intOf i).toNat)
      case atStart => exact ⟨0, Nat.zero_le _, rfl, by rw [keepAt_zero]; exact hown, hBw⟩
      case round =>
        obtain ⟨k, hk, rfl, hok, hbk⟩ := hrel
        have hBk : Below w.heap.size w wr := hA.trans (hbk.mono hA.size)
        have x0 := (hbk.cell (p := ⟨w.heap.size, 0, none⟩) (by show w.heap.size < _; omega)).trans d0
        have x1 := (hbk.cell (p := ⟨w.heap.size, 1, none⟩) (by show w.heap.size < _; omega)).trans d1
        have x2 := (hbk.cell (p := ⟨w.heap.size, 2, none⟩) (by show w.heap.size < _; omega)).trans d2
        by_cases hlt : k < n
        · have hlt' : (k : Int) < (n : Int) := by omega
          have hnm : (n : Int) ≤ 9223372036854775807 := by omega
          cases hh : hid ls l (k : Int) with
          | true =>
            have hst : keepAt ls l keep (k + 1) = (keepAt ls l keep k).set k 0 := keepAt_hid ls l keep k (by have := HN.out; omega) hh
            have HST : Hid (keepAt ls l keep (k + 1) = (keepAt ls l keep k).set k 0) := hst
            clear hst
            go_wp2_with (go_at_call 25; refine (hides_any s p ad len cap ls l _ _ (h.below hBk) hl).mono ?_; rintro e w3 ⟨rfl, hb3⟩
                         have hos := own_set (own_below' hok hb3) hlt (.int .i64 0)
                         obtain ⟨hos1, hos2, v3, hos3⟩ := hos)
            go_roundw
            case rel =>
              refine ⟨k + 1, by omega, by go_num, ?_, (hbk.trans (hb3.mono hbk.size)).setCell (by show W.heap.size ≤ g; omega) _⟩
              rw [HST.out, List.map_set]
              exact hos1
            case measure => simp [intOf]; omega
          | false =>
            have HST : Hid (keepAt ls l keep (k + 1) = keepAt ls l keep k) := keepAt_not ls l keep k hh
            go_wp2_with (go_at_call 25; refine (hides_any s p ad len cap ls l _ _ (h.below hBk) hl).mono ?_; rintro e w3 ⟨rfl, hb3⟩)
            go_roundw
            case rel => exact ⟨k + 1, by omega, by go_num, by rw [HST.out]; exact own_below' hok hb3, hbk.trans (hb3.mono hbk.size)⟩
            case measure => simp [intOf]; omega
        · have hke : k = n := by omega
          subst hke
          have HE : Hid (keepAt ls l keep k = keepOf ls l 6 keep) := by
            show keepAt ls l keep k = keepOf ls l 6 keep
            rw [HN.out]
            exact keepAt_end ls l keep
          go_wp2
          go_ret
          exact ⟨_, rfl, by rw [← HE.out]; exact own_base hok (by omega), hBk⟩
    · have hko : keepOf ls l kind keep = keep := by unfold keepOf; rw [if_neg h6]
      rw [hko]
      go_enter Try.func26, Try.ntmps26
      go_wp2_with (at_builtin; rw [← hW]; clear hW; refine wpList_append_own _ rfl _ _ 22 rfl (w.heap.size + 2) 3 i0 (.int .i64 0) 1 8 Try.underlying22 hi li0 li1 li2 rfl (by decide) (.slice none 0 0) 0 [] rfl (World.ownsRow_nil _ _ _ _) ⟨b, off, none⟩ keep.length kc (keep.map (Value.int .i64)) rfl (by simp) (news_ints hcell) (ints_one keep) (by unfold maxLen; omega) (by omega) (by omega) ?_)
      intro v' w2 hown hgrow _
      try simp only [Nat.zero_add, List.nil_append] at hown
      have hBw : Below W.heap.size W w2 := (Below.refl _ _).grown hgrow (Nat.le_refl _) (by intro k hk'; exact absurd hk' (by simp [Value.ownBlock]))
      have hB2 : Below w.heap.size w w2 := hA.trans (hBw.mono hA.size)
      have f0 := (hBw.cell (p := ⟨w.heap.size + 1, 0, none⟩) (by show w.heap.size + 1 < _; omega)).trans e0
      obtain ⟨ao, cp, hv, hr1, hr2⟩ := own_form hown
      rw [hv] at hown ⊢
      go_wp2
      go_ret
      exact ⟨_, rfl, own_base hown (by omega), hB2⟩
end Go.Proofs.Ytppnhcnkcbhbiaa
