/- The contract of wire.appendNumber: a number's bytes, the highest first, behind a row of bytes of the call's own. -/
import Derived.Test.YtilhkonanncfiaaDoorWBytes
namespace Go.Proofs.YtilhkonanncfiaaDoor
open Go.ChangeShapes Go.WideShapes Go.ChangeAt Go.RowKit
set_option linter.unusedVariables false

theorem grown_then {a b c : World} {row row' : Option Nat} (h : a.grownBy b row) (k : b.grownBy c row') (hr : ∀ j, row' = some j → a.heap.size ≤ j ∨ row = some j) : a.grownBy c row := by
  refine ⟨k.os.trans h.os, k.tape.trans h.tape, k.output.trans h.output, Nat.le_trans h.size k.size, fun i hi hne => ?_⟩
  rw [k.block i (Nat.lt_of_lt_of_le hi h.size) ?_, h.block i hi hne]
  intro e
  rcases hr i e.symm with h1 | h1
  · omega
  · exact hne h1.symm
theorem grown_refl (a : World) (row : Option Nat) : a.grownBy a row := ⟨rfl, rfl, rfl, Nat.le_refl _, fun _ _ _ => rfl⟩

/-- Where the row of the call's own may lie behind an append: where it lay, or in new memory. -/
def Beyond (w : World) (v v' : Value) : Prop := ∀ j, v'.ownBlock = some j → w.heap.size ≤ j ∨ v.ownBlock = some j

theorem u8_byte (n : Int) (k : Nat) : IntKind.u8.wrap (n / 2 ^ (8 * k)) = n / 256 ^ k % 256 := by
  have e : (2 : Int) ^ (8 * k) = 256 ^ k := by rw [Int.pow_mul]; rfl
  rw [e]
  simp [IntKind.wrap, IntKind.bits, IntKind.signed]

set_option maxRecDepth 100000 in
set_option maxHeartbeats 2000000 in
theorem appendNumber_any (B : Nat) (v : Value) (m : Nat) (bs : List Int) (n : Int) (wd : Nat) (w : World) (hw : 1 ≤ wd ∧ wd ≤ 4) (hm : m ≤ 1000) (hB : B ≤ w.heap.size) (ho : w.ownsRow B 5 1 v m (bytesV bs)) :
    Calls Tryd.prog 35 #[v, .int .i64 n, .int .i64 (wd : Int)] w fun e w' => ∃ v', e = .returned v' ∧ w'.ownsRow B 5 1 v' (m + wd) (bytesV (bs ++ be n wd)) ∧ w.grownBy w' v.ownBlock ∧ Beyond w v v' := by
  obtain ⟨i0, hi, li0, li1, li2⟩ := info_parts byteInfo
  obtain ⟨hw1, hw4⟩ := hw
  have w1 : (1 : Int) ≤ (wd : Int) := by omega
  have w4 : (wd : Int) ≤ 4 := by omega
  go_enter Tryd.func35, Tryd.ntmps35
  go_wp2
  go_loopw [0, 7] (fun s0 s7 wr => ∃ (j : Nat) (cs : List Int), j ≤ wd ∧ s7 = .int .i64 (8 * (j : Int) - 8) ∧ wr.ownsRow B 5 1 s0 (m + (wd - j)) (bytesV cs) ∧ Hid (cs ++ be n j = bs ++ be n wd) ∧ w.grownBy wr v.ownBlock ∧ Beyond w v s0) (fun _ i _ => ((intOf i) + 8).toNat)
  case atStart => exact ⟨wd, bs, by omega, by go_num, by simpa using ho, rfl, grown_refl _ _, fun j hj => .inr hj⟩
  case round =>
    obtain ⟨j, cs, hj, rfl, hown, hcs, hgr, hby⟩ := hrel
    rcases (by omega : j = 0 ∨ j = 1 ∨ j = 2 ∨ j = 3 ∨ j = 4) with rfl | rfl | rfl | rfl | rfl
    · go_wp2
      go_ret
      refine ⟨_, rfl, ?_, hgr, hby⟩
      have e := hcs.out
      simp only [be, List.append_nil] at e
      rw [← e]
      simpa using hown
    · have hn : Hid ((cs ++ [n % 256]) ++ be n 0 = bs ++ be n wd) := by
        show (cs ++ [n % 256]) ++ be n 0 = _
        rw [← hcs.out, List.append_assoc]
        simp [be]
      clear hcs
      have hws : B ≤ (wr.alloc (.cells #[.int .u8 (n % 256)] 5)).heap.size := by have := hgr.size; simp; omega
      have hoA : (wr.alloc (.cells #[.int .u8 (n % 256)] 5)).ownsRow B 5 1 u0 (m + (wd - 1)) (bytesV cs) := hown.alloc _
      go_wp2_with (at_builtin; go_loud (refine wpList_append_lies _ (by rfl) (.tmp 15) (.tmp 20) 30 (by rfl) B 5 i0 (.int .u8 0) 1 1 Tryd.underlying30 hi li0 li1 li2 rfl (by decide) u0 _ _ (by rfl) hoA ⟨wr.heap.size, 0, none⟩ 1 1 [.int .u8 (n % 256)] rfl rfl ?c1 ?c2 (by omega) ?c3 ?c4 hws _ rfl ?_))
      case c1 =>
        intro i u hu
        obtain ⟨rfl, rfl⟩ : i = 0 ∧ u = .int .u8 (n % 256) := by
          cases i with
          | zero => simpa [eq_comm] using hu
          | succ i => simp at hu
        go_simp
      case c2 =>
        intro u hu
        simp at hu
        subst hu
        rfl
      case c3 => unfold maxLen; omega
      case c4 => omega
      intro g cap w2 hown' hgrow hat hlt
      have hgr' : w.grownBy w2 v.ownBlock := grown_then (grown_then hgr (World.grownBy_alloc wr _ none) (by intro j hj; cases hj)) hgrow hby
      have hby' : Beyond w v (.slice (some ⟨g, 0, none⟩) (m + (wd - 1) + 1) cap) := by
        intro q hq
        simp [Value.ownBlock] at hq
        subst hq
        rcases hat with h1 | h1
        · exact hby _ h1
        · left
          have := hgr.size
          first | omega | (simp at h1; omega)
      have how : w2.ownsRow B 5 1 (.slice (some ⟨g, 0, none⟩) (m + (wd - 1) + 1) cap) (m + (wd - 0)) (bytesV (cs ++ [n % 256])) := by
        rw [show m + (wd - 0) = m + (wd - 1) + 1 by omega]
        simpa [bytesV] using hown'
      clear hown' hgrow hat hgr hby hown hoA
      go_wp2
      go_roundw
      case rel => exact ⟨0, cs ++ [n % 256], by omega, by go_num, how, hn, hgr', hby'⟩
      case measure => simp [intOf]
    · have hn : Hid ((cs ++ [n / 256 % 256]) ++ be n 1 = bs ++ be n wd) := by
        show (cs ++ [n / 256 % 256]) ++ be n 1 = _
        rw [← hcs.out, List.append_assoc]
        simp [be]
      clear hcs
      have hws : B ≤ (wr.alloc (.cells #[.int .u8 (n / 256 % 256)] 5)).heap.size := by have := hgr.size; simp; omega
      have hoA : (wr.alloc (.cells #[.int .u8 (n / 256 % 256)] 5)).ownsRow B 5 1 u0 (m + (wd - 2)) (bytesV cs) := hown.alloc _
      go_wp2_with (at_builtin; go_loud (refine wpList_append_lies _ (by rfl) (.tmp 15) (.tmp 20) 30 (by rfl) B 5 i0 (.int .u8 0) 1 1 Tryd.underlying30 hi li0 li1 li2 rfl (by decide) u0 _ _ (by rfl) hoA ⟨wr.heap.size, 0, none⟩ 1 1 [.int .u8 (n / 256 % 256)] rfl rfl ?c1 ?c2 (by omega) ?c3 ?c4 hws _ rfl ?_))
      case c1 =>
        intro i u hu
        obtain ⟨rfl, rfl⟩ : i = 0 ∧ u = .int .u8 (n / 256 % 256) := by
          cases i with
          | zero => simpa [eq_comm] using hu
          | succ i => simp at hu
        go_simp
      case c2 =>
        intro u hu
        simp at hu
        subst hu
        rfl
      case c3 => unfold maxLen; omega
      case c4 => omega
      intro g cap w2 hown' hgrow hat hlt
      have hgr' : w.grownBy w2 v.ownBlock := grown_then (grown_then hgr (World.grownBy_alloc wr _ none) (by intro j hj; cases hj)) hgrow hby
      have hby' : Beyond w v (.slice (some ⟨g, 0, none⟩) (m + (wd - 2) + 1) cap) := by
        intro q hq
        simp [Value.ownBlock] at hq
        subst hq
        rcases hat with h1 | h1
        · exact hby _ h1
        · left
          have := hgr.size
          first | omega | (simp at h1; omega)
      have how : w2.ownsRow B 5 1 (.slice (some ⟨g, 0, none⟩) (m + (wd - 2) + 1) cap) (m + (wd - 1)) (bytesV (cs ++ [n / 256 % 256])) := by
        rw [show m + (wd - 1) = m + (wd - 2) + 1 by omega]
        simpa [bytesV] using hown'
      clear hown' hgrow hat hgr hby hown hoA
      go_wp2
      go_roundw
      case rel => exact ⟨1, cs ++ [n / 256 % 256], by omega, by go_num, how, hn, hgr', hby'⟩
      case measure => simp [intOf]
    · have hn : Hid ((cs ++ [n / 65536 % 256]) ++ be n 2 = bs ++ be n wd) := by
        show (cs ++ [n / 65536 % 256]) ++ be n 2 = _
        rw [← hcs.out, List.append_assoc]
        simp [be]
      clear hcs
      have hws : B ≤ (wr.alloc (.cells #[.int .u8 (n / 65536 % 256)] 5)).heap.size := by have := hgr.size; simp; omega
      have hoA : (wr.alloc (.cells #[.int .u8 (n / 65536 % 256)] 5)).ownsRow B 5 1 u0 (m + (wd - 3)) (bytesV cs) := hown.alloc _
      go_wp2_with (at_builtin; go_loud (refine wpList_append_lies _ (by rfl) (.tmp 15) (.tmp 20) 30 (by rfl) B 5 i0 (.int .u8 0) 1 1 Tryd.underlying30 hi li0 li1 li2 rfl (by decide) u0 _ _ (by rfl) hoA ⟨wr.heap.size, 0, none⟩ 1 1 [.int .u8 (n / 65536 % 256)] rfl rfl ?c1 ?c2 (by omega) ?c3 ?c4 hws _ rfl ?_))
      case c1 =>
        intro i u hu
        obtain ⟨rfl, rfl⟩ : i = 0 ∧ u = .int .u8 (n / 65536 % 256) := by
          cases i with
          | zero => simpa [eq_comm] using hu
          | succ i => simp at hu
        go_simp
      case c2 =>
        intro u hu
        simp at hu
        subst hu
        rfl
      case c3 => unfold maxLen; omega
      case c4 => omega
      intro g cap w2 hown' hgrow hat hlt
      have hgr' : w.grownBy w2 v.ownBlock := grown_then (grown_then hgr (World.grownBy_alloc wr _ none) (by intro j hj; cases hj)) hgrow hby
      have hby' : Beyond w v (.slice (some ⟨g, 0, none⟩) (m + (wd - 3) + 1) cap) := by
        intro q hq
        simp [Value.ownBlock] at hq
        subst hq
        rcases hat with h1 | h1
        · exact hby _ h1
        · left
          have := hgr.size
          first | omega | (simp at h1; omega)
      have how : w2.ownsRow B 5 1 (.slice (some ⟨g, 0, none⟩) (m + (wd - 3) + 1) cap) (m + (wd - 2)) (bytesV (cs ++ [n / 65536 % 256])) := by
        rw [show m + (wd - 2) = m + (wd - 3) + 1 by omega]
        simpa [bytesV] using hown'
      clear hown' hgrow hat hgr hby hown hoA
      go_wp2
      go_roundw
      case rel => exact ⟨2, cs ++ [n / 65536 % 256], by omega, by go_num, how, hn, hgr', hby'⟩
      case measure => simp [intOf]
    · have hn : Hid ((cs ++ [n / 16777216 % 256]) ++ be n 3 = bs ++ be n wd) := by
        show (cs ++ [n / 16777216 % 256]) ++ be n 3 = _
        rw [← hcs.out, List.append_assoc]
        simp [be]
      clear hcs
      have hws : B ≤ (wr.alloc (.cells #[.int .u8 (n / 16777216 % 256)] 5)).heap.size := by have := hgr.size; simp; omega
      have hoA : (wr.alloc (.cells #[.int .u8 (n / 16777216 % 256)] 5)).ownsRow B 5 1 u0 m (bytesV cs) := by
        have := hown.alloc (.cells #[.int .u8 (n / 16777216 % 256)] 5)
        rw [show m + (wd - 4) = m by omega] at this
        exact this
      go_wp2_with (at_builtin; go_loud (refine wpList_append_lies _ (by rfl) (.tmp 15) (.tmp 20) 30 (by rfl) B 5 i0 (.int .u8 0) 1 1 Tryd.underlying30 hi li0 li1 li2 rfl (by decide) u0 _ _ (by rfl) hoA ⟨wr.heap.size, 0, none⟩ 1 1 [.int .u8 (n / 16777216 % 256)] rfl rfl ?c1 ?c2 (by omega) ?c3 ?c4 hws _ rfl ?_))
      case c1 =>
        intro i u hu
        obtain ⟨rfl, rfl⟩ : i = 0 ∧ u = .int .u8 (n / 16777216 % 256) := by
          cases i with
          | zero => simpa [eq_comm] using hu
          | succ i => simp at hu
        go_simp
      case c2 =>
        intro u hu
        simp at hu
        subst hu
        rfl
      case c3 => unfold maxLen; omega
      case c4 => omega
      intro g cap w2 hown' hgrow hat hlt
      have hgr' : w.grownBy w2 v.ownBlock := grown_then (grown_then hgr (World.grownBy_alloc wr _ none) (by intro j hj; cases hj)) hgrow hby
      have hby' : Beyond w v (.slice (some ⟨g, 0, none⟩) (m + 1) cap) := by
        intro q hq
        simp [Value.ownBlock] at hq
        subst hq
        rcases hat with h1 | h1
        · exact hby _ h1
        · left
          have := hgr.size
          first | omega | (simp at h1; omega)
      have how : w2.ownsRow B 5 1 (.slice (some ⟨g, 0, none⟩) (m + 1) cap) (m + (wd - 3)) (bytesV (cs ++ [n / 16777216 % 256])) := by
        rw [show m + (wd - 3) = m + 1 by omega]
        simpa [bytesV] using hown'
      clear hown' hgrow hat hgr hby hown hoA
      go_wp2
      go_roundw
      case rel => exact ⟨3, cs ++ [n / 16777216 % 256], by omega, by go_num, how, hn, hgr', hby'⟩
      case measure => simp [intOf]
end Go.Proofs.YtilhkonanncfiaaDoor
