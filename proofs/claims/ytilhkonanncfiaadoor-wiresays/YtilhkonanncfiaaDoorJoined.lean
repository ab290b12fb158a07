/- The contract of the document's joined: bytes of slices one behind the other, in new memory. -/
import Derived.Test.YtilhkonanncfiaaDoorWBytes
import Derived.LoopTactic
namespace Go.Proofs.YtilhkonanncfiaaDoor
open Go.ChangeShapes Go.WideShapes Go.ChangeAt Go.RowKit
set_option linter.unusedVariables false

structure BS where
  a : Option Addr
  len : Nat
  cap : Nat
  bs : List Int
instance : Inhabited BS := ⟨⟨none, 0, 0, []⟩⟩

def catB (l : List BS) : List Int := l.flatMap BS.bs

/-- A row of slices of bytes. -/
def IsBs (w : World) (q k : Nat) (l : List BS) : Prop :=
  l.length = k ∧ q < w.heap.size ∧ ∀ i, i < k → w.cell? ⟨q, i, none⟩ = some (.slice (l.getD i default).a (l.getD i default).len (l.getD i default).cap) ∧ IsB w (l.getD i default).a (l.getD i default).len (l.getD i default).cap (l.getD i default).bs

theorem IsB.belowB {B : Nat} {w w' : World} {a : Option Addr} {len cap : Nat} {bs : List Int} (h : IsB w a len cap bs) (hb : Below B w w') (hB : ∀ b off, a = some ⟨b, off, none⟩ → b < B) : IsB w' a len cap bs := by
  obtain ⟨h1, h2, h3, hbd, hn, h4⟩ := h
  refine ⟨h1, h2, h3, hbd, hn, fun hp => ?_⟩
  obtain ⟨b, off, e, hlt, hl⟩ := h4 hp
  refine ⟨b, off, e, Nat.lt_of_lt_of_le hlt hb.size, fun i hi => ?_⟩
  rw [hb.cell (p := ⟨b, off + i, none⟩) (hB b off e)]
  exact hl i hi

theorem isBs_one (U : World) (a : Option Addr) (len cap : Nat) (bs : List Int) (h : IsB U a len cap bs) : IsBs (U.alloc (.cells #[.slice a len cap] 30)) U.heap.size 1 [⟨a, len, cap, bs⟩] := by
  refine ⟨rfl, by simp, fun i hi => ?_⟩
  obtain rfl : i = 0 := by omega
  exact ⟨by go_simp, h.below ((Below.refl _ _).alloc (Nat.le_refl _) _)⟩

theorem catB_le {l : List BS} {i : Nat} (h : i < l.length) : (catB (l.take i)).length + (l.getD i default).bs.length ≤ (catB l).length := by
  have e : l = l.take i ++ (l.getD i default) :: l.drop (i + 1) := by
    have : l.drop i = l.getD i default :: l.drop (i + 1) := by rw [List.drop_eq_getElem_cons h]; simp [List.getD, h]
    rw [← this, List.take_append_drop]
  have : (catB l).length = (catB (l.take i)).length + (l.getD i default).bs.length + (catB (l.drop (i + 1))).length := by
    conv => lhs; rw [e]
    simp [catB]
    omega
  omega
theorem catB_succ {l : List BS} {i : Nat} (h : i < l.length) : catB (l.take (i + 1)) = catB (l.take i) ++ (l.getD i default).bs := by
  unfold catB
  rw [List.take_succ_eq_append_getElem h, List.flatMap_append]
  simp [List.getD, h]

set_option maxRecDepth 100000 in
set_option maxHeartbeats 1000000 in
theorem joined_any (q k : Nat) (l : List BS) (w : World) (h : IsBs w q k l) (hk : k ≤ 10) (ht : (catB l).length ≤ 140737488355328) :
    Calls Tryd.prog 19 #[.slice (some ⟨q, 0, none⟩) k k] w fun e w' => ∃ v', e = .returned v' ∧ w'.ownsRow w.heap.size 5 1 v' (catB l).length (bytesV (catB l)) ∧ Below w.heap.size w w' := by
  obtain ⟨hlen, hq, hcell⟩ := h
  have HL : Hid (l.length = k) := hlen
  clear hlen
  go_enter Tryd.func19, Tryd.ntmps19
  go_wp2
  go_loopw [3, 4] (fun s3 s4 wr => ∃ (i : Nat) (cs : List Int), i ≤ k ∧ s4 = .int .i64 i ∧ wr.ownsRow w.heap.size 5 1 s3 cs.length (bytesV cs) ∧ Hid (cs = catB (l.take i)) ∧ Below w.heap.size w wr) (fun _ s4 _ => k - (intOf s4).toNat)
  case atStart => exact ⟨0, [], by omega, rfl, World.ownsRow_nil _ _ _ _, rfl, Below.refl _ _⟩
  case round =>
    obtain ⟨i, cs, hi, rfl, hown, hcs, hbel⟩ := hrel
    by_cases hlt : i < k
    · obtain ⟨hci, hBi⟩ := hcell i hlt
      have hl' : i < l.length := by have := HL.out; omega
      have hle := catB_le hl'
      have hsucc : Hid (catB (l.take (i + 1)) = catB (l.take i) ++ (l.getD i default).bs) := catB_succ hl'
      obtain ⟨x, hx⟩ : ∃ x, x = l.getD i default := ⟨_, rfl⟩
      rw [← hx] at hci hBi hle hsucc
      clear hx
      obtain ⟨xa, xl, xc, xb⟩ := x
      simp only at hci hBi hle hsucc
      have hcs' : cs.length + xl ≤ 140737488355328 := by have h1 := hBi.1; have h2 := hcs.out; rw [h2]; omega
      have hlt' : (i : Int) < (k : Int) := by omega
      rw [← hbel.cell (p := ⟨q, i, none⟩) hq] at hci
      have xl0 : (xl : Int) ≤ 140737488355328 := by omega
      go_wp2
      go_loopw [3, 5] (fun s3 s5 wr2 => ∃ (j : Nat) (ds : List Int), j ≤ xl ∧ s5 = .int .i64 j ∧ wr2.ownsRow w.heap.size 5 1 s3 ds.length (bytesV ds) ∧ Hid (ds = cs ++ xb.take j) ∧ Below w.heap.size w wr2) (fun _ s5 _ => xl - (intOf s5).toNat)
      case atStart => exact ⟨0, cs, by omega, rfl, hown, by show cs = _; simp, hbel⟩
      case round =>
        obtain ⟨j, ds, hj, rfl, hown2, hds, hbel2⟩ := hrel
        have hci2 : wr.cell? ⟨q, i, none⟩ = some (.slice xa xl xc) := by rw [hbel2.cell (p := ⟨q, i, none⟩) hq, ← hbel.cell (p := ⟨q, i, none⟩) hq]; exact hci
        clear hci
        by_cases hjl : j < xl
        · obtain ⟨b, off, rfl, hb, hcj⟩ := hBi.2.2.2.2.2 (by omega)
          have hv := hcj j hjl
          rw [← hbel2.cell (p := ⟨b, off + j, none⟩) hb] at hv
          have hxb : j < xb.length := by have := hBi.1; omega
          have hbd := hBi.2.2.2.1 xb[j] (List.getElem_mem hxb)
          have hds' : Hid (ds ++ [xb.getD j 0] = cs ++ xb.take (j + 1)) := by
            show ds ++ [xb.getD j 0] = _
            rw [hds.out, List.append_assoc, List.take_succ_eq_append_getElem hxb]
            simp [List.getD, hxb]
          have hget : xb.getD j 0 = xb[j] := by simp [List.getD, hxb]
          rw [← hget] at hbd
          have hdl : ds.length + 1 ≤ 140737488355328 := by
            have := hds.out
            rw [this]
            simp
            omega
          obtain ⟨x, hx⟩ : ∃ x, x = xb.getD j 0 := ⟨_, rfl⟩
          rw [← hx] at hv hbd hds'
          clear hget hx
          obtain ⟨x0, x1⟩ := hbd
          have hone := isB_one wr x x0 x1
          have hjl' : (j : Int) < (xl : Int) := by omega
          have hz := hbel2.size
          go_wp2_with (at_builtin; go_loud (refine wpList_append_bytes (by rfl) _ _ (by rfl) w.heap.size _ ds.length ds (by rfl) (hown2.alloc _) (some ⟨wr.heap.size, 0, none⟩) 1 1 [x] (by rfl) hone hdl (by simp; omega) ?_))
          intro v' w3 hown3 hgrow hat
          have hbel3 : Below w.heap.size w w3 := (hbel2.alloc hz _).grown hgrow (by simp; omega) (fun k hk => (hown2.lt k hk).1)
          clear hgrow hat
          go_wp2
          go_roundw
          case rel => exact ⟨j + 1, ds ++ [x], by omega, by go_num, by simpa using hown3, hds', hbel3⟩
          case measure => simp [intOf]; omega
        · have hje : j = xl := by omega
          subst hje
          have hfin : Hid (ds = catB (l.take (i + 1))) := by
            show ds = _
            have e : xb.take j = xb := List.take_of_length_le (by have := hBi.1; omega)
            rw [hsucc.out, hds.out, hcs.out, e]
          clear hds hsucc
          go_wp2
          go_roundw
          case rel => exact ⟨i + 1, ds, by omega, by go_num, hown2, hfin, hbel2⟩
          case measure => simp [intOf]; omega
    · have hie : i = k := by omega
      subst hie
      have hfin : cs = catB l := by rw [hcs.out, List.take_of_length_le (by have := HL.out; omega)]
      subst hfin
      clear hcs
      go_wp2
      go_ret
      exact ⟨_, rfl, hown, hbel⟩
end Go.Proofs.YtilhkonanncfiaaDoor
