/- The contract of store.put: a value at a key, as its next version, in a row of the caller's own. -/
import Derived.Test.YtbmbahifkegehaaSInsert2
import Derived.Test.YtbmbahifkegehaaSFind
import Derived.Test.YtbmbahifkegehaaSAgePlain
import Derived.Deep.Cut
namespace Go.Proofs.Ytbmbahifkegehaa.St
open Go.ChangeShapes Go.WideShapes Go.ChangeAt Go.RowKit
set_option linter.unusedVariables false

def geT (ky : Int) (x : ItV) : Bool := decide (ky ≤ x.key)
def putI (key value : Int) : List ItV → List ItV
  | [] => [⟨key, value, 1⟩]
  | x :: r => if x.key = key then ⟨key, value, x.version + 1⟩ :: r else if key < x.key then ⟨key, value, 1⟩ :: x :: r else x :: putI key value r
theorem put_none : ∀ (key value : Int) (xs : List ItV), idxI (geT key) xs < 0 → putI key value xs = xs ++ [⟨key, value, 1⟩]
  | key, value, [], _ => rfl
  | key, value, x :: r, h => by
    have hn : (x :: r).any (geT key) = false := by rw [← idxI_any]; simp; omega
    simp only [List.any_cons, Bool.or_eq_false_iff] at hn
    have h1 : ¬ key ≤ x.key := by simpa [geT] using hn.1
    have h2 : idxI (geT key) r < 0 := by
      have := idxI_any (geT key) r
      rw [hn.2] at this
      simp at this
      exact this
    rw [putI, if_neg (by omega), if_neg (by omega), put_none key value r h2]
    rfl
theorem put_some : ∀ (key value : Int) (xs : List ItV) (i : Nat), idxI (geT key) xs = (i : Int) → (key < (xs.getD i default).key → putI key value xs = insAt xs i ⟨key, value, 1⟩) ∧ (¬ key < (xs.getD i default).key → putI key value xs = xs.set i ⟨(xs.getD i default).key, value, (xs.getD i default).version + 1⟩)
  | key, value, [], i, h => by simp [idxI] at h
  | key, value, x :: r, i, h => by
    by_cases hx : key ≤ x.key
    · have : idxI (geT key) (x :: r) = 0 := by
        have := idxI_hit (p := geT key) (l := x :: r) (k := 0) (by simp) (fun i hi => by omega) (by simp [geT, hx])
        simpa using this
      rw [this] at h
      obtain rfl : i = 0 := by omega
      simp only [List.getD_cons_zero]
      refine ⟨fun hk => ?_, fun hk => ?_⟩
      · rw [putI, if_neg (by omega), if_pos hk]; rfl
      · obtain rfl : x.key = key := by omega
        rw [putI, if_pos rfl]; rfl
    · have hf : geT key x = false := by simp [geT]; omega
      have hi : idxI (geT key) (x :: r) = if idxI (geT key) r < 0 then -1 else idxI (geT key) r + 1 := by
        unfold idxI
        rw [List.findIdx?_cons, hf]
        cases e : r.findIdx? (geT key) with
        | none => simp
        | some q => simp; omega
      rw [hi] at h
      by_cases h0 : idxI (geT key) r < 0
      · rw [if_pos h0] at h; omega
      · rw [if_neg h0] at h
        obtain ⟨j, rfl⟩ : ∃ j, i = j + 1 := ⟨i - 1, by omega⟩
        obtain ⟨p1, p2⟩ := put_some key value r j (by omega)
        simp only [List.getD_cons_succ]
        have e0 : putI key value (x :: r) = x :: putI key value r := by rw [putI, if_neg (by omega), if_neg (by omega)]
        refine ⟨fun hk => ?_, fun hk => ?_⟩
        · rw [e0, p1 hk]; rfl
        · rw [e0, p2 hk]; rfl
set_option maxHeartbeats 1000000 in
theorem put1_asks (b : Nat) (ky : Int) (w : World) (c0 : w.cell? ⟨b, 0, none⟩ = some (.int .i64 ky)) (z : b < w.heap.size) : Asks 53 #[.pointer (some ⟨b, 0, none⟩)] ItV.val (geT ky) w := by
  refine ⟨enters_of Try.func53 (by kernel_rfl) rfl, fun x w' hb => ?_⟩
  rw [← hb.cell (p := ⟨b, 0, none⟩) z] at c0
  have y0 := Nat.lt_of_lt_of_le z hb.size
  obtain ⟨key, value, version⟩ := x
  simp only [ItV.val] at *
  have hA : ∀ o, Below w'.heap.size w' (w'.alloc o) := fun o => (Below.refl _ _).alloc (Nat.le_refl _) _
  show Calls Try.prog 53 #[_, .pointer (some ⟨b, 0, none⟩)] w' _
  go_enter Try.func53, Try.ntmps53
  go_wp2
  all_goals go_ret
  all_goals exact ⟨ret_bool (by first | (simp_all [geT]; done) | (simp_all [geT]; rfl) | (simp_all [geT]; omega)), hA _⟩

set_option maxRecDepth 100000 in
set_option maxHeartbeats 4000000 in
theorem put_any (B : Nat) (a : Option Addr) (n cap : Nat) (xs : List ItV) (key value : Int) (w : World) (h : w.ownsRow B 59 3 (.slice a n cap) n (flat ItV.cells xs)) (hB : B ≤ w.heap.size) (hn : n ≤ 99) (hvb : ∀ y ∈ xs, 0 ≤ y.version ∧ y.version ≤ 2000000) :
    Calls Try.prog 25 #[.slice a n cap, .int .i64 key, .int .i64 value] w fun e w' => ∃ a' n' c', e = .returned (.slice a' n' c') ∧ w'.ownsRow B 59 3 (.slice a' n' c') n' (flat ItV.cells (putI key value xs)) ∧ w.grownBy w' (Value.slice a n cap).ownBlock ∧ (∀ m, (Value.slice a' n' c').ownBlock = some m → (Value.slice a n cap).ownBlock = some m ∨ w.heap.size ≤ m) ∧ n' ≤ n + 1 := by
  have hl := own_len it_len (by decide) h
  have HL : Hid (xs.length = n) := hl
  have hIx := fun w' h1 h2 => indexItem_any 53 #[.pointer (some ⟨w.heap.size, 0, none⟩)] (geT key) a n cap xs w' h1 h2
  obtain ⟨i0, e0⟩ : ∃ R, R = idxI (geT key) xs := ⟨_, rfl⟩
  have hi0 := idxI_lt (p := geT key) (l := xs)
  have HPN : Hid (i0 < 0 → putI key value xs = xs ++ [⟨key, value, 1⟩]) := by rw [e0]; exact put_none key value xs
  have HPS : Hid (∀ i : Nat, i0 = (i : Int) → (key < (xs.getD i default).key → putI key value xs = insAt xs i ⟨key, value, 1⟩) ∧ (¬ key < (xs.getD i default).key → putI key value xs = xs.set i ⟨(xs.getD i default).key, value, (xs.getD i default).version + 1⟩)) := by rw [e0]; exact put_some key value xs
  rw [← e0, hl] at hi0
  rw [← e0] at hIx
  clear e0 hl
  obtain ⟨W, hW⟩ : ∃ W : World, W = w.alloc (.cells #[.int .i64 key] 3) := ⟨_, rfl⟩
  have bW : Below w.heap.size w W := by rw [hW]; exact (Below.refl _ _).alloc (Nat.le_refl _) _
  have c0 : W.cell? ⟨w.heap.size, 0, none⟩ = some (.int .i64 key) := by rw [hW]; go_simp
  have zW : w.heap.size < W.heap.size := by rw [hW]; simp
  have hAs := put1_asks w.heap.size key W c0 zW
  have hWo := own_below h bW
  have hrow := (own_isRow it_len hWo HL.out).1
  go_enter Try.func25, Try.ntmps25
  go_upto_region 2 with (go_at_call 52; rw [← hW]; refine (hIx _ hrow hAs).mono ?_; rintro e w1 ⟨rfl, hb1⟩)
  have own1 := own_below hWo hb1
  have k1 := (hb1.cell (p := ⟨w.heap.size, 0, none⟩) zW).trans c0
  have hbw1 := bW.trans (hb1.mono bW.size)
  have z1 : w.heap.size < w1.heap.size := Nat.lt_of_lt_of_le zW hb1.size
  clear hIx hAs hWo hrow c0 h
  by_cases h0 : i0 < 0
  · skip
    have HPQ : Hid (putI key value xs = insAt xs n ⟨key, value, 1⟩) := by
      show _ = _
      rw [HPN.out h0]
      unfold insAt
      rw [List.take_of_length_le (by rw [HL.out]; exact Nat.le_refl _), List.drop_eq_nil_of_le (by rw [HL.out]; exact Nat.le_refl _)]
    go_upto_region 4 with (fail)
    go_quiet (fail)
    obtain ⟨V1, eV1⟩ : ∃ V1, V1 = w1.drewN nq := ⟨_, rfl⟩
    have hq1 : Below w1.heap.size w1 V1 := by rw [eV1]; exact below_drewN (Below.refl _ _) nq
    rw [← eV1]
    have ownq := own_below own1 hq1
    have kq := (hq1.cell (p := ⟨w.heap.size, 0, none⟩) z1).trans k1
    have hbwq := hbw1.trans (hq1.mono hbw1.size)
    have zq : w.heap.size < V1.heap.size := Nat.lt_of_lt_of_le z1 hq1.size
    have hBq : B ≤ V1.heap.size := by omega
    clear own1 k1 eV1 hq1
    have hIns := insert_any B a n cap n xs ⟨key, 0, 0⟩ V1 _ rfl ownq (by omega) (by omega) (by omega)
    simp only [] at hIns
    go_upto_region 6 with (go_at_call 54; refine hIns.mono ?_; rintro e w5 ⟨a5, c5, rfl, own5, gr5, at5⟩)
    obtain ⟨g5, rfl⟩ : ∃ g5, a5 = some ⟨g5, 0, none⟩ := by
      rcases own5.2 with ⟨_, h0⟩ | ⟨g', cap', cur, hv, _⟩
      · omega
      · simp at hv; exact ⟨g', hv.1⟩
    have gr6 : w.grownBy w5 (Value.slice a n cap).ownBlock := grown_trans (grown_below (hbwq.trans (((Below.refl V1.heap.size V1).alloc (Nat.le_refl _) _).mono hbwq.size)) _) gr5
    have HG5 : Hid ((Value.slice a n cap).ownBlock = some g5 ∨ w.heap.size ≤ g5) := by
      rcases at5 with e | e
      · exact .inl (by rw [← e]; rfl)
      · refine .inr ?_
        have h1 : g5 = (V1.alloc (.cells #[.int .i64 key, .int .i64 0, .int .i64 0] 59)).heap.size := by simpa [Value.ownBlock] using e
        have h2 := hbwq.size
        simp at h1
        omega
    have hti : (xs.take n).length = n := by rw [List.length_take, HL.out]; omega
    have HLI : Hid ((insAt xs n ⟨key, 0, 0⟩).getD n default = ⟨key, 0, 0⟩) := by
      show _ = _
      unfold insAt
      simp only [List.getD]
      rw [List.getElem?_append_right (by omega), hti, Nat.sub_self]
      rfl
    have HPI : Hid (putI key value xs = (insAt xs n ⟨key, 0, 0⟩).set n ⟨key, value, 1⟩) := by
      show _ = _
      rw [HPQ.out]
      unfold insAt
      rw [List.set_append_right _ _ (by omega), hti, Nat.sub_self]
      rfl
    clear hti at5 gr5 hIns
    have hLl := own_len it_len (by decide) own5
    have hiL : n < (insAt xs n ⟨key, 0, 0⟩).length := by rw [hLl]; omega
    have hth1 := own_there own5 (k := n * 3 + 1) (by omega)
    have hth2 := own_there own5 (k := n * 3 + 2) (by omega)
    obtain ⟨u1, e1⟩ := Option.isSome_iff_exists.1 hth1.1
    have f1 := hth1.2
    have f2 := hth2.2
    have e2 : w5.cell? ⟨g5, n * 3 + 2, none⟩ = some (.int .i64 0) := by
      obtain ⟨b', off', e', _, hc⟩ := (own_isRow it_len own5 hLl).1.2.2.2.2 (by omega)
      simp at e'
      obtain ⟨rfl, rfl⟩ := e'
      have := hc n (by omega) 2 (by decide)
      rw [HLI.out, Nat.zero_add] at this
      exact this
    have o1 := own_setk own5 (k := n * 3 + 1) (by omega) (.int .i64 value)
    rw [flat_set it_len _ _ _ _ ⟨key, value, 0⟩ hiL (by decide) (by rw [HLI.out]; rfl)] at o1
    have o2 := own_setk o1 (k := n * 3 + 2) (by omega) (.int .i64 1)
    rw [flat_set it_len _ _ _ _ ⟨key, value, 1⟩ (by simpa using hiL) (by decide) (by rw [set_getD _ _ _ hiL]; rfl), List.set_set] at o2
    have g2 := grown_trans (grown_setCell w5 ⟨g5, n * 3 + 1, none⟩ (.int .i64 value)) (grown_setCell _ ⟨g5, n * 3 + 2, none⟩ (.int .i64 1))
    have HFIN : Hid (((w5.setCell ⟨g5, n * 3 + 1, none⟩ (.int .i64 value)).setCell ⟨g5, n * 3 + 2, none⟩ (.int .i64 1)).ownsRow B 59 3 (.slice (some ⟨g5, 0, none⟩) (n + 1) c5) (n + 1) (flat ItV.cells (putI key value xs)) ∧ w.grownBy ((w5.setCell ⟨g5, n * 3 + 1, none⟩ (.int .i64 value)).setCell ⟨g5, n * 3 + 2, none⟩ (.int .i64 1)) (Value.slice a n cap).ownBlock) := by
      refine ⟨by rw [HPI.out]; exact o2, ⟨g2.os.trans gr6.os, g2.tape.trans gr6.tape, g2.output.trans gr6.output, Nat.le_trans gr6.size g2.size, fun k hk hne => (g2.block k (Nat.lt_of_lt_of_le hk gr6.size) (fun e => ?_)).trans (gr6.block k hk hne)⟩⟩
      simp at e
      subst e
      rcases HG5.out with e | e
      · exact hne e.symm
      · omega
    have hin' : (n : Int) < ((n : Int) + 1) := by omega
    have hwv : IntKind.i64.wrap (0 + 1) = 1 := by rw [IntKind.wrap_i64]; omega
    clear hth1 hth2 o1 o2 g2 own5 hLl hiL
    go_wp2
    go_ret
    exact ⟨_, _, _, rfl, HFIN.out.1, HFIN.out.2, fun m hm => (show g5 = m by simpa [Value.ownBlock] using hm) ▸ HG5.out, by omega⟩
  · obtain ⟨i, rfl⟩ : ∃ i : Nat, i0 = (i : Int) := ⟨i0.toNat, by omega⟩
    have hi : i < n := by omega
    have hilt : (i : Int) < (n : Int) := by omega
    obtain ⟨g5, rfl⟩ : ∃ g5, a = some ⟨g5, 0, none⟩ := by
      rcases own1.2 with ⟨_, h0⟩ | ⟨g', cap', cur, hv, _⟩
      · omega
      · simp at hv; exact ⟨g', hv.1⟩
    have e0 : w1.cell? ⟨g5, i * 3, none⟩ = some (.int .i64 (xs.getD i default).key) := by
      obtain ⟨b', off', e', _, hc⟩ := (own_isRow it_len own1 HL.out).1.2.2.2.2 (by omega)
      simp at e'
      obtain ⟨rfl, rfl⟩ := e'
      have := hc i hi 0 (by decide)
      rw [Nat.zero_add] at this
      exact this
    have hvx := hvb _ (getD_mem (l := xs) (i := i) (by rw [HL.out]; exact hi))
    have HS1 : Hid (key < (xs.getD i default).key → putI key value xs = insAt xs i ⟨key, value, 1⟩) := (HPS.out i rfl).1
    have HS2 : Hid ((xs.getD i default).key ≤ key → putI key value xs = xs.set i ⟨(xs.getD i default).key, value, (xs.getD i default).version + 1⟩) := fun hh => (HPS.out i rfl).2 (by omega)
    clear HPS HPN
    obtain ⟨x, ex⟩ : ∃ x, x = xs.getD i default := ⟨_, rfl⟩
    have HX : Hid (xs.getD i default = x) := ex.symm
    rw [← ex] at e0 hvx HS1 HS2
    clear ex hvb
    obtain ⟨xk, xv, xw⟩ := x
    simp only [] at e0 hvx HS1 HS2
    have hne : ((i : Int) == (n : Int)) = false := by rw [beq_eq_false_iff_ne]; omega
    by_cases hk : key < xk
    · have hd : decide (key < xk) = true := by simp [hk]
      have HPQ : Hid (putI key value xs = insAt xs i ⟨key, value, 1⟩) := HS1.out hk
      clear HS1 HS2
      go_upto_region 4 with (fail)
      go_quiet (fail)
      obtain ⟨V1, eV1⟩ : ∃ V1, V1 = w1.drewN nq := ⟨_, rfl⟩
      have hq1 : Below w1.heap.size w1 V1 := by rw [eV1]; exact below_drewN (Below.refl _ _) nq
      rw [← eV1]
      have ownq := own_below own1 hq1
      have kq := (hq1.cell (p := ⟨w.heap.size, 0, none⟩) z1).trans k1
      have hbwq := hbw1.trans (hq1.mono hbw1.size)
      have zq : w.heap.size < V1.heap.size := Nat.lt_of_lt_of_le z1 hq1.size
      have hBq : B ≤ V1.heap.size := by omega
      clear own1 k1 eV1 hq1 e0
      obtain ⟨g0, eg0⟩ : ∃ g0, g0 = g5 := ⟨_, rfl⟩
      subst eg0
      have hIns := insert_any B (some ⟨g0, 0, none⟩) n cap i xs ⟨key, 0, 0⟩ V1 _ rfl ownq (by omega) (by omega) (by omega)
      simp only [] at hIns
      go_upto_region 6 with (go_at_call 54; refine hIns.mono ?_; rintro e w5 ⟨a5, c5, rfl, own5, gr5, at5⟩)
      obtain ⟨g5, rfl⟩ : ∃ g5, a5 = some ⟨g5, 0, none⟩ := by
        rcases own5.2 with ⟨_, h0⟩ | ⟨g', cap', cur, hv, _⟩
        · omega
        · simp at hv; exact ⟨g', hv.1⟩
      have gr6 : w.grownBy w5 (Value.slice (some ⟨g0, 0, none⟩) n cap).ownBlock := grown_trans (grown_below (hbwq.trans (((Below.refl V1.heap.size V1).alloc (Nat.le_refl _) _).mono hbwq.size)) _) gr5
      have HG5 : Hid ((Value.slice (some ⟨g0, 0, none⟩) n cap).ownBlock = some g5 ∨ w.heap.size ≤ g5) := by
        rcases at5 with e | e
        · exact .inl (by rw [← e]; rfl)
        · refine .inr ?_
          have h1 : g5 = (V1.alloc (.cells #[.int .i64 key, .int .i64 0, .int .i64 0] 59)).heap.size := by simpa [Value.ownBlock] using e
          have h2 := hbwq.size
          simp at h1
          omega
      have hti : (xs.take i).length = i := by rw [List.length_take, HL.out]; omega
      have HLI : Hid ((insAt xs i ⟨key, 0, 0⟩).getD i default = ⟨key, 0, 0⟩) := by
        show _ = _
        unfold insAt
        simp only [List.getD]
        rw [List.getElem?_append_right (by omega), hti, Nat.sub_self]
        rfl
      have HPI : Hid (putI key value xs = (insAt xs i ⟨key, 0, 0⟩).set i ⟨key, value, 1⟩) := by
        show _ = _
        rw [HPQ.out]
        unfold insAt
        rw [List.set_append_right _ _ (by omega), hti, Nat.sub_self]
        rfl
      clear hti at5 gr5 hIns
      have hLl := own_len it_len (by decide) own5
      have hiL : i < (insAt xs i ⟨key, 0, 0⟩).length := by rw [hLl]; omega
      have hth1 := own_there own5 (k := i * 3 + 1) (by omega)
      have hth2 := own_there own5 (k := i * 3 + 2) (by omega)
      obtain ⟨u1, e1⟩ := Option.isSome_iff_exists.1 hth1.1
      have f1 := hth1.2
      have f2 := hth2.2
      have e2 : w5.cell? ⟨g5, i * 3 + 2, none⟩ = some (.int .i64 0) := by
        obtain ⟨b', off', e', _, hc⟩ := (own_isRow it_len own5 hLl).1.2.2.2.2 (by omega)
        simp at e'
        obtain ⟨rfl, rfl⟩ := e'
        have := hc i (by omega) 2 (by decide)
        rw [HLI.out, Nat.zero_add] at this
        exact this
      have o1 := own_setk own5 (k := i * 3 + 1) (by omega) (.int .i64 value)
      rw [flat_set it_len _ _ _ _ ⟨key, value, 0⟩ hiL (by decide) (by rw [HLI.out]; rfl)] at o1
      have o2 := own_setk o1 (k := i * 3 + 2) (by omega) (.int .i64 1)
      rw [flat_set it_len _ _ _ _ ⟨key, value, 1⟩ (by simpa using hiL) (by decide) (by rw [set_getD _ _ _ hiL]; rfl), List.set_set] at o2
      have g2 := grown_trans (grown_setCell w5 ⟨g5, i * 3 + 1, none⟩ (.int .i64 value)) (grown_setCell _ ⟨g5, i * 3 + 2, none⟩ (.int .i64 1))
      have HFIN : Hid (((w5.setCell ⟨g5, i * 3 + 1, none⟩ (.int .i64 value)).setCell ⟨g5, i * 3 + 2, none⟩ (.int .i64 1)).ownsRow B 59 3 (.slice (some ⟨g5, 0, none⟩) (n + 1) c5) (n + 1) (flat ItV.cells (putI key value xs)) ∧ w.grownBy ((w5.setCell ⟨g5, i * 3 + 1, none⟩ (.int .i64 value)).setCell ⟨g5, i * 3 + 2, none⟩ (.int .i64 1)) (Value.slice (some ⟨g0, 0, none⟩) n cap).ownBlock) := by
        refine ⟨by rw [HPI.out]; exact o2, ⟨g2.os.trans gr6.os, g2.tape.trans gr6.tape, g2.output.trans gr6.output, Nat.le_trans gr6.size g2.size, fun k hk hne => (g2.block k (Nat.lt_of_lt_of_le hk gr6.size) (fun e => ?_)).trans (gr6.block k hk hne)⟩⟩
        simp at e
        subst e
        rcases HG5.out with e | e
        · exact hne e.symm
        · omega
      have hin' : (i : Int) < ((n : Int) + 1) := by omega
      have hwv : IntKind.i64.wrap (0 + 1) = 1 := by rw [IntKind.wrap_i64]; omega
      clear hth1 hth2 o1 o2 g2 own5 hLl hiL
      go_wp2
      go_ret
      exact ⟨_, _, _, rfl, HFIN.out.1, HFIN.out.2, fun m hm => (show g5 = m by simpa [Value.ownBlock] using hm) ▸ HG5.out, by omega⟩
    · have hd : decide (key < xk) = false := by simp; omega
      have HPI : Hid (putI key value xs = xs.set i ⟨xk, value, xw + 1⟩) := HS2.out (by omega)
      have HLI : Hid (xs.getD i default = ⟨xk, xv, xw⟩) := HX
      clear HS1 HS2
      go_upto_region 4 with (fail)
      go_quiet (fail)
      obtain ⟨V1, eV1⟩ : ∃ V1, V1 = w1.drewN nq := ⟨_, rfl⟩
      have hq1 : Below w1.heap.size w1 V1 := by rw [eV1]; exact below_drewN (Below.refl _ _) nq
      rw [← eV1]
      have ownq := own_below own1 hq1
      have kq := (hq1.cell (p := ⟨w.heap.size, 0, none⟩) z1).trans k1
      have hbwq := hbw1.trans (hq1.mono hbw1.size)
      have zq : w.heap.size < V1.heap.size := Nat.lt_of_lt_of_le z1 hq1.size
      have hBq : B ≤ V1.heap.size := by omega
      clear own1 k1 eV1 hq1 e0
      have gr6 : w.grownBy V1 (Value.slice (some ⟨g5, 0, none⟩) n cap).ownBlock := grown_below hbwq _
      have HG5 : Hid ((Value.slice (some ⟨g5, 0, none⟩) n cap).ownBlock = some g5 ∨ w.heap.size ≤ g5) := .inl rfl
      have hLl := own_len it_len (by decide) ownq
      have hiL : i < (xs).length := by rw [hLl]; omega
      have hth1 := own_there ownq (k := i * 3 + 1) (by omega)
      have hth2 := own_there ownq (k := i * 3 + 2) (by omega)
      obtain ⟨u1, e1⟩ := Option.isSome_iff_exists.1 hth1.1
      have f1 := hth1.2
      have f2 := hth2.2
      have e2 : V1.cell? ⟨g5, i * 3 + 2, none⟩ = some (.int .i64 xw) := by
        obtain ⟨b', off', e', _, hc⟩ := (own_isRow it_len ownq hLl).1.2.2.2.2 (by omega)
        simp at e'
        obtain ⟨rfl, rfl⟩ := e'
        have := hc i (by omega) 2 (by decide)
        rw [HLI.out, Nat.zero_add] at this
        exact this
      have o1 := own_setk ownq (k := i * 3 + 1) (by omega) (.int .i64 value)
      rw [flat_set it_len _ _ _ _ ⟨xk, value, xw⟩ hiL (by decide) (by rw [HLI.out]; rfl)] at o1
      have o2 := own_setk o1 (k := i * 3 + 2) (by omega) (.int .i64 (xw + 1))
      rw [flat_set it_len _ _ _ _ ⟨xk, value, (xw + 1)⟩ (by simpa using hiL) (by decide) (by rw [set_getD _ _ _ hiL]; rfl), List.set_set] at o2
      have g2 := grown_trans (grown_setCell V1 ⟨g5, i * 3 + 1, none⟩ (.int .i64 value)) (grown_setCell _ ⟨g5, i * 3 + 2, none⟩ (.int .i64 (xw + 1)))
      have HFIN : Hid (((V1.setCell ⟨g5, i * 3 + 1, none⟩ (.int .i64 value)).setCell ⟨g5, i * 3 + 2, none⟩ (.int .i64 (xw + 1))).ownsRow B 59 3 (.slice (some ⟨g5, 0, none⟩) n cap) n (flat ItV.cells (putI key value xs)) ∧ w.grownBy ((V1.setCell ⟨g5, i * 3 + 1, none⟩ (.int .i64 value)).setCell ⟨g5, i * 3 + 2, none⟩ (.int .i64 (xw + 1))) (Value.slice (some ⟨g5, 0, none⟩) n cap).ownBlock) := by
        refine ⟨by rw [HPI.out]; exact o2, ⟨g2.os.trans gr6.os, g2.tape.trans gr6.tape, g2.output.trans gr6.output, Nat.le_trans gr6.size g2.size, fun k hk hne => (g2.block k (Nat.lt_of_lt_of_le hk gr6.size) (fun e => ?_)).trans (gr6.block k hk hne)⟩⟩
        simp at e
        subst e
        rcases HG5.out with e | e
        · exact hne e.symm
        · omega
      have hin' : (i : Int) < ((n : Int)) := by omega
      have hwv : IntKind.i64.wrap (xw + 1) = (xw + 1) := by rw [IntKind.wrap_i64]; omega
      clear hth1 hth2 o1 o2 g2 ownq hLl hiL
      go_wp2
      go_ret
      exact ⟨_, _, _, rfl, HFIN.out.1, HFIN.out.2, fun m hm => (show g5 = m by simpa [Value.ownBlock] using hm) ▸ HG5.out, by omega⟩
end Go.Proofs.Ytbmbahifkegehaa.St
