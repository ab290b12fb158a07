/- Texts of this claim, one behind the other. -/
import Derived.Test.YtfhciplckjkflaaM19CoordTicks
import Derived.Test.YtfhciplckjkflaaM14CoordTicks
import Derived.Test.YtfhciplckjkflaaM10CoordTicks
/- The clerk's end: who has something of a job lets it go, and it is dropped; and tell. -/
namespace Go.Proofs.Ytfhciplckjkflaa.Co
open Go.ChangeShapes Go.WideShapes Go.ChangeAt Go.RowKit
open Go.Proofs.Ytfhciplckjkflaa.St (BoxN boxn_new own_below grown_setCell IsRow Elem flat flat_append own_isRow idxI idxI_lt own_setk)
set_option linter.unusedVariables false

/-- A box is a row of one. -/
theorem box_row (X : World) (cs : Array Value) (t : TypeId) (k : Nat) (hk : cs.size = k) : (X.alloc (.cells cs t)).ownsRow X.heap.size t k (.slice (some ⟨X.heap.size, 0, none⟩) 1 1) 1 cs.toList := by
  refine ⟨by simp [hk], Or.inr ⟨X.heap.size, 1, cs, rfl, Nat.le_refl _, heap_alloc_new X _, Nat.le_refl _, by unfold maxLen; omega, by omega, ?_⟩⟩
  rw [Nat.one_mul, List.take_of_length_le (by simp [hk])]
theorem JobsIn.more {js : List JbV} {ix : List (Nat × Nat)} {more : List Rw} (h : JobsIn js ix more) (r : Rw) : JobsIn js ix (more ++ [r]) := by
  obtain ⟨h1, h2, h3, h4⟩ := h
  have up : ∀ {k : Nat} {s : Rw}, more[k]? = some s → (more ++ [r])[k]? = some s := fun {k s} e => by
    rw [List.getElem?_append_left (List.getElem?_eq_some_iff.1 e).1]; exact e
  exact ⟨h1, fun i j x e1 e2 => ⟨up (h2 i j x e1 e2).1, up (h2 i j x e1 e2).2⟩, h3, h4⟩
/-- A row that was made besides. -/
theorem Clerk.add {w X X' : World} {B q : Nat} {v : CkV} {ix : List (Nat × Nat)} {more : List Rw} (h : Clerk w X B q v ix more) (hb : Below X.heap.size X X') {r : Rw} (ho : X'.ownsRow X.heap.size r.te r.k r.v r.n r.xs) : Clerk w X' B q v ix (more ++ [r]) := by
  refine ⟨?_, h.jobs.more r, h.lens⟩
  rw [← List.append_assoc]
  exact h.held.add hb ho
theorem own_at {w : World} {B : Nat} {te : TypeId} {k g n cap : Nat} {xs : List Value} (h : w.ownsRow B te k (.slice (some ⟨g, 0, none⟩) n cap) n xs) {j : Nat} (hj : j < n * k) : w.cell? ⟨g, j, none⟩ = xs[j]? ∧ g < w.heap.size := by
  refine ⟨?_, (h.lt g rfl).2⟩
  rcases h.2 with ⟨hv, h0⟩ | ⟨g', cap', cur, hv, hb, hc, h1, h2, h3, h4⟩
  · simp at hv
  · simp at hv
    obtain ⟨rfl, rfl⟩ := hv
    rw [cell_of_row w g j cur te (0, 0) hc, ← h4, List.getElem?_take_of_lt hj, Array.getElem?_toList]
/-- What a site is told of a job's end. -/
def decM (me n : Int) (yes : Bool) (site : Int) : MV := ⟨4, me, site, me, n, 0, 0, 0, 0, 0, yes, 0⟩
def toldV (v : CkV) (ma : Option Addr) (mc : Nat) (n : Int) (yes : Bool) (zs : List Int) : CkV := { v with ma := ma, ml := v.ml + zs.length, mc := mc, ms := v.ms ++ zs.map (decM v.me n yes) }
def EndIs (w X' : World) (B q : Nat) (v : CkV) (n : Int) (zs : List Int) (e : Ending) : Prop := e = .returned (.tuple #[]) ∧ ∃ (ma : Option Addr) (mc : Nat) (ix : List (Nat × Nat)) (more : List Rw), Clerk w X' B q { toldV v ma mc n false zs with jl := (kept n v.js).length, js := kept n v.js } ix more
theorem toldV_ml (v : CkV) (ma : Option Addr) (mc : Nat) (n : Int) (yes : Bool) (zs : List Int) : (toldV v ma mc n yes zs).ml = v.ml + zs.length := rfl
theorem fit_nat {a b c : Nat} (e : a = b + c) (hn : (b + 1048577) * 96 ≤ 140737488355328) (hz : c ≤ 1048576) : (a + 1) * 96 ≤ 140737488355328 := by omega
theorem told_fit {v : CkV} {ma : Option Addr} {mc : Nat} {n : Int} {yes : Bool} {zs : List Int} (hn : (v.ml + 1048577) * 96 ≤ 140737488355328) (hz : zs.length ≤ 1048576) : ((toldV v ma mc n yes zs).ml + 1) * 96 ≤ 140737488355328 := fit_nat (toldV_ml v ma mc n yes zs) hn hz
theorem take_map_at {zs : List Int} {k : Nat} (hk : k < zs.length) (f : Int → MV) : (zs.take (k + 1)).map f = (zs.take k).map f ++ [f (zs.getD k default)] := by
  rw [List.take_add_one, List.map_append]
  simp [List.getD, hk]
/-- One more is told. -/
theorem toldV_at {v : CkV} {ma m5 : Option Addr} {mc c5 : Nat} {n : Int} {yes : Bool} {zs : List Int} {k : Nat} (hk : k < zs.length) : ({ toldV v ma mc n yes (zs.take k) with ma := m5, ml := (toldV v ma mc n yes (zs.take k)).ml + 1, mc := c5, ms := (toldV v ma mc n yes (zs.take k)).ms ++ [decM v.me n yes (zs.getD k default)] } : CkV) = toldV v m5 c5 n yes (zs.take (k + 1)) := by
  unfold toldV
  simp only [take_map_at hk, List.append_assoc]
  have e1 : (zs.take k).length = k := by simp; omega
  have e2 : (zs.take (k + 1)).length = k + 1 := by simp; omega
  rw [e1, e2]
  rfl
set_option maxRecDepth 100000 in
set_option maxHeartbeats 4000000 in
theorem end_any {w : World} {B q : Nat} {v : CkV} {ix : List (Nat × Nat)} {more : List Rw} (X : World) (h : Clerk w X B q v ix more) (ls : List (Int × Int)) (hl : IsLabs X v.a v.len v.cap ls) (j : JbV) (hT : IsTasks X j.ta j.tl j.tc j.tasks) (hs : v.s ≤ 1048576) (hn : (v.ml + 1048577) * 96 ≤ 140737488355328) :
    Calls Try.prog 24 #[.pointer (some ⟨q, 0, none⟩), j.val] X fun e X' => EndIs w X' B q v j.n (handsOf v.s ls v.p v.l j.tasks) e := by
  obtain ⟨jn, st, ta, tl, tc, aa, al, ac, asks, age, tasks, asked⟩ := j
  simp only [JbV.val] at hT ⊢
  obtain ⟨W, hW⟩ : ∃ W : World, W = X.alloc (.cells #[.int .i64 jn, .int .i64 st, .slice ta tl tc, .slice aa al ac, .int .i64 asks, .int .i64 age] 47) := ⟨_, rfl⟩
  have bW : Below X.heap.size X W := by rw [hW]; exact (Below.refl _ _).alloc (Nat.le_refl _) _
  have c0 : W.cell? ⟨X.heap.size, 0, none⟩ = some (.int .i64 jn) := by rw [hW]; go_simp
  have c2 : W.cell? ⟨X.heap.size, 2, none⟩ = some (.slice ta tl tc) := by rw [hW]; go_simp
  have zW : X.heap.size < W.heap.size := by rw [hW]; simp
  have hCW : Clerk w W B q v ix (more ++ [⟨47, 6, .slice (some ⟨X.heap.size, 0, none⟩) 1 1, 1, [.int .i64 jn, .int .i64 st, .slice ta tl tc, .slice aa al ac, .int .i64 asks, .int .i64 age]⟩]) := h.add bW (by rw [hW]; exact box_row X _ _ 6 rfl)
  have HH : Hid (Calls Try.prog 55 #[.pointer (some ⟨q, 0, none⟩), .slice ta tl tc] W fun e X' => HandsIs W X' (handsOf v.s ls v.p v.l tasks) e) := hands_any W hCW ls (hl.below bW) ta tl tc tasks (hT.below bW) hs
  have HL : Hid ((handsOf v.s ls v.p v.l tasks).length ≤ 1048576) := by
    have := handsTo_len v.s ls v.p v.l tasks v.s.toNat
    show _ ≤ _
    unfold handsOf
    omega
  obtain ⟨R, eR⟩ : ∃ R, R = handsOf v.s ls v.p v.l tasks := ⟨_, rfl⟩
  rw [← eR] at HH HL ⊢
  have Hn : Hid ((v.ml + 1048577) * 96 ≤ 140737488355328) := hn
  clear eR h hl hT hn hs
  go_enter Try.func24, Try.ntmps24
  go_upto_region 1 with (fail)
  rw [← hW]
  clear hW
  go_wp2_with (go_at_call 55; refine HH.out.mono ?_; rintro e w1 ⟨ha, hc, rfl, hown, hb1⟩)
  have hC1 := hCW.add (r := ⟨3, 1, .slice ha R.length hc, R.length, flat inCell R⟩) hb1 hown
  have HRow : Hid (∀ (U : World) (u : CkV), Clerk w U B q u ix ((more ++ [⟨47, 6, .slice (some ⟨X.heap.size, 0, none⟩) 1 1, 1, [.int .i64 jn, .int .i64 st, .slice ta tl tc, .slice aa al ac, .int .i64 asks, .int .i64 age]⟩]) ++ [⟨3, 1, .slice ha R.length hc, R.length, flat inCell R⟩]) → (U.cell? ⟨X.heap.size, 0, none⟩ = some (.int .i64 jn) ∧ X.heap.size < U.heap.size) ∧ U.ownsRow B 3 1 (.slice ha R.length hc) R.length (flat inCell R)) := fun U u hU => by
    have e1 : ((more ++ [⟨47, 6, .slice (some ⟨X.heap.size, 0, none⟩) 1 1, 1, [.int .i64 jn, .int .i64 st, .slice ta tl tc, .slice aa al ac, .int .i64 asks, .int .i64 age]⟩]) ++ [(⟨3, 1, .slice ha R.length hc, R.length, flat inCell R⟩ : Rw)])[more.length]? = some ⟨47, 6, .slice (some ⟨X.heap.size, 0, none⟩) 1 1, 1, [.int .i64 jn, .int .i64 st, .slice ta tl tc, .slice aa al ac, .int .i64 asks, .int .i64 age]⟩ := by simp
    have e2 : ((more ++ [⟨47, 6, .slice (some ⟨X.heap.size, 0, none⟩) 1 1, 1, [.int .i64 jn, .int .i64 st, .slice ta tl tc, .slice aa al ac, .int .i64 asks, .int .i64 age]⟩]) ++ [(⟨3, 1, .slice ha R.length hc, R.length, flat inCell R⟩ : Rw)])[more.length + 1]? = some ⟨3, 1, .slice ha R.length hc, R.length, flat inCell R⟩ := by simp
    have o1 := hU.held.own.own _ _ (more_get e1)
    exact ⟨by simpa using own_at o1 (j := 0) (by show 0 < 1 * 6; decide), hU.held.own.own _ _ (more_get e2)⟩
  obtain ⟨M, eM⟩ : ∃ M, M = ((more ++ [⟨47, 6, .slice (some ⟨X.heap.size, 0, none⟩) 1 1, 1, [.int .i64 jn, .int .i64 st, .slice ta tl tc, .slice aa al ac, .int .i64 asks, .int .i64 age]⟩]) ++ [(⟨3, 1, .slice ha R.length hc, R.length, flat inCell R⟩ : Rw)]) := ⟨_, rfl⟩
  rw [← eM] at hC1 HRow
  clear eM hCW HH hown c0 c2
  obtain ⟨N, eN⟩ : ∃ N, N = R.length := ⟨_, rfl⟩
  have HN : Hid (N = R.length) := eN
  rw [← eN] at HRow HL ⊢
  clear eN
  have hN := HL.out
  go_loopw [11] (fun s11 wr => ∃ (k : Nat) (m1 : Option Addr) (k1 : Nat), s11 = .int .i64 (k : Int) ∧ k ≤ N ∧ Clerk w wr B q (toldV v m1 k1 jn false (R.take k)) ix M) (fun s11 _ => N - (intOf s11).toNat)
  case atStart => exact ⟨0, v.ma, v.mc, rfl, Nat.zero_le _, by simpa [toldV] using hC1⟩
  case round =>
    obtain ⟨k, m1, k1, rfl, hk, hC⟩ := hrel
    obtain ⟨⟨j0, zj⟩, hrow⟩ := HRow.out _ _ hC
    by_cases hlt : k < N
    · have hlt' : (k : Int) < (N : Int) := by omega
      obtain ⟨g, rfl, _, zg⟩ := own_spot hrow (by omega)
      have cg : wr.cell? ⟨g, k, none⟩ = some (.int .i64 (R.getD k default)) := by
        obtain ⟨b, off, e2, _, hcr⟩ := (own_isRow in_len hrow HN.out.symm).1.2.2.2.2 (by omega)
        have e3 : g = b ∧ 0 = off := by simpa using e2
        obtain ⟨rfl, rfl⟩ := e3
        have := hcr k hlt 0 (by decide)
        rw [Nat.zero_add, Nat.mul_one, Nat.add_zero] at this
        exact this
      have hml : ((toldV v m1 k1 jn false (R.take k)).ml + 1) * 96 ≤ 140737488355328 := by
        exact told_fit Hn.out (Nat.le_trans (List.length_take_le k R) (Nat.le_trans hk hN))
      have HS : Hid (∀ U, Below wr.heap.size wr U → Calls Try.prog 50 #[.pointer (some ⟨q, 0, none⟩), .int .i64 jn, .int .i64 (R.getD k default), .agg #[.int .i64 4, .int .i64 0, .int .i64 0, .int .i64 0, .int .i64 0, .int .i64 0, .int .i64 0, .int .i64 0, .int .i64 0, .int .i64 0, .bool false, .int .i64 0]] U fun e X' => e = .returned (.tuple #[]) ∧ ∃ a5 c5, Clerk w X' B q (toldV v a5 c5 jn false (R.take (k + 1))) ix M) := fun U hU => by
        have := send_any U (hC.below hU) jn (R.getD k default) ⟨4, 0, 0, 0, 0, 0, 0, 0, 0, 0, false, 0⟩ hml
        simp only [MV.val] at this
        refine this.mono ?_
        rintro e u ⟨rfl, a5, c5, h5⟩
        refine ⟨rfl, a5, c5, ?_⟩
        rw [← toldV_at (ma := m1) (mc := k1) (by rw [← HN.out]; exact hlt)]
        exact h5
      obtain ⟨Z, eZ⟩ : ∃ Z, Z = R.getD k default := ⟨_, rfl⟩
      rw [← eZ] at cg HS
      clear eZ hml
      go_wp2_with (go_at_call 50; refine (HS.out _ (by (with_reducible repeat (first | exact Below.refl _ _ | refine nD ?_ | refine nA ?_ _)); done)).mono ?_; rintro e w5 ⟨rfl, a5, c5, h5⟩)
      go_roundw
      case rel => exact ⟨k + 1, a5, c5, by go_num, by omega, h5⟩
      case measure => simp [intOf]; omega
    · have hkN : k = N := by omega
      have hlt' : ¬ (k : Int) < (N : Int) := by omega
      have HD : Hid (Calls Try.prog 56 #[.pointer (some ⟨q, 0, none⟩), .int .i64 jn] wr fun e X' => EndIs w X' B q v jn R e) := by
        refine (drop_any wr hC jn).mono ?_
        rintro e u ⟨rfl, ix', h5⟩
        refine ⟨rfl, m1, k1, ix', M, ?_⟩
        rw [List.take_of_length_le (by rw [hkN, HN.out]; exact Nat.le_refl _)] at h5
        exact h5
      clear hkN hk hlt hN hC hrow
      go_wp2_with (go_at_call 56; refine HD.out.mono ?_; rintro e w5 ⟨rfl, h6⟩)
      exact bodyPost_end (v := .tuple #[]) (by simp [results, Try.results24, go_sem]) rfl ⟨rfl, h6⟩
end Go.Proofs.Ytfhciplckjkflaa.Co
/- The clerk's begin: a job is put behind the others, its number is written, and the caller is told. -/
namespace Go.Proofs.Ytfhciplckjkflaa.Co
open Go.ChangeShapes Go.WideShapes Go.ChangeAt Go.RowKit
open Go.Proofs.Ytfhciplckjkflaa.St (BoxN boxn_new own_below grown_setCell IsRow Elem flat flat_append own_isRow)
set_option linter.unusedVariables false

def newJob (n : Int) : JbV := ⟨n, 1, none, 0, 0, none, 0, 0, 0, 0, [], []⟩
theorem JobsIn.inn {js : List JbV} {ix : List (Nat × Nat)} {more : List Rw} (h : JobsIn js ix more) : ∀ (i : Nat) (x : Nat × Nat), ix[i]? = some x → x.1 < more.length ∧ x.2 < more.length := fun i x e => by
  have hi : i < ix.length := (List.getElem?_eq_some_iff.1 e).1
  have hi' : i < js.length := by rw [← h.1]; exact hi
  obtain ⟨y, ey, e1, e2⟩ := h.at hi'
  rw [ey] at e
  obtain rfl := Option.some.inj e
  exact ⟨(List.getElem?_eq_some_iff.1 e1).1, (List.getElem?_eq_some_iff.1 e2).1⟩
/-- A job without tasks is put behind the others, and the box is told. -/
theorem Clerk.push {w X X' : World} {B q : Nat} {v : CkV} {ix : List (Nat × Nat)} {more : List Rw} (h : Clerk w X B q v ix more) {a5 : Option Addr} {c5 : Nat} (n : Int) (hg : X.grownBy X' (Value.slice v.ja v.jl v.jc).ownBlock) (ho : X'.ownsRow B 47 6 (.slice a5 (v.jl + 1) c5) (v.jl + 1) (flat JbV.cells (v.js ++ [newJob n]))) (hat : (Value.slice a5 (v.jl + 1) c5).ownBlock = (Value.slice v.ja v.jl v.jc).ownBlock ∨ (Value.slice a5 (v.jl + 1) c5).ownBlock = some X.heap.size) :
    ∃ ix' more', Clerk w (X'.setCell ⟨q, 6, none⟩ (.slice a5 (v.jl + 1) c5)) B q { v with ja := a5, jl := v.jl + 1, jc := c5, js := v.js ++ [newJob n] } ix' more' := by
  have hjobs := JobsIn.push h.jobs h.jobs.inn (newJob n)
  have h0 := h.add (X' := X) (Below.refl _ _) (r := ⟨73, 8, .slice none 0 0, 0, []⟩) (World.ownsRow_nil _ _ _ _)
  have h00 := h0.add (X' := X) (Below.refl _ _) (r := ⟨3, 1, .slice none 0 0, 0, []⟩) (World.ownsRow_nil _ _ _ _)
  have h1 := h00.held.grow (i := 0) (r := ⟨47, 6, .slice v.ja v.jl v.jc, v.jl, flat JbV.cells v.js⟩) (r' := ⟨47, 6, .slice a5 (v.jl + 1) c5, v.jl + 1, flat JbV.cells (v.js ++ [newJob n])⟩) rfl hg ho hat
  have h2 := h1.tell 6 (by decide) (.slice a5 (v.jl + 1) c5)
  refine ⟨_, _, ⟨?_, hjobs, by simp [h.lens.1], h.lens.2.1, h.lens.2.2.1, h.lens.2.2.2⟩⟩
  have e1 : more ++ [⟨73, 8, .slice none 0 0, 0, []⟩] ++ [(⟨3, 1, .slice none 0 0, 0, []⟩ : Rw)] = more ++ [taskRow (newJob n).ta (newJob n).tl (newJob n).tc (newJob n).tasks, siteRow (newJob n).aa (newJob n).al (newJob n).ac (newJob n).asked] := by simp [taskRow, siteRow, newJob, flat]
  rw [e1] at h2
  exact h2
def fullB (v : CkV) (room : Int) : Bool := decide (6 ≤ v.jl) || decide (1048576 < v.next) || decide (room < 600)
def refusedV (v : CkV) (pa : Option Addr) (pc : Nat) (r : RpV) : CkV := { v with pa := pa, pl := v.pl + 1, pc := pc, ps := v.ps ++ [r] }
def begunV (v : CkV) (ja : Option Addr) (jc : Nat) (ra : Option Addr) (rc : Nat) (pa : Option Addr) (pc : Nat) : CkV := { v with next := v.next + 1, ja := ja, jl := v.jl + 1, jc := jc, js := v.js ++ [newJob v.next], ra := ra, rl := v.rl + 1, rc := rc, rs := v.rs ++ [⟨5, v.me, v.next, 0, 0, 0, false, none, 0, 0, []⟩], pa := pa, pl := v.pl + 1, pc := pc, ps := v.ps ++ [⟨v.me, 1, v.next, 0, 0, 0⟩] }
def BeginIs (w X' : World) (B q : Nat) (v : CkV) (room : Int) (e : Ending) : Prop := e = .returned (.tuple #[]) ∧ (fullB v room = true → ∃ pa pc ix more, Clerk w X' B q (refusedV v pa pc ⟨v.me, 1, 0, 0, 0, 8⟩) ix more) ∧ (fullB v room = false → ∃ ja jc ra rc pa pc ix more, Clerk w X' B q (begunV v ja jc ra rc pa pc) ix more)
set_option maxRecDepth 100000 in
set_option maxHeartbeats 4000000 in
theorem begin_any {w : World} {B q : Nat} {v : CkV} {ix : List (Nat × Nat)} {more : List Rw} (X : World) (h : Clerk w X B q v ix more) (room : Int) (hnx : 1 ≤ v.next) (hj : (v.jl + 1) * 80 ≤ 140737488355328) (hr : (v.rl + 1) * 80 ≤ 140737488355328) (hp : (v.pl + 1) * 48 ≤ 140737488355328) :
    Calls Try.prog 17 #[.pointer (some ⟨q, 0, none⟩), .int .i64 room] X fun e X' => BeginIs w X' B q v room e := by
  obtain ⟨iJ, EJ⟩ := jbElem
  have bx := h.held.box
  have zq := bx.lt
  have q5 : X.cell? ⟨q, 5, none⟩ = some (.int .i64 v.next) := (bx.c 5 (by decide)).1
  have q6 : X.cell? ⟨q, 6, none⟩ = some (.slice v.ja v.jl v.jc) := (bx.c 6 (by decide)).1
  have hjl : v.jl ≤ v.jc ∧ v.jc ≤ maxLen := by
    have := (own_isRow jb_len h.jobRow h.lens.1).1
    exact ⟨this.2.1, this.2.2.1⟩
  obtain ⟨hjl1, hjl2⟩ := hjl
  have Hp : Hid ((v.pl + 1) * 48 ≤ 140737488355328) := hp
  have Hr : Hid ((v.rl + 1) * 80 ≤ 140737488355328) := hr
  have Hj : Hid ((v.jl + 1) * 80 ≤ 140737488355328) := hj
  clear hp hr hj
  have HC : Hid (Clerk w X B q v ix more) := h
  have HF : Hid (fullB v room = (decide (6 ≤ v.jl) || decide (1048576 < v.next) || decide (room < 600))) := rfl
  by_cases hf : 6 ≤ v.jl ∨ 1048576 < v.next ∨ room < 600
  · have HT : Hid (fullB v room = true) := by
      show _ = _
      rw [HF.out]
      rcases hf with h1 | h1 | h1 <;> simp [h1]
    have HR : Hid (Calls Try.prog 20 #[.pointer (some ⟨q, 0, none⟩), .agg #[.int .i64 0, .int .i64 1, .int .i64 0, .int .i64 0, .int .i64 0, .int .i64 8]] X fun e X' => BeginIs w X' B q v room e) := by
      refine (reply_any X HC.out ⟨0, 1, 0, 0, 0, 8⟩ Hp.out).mono ?_
      rintro e u ⟨rfl, a5, c5, h5⟩
      exact ⟨rfl, fun _ => ⟨a5, c5, ix, more, h5⟩, fun e => by rw [HT.out] at e; cases e⟩
    clear bx h HC HF HT Hj Hr Hp
    by_cases h1 : 6 ≤ v.jl
    · have h1' : (6 : Int) ≤ (v.jl : Int) := by omega
      clear hf
      go_enter Try.func17, Try.ntmps17
      go_wp2_with (go_at_call 20; refine HR.out.mono ?_; rintro e w1 ⟨rfl, hR⟩)
      exact bodyPost_ret (v := .tuple #[]) (by simp [results, Try.results17, go_sem]) rfl ⟨rfl, hR⟩
    · have h1' : ¬ (6 : Int) ≤ (v.jl : Int) := by omega
      by_cases h2 : 1048576 < v.next
      · clear hf
        go_enter Try.func17, Try.ntmps17
        go_wp2_with (go_at_call 20; refine HR.out.mono ?_; rintro e w1 ⟨rfl, hR⟩)
        exact bodyPost_ret (v := .tuple #[]) (by simp [results, Try.results17, go_sem]) rfl ⟨rfl, hR⟩
      · have h3 : room < 600 := by omega
        clear hf
        go_enter Try.func17, Try.ntmps17
        go_wp2_with (go_at_call 20; refine HR.out.mono ?_; rintro e w1 ⟨rfl, hR⟩)
        exact bodyPost_ret (v := .tuple #[]) (by simp [results, Try.results17, go_sem]) rfl ⟨rfl, hR⟩
  · have h1' : ¬ (6 : Int) ≤ (v.jl : Int) := by omega
    have h2 : ¬ 1048576 < v.next := by omega
    have h3 : ¬ room < 600 := by omega
    have HT : Hid (fullB v room = false) := by
      show _ = _
      rw [HF.out]
      have h4 : ¬ 6 ≤ v.jl := by omega
      simp [h2, h3, h4]
    clear hf HF bx h
    obtain ⟨U, eU⟩ : ∃ U : World, U = X.alloc (.cells #[.int .i64 v.next, .int .i64 1, .slice none 0 0, .slice none 0 0, .int .i64 0, .int .i64 0] 47) := ⟨_, rfl⟩
    have bU : Below X.heap.size X U := by rw [eU]; exact (Below.refl _ _).alloc (Nat.le_refl _) _
    have hU := HC.out.below bU
    have hone : IsRow 6 JbV.cells U (some ⟨X.heap.size, 0, none⟩) 1 1 [newJob v.next] := by
      rw [eU]
      exact rowOne (cells := JbV.cells) (k := 6) X #[.int .i64 v.next, .int .i64 1, .slice none 0 0, .slice none 0 0, .int .i64 0, .int .i64 0] 47 (newJob v.next) rfl rfl
    have ownU := hU.jobRow
    have hap := hU.held.apart 0 ⟨47, 6, .slice v.ja v.jl v.jc, v.jl, flat JbV.cells v.js⟩ rfl
    have hB : B ≤ U.heap.size := Nat.le_trans HC.out.held.le (Nat.le_of_lt (Nat.lt_of_lt_of_le zq bU.size))
    have HU : Hid (Clerk w U B q v ix more) := hU
    have hwr : wrap64 (v.next + 1) = v.next + 1 := by unfold wrap64; omega
    clear hU
    go_enter Try.func17, Try.ntmps17
    go_upto_region 5 with (at_builtin; go_loud (rw [← eU]; refine St.wpList_append_row EJ (by rfl) _ _ (by rfl) B (.slice v.ja v.jl v.jc) v.jl v.js (by rfl) ownU _ 1 1 [newJob v.next] (by rfl) hone (by have := Hj.out; unfold maxLen; omega) (by exact Hj.out) hB ?_; intro a5 c5 w5 own5 gr5 at5; have bq := HU.out.held.box.grown gr5 (fun e => hap e.symm); have p5 : w5.cell? ⟨q, 5, none⟩ = some (.int .i64 v.next) := (bq.c 5 (by decide)).1; have pf5 := (bq.c 5 (by decide)).2; have p6 : w5.cell? ⟨q, 6, none⟩ = some (.slice v.ja v.jl v.jc) := (bq.c 6 (by decide)).1; have pf6 := (bq.c 6 (by decide)).2; have zq5 := bq.lt; obtain ⟨ix5, more5, hP⟩ := HU.out.push v.next gr5 own5 at5))
    have hN := hP.next (v.next + 1)
    have HN : Hid (Clerk w ((w5.setCell ⟨q, 6, none⟩ (.slice a5 (v.jl + 1) c5)).setCell ⟨q, 5, none⟩ (.int .i64 (v.next + 1))) B q { v with next := v.next + 1, ja := a5, jl := v.jl + 1, jc := c5, js := v.js ++ [newJob v.next] } ix5 more5) := hN
    clear bq hP hN own5 at5 gr5 HU hone ownU hap q5 q6 eU
    go_upto_region 6 with (fail)
    obtain ⟨Y, eY⟩ : ∃ Y, Y = (w5.setCell ⟨q, 6, none⟩ (.slice a5 (v.jl + 1) c5)).setCell ⟨q, 5, none⟩ (.int .i64 (v.next + 1)) := ⟨_, rfl⟩
    rw [← eY] at HN ⊢
    clear eY p5 p6 pf5 pf6
    have HX : Hid (Calls Try.prog 44 #[.pointer (some ⟨q, 0, none⟩), .int .i64 v.next] Y fun e X' => e = .returned (.agg #[.int .i64 v.me, .int .i64 v.next]) ∧ Below Y.heap.size Y X') := txn_any Y HN.out v.next
    have HW : Hid (∀ U, Below Y.heap.size Y U → Calls Try.prog 43 #[.pointer (some ⟨q, 0, none⟩), .agg #[.int .i64 5, .int .i64 v.me, .int .i64 v.next, .int .i64 0, .int .i64 0, .int .i64 0, .bool false, .slice none 0 0]] U fun e X' => e = .returned (.tuple #[]) ∧ ∃ a6 c6, Clerk w X' B q { v with next := v.next + 1, ja := a5, jl := v.jl + 1, jc := c5, js := v.js ++ [newJob v.next], ra := a6, rl := v.rl + 1, rc := c6, rs := v.rs ++ [⟨5, v.me, v.next, 0, 0, 0, false, none, 0, 0, []⟩] } ix5 more5) := fun U hU => write_any U (HN.out.below hU) ⟨5, v.me, v.next, 0, 0, 0, false, none, 0, 0, []⟩ Hr.out
    go_upto_region 7 with (first | (go_at_call 44; refine HX.out.mono ?_; rintro e w6 ⟨rfl, hb6⟩) | (go_at_call 43; refine (HW.out _ hb6).mono ?_; rintro e w7 ⟨rfl, a6, c6, h7⟩))
    have HR : Hid (Calls Try.prog 20 #[.pointer (some ⟨q, 0, none⟩), .agg #[.int .i64 0, .int .i64 1, .int .i64 v.next, .int .i64 0, .int .i64 0, .int .i64 0]] w7 fun e X' => BeginIs w X' B q v room e) := by
      refine (reply_any w7 h7 ⟨0, 1, v.next, 0, 0, 0⟩ Hp.out).mono ?_
      rintro e u ⟨rfl, a8, c8, h8⟩
      exact ⟨rfl, (fun e => by rw [HT.out] at e; cases e), fun _ => ⟨a5, c5, a6, c6, a8, c8, ix5, more5, h8⟩⟩
    clear h7 HW HX HN
    go_wp2_with (go_at_call 20; refine HR.out.mono ?_; rintro e w8 ⟨rfl, hR⟩)
    exact bodyPost_end (v := .tuple #[]) (by simp [results, Try.results17, go_sem]) rfl ⟨rfl, hR⟩
end Go.Proofs.Ytfhciplckjkflaa.Co
/- A job's Asked is another of the clerk's own rows. -/
namespace Go.Proofs.Ytfhciplckjkflaa.Co
open Go.ChangeShapes Go.WideShapes Go.ChangeAt Go.RowKit
open Go.Proofs.Ytfhciplckjkflaa.St (BoxN boxn_new own_below grown_setCell IsRow Elem flat flat_append own_isRow)
set_option linter.unusedVariables false

def askedJob (j : JbV) (aa : Option Addr) (al ac : Nat) (zs : List Int) : JbV := { j with aa := aa, al := al, ac := ac, asked := zs }
theorem Clerk.asked {w X : World} {B q : Nat} {v : CkV} {ix : List (Nat × Nat)} {more : List Rw} (h : Clerk w X B q v ix more) {i g : Nat} (hi : i < v.jl) (eg : v.ja = some ⟨g, 0, none⟩) {k : Nat} {aa : Option Addr} {al ac : Nat} {zs : List Int} (ek : more[k]? = some (siteRow aa al ac zs)) (hk : ∀ (i : Nat) (x : Nat × Nat), ix[i]? = some x → x.1 ≠ k ∧ x.2 ≠ k) :
    ∃ y, ix[i]? = some y ∧ Clerk w (X.setCell ⟨g, i * 6 + 3, none⟩ (.slice aa al ac)) B q { v with js := v.js.set i (askedJob (v.js.getD i default) aa al ac zs) } (ix.set i (y.1, k)) more := by
  have hl := h.lens.1
  have hi' : i < v.js.length := by omega
  obtain ⟨x, ex, e1, e2⟩ := h.jobs.at hi'
  have e0 : (v.rows ++ more)[0]? = some ⟨47, 6, .slice (some ⟨g, 0, none⟩) v.jl v.jc, v.jl, flat JbV.cells v.js⟩ := by rw [← eg]; rfl
  have h2 := h.held.cell e0 (j := i * 6 + 3) (by omega) (.slice aa al ac)
  rw [← flat_set6 v.js i (askedJob (v.js.getD i default) aa al ac zs) 3 (.slice aa al ac) hi' (by decide) rfl] at h2
  refine ⟨x, ex, ?_, ?_, by simpa using hl, h.lens.2.1, h.lens.2.2.1, h.lens.2.2.2⟩
  · have er2 : ({ v with js := v.js.set i (askedJob (v.js.getD i default) aa al ac zs) } : CkV).rows ++ more = (v.rows ++ more).set 0 ⟨47, 6, .slice (some ⟨g, 0, none⟩) v.jl v.jc, v.jl, flat JbV.cells (v.js.set i (askedJob (v.js.getD i default) aa al ac zs))⟩ := by rw [← eg]; rfl
    rw [er2]
    exact h2
  · obtain ⟨g1, g2, g3, g4⟩ := h.jobs
    have eo : v.js[i]? = some (v.js.getD i default) := by simp [List.getD, hi']
    refine ⟨by simpa using g1, fun m j y ej ey => ?_, fun m n y z ey ez hmn => ?_, fun m y ey => ?_⟩
    · rcases set_get eo ej with ⟨rfl, rfl⟩ | ⟨hm, ej⟩
      · rcases set_get ex ey with ⟨_, rfl⟩ | ⟨hm, _⟩
        · exact ⟨e1, ek⟩
        · exact absurd rfl hm
      · rcases set_get ex ey with ⟨hm2, _⟩ | ⟨_, ey⟩
        · exact absurd hm2 hm
        · exact g2 m j y ej ey
    · rcases set_get ex ey with ⟨rfl, rfl⟩ | ⟨hm, ey2⟩
      · rcases set_get ex ez with ⟨rfl, _⟩ | ⟨hn, ez2⟩
        · exact absurd rfl hmn
        · have a := g3 _ _ x z ex ez2 hmn
          exact ⟨a.1, a.2.1, fun e => (hk _ _ ez2).1 e.symm, fun e => (hk _ _ ez2).2 e.symm⟩
      · rcases set_get ex ez with ⟨rfl, rfl⟩ | ⟨hn, ez2⟩
        · have a := g3 _ _ y x ey2 ex hmn
          exact ⟨a.1, (hk _ _ ey2).1, a.2.2.1, (hk _ _ ey2).2⟩
        · exact g3 m n y z ey2 ez2 hmn
    · rcases set_get ex ey with ⟨rfl, rfl⟩ | ⟨hm, ey⟩
      · exact (hk _ _ ex).1
      · exact g4 m y ey
end Go.Proofs.Ytfhciplckjkflaa.Co
