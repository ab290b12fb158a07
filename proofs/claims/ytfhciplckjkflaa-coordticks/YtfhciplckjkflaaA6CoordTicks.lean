/- How a desk comes in as an argument, with the sizes of its lists. -/
import Derived.Test.YtfhciplckjkflaaA5CoordTicks
import Derived.SizedLaws
set_option maxRecDepth 10000
namespace Go.Proofs.Ytfhciplckjkflaa.Co
open Go.ChangeShapes Go.WideShapes Go.ChangeAt Go.RowKit Go.Joins Go.Deep
open Go.Proofs.Ytfhciplckjkflaa.St (IsRow isRow_nil)
set_option linter.unusedVariables false

variable {H : Type} {enc : TypeId × Value → H} {W : World} {base : Nat}
theorem bTk : Try.prog.bytesOf 73 = 56 := by kernel_rfl
theorem bI : Try.prog.bytesOf 3 = 8 := by kernel_rfl
theorem bJb : Try.prog.bytesOf 47 = 80 := by kernel_rfl
/-- All weights of a datum are within the reach. -/
def LightN (t : TypeId) (d : DataW H) : Prop := ∀ n ∈ d.weights Try.prog t, n ≤ reachBytes
theorem mem_weightsAll {P : Program} {e : TypeId} : ∀ {l : List (DataW H)} {d : DataW H} {n : Nat}, d ∈ l → n ∈ d.weights P e → n ∈ DataW.weightsAll P e l
  | a :: r, d, n, hd, hn => by
    simp only [DataW.weightsAll, List.mem_append]
    rcases List.mem_cons.1 hd with rfl | hd
    · exact .inl hn
    · exact .inr (mem_weightsAll hd hn)
theorem row_light {α : Type} [Inhabited α] {k bytes : Nat} {cells : α → List Value} (ok lt : α → Prop) {te tsl : TypeId} (hu : Try.prog.underlying tsl = some (.slice te)) (hk : Try.prog.cellsOf te = k) (hb : Try.prog.bytesOf te = bytes) (hk0 : 0 < k) (hne : ∀ y, ∃ v, (cells y)[0]? = some v)
    (hel : ∀ {n : Nat} {cs : List Value} {x : DataW H × List MemPlace}, DataW.trod enc Try.prog W 0 (fun _ => true) true n te cs = some x → ∃ y : α, cs = cells y ∧ ok y ∧ (LightN te x.1 → lt y))
    {n : Nat} {cs : List Value} {x : DataW H × List MemPlace} (h : DataW.trod enc Try.prog W 0 (fun _ => true) true n tsl cs = some x) :
    ∃ (a : Option Addr) (len cap : Nat) (xs : List α), cs = [.slice a len cap] ∧ IsRow k cells W a len cap xs ∧ (∀ y ∈ xs, ok y) ∧ (LightN tsl x.1 → len * bytes ≤ 140737488351232 ∧ ∀ y ∈ xs, lt y) := by
  rcases open_slice hu h with ⟨rfl, _⟩ | ⟨a, len, cap, m, n, D, Pl, rfl, _, hl, hm, hmm, hxd, hx⟩
  · exact ⟨none, 0, 0, [], rfl, isRow_nil _ _ _, by simp, fun _ => ⟨by simp, by simp⟩⟩
  · have hmc : m = cap := by simpa using hmm
    subst hmc
    rw [hk] at hx
    have hy : ∀ i, i < m → ∃ y : α, W.cells? 0 (a.add (i * k)) k = some (cells y) ∧ ok y ∧ (LightN te (D i) → lt y) := by
      intro i hi
      obtain ⟨cs', h1, h2⟩ := hx i hi
      obtain ⟨y, rfl, h3, h4⟩ := hel h2
      exact ⟨y, h1, h3, h4⟩
    obtain ⟨f, hf⟩ := choose_lt hy
    refine ⟨some a, len, m, (List.range len).map f, rfl, ⟨by simp, hl, hm, fun e => by simp at e, fun hp => ?_⟩, fun y hy => ?_, fun hL => ⟨?_, fun y hy => ?_⟩⟩
    · obtain ⟨b, off, spot⟩ := a
      obtain ⟨vv, h00⟩ := hne (f 0)
      have hc0 := (World.cells?_some (hf 0 (by omega)).1).2.2 0 hk0
      have h0 : W.cell? (((⟨b, off, spot⟩ : Addr).add (0 * k)).add 0) = some vv := by rw [hc0]; exact h00
      have hspot : spot = none := by simpa [Addr.add] using World.cell?_spot h0
      subst hspot
      have hb0 : W.cell? ⟨b, off, none⟩ = some vv := by simpa [Addr.add] using h0
      refine ⟨b, off, rfl, World.block_lt_of_cell? W _ hb0, fun i hi j hj => ?_⟩
      have hc := (World.cells?_some (hf i (by omega)).1).2.2 j hj
      have ad : ∀ o i, (⟨b, o, none⟩ : Addr).add i = ⟨b, o + i, none⟩ := by
        intro o i
        unfold Addr.add
        by_cases h : i = 0 <;> simp [h]
      rw [ad, ad] at hc
      rw [hc]
      simp [List.getD, hi]
    · obtain ⟨i, hi, rfl⟩ := List.getElem_of_mem hy
      simp at hi
      simpa using (hf i (by omega)).2.1
    · rw [hxd] at hL
      have := hL _ (by simp only [DataW.weights, hu]; exact List.mem_cons_self ..)
      rw [hb] at this
      simp only [List.length_map, List.length_range, reachBytes] at this
      exact Nat.le_trans (Nat.mul_le_mul_right _ (Nat.le_add_right _ _)) this
    · obtain ⟨i, hi, rfl⟩ := List.getElem_of_mem hy
      have hi' : i < len := by simpa using hi
      have h3 := (hf i (by omega)).2.2 (fun q hq => ?_)
      · simpa using h3
      · rw [hxd] at hL
        refine hL q ?_
        simp only [DataW.weights, hu]
        refine List.mem_cons_of_mem _ (List.mem_append_left _ (mem_weightsAll (d := D i) ?_ hq))
        simp
        exact ⟨i, hi', rfl⟩
theorem trod_jobL {n : Nat} {cs : List Value} {x : DataW H × List MemPlace} (h : DataW.trod enc Try.prog W 0 (fun _ => true) true n 47 cs = some x) : ∃ j : JbV, cs = j.cells ∧ IsJob W j ∧ (LightN 47 x.1 → j.tl * 56 ≤ 140737488351232 ∧ j.al * 8 ≤ 140737488351232) := by
  obtain ⟨ys, m, _, hx, hlen, hyl, hf⟩ := DataW.trod_struct Try.underlying47 h
  rw [cJb] at hlen
  obtain ⟨v0, v1, v2, v3, v4, v5, rfl⟩ := l6 hlen
  obtain ⟨y0, y1, y2, y3, y4, y5, rfl⟩ := l6 (l := ys) (by simpa using hyl)
  have e0 := hf 0 _ rfl
  have e1 := hf 1 _ rfl
  have e2 := hf 2 _ rfl
  have e3 := hf 3 _ rfl
  have e4 := hf 4 _ rfl
  have e5 := hf 5 _ rfl
  simp [cI, cSt, cSi] at e0 e1 e2 e3 e4 e5
  obtain ⟨a0, r0, _⟩ := DataW.trod_int Try.underlying3 e0
  obtain ⟨a1, r1, _⟩ := DataW.trod_int Try.underlying3 e1
  obtain ⟨ta, tl, tc, tasks, r2, ht, _, lt⟩ := row_light (cells := TkV.cells) (fun _ => True) (fun _ => True) Try.underlying44 cTk bTk (by omega) (fun y => ⟨_, rfl⟩) (fun h => by obtain ⟨m, h1, h2⟩ := trod_task h; exact ⟨m, h1, h2, fun _ => trivial⟩) e2
  obtain ⟨aa, al, ac, asked, r3, ha, _, la⟩ := row_light (cells := inCell) (fun _ => True) (fun _ => True) Try.underlying45 cI bI (by omega) (fun y => ⟨_, rfl⟩) (fun h => by obtain ⟨m, h1, h2⟩ := trod_num h; exact ⟨m, h1, h2, fun _ => trivial⟩) e3
  obtain ⟨a4, r4, _⟩ := DataW.trod_int Try.underlying3 e4
  obtain ⟨a5, r5, _⟩ := DataW.trod_int Try.underlying3 e5
  simp at r0 r1 r2 r3 r4 r5
  exact ⟨⟨a0, a1, ta, tl, tc, aa, al, ac, a4, a5, tasks, asked⟩, by rw [r0, r1, r2, r3, r4, r5]; rfl, ⟨ht, ha⟩, fun hA => ⟨(lt fun k hk => hA k (by rw [hx]; simp only [DataW.weights, Try.underlying47]; exact DataW.weights_mem_each (j := 2) (t := 44) (d := y2.1) rfl rfl k hk)).1, (la fun k hk => hA k (by rw [hx]; simp only [DataW.weights, Try.underlying47]; exact DataW.weights_mem_each (j := 3) (t := 45) (d := y3.1) rfl rfl k hk)).1⟩⟩
theorem op_deskL {v : Value} {d : DataW H} {p : List MemPlace} (hv : Value.okWide Try.prog W .any base 27 v) (h : DataW.Trod enc Try.prog W 0 (fun _ => true) true 27 v d p) :
    ∃ (nx : Int) (a : Option Addr) (len cap : Nat) (js : List JbV), v = .agg #[.int .i64 nx, .slice a len cap] ∧ IsJobs W a len cap js ∧ (LightN 27 d → len * 80 ≤ 140737488351232 ∧ ∀ j ∈ js, j.tl * 56 ≤ 140737488351232 ∧ j.al * 8 ≤ 140737488351232) := by
  obtain ⟨c0, c1, y0, y1, m, rfl, rfl, rfl, hy0, hy1⟩ := open_agg2 Try.underlying27 (by kernel_rfl) (by kernel_rfl) hv h
  obtain ⟨nx, e0, _, wa⟩ := DataW.trod_int Try.underlying3 hy0
  obtain ⟨a, len, cap, js, e1, hr, hj, hl⟩ := row_light (cells := JbV.cells) (IsJob W) (fun j => j.tl * 56 ≤ 140737488351232 ∧ j.al * 8 ≤ 140737488351232) Try.underlying25 cJb bJb (by omega) (fun y => ⟨_, rfl⟩) trod_jobL hy1
  simp at e0 e1
  subst e0 e1
  exact ⟨nx, a, len, cap, js, rfl, ⟨hr, hj⟩, fun hA => hl fun k hk => hA k (by simp only [DataW.weights, Try.underlying27]; exact DataW.weights_mem_each (j := 1) (t := 25) (d := y1.1) rfl rfl k hk)⟩
end Go.Proofs.Ytfhciplckjkflaa.Co
