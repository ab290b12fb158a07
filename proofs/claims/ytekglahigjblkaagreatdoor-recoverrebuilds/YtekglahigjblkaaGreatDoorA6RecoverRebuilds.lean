/- How a store comes in as an argument, with the sizes of its lists. -/
import Derived.Test.YtekglahigjblkaaGreatDoorA5RecoverRebuilds
import Derived.SizedLaws
set_option maxRecDepth 10000
namespace Go.Proofs.YtekglahigjblkaaGreatDoor.St
open Go.ChangeShapes Go.WideShapes Go.ChangeAt Go.RowKit Go.Joins Go.Deep
set_option linter.unusedVariables false

variable {H : Type} {enc : TypeId × Value → H} {W : World} {base : Nat}
def LightN (t : TypeId) (d : DataW H) : Prop := ∀ n ∈ d.weights Tryz.prog t, n ≤ reachBytes
theorem mem_weightsAll {P : Program} {e : TypeId} : ∀ {l : List (DataW H)} {d : DataW H} {n : Nat}, d ∈ l → n ∈ d.weights P e → n ∈ DataW.weightsAll P e l
  | a :: r, d, n, hd, hn => by
    simp only [DataW.weightsAll, List.mem_append]
    rcases List.mem_cons.1 hd with rfl | hd
    · exact .inl hn
    · exact .inr (mem_weightsAll hd hn)
theorem row_light {α : Type} [Inhabited α] {k bytes : Nat} {cells : α → List Value} (ok lt : α → Prop) {te tsl : TypeId} (hu : Tryz.prog.underlying tsl = some (.slice te)) (hk : Tryz.prog.cellsOf te = k) (hb : Tryz.prog.bytesOf te = bytes) (hk0 : 0 < k) (hne : ∀ y, ∃ v, (cells y)[0]? = some v)
    (hel : ∀ {n : Nat} {cs : List Value} {x : DataW H × List MemPlace}, DataW.trod enc Tryz.prog W 0 (fun _ => true) true n te cs = some x → ∃ y : α, cs = cells y ∧ ok y ∧ (LightN te x.1 → lt y))
    {n : Nat} {cs : List Value} {x : DataW H × List MemPlace} (h : DataW.trod enc Tryz.prog W 0 (fun _ => true) true n tsl cs = some x) :
    ∃ (a : Option Addr) (len cap : Nat) (xs : List α), cs = [.slice a len cap] ∧ IsRow k cells W a len cap xs ∧ (∀ y ∈ xs, ok y) ∧ (LightN tsl x.1 → len * bytes ≤ 140737488351232 ∧ ∀ y ∈ xs, lt y) := by
  rcases open_slice hu h with ⟨rfl, _⟩ | ⟨a, len, cap, m, n, D, Pl, rfl, _, hl, hm, hmm, hxd, hx⟩
  · exact ⟨none, 0, 0, [], rfl, isRow_nil _ _ _, by simp, fun _ => ⟨by simp, by simp⟩⟩
  · have hmc : m = cap := by simpa using hmm
    subst hmc
    rw [hk] at hx
    have hy : ∀ i, i < m → ∃ y : α, W.cells? 0 (a.add (i * k)) k = some (cells y) ∧ ok y ∧ (LightN te (D i) → lt y) := by
      intro i hi
      obtain ⟨cs', h1, h2⟩ := hx i hi
      obtain ⟨y, rfl, h3, h4⟩ := hel h2
      exact ⟨y, h1, h3, h4⟩
    obtain ⟨f, hf⟩ := choose_lt hy
    refine ⟨some a, len, m, (List.range len).map f, rfl, ⟨by simp, hl, hm, fun e => by simp at e, fun hp => ?_⟩, fun y hy => ?_, fun hL => ⟨?_, fun y hy => ?_⟩⟩
    · obtain ⟨b, off, spot⟩ := a
      obtain ⟨vv, h00⟩ := hne (f 0)
      have hc0 := (World.cells?_some (hf 0 (by omega)).1).2.2 0 hk0
      have h0 : W.cell? (((⟨b, off, spot⟩ : Addr).add (0 * k)).add 0) = some vv := by rw [hc0]; exact h00
      have hspot : spot = none := by simpa [Addr.add] using World.cell?_spot h0
      subst hspot
      have hb0 : W.cell? ⟨b, off, none⟩ = some vv := by simpa [Addr.add] using h0
      refine ⟨b, off, rfl, World.block_lt_of_cell? W _ hb0, fun i hi j hj => ?_⟩
      have hc := (World.cells?_some (hf i (by omega)).1).2.2 j hj
      have ad : ∀ o i, (⟨b, o, none⟩ : Addr).add i = ⟨b, o + i, none⟩ := by
        intro o i
        unfold Addr.add
        by_cases h : i = 0 <;> simp [h]
      rw [ad, ad] at hc
      rw [hc]
      simp [List.getD, hi]
    · obtain ⟨i, hi, rfl⟩ := List.getElem_of_mem hy
      simp at hi
      simpa using (hf i (by omega)).2.1
    · rw [hxd] at hL
      have := hL _ (by simp only [DataW.weights, hu]; exact List.mem_cons_self ..)
      rw [hb] at this
      simp only [List.length_map, List.length_range, reachBytes] at this
      exact Nat.le_trans (Nat.mul_le_mul_right _ (Nat.le_add_right _ _)) this
    · obtain ⟨i, hi, rfl⟩ := List.getElem_of_mem hy
      have hi' : i < len := by simpa using hi
      have h3 := (hf i (by omega)).2.2 (fun q hq => ?_)
      · simpa using h3
      · rw [hxd] at hL
        refine hL q ?_
        simp only [DataW.weights, hu]
        refine List.mem_cons_of_mem _ (List.mem_append_left _ (mem_weightsAll (d := D i) ?_ hq))
        simp
        exact ⟨i, hi', rfl⟩

structure SLight (s : SV) : Prop where
  items : s.il * 24 ≤ 140737488351232
  locks : s.ll * 48 ≤ 140737488351232
  doubts : s.dl * 24 ≤ 140737488351232
  over : s.ol * 16 ≤ 140737488351232
theorem bIt : Tryz.prog.bytesOf 68 = 24 := by kernel_rfl
theorem bLk : Tryz.prog.bytesOf 70 = 48 := by kernel_rfl
theorem bDb : Tryz.prog.bytesOf 72 = 24 := by kernel_rfl
theorem bTx : Tryz.prog.bytesOf 51 = 16 := by kernel_rfl
theorem op_storeL {v : Value} {d : DataW H} {p : List MemPlace} (hv : Value.okWide Tryz.prog W .any base 31 v) (h : DataW.Trod enc Tryz.prog W 0 (fun _ => true) true 31 v d p) :
    ∃ s : SV, v = s.val ∧ IsStore W s ∧ (∀ t ∈ s.over, TxWf t) ∧ (LightN 31 d → SLight s) := by
  obtain ⟨c0, c1, c2, c3, y0, y1, y2, y3, m, rfl, rfl, rfl, hy0, hy1, hy2, hy3⟩ := open_agg4 Tryz.underlying31 (by kernel_rfl) (by kernel_rfl) hv h
  obtain ⟨ia, il, ic, items, e0, hi, _, Li⟩ := row_light (cells := ItV.cells) (fun _ => True) (fun _ => True) Tryz.underlying26 cIt bIt (by omega) (fun y => ⟨_, rfl⟩) (fun h => by obtain ⟨m, h1, h2⟩ := trod_item h; exact ⟨m, h1, h2, fun _ => trivial⟩) hy0
  obtain ⟨la, ll, lc, locks, e1, hl, _, Ll⟩ := row_light (cells := LkV.cells) (fun _ => True) (fun _ => True) Tryz.underlying27 cLk bLk (by omega) (fun y => ⟨_, rfl⟩) (fun h => by obtain ⟨m, h1, h2⟩ := trod_lock h; exact ⟨m, h1, h2, fun _ => trivial⟩) hy1
  obtain ⟨da, dl, dc, doubts, e2, hd, _, Ld⟩ := row_light (cells := DbV.cells) (fun _ => True) (fun _ => True) Tryz.underlying28 cDb bDb (by omega) (fun y => ⟨_, rfl⟩) (fun h => by obtain ⟨m, h1, h2⟩ := trod_doubt h; exact ⟨m, h1, h2, fun _ => trivial⟩) hy2
  obtain ⟨oa, ol, oc, over, e3, ho, hw, Lo⟩ := row_light (cells := txCells) TxWf (fun _ => True) Tryz.underlying29 cT bTx (by omega) (fun y => ⟨_, rfl⟩) (fun h => by obtain ⟨m, h1, h2⟩ := trod_txn h; exact ⟨m, h1, h2, fun _ => trivial⟩) hy3
  simp at e0 e1 e2 e3
  subst e0 e1 e2 e3
  refine ⟨⟨ia, il, ic, la, ll, lc, da, dl, dc, oa, ol, oc, items, locks, doubts, over⟩, rfl, ⟨hi, hl, hd, ho⟩, hw, fun hA => ⟨?_, ?_, ?_, ?_⟩⟩
  · refine (Li fun k hk => hA k ?_).1
    simp only [DataW.weights, Tryz.underlying31]
    exact DataW.weights_mem_each (j := 0) (t := 26) (d := y0.1) rfl rfl k hk
  · refine (Ll fun k hk => hA k ?_).1
    simp only [DataW.weights, Tryz.underlying31]
    exact DataW.weights_mem_each (j := 1) (t := 27) (d := y1.1) rfl rfl k hk
  · refine (Ld fun k hk => hA k ?_).1
    simp only [DataW.weights, Tryz.underlying31]
    exact DataW.weights_mem_each (j := 2) (t := 28) (d := y2.1) rfl rfl k hk
  · refine (Lo fun k hk => hA k ?_).1
    simp only [DataW.weights, Tryz.underlying31]
    exact DataW.weights_mem_each (j := 3) (t := 29) (d := y3.1) rfl rfl k hk
theorem op_bool {v : Value} {d : DataW H} {p : List MemPlace} (hv : Value.okWide Tryz.prog W .any base 4 v) (h : DataW.Trod enc Tryz.prog W 0 (fun _ => true) true 4 v d p) : ∃ b : Bool, v = .bool b := by
  obtain ⟨b, h1, _⟩ := open_bool Tryz.underlying4 hv h
  exact ⟨b, h1⟩
end Go.Proofs.YtekglahigjblkaaGreatDoor.St
