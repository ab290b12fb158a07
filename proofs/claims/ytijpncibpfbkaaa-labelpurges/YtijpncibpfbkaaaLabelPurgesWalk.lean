/- The walk of the law LabelPurges: at any config, place and acts it returns true and leaves what was in memory; each slice that comes in takes at most 2 to the 47 bytes. -/
import Derived.Test.YtijpncibpfbkaaaPurgeOf
import Derived.Test.YtijpncibpfbkaaaSameL
import Derived.Deep.RegionHeld3
namespace Go.Proofs.Ytijpncibpfbkaaa
open Go.ChangeShapes Go.WideShapes Go.ChangeAt Go.RowKit
set_option linter.unusedVariables false

theorem step_own {P : Program} {w : World} {ops : Array Oper} {o : Oper} {a : Act} {K : Act → World → Prop} {Q : Exit → Act → World → Prop} {E : Prop} (hgd : o.guard = none) (s x : Operand) (t : TypeId)
    (ho : o.op = .call { callee := .builtin .append, args := #[s, x], argTypes := #[t, t] })
    (base : Nat) (e : TypeId) (i : TypeInfo) (z : Value) (size bytes : Nat) (ht : P.underlying t = some (.slice e)) (hi : P.info? e = some i) (hz : i.zero = some z)
    (hsize : i.size = size) (hby : i.bytes = bytes) (hzs : z.cells.size = size) (hsz : 0 < size)
    (v : Value) (n : Nat) (xs : List Value) (hs : a.eval s = v) (hown : w.ownsRow base e size v n xs)
    (ad : Addr) (m c : Nat) (news : List Value) (hx : a.eval x = .slice (some ad) m c) (hl : news.length = m * size) (hnews : ∀ j u, news[j]? = some u → w.cell? (ad.add j) = some u) (h1 : ∀ u ∈ news, u.oneCell' = true)
    (h63 : n + m ≤ maxLen) (hbytes : (n + m) * bytes ≤ 140737488355328) (hbase : base ≤ w.heap.size)
    (h : ∀ v' w', w'.ownsRow base e size v' (n + m) (xs ++ news) → w.grownBy w' v.ownBlock → (v' = .slice none 0 0 ↔ v = .slice none 0 0 ∧ m = 0) → K (a.put o.dst v') w') :
    if Region.wanted o (yielded ops a.tmps) = true then Oper.wp P o a w K Q else E := by
  rw [if_pos (by simp [Region.wanted, hgd])]
  exact wp_append_own w s x t ho base e i z size bytes ht hi hz hsize hby hzs hsz v n xs hs hown ad m c news hx hl hnews h1 h63 hbytes hbase h

theorem sameActs_any' (a b : Option Addr) (n m cap cap' : Nat) (xs ys : List AV) (w : World) (hnm : n = m) (h : IsActs w a n cap xs) (h' : IsActs w b m cap' ys) (hs : xs.map AV.bare = ys.map AV.bare) :
    Calls Try.prog 15 #[.slice a n cap, .slice b m cap'] w fun e w' => e = .returned (.bool true) ∧ Below w.heap.size w w' := by
  subst hnm
  exact sameActs_any a b n cap cap' xs ys w h h' hs

theorem news_acts {w : World} {b off : Nat} {xs : List AV} (h : ActsAt w b off xs) : ∀ j u, (flatActs xs)[j]? = some u → w.cell? ((⟨b, off, none⟩ : Addr).add j) = some u := by
  intro j u hu
  have e : ∀ m, (⟨b, off, none⟩ : Addr).add m = ⟨b, off + m, none⟩ := by
    intro m
    unfold Addr.add
    by_cases hm : m = 0 <;> simp [hm]
  have hj : j < xs.length * 12 := by
    rw [← flatActs_len]
    exact (List.getElem?_eq_some_iff.1 hu).1
  have hi : j / 12 < xs.length := by omega
  have hr : j % 12 < 12 := Nat.mod_lt _ (by decide)
  have ej : j / 12 * 12 + j % 12 = j := by omega
  have hg := flatActs_get xs (j / 12) hi (j % 12) hr
  have hc := (h.2 (j / 12) hi).1 (j % 12) hr
  rw [ej] at hg
  rw [Nat.add_assoc, ej] at hc
  rw [e, hc, ← hg, hu]

theorem flatActs_one (xs : List AV) : ∀ u ∈ flatActs xs, u.oneCell' = true := by
  intro u hu
  simp only [flatActs, List.mem_flatMap] at hu
  obtain ⟨y, _, hy⟩ := hu
  exact cells_one y u hy

theorem isActs_copy {w : World} {B : Nat} {ao : Option Addr} {n cp : Nat} {xs : List AV} (hr : w.ownsRow B 50 12 (.slice ao n cp) n (flatActs xs)) (hk : ∀ i, i < xs.length → IsInts w (xs.getD i default).ka (xs.getD i default).kl (xs.getD i default).kc (xs.getD i default).keep) (hn : xs.length = n) : IsActs w ao n cp xs := by
  obtain ⟨ao', cp', e, h1, h2⟩ := own_form hr
  simp at e
  obtain ⟨rfl, rfl⟩ := e
  refine ⟨hn, h1, h2, fun hp => ?_⟩
  rcases hr.2 with ⟨_, hn⟩ | ⟨g, cap, cur, hv, hb, hg, _⟩
  · omega
  · simp at hv
    obtain ⟨rfl, rfl⟩ := hv
    refine ⟨g, 0, rfl, (hr.lt g rfl).2, fun i hi => ⟨fun j hj => ?_, hk i hi⟩⟩
    have hf := flatActs_get xs i hi j hj
    have hc : j < (xs.getD i default).cells.length := by rw [AV.cells_len]; exact hj
    rw [List.getElem?_eq_getElem hc] at hf
    have := hr.cells (g := g) rfl _ _ hf
    have e : ∀ m, (⟨g, 0, none⟩ : Addr).add m = ⟨g, 0 + m, none⟩ := by
      intro m
      unfold Addr.add
      by_cases hm : m = 0 <;> simp [hm]
    rw [e, ← Nat.add_assoc] at this
    rw [this, List.getElem?_eq_getElem hc]

set_option maxHeartbeats 1000000 in
theorem labelPurges_none (s : Int) (ad : Option Addr) (len cap : Nat) (p : Int) (ls : List (Int × Int)) (l : Int) (acap : Nat) (w : World) (h : IsLabs w ad len cap ls) (hx : IsActs w none 0 acap [])
    :
    Calls Try.prog 6 #[.agg #[.int .i64 s, .slice ad len cap, .int .i64 p], .int .i64 l, .slice none 0 acap] w fun e w' => e = .returned (.bool true) ∧ Below w.heap.size w w' := by
  obtain ⟨i0, hi, li0, li1, li2⟩ := info_parts actInfo
  have hA : Below w.heap.size w (w.alloc (.cells #[.int .i64 s, .slice ad len cap, .int .i64 p] 24)) := (Below.refl _ _).alloc (Nat.le_refl _) _
  obtain ⟨W, hW⟩ : ∃ W : World, W = w.alloc (.cells #[.int .i64 s, .slice ad len cap, .int .i64 p] 24) := ⟨_, rfl⟩
  have d0 : W.cell? ⟨w.heap.size, 0, none⟩ = some (.int .i64 s) := by rw [hW]; go_simp
  have d1 : W.cell? ⟨w.heap.size, 1, none⟩ = some (.slice ad len cap) := by rw [hW]; go_simp
  have d2 : W.cell? ⟨w.heap.size, 2, none⟩ = some (.int .i64 p) := by rw [hW]; go_simp
  have zW : w.heap.size < W.heap.size := by rw [hW]; simp
  rw [← hW] at hA
  have hD : Below W.heap.size W W.drew := (Below.refl _ _).drew
  have hno : ∀ w' : World, IsActs w' none 0 0 [] := fun w' => ⟨rfl, Nat.le_refl _, Nat.zero_le _, fun hh => absurd hh (by simp)⟩
  have hk0 : ∀ i, (([] : List AV).getD i default).keep.length * 8 ≤ 140737488355328 := fun i => by simp [List.getD, default]
  go_enter Try.func6, Try.ntmps6
  go_wp2
  rw [← hW]
  clear hW
  go_region_held3 (fun w' => w'.cell? ⟨w.heap.size, 0, none⟩ = some (.int .i64 s) ∧ w'.cell? ⟨w.heap.size, 1, none⟩ = some (.slice ad len cap) ∧ w'.cell? ⟨w.heap.size, 2, none⟩ = some (.int .i64 p))
    (first | (go_keep; done) | exact ⟨(hW3.cell (p := ⟨w.heap.size, 0, none⟩) zW).trans d0, (hW3.cell (p := ⟨w.heap.size, 1, none⟩) zW).trans d1, (hW3.cell (p := ⟨w.heap.size, 2, none⟩) zW).trans d2⟩)
    (first
      | ((go_at_call 13; refine (purge_any s p ad len cap ls l none 0 0 [] _ ((h.below hA).below hD) (hno _) (by omega) hk0).mono ?_; rintro e w3 ⟨ao, cp, ys, rfl, hys, hyb, hb3⟩; have hW3 : Below W.heap.size W w3 := hD.trans (hb3.mono (Nat.le_refl _)))))
  all_goals
    have hB3 : Below w.heap.size w w3 := hA.trans (hW3.mono hA.size)
    have u0 := (hW3.cell (p := ⟨w.heap.size, 0, none⟩) zW).trans d0
    have u1 := (hW3.cell (p := ⟨w.heap.size, 1, none⟩) zW).trans d1
    have u2 := (hW3.cell (p := ⟨w.heap.size, 2, none⟩) zW).trans d2
    go_wp2_with (first
      | (go_at_call 14; refine (purgeOf_any s p ad len cap ls l _ 0 acap [] _ (h.below hB3) (hx.below hB3) (by omega) hk0).mono ?_; rintro e w4 ⟨ao2, cp2, zs, rfl, hzs, hzb, hb4⟩; have hB4 := hB3.trans (hb4.mono hB3.size); have hnm : Hid (ys.length = zs.length) := (by show ys.length = zs.length; have := congrArg List.length (hyb.trans hzb.symm); simpa using this))
      | (go_at_call 15; refine (sameActs_any' _ _ _ _ _ _ ys zs _ hnm.out (hys.below hb4) hzs (hyb.trans hzb.symm)).mono ?_; rintro e w5 ⟨rfl, hb5⟩; have hB5 := hB4.trans (hb5.mono hB4.size)))
    go_ret
    exact ⟨rfl, hB5⟩

set_option maxHeartbeats 1000000 in
theorem labelPurges_some (s : Int) (ad : Option Addr) (len cap : Nat) (p : Int) (ls : List (Int × Int)) (l : Int) (x : Addr) (acap : Nat) (w : World) (h : IsLabs w ad len cap ls) (hx : IsActs w (some x) 0 acap [])
    :
    Calls Try.prog 6 #[.agg #[.int .i64 s, .slice ad len cap, .int .i64 p], .int .i64 l, .slice (some x) 0 acap] w fun e w' => e = .returned (.bool true) ∧ Below w.heap.size w w' := by
  obtain ⟨i0, hi, li0, li1, li2⟩ := info_parts actInfo
  have hA : Below w.heap.size w (w.alloc (.cells #[.int .i64 s, .slice ad len cap, .int .i64 p] 24)) := (Below.refl _ _).alloc (Nat.le_refl _) _
  obtain ⟨W, hW⟩ : ∃ W : World, W = w.alloc (.cells #[.int .i64 s, .slice ad len cap, .int .i64 p] 24) := ⟨_, rfl⟩
  have d0 : W.cell? ⟨w.heap.size, 0, none⟩ = some (.int .i64 s) := by rw [hW]; go_simp
  have d1 : W.cell? ⟨w.heap.size, 1, none⟩ = some (.slice ad len cap) := by rw [hW]; go_simp
  have d2 : W.cell? ⟨w.heap.size, 2, none⟩ = some (.int .i64 p) := by rw [hW]; go_simp
  have zW : w.heap.size < W.heap.size := by rw [hW]; simp
  rw [← hW] at hA
  have hD : Below W.heap.size W W.drew := (Below.refl _ _).drew
  have hno : ∀ w' : World, IsActs w' none 0 0 [] := fun w' => ⟨rfl, Nat.le_refl _, Nat.zero_le _, fun hh => absurd hh (by simp)⟩
  have hk0 : ∀ i, (([] : List AV).getD i default).keep.length * 8 ≤ 140737488355328 := fun i => by simp [List.getD, default]
  go_enter Try.func6, Try.ntmps6
  go_wp2
  rw [← hW]
  clear hW
  go_region_held3 (fun w' => w'.cell? ⟨w.heap.size, 0, none⟩ = some (.int .i64 s) ∧ w'.cell? ⟨w.heap.size, 1, none⟩ = some (.slice ad len cap) ∧ w'.cell? ⟨w.heap.size, 2, none⟩ = some (.int .i64 p))
    (first | (go_keep; done) | exact ⟨(hW1.cell (p := ⟨w.heap.size, 0, none⟩) zW).trans d0, (hW1.cell (p := ⟨w.heap.size, 1, none⟩) zW).trans d1, (hW1.cell (p := ⟨w.heap.size, 2, none⟩) zW).trans d2⟩ | exact ⟨(hW3.cell (p := ⟨w.heap.size, 0, none⟩) zW).trans d0, (hW3.cell (p := ⟨w.heap.size, 1, none⟩) zW).trans d1, (hW3.cell (p := ⟨w.heap.size, 2, none⟩) zW).trans d2⟩)
    (first
      | ((refine step_own (by rfl) (.const (.slice none 0 0)) _ _ (by rfl) W.heap.size 50 i0 (.agg #[.int .i64 0, .int .i64 0, .int .i64 0, .int .i64 0, .int .i64 0, .slice none 0 0, .int .i64 0, .int .i64 0, .int .i64 0, .int .i64 0, .int .i64 0, .string .empty]) 12 120 Try.underlying34 hi li0 li1 li2 rfl (by decide) (.slice none 0 0) 0 [] (by rfl) (World.ownsRow_nil _ _ _ _) x 0 acap [] (by rfl) rfl (by intro j u hj; simp at hj) (by intro u hu; simp at hu) (by unfold maxLen; omega) (by omega) (Nat.le_refl _) ?_; intro v1 w1 hown1 hgrow1 hat1; have hW1 : Below W.heap.size W w1 := Below.grown hD hgrow1 (Nat.le_refl _) (by intro k hk; exact absurd hk (by simp [Value.ownBlock])); have hv1 : v1 = .slice none 0 0 := hat1.2 ⟨rfl, rfl⟩; rw [hv1]))
      | ((go_at_call 13; refine (purge_any s p ad len cap ls l none 0 0 [] _ ((h.below hA).below hW1) (hno _) (by omega) hk0).mono ?_; rintro e w3 ⟨ao, cp, ys, rfl, hys, hyb, hb3⟩; have hW3 : Below W.heap.size W w3 := hW1.trans (hb3.mono hW1.size))))
  all_goals
    have hB3 : Below w.heap.size w w3 := hA.trans (hW3.mono hA.size)
    have u0 := (hW3.cell (p := ⟨w.heap.size, 0, none⟩) zW).trans d0
    have u1 := (hW3.cell (p := ⟨w.heap.size, 1, none⟩) zW).trans d1
    have u2 := (hW3.cell (p := ⟨w.heap.size, 2, none⟩) zW).trans d2
    go_wp2_with (first
      | (go_at_call 14; refine (purgeOf_any s p ad len cap ls l _ 0 acap [] _ (h.below hB3) (hx.below hB3) (by omega) hk0).mono ?_; rintro e w4 ⟨ao2, cp2, zs, rfl, hzs, hzb, hb4⟩; have hB4 := hB3.trans (hb4.mono hB3.size); have hnm : Hid (ys.length = zs.length) := (by show ys.length = zs.length; have := congrArg List.length (hyb.trans hzb.symm); simpa using this))
      | (go_at_call 15; refine (sameActs_any' _ _ _ _ _ _ ys zs _ hnm.out (hys.below hb4) hzs (hyb.trans hzb.symm)).mono ?_; rintro e w5 ⟨rfl, hb5⟩; have hB5 := hB4.trans (hb5.mono hB4.size)))
    go_ret
    exact ⟨rfl, hB5⟩

set_option maxHeartbeats 1000000 in
theorem labelPurges_big (s : Int) (ad : Option Addr) (len cap : Nat) (p : Int) (ls : List (Int × Int)) (l : Int) (aa : Option Addr) (alen acap : Nat) (xs : List AV) (w : World) (h : IsLabs w ad len cap ls) (hx : IsActs w aa alen acap xs)
    (h0 : ¬ alen = 0) (hsz : alen * 120 ≤ 140737488355328) (hks : ∀ i, (xs.getD i default).keep.length * 8 ≤ 140737488355328) :
    Calls Try.prog 6 #[.agg #[.int .i64 s, .slice ad len cap, .int .i64 p], .int .i64 l, .slice aa alen acap] w fun e w' => e = .returned (.bool true) ∧ Below w.heap.size w w' := by
  obtain ⟨i0, hi, li0, li1, li2⟩ := info_parts actInfo
  have hA : Below w.heap.size w (w.alloc (.cells #[.int .i64 s, .slice ad len cap, .int .i64 p] 24)) := (Below.refl _ _).alloc (Nat.le_refl _) _
  obtain ⟨W, hW⟩ : ∃ W : World, W = w.alloc (.cells #[.int .i64 s, .slice ad len cap, .int .i64 p] 24) := ⟨_, rfl⟩
  have d0 : W.cell? ⟨w.heap.size, 0, none⟩ = some (.int .i64 s) := by rw [hW]; go_simp
  have d1 : W.cell? ⟨w.heap.size, 1, none⟩ = some (.slice ad len cap) := by rw [hW]; go_simp
  have d2 : W.cell? ⟨w.heap.size, 2, none⟩ = some (.int .i64 p) := by rw [hW]; go_simp
  have zW : w.heap.size < W.heap.size := by rw [hW]; simp
  rw [← hW] at hA
  have hD : Below W.heap.size W W.drew := (Below.refl _ _).drew
  obtain ⟨b, off, rfl, hAt⟩ := hx.2.2.2 (by omega)
  have hxl := hx.1
  have hAtD := (hAt.below hA).below hD
  have hfl : (flatActs xs).length = alen * 12 := by rw [flatActs_len, hxl]
  go_enter Try.func6, Try.ntmps6
  go_wp2
  rw [← hW]
  clear hW
  go_region_held3 (fun w' => w'.cell? ⟨w.heap.size, 0, none⟩ = some (.int .i64 s) ∧ w'.cell? ⟨w.heap.size, 1, none⟩ = some (.slice ad len cap) ∧ w'.cell? ⟨w.heap.size, 2, none⟩ = some (.int .i64 p))
    (first | (go_keep; done) | exact ⟨(hW1.cell (p := ⟨w.heap.size, 0, none⟩) zW).trans d0, (hW1.cell (p := ⟨w.heap.size, 1, none⟩) zW).trans d1, (hW1.cell (p := ⟨w.heap.size, 2, none⟩) zW).trans d2⟩ | exact ⟨(hW3.cell (p := ⟨w.heap.size, 0, none⟩) zW).trans d0, (hW3.cell (p := ⟨w.heap.size, 1, none⟩) zW).trans d1, (hW3.cell (p := ⟨w.heap.size, 2, none⟩) zW).trans d2⟩)
    (first
      | ((refine step_own (by rfl) (.const (.slice none 0 0)) _ _ (by rfl) W.heap.size 50 i0 (.agg #[.int .i64 0, .int .i64 0, .int .i64 0, .int .i64 0, .int .i64 0, .slice none 0 0, .int .i64 0, .int .i64 0, .int .i64 0, .int .i64 0, .int .i64 0, .string .empty]) 12 120 Try.underlying34 hi li0 li1 li2 rfl (by decide) (.slice none 0 0) 0 [] (by rfl) (World.ownsRow_nil _ _ _ _) ⟨b, off, none⟩ alen acap (flatActs xs) (by rfl) hfl (news_acts hAtD) (flatActs_one xs) (by unfold maxLen; omega) (by omega) (Nat.le_refl _) ?_; intro v1 w1 hown1 hgrow1 hat1; simp only [Nat.zero_add, List.nil_append] at hown1; have hW1 : Below W.heap.size W w1 := Below.grown hD hgrow1 (Nat.le_refl _) (by intro k hk; exact absurd hk (by simp [Value.ownBlock])); obtain ⟨ao1, cp1, hv1, hr1, hr2⟩ := own_form hown1; rw [hv1] at hown1 ⊢; have hxc := isActs_copy hown1 (fun i hi' => ((hAt.2 i hi').2.below hA).below hW1) hxl))
      | ((go_at_call 13; refine (purge_any s p ad len cap ls l ao1 alen cp1 xs _ ((h.below hA).below hW1) hxc hsz hks).mono ?_; rintro e w3 ⟨ao, cp, ys, rfl, hys, hyb, hb3⟩; have hW3 : Below W.heap.size W w3 := hW1.trans (hb3.mono hW1.size))))
  all_goals
    have hB3 : Below w.heap.size w w3 := hA.trans (hW3.mono hA.size)
    have u0 := (hW3.cell (p := ⟨w.heap.size, 0, none⟩) zW).trans d0
    have u1 := (hW3.cell (p := ⟨w.heap.size, 1, none⟩) zW).trans d1
    have u2 := (hW3.cell (p := ⟨w.heap.size, 2, none⟩) zW).trans d2
    go_wp2_with (first
      | (go_at_call 14; refine (purgeOf_any s p ad len cap ls l _ alen acap xs _ (h.below hB3) (hx.below hB3) hsz hks).mono ?_; rintro e w4 ⟨ao2, cp2, zs, rfl, hzs, hzb, hb4⟩; have hB4 := hB3.trans (hb4.mono hB3.size); have hnm : Hid (ys.length = zs.length) := (by show ys.length = zs.length; have := congrArg List.length (hyb.trans hzb.symm); simpa using this))
      | (go_at_call 15; refine (sameActs_any' _ _ _ _ _ _ ys zs _ hnm.out (hys.below hb4) hzs (hyb.trans hzb.symm)).mono ?_; rintro e w5 ⟨rfl, hb5⟩; have hB5 := hB4.trans (hb5.mono hB4.size)))
    go_ret
    exact ⟨rfl, hB5⟩

theorem labelPurges_core (s : Int) (ad : Option Addr) (len cap : Nat) (p : Int) (ls : List (Int × Int)) (l : Int) (aa : Option Addr) (alen acap : Nat) (xs : List AV) (w : World) (h : IsLabs w ad len cap ls) (hx : IsActs w aa alen acap xs)
    (hsz : alen * 120 ≤ 140737488355328) (hks : ∀ i, (xs.getD i default).keep.length * 8 ≤ 140737488355328) :
    Calls Try.prog 6 #[.agg #[.int .i64 s, .slice ad len cap, .int .i64 p], .int .i64 l, .slice aa alen acap] w fun e w' => e = .returned (.bool true) ∧ Below w.heap.size w w' := by
  by_cases h0 : alen = 0
  · subst h0
    obtain rfl : xs = [] := List.length_eq_zero_iff.1 hx.1
    cases aa with
    | none => exact labelPurges_none s ad len cap p ls l acap w h hx
    | some x => exact labelPurges_some s ad len cap p ls l x acap w h hx
  · exact labelPurges_big s ad len cap p ls l aa alen acap xs w h hx h0 hsz hks

theorem labelPurges_walk (s : Int) (ad : Option Addr) (len cap : Nat) (p : Int) (ls : List (Int × Int)) (l : Int) (aa : Option Addr) (alen acap : Nat) (xs : List AV) (w : World) (_ : (Lit.int .i64 s).wf = true) (h : IsLabs w ad len cap ls) (_ : (Lit.int .i64 p).wf = true) (_ : (Lit.int .i64 l).wf = true) (hx : IsActs w aa alen acap xs)
    (hz : alen * 120 ≤ 140737488355328 ∧ ∀ i, (xs.getD i default).keep.length * 8 ≤ 140737488355328) :
    Calls Try.prog 6 #[.agg #[.int .i64 s, .slice ad len cap, .int .i64 p], .int .i64 l, .slice aa alen acap] w fun e w' => e = .returned (.bool true) ∧ Below w.heap.size w w' :=
  labelPurges_core s ad len cap p ls l aa alen acap xs w h hx hz.1 hz.2
end Go.Proofs.Ytijpncibpfbkaaa
