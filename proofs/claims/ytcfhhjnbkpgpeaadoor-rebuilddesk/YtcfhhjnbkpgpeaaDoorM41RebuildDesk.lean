/- Texts of this claim, one behind the other. -/
import Derived.Test.YtcfhhjnbkpgpeaaDoorM36RebuildDesk
import Derived.Test.YtcfhhjnbkpgpeaaDoorA37RebuildDesk
import Derived.Test.YtcfhhjnbkpgpeaaDoorM26RebuildDesk
import Derived.Test.YtcfhhjnbkpgpeaaDoorM40RebuildDesk
import Derived.Deep.DeepCutAuto
import Derived.Deep.CutBlock
import Derived.Test.YtcfhhjnbkpgpeaaDoorA25RebuildDesk
import Derived.OwnWalk
import Derived.OneCell
/- A record made of raw numbers: it may be, and its sites lie in new memory. -/
namespace Go.Proofs.YtcfhhjnbkpgpeaaDoor
open Go.ChangeShapes Go.WideShapes Go.ChangeAt Go.RowKit
set_option linter.unusedVariables false

theorem intInfoR : (Tryd.prog.info? 3).map (fun i => (i.zero, i.size, i.bytes)) = some (some (.int .i64 0), 1, 8) := by kernel_rfl
def intsV (zs : List Int) : List Value := zs.map (Value.int .i64)

/-- Numbers that a slice of the call's own holds. -/
theorem isI_own {w : World} {B : Nat} {a : Option Addr} {n cap : Nat} {zs : List Int} (h : w.ownsRow B 3 1 (.slice a n cap) n (intsV zs)) (hz : ∀ z ∈ zs, 0 ≤ z ∧ z ≤ 1000) :
    IsInts w a n cap zs ∧ (∀ b off, a = some ⟨b, off, none⟩ → B ≤ b ∧ b < w.heap.size) := by
  have hlen : zs.length = n := by have := h.1; simpa [intsV] using this
  have hbd : ∀ i, -9223372036854775808 ≤ zs.getD i 0 ∧ zs.getD i 0 ≤ 9223372036854775807 := by
    intro i
    by_cases hi : i < zs.length
    · have := hz zs[i] (List.getElem_mem hi)
      simp [List.getD, hi]
      omega
    · simp [List.getD, List.getElem?_eq_none (by omega : zs.length ≤ i)]
  rcases h.2 with ⟨hv, hn⟩ | ⟨g, cap', cur, hv, hg, hcur, h1, h2, h3, h4⟩
  · simp only [Value.slice.injEq] at hv
    obtain ⟨rfl, rfl, rfl⟩ := hv
    exact ⟨⟨hlen, Nat.le_refl _, Nat.zero_le _, hbd, fun hp => absurd hp (by omega)⟩, fun b off e => by simp at e⟩
  · simp only [Value.slice.injEq, true_and] at hv
    obtain ⟨rfl, rfl⟩ := hv
    refine ⟨⟨hlen, h1, h2, hbd, fun hp => ⟨g, 0, rfl, (h.lt g rfl).2, fun i hi => ?_⟩⟩, fun b off e => ?_⟩
    · have hx := h.cells (g := g) rfl i (.int .i64 (zs.getD i 0)) (by simp [intsV, List.getD, show i < zs.length by omega])
      rwa [adr_add] at hx
    · simp at e
      obtain ⟨rfl, _⟩ := e
      exact ⟨hg, (h.lt g rfl).2⟩

theorem isI_nil (w : World) : IsInts w none 0 0 [] := ⟨rfl, Nat.le_refl _, Nat.zero_le _, fun i => by simp, fun h => absurd h (by omega)⟩

/-- A record that may be, as it lies in memory. -/
structure GoodR (w : World) (S : Int) (L : List (Int × Int)) (P : Int) (r : RcV) (B : Nat) : Prop where
  ints : IsInts w r.sa r.sl r.sc r.sites
  ok : recFault S L P r = 0
  new : ∀ b off, r.sa = some ⟨b, off, none⟩ → B ≤ b ∧ b < w.heap.size

theorem rising_mem' {s : Int} : ∀ (l : List Int) (lo : Int), rising s lo l = true → 0 ≤ lo → ∀ x ∈ l, lo ≤ x ∧ x ≤ s - 1 := by
  intro l
  induction l with
  | nil => intro lo _ _ x hx; simp at hx
  | cons a l ih =>
    intro lo h h0 x hx
    simp only [rising, Bool.and_eq_true] at h
    have ha := inR_of h.1
    rcases List.mem_cons.1 hx with rfl | hx
    · exact ha
    · have := ih (a + 1) h.2 (by omega) x hx
      omega
theorem isI_grown {w w' : World} {a : Option Addr} {len cap : Nat} {zs : List Int} {row : Option Nat} (h : IsInts w a len cap zs) (hg : w.grownBy w' row) (hne : ∀ b off, a = some ⟨b, off, none⟩ → some b ≠ row) : IsInts w' a len cap zs := by
  obtain ⟨h1, h2, h3, hbd, h4⟩ := h
  refine ⟨h1, h2, h3, hbd, fun hp => ?_⟩
  obtain ⟨b, off, e, hlt, hl⟩ := h4 hp
  refine ⟨b, off, e, Nat.lt_of_lt_of_le hlt hg.size, fun i hi => ?_⟩
  rw [World.cell?_of_block (a := ⟨b, off + i, none⟩) (hg.block b hlt (hne b off e))]
  exact hl i hi
theorem rising_mono {s : Int} : ∀ (l : List Int) (lo : Int), rising s (lo + 1) l = true → rising s lo l = true := by
  intro l lo h
  cases l with
  | nil => rfl
  | cons a r =>
    simp only [rising, Bool.and_eq_true] at h ⊢
    have := inR_of h.1
    exact ⟨inR_true (by omega) (by omega), h.2⟩

theorem rec_ok {S P : Int} {L : List (Int × Int)} {kind site num key value ask : Int} {yes : Bool} {sa : Option Addr} {sl sc : Nat} {sites : List Int} (hc : cfgFault S L P = 0) (hk : 1 ≤ kind ∧ kind ≤ 6) (h1 : 0 ≤ site ∧ site < S) (h2 : 1 ≤ num ∧ num ≤ 1048576) (h3 : 0 ≤ key ∧ key ≤ 7) (h4 : 0 ≤ value ∧ value ≤ 1073741824) (h5 : 0 ≤ ask ∧ ask ≤ 1048576) (h6 : sl ≤ 4) (h7 : rising S 0 sites = true)
    (hf : hasAll (rHasOf kind) [0, key, value, 0, ask, bit yes, 0, (sl : Int)] = true) : recFault S L P ⟨kind, site, num, key, value, ask, yes, sa, sl, sc, sites⟩ = 0 := by
  obtain ⟨s1, s4, n1, n6, _, _, _⟩ := cfg_zero hc
  refine rf_ok hc (inR_true hk.1 hk.2) ?_ hf
  unfold recRange txnOK partsOK
  simp only [inTops, topL]
  have e1 : inR site 0 (S - 1) = true := inR_true h1.1 (by omega)
  have e2 : inR num 1 1048576 = true := inR_true h2.1 h2.2
  have e3 : inR key 0 7 = true := inR_true h3.1 h3.2
  have e4 : inR value 0 1073741824 = true := inR_true h4.1 h4.2
  have e5 : inR ask 0 1048576 = true := inR_true h5.1 h5.2
  have e6 : inR (bit yes) 0 1 = true := by cases yes <;> rfl
  have e7 : inR (sl : Int) 0 4 = true := inR_true (by omega) (by omega)
  have e8 : plc 0 L.length = true := by simp [plc]; omega
  have e9 : inR 0 0 5 = true := rfl
  have e10 : inR 0 0 1048576 = true := rfl
  have e11 : inR 0 0 11 = true := rfl
  simp [e1, e2, e3, e4, e5, e6, e7, e8, e9, e10, e11, h7, isCd]

/-- A record that is being made. -/
structure RecBox (w X u : World) (q : Nat) (vs : List Value) : Prop where
  bx : BoxN u q 8 vs
  rb : BoxN u (w.heap.size + 2) 8 [.int .i64 0, .int .i64 0, .int .i64 0, .int .i64 0, .int .i64 0, .int .i64 0, .bool false, .slice none 0 0]
  cfg : u.cell? ⟨w.heap.size, 0, none⟩ = X.cell? ⟨w.heap.size, 0, none⟩
  raw : u.cell? ⟨w.heap.size + 1, 3, none⟩ = X.cell? ⟨w.heap.size + 1, 3, none⟩
  bel : Below w.heap.size w u
  sz : X.heap.size ≤ u.heap.size

/-- Which kind it is; of what is committed, what it has. -/
def KdR (kd S : Int) (r : RcV) : Prop := r.kind = 1 + pk kd 6 ∧ (r.kind = 3 → r.key = 0 ∧ r.value = 0 ∧ r.ask = 0 ∧ r.yes = false ∧ r.sl ≤ 4 ∧ rising S 0 r.sites = true)
set_option maxRecDepth 100000 in
set_option maxHeartbeats 4000000 in
theorem rec_goodK (S P : Int) (ad : Option Addr) (n cp : Nat) (L : List (Int × Int)) (kd ra rb rc rd re : Int) (w : World) (hok : cfgFault S L P = 0) (s1 : 1 ≤ S) (s3 : S ≤ 3)
    (hkd : Bd kd) (hra : Bd ra) (hrb : Bd rb) (hrc : Bd rc) (hrd : Bd rd) (hre : Bd re) :
    Calls Tryd.prog 13 #[.agg #[.int .i64 S, .slice ad n cp, .int .i64 P], .agg #[.int .i64 kd, .int .i64 ra, .int .i64 rb, .int .i64 rc, .int .i64 rd, .int .i64 re]] w fun e w' => ∃ r : RcV, e = .returned r.val ∧ GoodR w' S L P r w.heap.size ∧ KdR kd S r ∧ Below w.heap.size w w' := by
  unfold Bd at hkd hra hrb hrc hrd hre
  obtain ⟨i0, hi, li0, li1, li2⟩ := info_parts intInfoR
  have pk6 := fun w' => picked_any kd 6 w' hkd (by decide) (by decide)
  have p6 := pk_bd kd 6 (by decide)
  obtain ⟨k6, ek6⟩ : ∃ k, k = pk kd 6 := ⟨_, rfl⟩
  rw [← ek6] at pk6 p6
  have HK6 : Hid (k6 = pk kd 6) := ek6
  clear ek6
  have hTx := fun w' => txnR_any S P ad n cp ra rb w' ⟨s1, by omega⟩ hra hrb
  have pS := pk_bd ra S (by omega)
  have pN := pk_bd rb 6 (by decide)
  obtain ⟨site, es⟩ : ∃ x, x = pk ra S := ⟨_, rfl⟩
  obtain ⟨num, en⟩ : ∃ x, x = 1 + pk rb 6 := ⟨_, rfl⟩
  have nB : 1 ≤ num ∧ num ≤ 1048576 := by omega
  rw [← es, ← en] at hTx
  rw [← es] at pS
  clear es en pN
  obtain ⟨W, hW⟩ : ∃ W : World, W = ((w.alloc (.cells #[.int .i64 S, .slice ad n cp, .int .i64 P] 24)).alloc (.cells #[.int .i64 kd, .int .i64 ra, .int .i64 rb, .int .i64 rc, .int .i64 rd, .int .i64 re] 57)).alloc (.cells #[.int .i64 0, .int .i64 0, .int .i64 0, .int .i64 0, .int .i64 0, .int .i64 0, .bool false, .slice none 0 0] 31) := ⟨_, rfl⟩
  have hB : Below w.heap.size w W := by rw [hW]; exact (((Below.refl _ _).alloc (Nat.le_refl _) _).alloc (by simp) _).alloc (by simp; omega) _
  have zW : w.heap.size + 2 < W.heap.size := by rw [hW]; simp
  have c0 : W.cell? ⟨w.heap.size, 0, none⟩ = some (.int .i64 S) := by rw [hW]; go_simp
  have c1 : W.cell? ⟨w.heap.size, 1, none⟩ = some (.slice ad n cp) := by rw [hW]; go_simp
  have c2 : W.cell? ⟨w.heap.size, 2, none⟩ = some (.int .i64 P) := by rw [hW]; go_simp
  have d0 : W.cell? ⟨w.heap.size + 1, 0, none⟩ = some (.int .i64 kd) := by rw [hW]; go_simp
  have d1 : W.cell? ⟨w.heap.size + 1, 1, none⟩ = some (.int .i64 ra) := by rw [hW]; go_simp
  have d2 : W.cell? ⟨w.heap.size + 1, 2, none⟩ = some (.int .i64 rb) := by rw [hW]; go_simp
  have d3 : W.cell? ⟨w.heap.size + 1, 3, none⟩ = some (.int .i64 rc) := by rw [hW]; go_simp
  have d4 : W.cell? ⟨w.heap.size + 1, 4, none⟩ = some (.int .i64 rd) := by rw [hW]; go_simp
  have d5 : W.cell? ⟨w.heap.size + 1, 5, none⟩ = some (.int .i64 re) := by rw [hW]; go_simp
  have rbW : BoxN W (w.heap.size + 2) 8 [.int .i64 0, .int .i64 0, .int .i64 0, .int .i64 0, .int .i64 0, .int .i64 0, .bool false, .slice none 0 0] := by
    have := boxn_new ((w.alloc (.cells #[.int .i64 S, .slice ad n cp, .int .i64 P] 24)).alloc (.cells #[.int .i64 kd, .int .i64 ra, .int .i64 rb, .int .i64 rc, .int .i64 rd, .int .i64 re] 57)) #[.int .i64 0, .int .i64 0, .int .i64 0, .int .i64 0, .int .i64 0, .int .i64 0, .bool false, .slice none 0 0] 31 8 rfl
    rw [hW]
    simpa using this
  have KC : Hid (∀ U : World, Below W.heap.size W U → (U.cell? ⟨w.heap.size, 0, none⟩ = some (.int .i64 S) ∧ U.cell? ⟨w.heap.size, 1, none⟩ = some (.slice ad n cp) ∧ U.cell? ⟨w.heap.size, 2, none⟩ = some (.int .i64 P)) ∧ U.cell? ⟨w.heap.size + 1, 0, none⟩ = some (.int .i64 kd) ∧ U.cell? ⟨w.heap.size + 1, 1, none⟩ = some (.int .i64 ra) ∧ U.cell? ⟨w.heap.size + 1, 2, none⟩ = some (.int .i64 rb) ∧ U.cell? ⟨w.heap.size + 1, 3, none⟩ = some (.int .i64 rc) ∧ U.cell? ⟨w.heap.size + 1, 4, none⟩ = some (.int .i64 rd) ∧ U.cell? ⟨w.heap.size + 1, 5, none⟩ = some (.int .i64 re)) := by
    intro U hU
    exact ⟨⟨(hU.cell (p := ⟨w.heap.size, 0, none⟩) (by show w.heap.size < _; omega)).trans c0, (hU.cell (p := ⟨w.heap.size, 1, none⟩) (by show w.heap.size < _; omega)).trans c1, (hU.cell (p := ⟨w.heap.size, 2, none⟩) (by show w.heap.size < _; omega)).trans c2⟩, (hU.cell (p := ⟨w.heap.size + 1, 0, none⟩) (by show w.heap.size + 1 < _; omega)).trans d0, (hU.cell (p := ⟨w.heap.size + 1, 1, none⟩) (by show w.heap.size + 1 < _; omega)).trans d1, (hU.cell (p := ⟨w.heap.size + 1, 2, none⟩) (by show w.heap.size + 1 < _; omega)).trans d2, (hU.cell (p := ⟨w.heap.size + 1, 3, none⟩) (by show w.heap.size + 1 < _; omega)).trans d3, (hU.cell (p := ⟨w.heap.size + 1, 4, none⟩) (by show w.heap.size + 1 < _; omega)).trans d4, (hU.cell (p := ⟨w.heap.size + 1, 5, none⟩) (by show w.heap.size + 1 < _; omega)).trans d5⟩
  have hD : Below W.heap.size W W.drew := (Below.refl _ _).drew
  go_enter Tryd.func13, Tryd.ntmps13
  go_upto_region 1 with (fail)
  rw [← hW]
  clear hW
  have hwr : IntKind.i64.wrap (1 + k6) = 1 + k6 := wrap_i64 (by omega) (by omega)
  go_cut [5] (fun s5 wc => ∃ (q : Nat), s5 = .pointer (some ⟨q, 0, none⟩) ∧ BoxN wc q 8 [.int .i64 (1 + k6), .int .i64 site, .int .i64 num, .int .i64 0, .int .i64 0, .int .i64 0, .bool false, .slice none 0 0] ∧ Below W.heap.size W wc ∧ W.heap.size ≤ q)
  case first =>
    go_region_held3 (fun U => (U.cell? ⟨w.heap.size, 0, none⟩ = some (.int .i64 S) ∧ U.cell? ⟨w.heap.size, 1, none⟩ = some (.slice ad n cp) ∧ U.cell? ⟨w.heap.size, 2, none⟩ = some (.int .i64 P)) ∧ U.cell? ⟨w.heap.size + 1, 0, none⟩ = some (.int .i64 kd) ∧ U.cell? ⟨w.heap.size + 1, 1, none⟩ = some (.int .i64 ra) ∧ U.cell? ⟨w.heap.size + 1, 2, none⟩ = some (.int .i64 rb) ∧ U.cell? ⟨w.heap.size + 1, 3, none⟩ = some (.int .i64 rc) ∧ U.cell? ⟨w.heap.size + 1, 4, none⟩ = some (.int .i64 rd) ∧ U.cell? ⟨w.heap.size + 1, 5, none⟩ = some (.int .i64 re))
      (exact KC.out _ (by (with_reducible repeat (first | exact hu2 | exact hD | exact Below.refl _ _ | refine bD ?_ | refine bA ?_ _ | refine bS ?_ (by omega) _)); done))
      (first
        | ((go_at_call 8; refine (pk6 _).mono ?_; rintro e v ⟨rfl, hv⟩; rw [hv]; clear hv v))
        | ((go_at_call 18; refine (hTx _).mono ?_; rintro e u2 ⟨rfl, hb2⟩; have hu2 : Below W.heap.size W u2 := bT (by (with_reducible repeat (first | exact hD | exact Below.refl _ _ | refine bD ?_ | refine bA ?_ _ | refine bS ?_ (by omega) _)); done) hb2; have z2 : W.heap.size ≤ u2.heap.size := hu2.size; (first | (have bx2 : BoxN u2 W.heap.size 8 [.int .i64 0, .int .i64 0, .int .i64 0, .int .i64 0, .int .i64 0, .int .i64 0, .bool false, .slice none 0 0] := (boxn_new W.drew #[.int .i64 0, .int .i64 0, .int .i64 0, .int .i64 0, .int .i64 0, .int .i64 0, .bool false, .slice none 0 0] 31 8 rfl).below hb2 (by simp); have s0 : _ = some (Value.int .i64 0) := (bx2.c 0 (by omega)).1; have g0 := (bx2.c 0 (by omega)).2; have s1 : _ = some (Value.int .i64 0) := (bx2.c 1 (by omega)).1; have g1 := (bx2.c 1 (by omega)).2; have s2 : _ = some (Value.int .i64 0) := (bx2.c 2 (by omega)).1; have g2 := (bx2.c 2 (by omega)).2; have s3 : _ = some (Value.int .i64 0) := (bx2.c 3 (by omega)).1; have g3 := (bx2.c 3 (by omega)).2; have s4 : _ = some (Value.int .i64 0) := (bx2.c 4 (by omega)).1; have g4 := (bx2.c 4 (by omega)).2; have s5 : _ = some (Value.int .i64 0) := (bx2.c 5 (by omega)).1; have g5 := (bx2.c 5 (by omega)).2; have s6 : _ = some (Value.bool false) := (bx2.c 6 (by omega)).1; have g6 := (bx2.c 6 (by omega)).2; have s7 : _ = some (Value.slice none 0 0) := (bx2.c 7 (by omega)).1; have g7 := (bx2.c 7 (by omega)).2) | (have bx2 : BoxN u2 W.heap.size 8 [.int .i64 0, .int .i64 0, .int .i64 0, .int .i64 0, .int .i64 0, .int .i64 0, .bool false, .slice none 0 0] := (boxn_new W #[.int .i64 0, .int .i64 0, .int .i64 0, .int .i64 0, .int .i64 0, .int .i64 0, .bool false, .slice none 0 0] 31 8 rfl).below hb2 (by simp); have s0 : _ = some (Value.int .i64 0) := (bx2.c 0 (by omega)).1; have g0 := (bx2.c 0 (by omega)).2; have s1 : _ = some (Value.int .i64 0) := (bx2.c 1 (by omega)).1; have g1 := (bx2.c 1 (by omega)).2; have s2 : _ = some (Value.int .i64 0) := (bx2.c 2 (by omega)).1; have g2 := (bx2.c 2 (by omega)).2; have s3 : _ = some (Value.int .i64 0) := (bx2.c 3 (by omega)).1; have g3 := (bx2.c 3 (by omega)).2; have s4 : _ = some (Value.int .i64 0) := (bx2.c 4 (by omega)).1; have g4 := (bx2.c 4 (by omega)).2; have s5 : _ = some (Value.int .i64 0) := (bx2.c 5 (by omega)).1; have g5 := (bx2.c 5 (by omega)).2; have s6 : _ = some (Value.bool false) := (bx2.c 6 (by omega)).1; have g6 := (bx2.c 6 (by omega)).2; have s7 : _ = some (Value.slice none 0 0) := (bx2.c 7 (by omega)).1; have g7 := (bx2.c 7 (by omega)).2) | skip))))
    all_goals
      first
        | (have bxF := ((((((((bx2.set 0 (by omega) (.int .i64 (1 + k6))).set 1 (by omega) (.int .i64 site)).set 2 (by omega) (.int .i64 num)).set 3 (by omega) (.int .i64 0)).set 4 (by omega) (.int .i64 0)).set 5 (by omega) (.int .i64 0)).set 6 (by omega) (.bool false)).set 7 (by omega) (.slice none 0 0)))
        | (have bxF : BoxN _ u2.heap.size 8 [.int .i64 (1 + k6), .int .i64 site, .int .i64 num, .int .i64 0, .int .i64 0, .int .i64 0, .bool false, .slice none 0 0] := boxn_new u2 #[.int .i64 (1 + k6), .int .i64 site, .int .i64 num, .int .i64 0, .int .i64 0, .int .i64 0, .bool false, .slice none 0 0] 31 8 rfl)
      go_wp2_with fail
      go_meet
      case rel => exact ⟨_, rfl, bxF, (by (with_reducible repeat (first | exact hu2 | refine bD ?_ | refine bA ?_ _ | refine bS ?_ (by omega) _)); done), by omega⟩
  case rest =>
    obtain ⟨q, rfl, bx, bF, hq⟩ := hcut
    obtain ⟨X, eX⟩ : ∃ X, X = wc := ⟨_, rfl⟩
    rw [← eX] at bx bF ⊢
    clear eX c0 c1 c2 d0 d1 d2 d3 d4 d5 pk6 hTx hD hwr
    obtain ⟨⟨c0, c1, c2⟩, d0, d1, d2, d3, d4, d5⟩ := KC.out _ bF
    have rbX := rbW.below bF (by omega)
    have zX := bF.size
    have qX := bx.lt
    have hq2 : w.heap.size + 2 ≠ q := by omega
    have hq3 : ¬ w.heap.size + 1 + 1 = q := by omega
    have hq4 : ¬ q = w.heap.size + 1 + 1 := by omega
    have hwX := hB.trans (bF.mono hB.size)
    clear rbW
    have m0 : X.cell? ⟨q, 0, none⟩ = some (.int .i64 (1 + k6)) := (bx.c 0 (by omega)).1
    have f0 : X.frozen? ⟨q, 0, none⟩ = false := (bx.c 0 (by omega)).2
    have m1 : X.cell? ⟨q, 1, none⟩ = some (.int .i64 site) := (bx.c 1 (by omega)).1
    have f1 : X.frozen? ⟨q, 1, none⟩ = false := (bx.c 1 (by omega)).2
    have m2 : X.cell? ⟨q, 2, none⟩ = some (.int .i64 num) := (bx.c 2 (by omega)).1
    have f2 : X.frozen? ⟨q, 2, none⟩ = false := (bx.c 2 (by omega)).2
    have m3 : X.cell? ⟨q, 3, none⟩ = some (.int .i64 0) := (bx.c 3 (by omega)).1
    have f3 : X.frozen? ⟨q, 3, none⟩ = false := (bx.c 3 (by omega)).2
    have m4 : X.cell? ⟨q, 4, none⟩ = some (.int .i64 0) := (bx.c 4 (by omega)).1
    have f4 : X.frozen? ⟨q, 4, none⟩ = false := (bx.c 4 (by omega)).2
    have m5 : X.cell? ⟨q, 5, none⟩ = some (.int .i64 0) := (bx.c 5 (by omega)).1
    have f5 : X.frozen? ⟨q, 5, none⟩ = false := (bx.c 5 (by omega)).2
    have m6 : X.cell? ⟨q, 6, none⟩ = some (.bool false) := (bx.c 6 (by omega)).1
    have f6 : X.frozen? ⟨q, 6, none⟩ = false := (bx.c 6 (by omega)).2
    have m7 : X.cell? ⟨q, 7, none⟩ = some (.slice none 0 0) := (bx.c 7 (by omega)).1
    have f7 : X.frozen? ⟨q, 7, none⟩ = false := (bx.c 7 (by omega)).2
    have s0 : X.cell? ⟨w.heap.size + 2, 0, none⟩ = some (.int .i64 0) := (rbX.c 0 (by omega)).1
    have g0 : X.frozen? ⟨w.heap.size + 2, 0, none⟩ = false := (rbX.c 0 (by omega)).2
    have s1 : X.cell? ⟨w.heap.size + 2, 1, none⟩ = some (.int .i64 0) := (rbX.c 1 (by omega)).1
    have g1 : X.frozen? ⟨w.heap.size + 2, 1, none⟩ = false := (rbX.c 1 (by omega)).2
    have s2 : X.cell? ⟨w.heap.size + 2, 2, none⟩ = some (.int .i64 0) := (rbX.c 2 (by omega)).1
    have g2 : X.frozen? ⟨w.heap.size + 2, 2, none⟩ = false := (rbX.c 2 (by omega)).2
    have s3 : X.cell? ⟨w.heap.size + 2, 3, none⟩ = some (.int .i64 0) := (rbX.c 3 (by omega)).1
    have g3 : X.frozen? ⟨w.heap.size + 2, 3, none⟩ = false := (rbX.c 3 (by omega)).2
    have s4 : X.cell? ⟨w.heap.size + 2, 4, none⟩ = some (.int .i64 0) := (rbX.c 4 (by omega)).1
    have g4 : X.frozen? ⟨w.heap.size + 2, 4, none⟩ = false := (rbX.c 4 (by omega)).2
    have s5 : X.cell? ⟨w.heap.size + 2, 5, none⟩ = some (.int .i64 0) := (rbX.c 5 (by omega)).1
    have g5 : X.frozen? ⟨w.heap.size + 2, 5, none⟩ = false := (rbX.c 5 (by omega)).2
    have s6 : X.cell? ⟨w.heap.size + 2, 6, none⟩ = some (.bool false) := (rbX.c 6 (by omega)).1
    have g6 : X.frozen? ⟨w.heap.size + 2, 6, none⟩ = false := (rbX.c 6 (by omega)).2
    have s7 : X.cell? ⟨w.heap.size + 2, 7, none⟩ = some (.slice none 0 0) := (rbX.c 7 (by omega)).1
    have g7 : X.frozen? ⟨w.heap.size + 2, 7, none⟩ = false := (rbX.c 7 (by omega)).2
    -- what is answered: the box, copied into the result
    rcases (by omega : k6 = 0 ∨ k6 = 1 ∨ k6 = 2 ∨ k6 = 3 ∨ k6 = 4 ∨ k6 = 5) with rfl | rfl | rfl | rfl | rfl | rfl
    · have p8 := fun w' => picked_any rc 8 w' hrc (by decide) (by decide)
      have pV := fun w' => picked_any rd 1073741824 w' hrd (by decide) (by decide)
      have p9 := fun w' => picked_any re 9 w' hre (by decide) (by decide)
      have z8 := pk_bd rc 8 (by decide)
      have zV := pk_bd rd 1073741824 (by decide)
      have z9 := pk_bd re 9 (by decide)
      obtain ⟨x8, e8⟩ : ∃ x, x = pk rc 8 := ⟨_, rfl⟩
      obtain ⟨xV, eV⟩ : ∃ x, x = pk rd 1073741824 := ⟨_, rfl⟩
      obtain ⟨x9, e9⟩ : ∃ x, x = pk re 9 := ⟨_, rfl⟩
      rw [← e8] at p8 z8
      rw [← eV] at pV zV
      rw [← e9] at p9 z9
      clear e8 eV e9
      go_wp2_with (first
        | (go_at_call_of 8 (Value.int .i64 8); refine (p8 _).mono ?_; rintro e v ⟨rfl, hv⟩; rw [hv]; clear hv v)
        | (go_at_call_of 8 (Value.int .i64 1073741824); refine (pV _).mono ?_; rintro e v ⟨rfl, hv⟩; rw [hv]; clear hv v)
        | (go_at_call_of 8 (Value.int .i64 9); refine (p9 _).mono ?_; rintro e v ⟨rfl, hv⟩; rw [hv]; clear hv v))
      refine bodyPost_ret (v := .agg #[.int .i64 1, .int .i64 site, .int .i64 num, .int .i64 x8, .int .i64 xV, .int .i64 x9, .bool false, .slice none 0 0]) (by simp [results, Tryd.results13, go_sem, s0, s1, s2, s3, s4, s5, s6, s7]) rfl ⟨⟨1, site, num, x8, xV, x9, false, none, 0, 0, []⟩, rfl, ⟨isI_nil _, rec_ok hok (by omega) pS nB (by omega) (by omega) (by omega) (by omega) rfl (by simp [rHasOf, rHas, hasAll, bit]), fun b off e => by simp at e⟩, ⟨by rw [← HK6.out]; rfl, fun h => absurd h (by simp)⟩, ?_⟩
      with_reducible repeat (first | exact hwX | refine below_set _ _ _ ?_ (by omega))
    · have p2 := fun w' => picked_any rc 2 w' hrc (by decide) (by decide)
      obtain ⟨x2, e2⟩ : ∃ x, x = pk rc 2 := ⟨_, rfl⟩
      rw [← e2] at p2
      clear e2
      go_wp2_with (go_at_call 8; refine (p2 _).mono ?_; rintro e v ⟨rfl, hv⟩; rw [hv]; clear hv v)
      refine bodyPost_ret (v := .agg #[.int .i64 2, .int .i64 site, .int .i64 num, .int .i64 0, .int .i64 0, .int .i64 0, .bool (x2 == 1), .slice none 0 0]) (by simp [results, Tryd.results13, go_sem, s0, s1, s2, s3, s4, s5, s6, s7]) rfl ⟨⟨2, site, num, 0, 0, 0, (x2 == 1), none, 0, 0, []⟩, rfl, ⟨isI_nil _, rec_ok hok (by omega) pS nB (by omega) (by omega) (by omega) (by omega) rfl (by simp [rHasOf, rHas, hasAll]), fun b off e => by simp at e⟩, ⟨by rw [← HK6.out]; rfl, fun h => absurd h (by simp)⟩, ?_⟩
      with_reducible repeat (first | exact hwX | refine below_set _ _ _ ?_ (by omega))
    · have p16 := fun w' => picked_any rc 16 w' hrc (by decide) (by decide)
      have z16 := pk_bd rc 16 (by decide)
      obtain ⟨x16, e16⟩ : ∃ x, x = pk rc 16 := ⟨_, rfl⟩
      rw [← e16] at p16 z16
      clear e16
      obtain ⟨z0, z15⟩ := z16
      have KB : Hid (∀ U : World, Below X.heap.size X U → Below w.heap.size w U) := fun U hU => hwX.trans (hU.mono hwX.size)
      go_wp2
      go_loopw [6] (fun s6 wr => ∃ (j : Nat) (sa : Option Addr) (sl sc : Nat) (sites : List Int), (j : Int) ≤ S ∧ s6 = .int .i64 j ∧ sl ≤ j ∧ wr.ownsRow X.heap.size 3 1 (.slice sa sl sc) sl (intsV sites) ∧ RecBox w X wr q [.int .i64 3, .int .i64 site, .int .i64 num, .int .i64 0, .int .i64 0, .int .i64 0, .bool false, .slice sa sl sc] ∧ Hid (∀ rest, rising S (j : Int) rest = true → rising S 0 (sites ++ rest) = true)) (fun i _ => (S - intOf i).toNat)
      case atStart => exact ⟨0, none, 0, 0, [], by omega, rfl, Nat.le_refl _, World.ownsRow_nil _ _ _ _, ⟨bx, rbX, rfl, rfl, hwX, Nat.le_refl _⟩, fun rest h => h⟩
      case round =>
        obtain ⟨j, sa, sl, sc, sites, hj, rfl, hsl, own, RB, hri⟩ := hrel
        have y0 := RB.cfg.trans c0
        have y1 := RB.raw.trans d3
        have y7 : wr.cell? ⟨q, 7, none⟩ = some (.slice sa sl sc) := (RB.bx.c 7 (by omega)).1
        have g7 : wr.frozen? ⟨q, 7, none⟩ = false := (RB.bx.c 7 (by omega)).2
        have f7 := RB.bx.lt
        have hnq : ∀ k, (Value.slice sa sl sc).ownBlock = some k → X.heap.size ≤ k := fun k hk => (own.lt k hk).1
        have nq : some q ≠ (Value.slice sa sl sc).ownBlock := by intro e; have := hnq _ e.symm; omega
        have nw0 : some w.heap.size ≠ (Value.slice sa sl sc).ownBlock := by intro e; have := hnq _ e.symm; omega
        have nw1 : some (w.heap.size + 1) ≠ (Value.slice sa sl sc).ownBlock := by intro e; have := hnq _ e.symm; omega
        have nw2 : some (w.heap.size + 2) ≠ (Value.slice sa sl sc).ownBlock := by intro e; have := hnq _ e.symm; omega
        have zr := RB.sz
        by_cases hlt : (j : Int) < S
        · have hc1 := cell_one_new wr (.int .i64 (j : Int)) 3
          have hc2 : ∀ u ∈ [Value.int .i64 (j : Int)], u.oneCell' = true := by intro u hu; simp at hu; subst hu; rfl
          have hal := World.grownBy_alloc wr (.cells #[.int .i64 (j : Int)] 3) none
          have j2 : (j : Int) ≤ 2 := by omega
          have hstepA : Hid (∀ rest, rising S ((j + 1 : Nat) : Int) rest = true → rising S 0 ((sites ++ [(j : Int)]) ++ rest) = true) := by
            show ∀ rest, _
            intro rest hr
            rw [List.append_assoc]
            refine hri.out _ ?_
            simp only [List.singleton_append, rising, Bool.and_eq_true]
            exact ⟨inR_true (by omega) (by omega), by simpa using hr⟩
          have hstepB : Hid (∀ rest, rising S ((j + 1 : Nat) : Int) rest = true → rising S 0 (sites ++ rest) = true) := by
            show ∀ rest, _
            intro rest hr
            exact hri.out _ (rising_mono _ _ (by simpa using hr))
          clear hri
          go_wp2_with (first
            | (go_at_call 8; refine (p16 _).mono ?_; rintro e v ⟨rfl, hv⟩; rw [hv]; clear hv v)
            | (at_builtin; refine wpList_append_lies _ (by rfl) (.tmp 58) (.tmp 60) 29 (by rfl) X.heap.size 3 i0 (.int .i64 0) 1 8 Tryd.underlying29 hi li0 li1 li2 rfl (by decide) (.slice sa sl sc) sl (intsV sites) (by rfl) (own.alloc _) ⟨wr.heap.size, 0, none⟩ 1 1 [.int .i64 (j : Int)] (by rfl) rfl hc1 hc2 (by omega) (by unfold maxLen; omega) (by omega) (by simp; omega) _ rfl ?_; intro g5 c5 w5 own5 gr5 at5 lt5; have b5 := (RB.bx.grown hal (by simp)).grown gr5 nq; have k7 : w5.cell? ⟨q, 7, none⟩ = some (.slice sa sl sc) := (b5.c 7 (by omega)).1; have kf7 : w5.frozen? ⟨q, 7, none⟩ = false := (b5.c 7 (by omega)).2))
          · have ownF := ownsRow_setCell_below own5 (a := ⟨q, 7, none⟩) (by show q < X.heap.size; omega) (.slice (some ⟨g5, 0, none⟩) (sl + 1) c5)
            have eV : intsV sites ++ [Value.int .i64 (j : Int)] = intsV (sites ++ [(j : Int)]) := by simp [intsV]
            rw [eV] at ownF
            have bk : ∀ c, c ≠ q → c < wr.heap.size → some c ≠ (Value.slice sa sl sc).ownBlock → (w5.setCell ⟨q, 7, none⟩ (.slice (some ⟨g5, 0, none⟩) (sl + 1) c5)).heap[c]? = wr.heap[c]? := fun c h1 h2 h3 => by
              rw [Below.heap_setCell w5 _ _ c (by show c ≠ q; exact h1), gr5.block c (by simp; omega) h3]
              exact hal.block c h2 (by simp)
            have RBF : RecBox w X (w5.setCell ⟨q, 7, none⟩ (.slice (some ⟨g5, 0, none⟩) (sl + 1) c5)) q [.int .i64 3, .int .i64 site, .int .i64 num, .int .i64 0, .int .i64 0, .int .i64 0, .bool false, .slice (some ⟨g5, 0, none⟩) (sl + 1) c5] :=
              ⟨b5.set 7 (by omega) _, ((RB.rb.grown hal (by simp)).grown gr5 nw2).far hq2, (World.cell?_of_block (a := ⟨w.heap.size, 0, none⟩) (bk w.heap.size (by omega) (by omega) nw0)).trans RB.cfg, (World.cell?_of_block (a := ⟨w.heap.size + 1, 3, none⟩) (bk (w.heap.size + 1) (by omega) (by omega) nw1)).trans RB.raw, ((RB.bel.alloc RB.bel.size _).grown gr5 (by have := RB.bel.size; simp; omega) (fun k hk => by have := hnq k hk; omega)).setCell (by show w.heap.size ≤ q; omega) _, by have := gr5.size; simp at this ⊢; omega⟩
            exact ⟨⟨j + 1, some ⟨g5, 0, none⟩, sl + 1, c5, sites ++ [(j : Int)], by omega, by go_num, by omega, ownF, RBF, hstepA⟩, by simp [intOf]; omega⟩
          · exact ⟨⟨j + 1, sa, sl, sc, sites, by omega, by go_num, by omega, own, RB, hstepB⟩, by simp [intOf]; omega⟩
        · have hri0 : rising S 0 sites = true := by have := hri.out [] rfl; simpa using this
          have hmem : ∀ z ∈ sites, 0 ≤ z ∧ z ≤ 1000 := fun z hz => by have := rising_mem' sites 0 hri0 (by omega) z hz; omega
          obtain ⟨hII, hnew⟩ := isI_own own hmem
          have hIF := fun (U : World) (hU : wr.grownBy U (some (w.heap.size + 2))) => isI_grown hII hU (fun b off e => by have := (hnew b off e).1; simp; omega)
          have m0 : wr.cell? ⟨q, 0, none⟩ = some (.int .i64 3) := (RB.bx.c 0 (by omega)).1
          have m1 : wr.cell? ⟨q, 1, none⟩ = some (.int .i64 site) := (RB.bx.c 1 (by omega)).1
          have m2 : wr.cell? ⟨q, 2, none⟩ = some (.int .i64 num) := (RB.bx.c 2 (by omega)).1
          have m3 : wr.cell? ⟨q, 3, none⟩ = some (.int .i64 0) := (RB.bx.c 3 (by omega)).1
          have m4 : wr.cell? ⟨q, 4, none⟩ = some (.int .i64 0) := (RB.bx.c 4 (by omega)).1
          have m5 : wr.cell? ⟨q, 5, none⟩ = some (.int .i64 0) := (RB.bx.c 5 (by omega)).1
          have m6 : wr.cell? ⟨q, 6, none⟩ = some (.bool false) := (RB.bx.c 6 (by omega)).1
          have m7 : wr.cell? ⟨q, 7, none⟩ = some (.slice sa sl sc) := (RB.bx.c 7 (by omega)).1
          have s0 : wr.cell? ⟨w.heap.size + 2, 0, none⟩ = some (.int .i64 0) := (RB.rb.c 0 (by omega)).1
          have g0 : wr.frozen? ⟨w.heap.size + 2, 0, none⟩ = false := (RB.rb.c 0 (by omega)).2
          have s1 : wr.cell? ⟨w.heap.size + 2, 1, none⟩ = some (.int .i64 0) := (RB.rb.c 1 (by omega)).1
          have g1 : wr.frozen? ⟨w.heap.size + 2, 1, none⟩ = false := (RB.rb.c 1 (by omega)).2
          have s2 : wr.cell? ⟨w.heap.size + 2, 2, none⟩ = some (.int .i64 0) := (RB.rb.c 2 (by omega)).1
          have g2 : wr.frozen? ⟨w.heap.size + 2, 2, none⟩ = false := (RB.rb.c 2 (by omega)).2
          have s3 : wr.cell? ⟨w.heap.size + 2, 3, none⟩ = some (.int .i64 0) := (RB.rb.c 3 (by omega)).1
          have g3 : wr.frozen? ⟨w.heap.size + 2, 3, none⟩ = false := (RB.rb.c 3 (by omega)).2
          have s4 : wr.cell? ⟨w.heap.size + 2, 4, none⟩ = some (.int .i64 0) := (RB.rb.c 4 (by omega)).1
          have g4 : wr.frozen? ⟨w.heap.size + 2, 4, none⟩ = false := (RB.rb.c 4 (by omega)).2
          have s5 : wr.cell? ⟨w.heap.size + 2, 5, none⟩ = some (.int .i64 0) := (RB.rb.c 5 (by omega)).1
          have g5 : wr.frozen? ⟨w.heap.size + 2, 5, none⟩ = false := (RB.rb.c 5 (by omega)).2
          have s6 : wr.cell? ⟨w.heap.size + 2, 6, none⟩ = some (.bool false) := (RB.rb.c 6 (by omega)).1
          have g6 : wr.frozen? ⟨w.heap.size + 2, 6, none⟩ = false := (RB.rb.c 6 (by omega)).2
          have s7 : wr.cell? ⟨w.heap.size + 2, 7, none⟩ = some (.slice none 0 0) := (RB.rb.c 7 (by omega)).1
          have g7 : wr.frozen? ⟨w.heap.size + 2, 7, none⟩ = false := (RB.rb.c 7 (by omega)).2
          have bel := RB.bel
          have hslen : sl ≤ 4 := by omega
          clear hri nq nw0 nw1 nw2 y0 y1
          have y0 := RB.cfg.trans c0
          clear RB
          go_wp2
          have hset : wr.grownBy _ (some (w.heap.size + 2)) := grown_set (i := 7) (v := .slice sa sl sc) (grown_set (i := 6) (v := .bool false) (grown_set (i := 5) (v := .int .i64 0) (grown_set (i := 4) (v := .int .i64 0) (grown_set (i := 3) (v := .int .i64 0) (grown_set (i := 2) (v := .int .i64 num) (grown_set (i := 1) (v := .int .i64 site) (grown_set (i := 0) (v := .int .i64 3) (grownR_refl wr (some (w.heap.size + 2))))))))))
          refine bodyPost_ret (v := .agg #[.int .i64 3, .int .i64 site, .int .i64 num, .int .i64 0, .int .i64 0, .int .i64 0, .bool false, .slice sa sl sc]) (by simp [results, Tryd.results13, go_sem, s0, s1, s2, s3, s4, s5, s6, s7]) rfl ⟨⟨3, site, num, 0, 0, 0, false, sa, sl, sc, sites⟩, rfl, ⟨hIF _ hset, rec_ok hok (by omega) pS nB (by omega) (by omega) (by omega) hslen hri0 (by simp [rHasOf, rHas, hasAll, bit]), fun b off e => ?_⟩, ⟨by rw [← HK6.out]; rfl, fun _ => ⟨rfl, rfl, rfl, rfl, hslen, hri0⟩⟩, ?_⟩
          · have hn := hnew b off e
            exact ⟨by omega, Nat.lt_of_lt_of_le hn.2 hset.size⟩
          · with_reducible repeat (first | exact bel | refine below_set _ _ _ ?_ (by omega))
    · go_wp2
      refine bodyPost_ret (v := .agg #[.int .i64 4, .int .i64 site, .int .i64 num, .int .i64 0, .int .i64 0, .int .i64 0, .bool false, .slice none 0 0]) (by simp [results, Tryd.results13, go_sem, s0, s1, s2, s3, s4, s5, s6, s7]) rfl ⟨⟨4, site, num, 0, 0, 0, false, none, 0, 0, []⟩, rfl, ⟨isI_nil _, rec_ok hok (by omega) pS nB (by omega) (by omega) (by omega) (by omega) rfl (by simp [rHasOf, rHas, hasAll, bit]), fun b off e => by simp at e⟩, ⟨by rw [← HK6.out]; rfl, fun h => absurd h (by simp)⟩, ?_⟩
      with_reducible repeat (first | exact hwX | refine below_set _ _ _ ?_ (by omega))
    · go_wp2
      refine bodyPost_ret (v := .agg #[.int .i64 5, .int .i64 site, .int .i64 num, .int .i64 0, .int .i64 0, .int .i64 0, .bool false, .slice none 0 0]) (by simp [results, Tryd.results13, go_sem, s0, s1, s2, s3, s4, s5, s6, s7]) rfl ⟨⟨5, site, num, 0, 0, 0, false, none, 0, 0, []⟩, rfl, ⟨isI_nil _, rec_ok hok (by omega) pS nB (by omega) (by omega) (by omega) (by omega) rfl (by simp [rHasOf, rHas, hasAll, bit]), fun b off e => by simp at e⟩, ⟨by rw [← HK6.out]; rfl, fun h => absurd h (by simp)⟩, ?_⟩
      with_reducible repeat (first | exact hwX | refine below_set _ _ _ ?_ (by omega))
    · have p2 := fun w' => picked_any rc 2 w' hrc (by decide) (by decide)
      obtain ⟨x2, e2⟩ : ∃ x, x = pk rc 2 := ⟨_, rfl⟩
      rw [← e2] at p2
      clear e2
      go_wp2_with (go_at_call 8; refine (p2 _).mono ?_; rintro e v ⟨rfl, hv⟩; rw [hv]; clear hv v)
      refine bodyPost_ret (v := .agg #[.int .i64 6, .int .i64 site, .int .i64 num, .int .i64 0, .int .i64 0, .int .i64 0, .bool (x2 == 1), .slice none 0 0]) (by simp [results, Tryd.results13, go_sem, s0, s1, s2, s3, s4, s5, s6, s7]) rfl ⟨⟨6, site, num, 0, 0, 0, (x2 == 1), none, 0, 0, []⟩, rfl, ⟨isI_nil _, rec_ok hok (by omega) pS nB (by omega) (by omega) (by omega) (by omega) rfl (by simp [rHasOf, rHas, hasAll]), fun b off e => by simp at e⟩, ⟨by rw [← HK6.out]; rfl, fun h => absurd h (by simp)⟩, ?_⟩
      with_reducible repeat (first | exact hwX | refine below_set _ _ _ ?_ (by omega))
theorem rec_good (S P : Int) (ad : Option Addr) (n cp : Nat) (L : List (Int × Int)) (kd ra rb rc rd re : Int) (w : World) (hok : cfgFault S L P = 0) (s1 : 1 ≤ S) (s3 : S ≤ 3)
    (hkd : Bd kd) (hra : Bd ra) (hrb : Bd rb) (hrc : Bd rc) (hrd : Bd rd) (hre : Bd re) :
    Calls Tryd.prog 13 #[.agg #[.int .i64 S, .slice ad n cp, .int .i64 P], .agg #[.int .i64 kd, .int .i64 ra, .int .i64 rb, .int .i64 rc, .int .i64 rd, .int .i64 re]] w fun e w' => ∃ r : RcV, e = .returned r.val ∧ GoodR w' S L P r w.heap.size ∧ Below w.heap.size w w' := by
  refine (rec_goodK S P ad n cp L kd ra rb rc rd re w hok s1 s3 hkd hra hrb hrc hrd hre).mono ?_
  rintro e w' ⟨r, h1, h2, -, h3⟩
  exact ⟨r, h1, h2, h3⟩
end Go.Proofs.YtcfhhjnbkpgpeaaDoor
/- A slice of the call's own, of integers: a number stored into it; and that it is a slice of integers as one that came in. -/
namespace Go.Proofs.YtcfhhjnbkpgpeaaDoor
open Go.ChangeShapes Go.WideShapes Go.ChangeAt Go.RowKit

theorem Below.toGrown' {w w' : World} (h : Below w.heap.size w w') : w.grownBy w' none := ⟨h.os, h.tape, h.output, h.size, fun k hk _ => h.block k hk⟩
theorem own_below' {w w' : World} {base : Nat} {e : TypeId} {size : Nat} {v : Value} {n : Nat} {xs : List Value} (h : w.ownsRow base e size v n xs) (hb : Below w.heap.size w w') : w'.ownsRow base e size v n xs :=
  h.kept (Below.toGrown' hb) (by cases hv : v.ownBlock <;> simp)

theorem own_base {w : World} {b c : Nat} {e : TypeId} {size : Nat} {v : Value} {n : Nat} {xs : List Value} (h : w.ownsRow b e size v n xs) (hc : c ≤ b) : w.ownsRow c e size v n xs := by
  refine ⟨h.1, ?_⟩
  rcases h.2 with h2 | ⟨g, cap, cur, hv, hb, r⟩
  · exact .inl h2
  · exact .inr ⟨g, cap, cur, hv, Nat.le_trans hc hb, r⟩

/-- Two rows of the call's own whose elements are of two types lie in two blocks. -/
theorem own_apart {w : World} {b b' : Nat} {e e' : TypeId} {size size' : Nat} {v v' : Value} {n n' : Nat} {xs xs' : List Value} (h : w.ownsRow b e size v n xs) (h' : w.ownsRow b' e' size' v' n' xs') (hne : e ≠ e') : v.ownBlock = none ∨ v.ownBlock ≠ v'.ownBlock := by
  rcases h.2 with ⟨rfl, _⟩ | ⟨g, cap, cur, rfl, _, hg, _⟩
  · exact .inl rfl
  · right
    intro he
    rcases h'.2 with ⟨rfl, _⟩ | ⟨g', cap', cur', rfl, _, hg', _⟩
    · simp [Value.ownBlock] at he
    · simp [Value.ownBlock] at he
      subst he
      rw [hg] at hg'
      simp at hg'
      exact hne hg'.2

theorem own_form {w : World} {base : Nat} {e : TypeId} {size : Nat} {v : Value} {n : Nat} {xs : List Value} (h : w.ownsRow base e size v n xs) : ∃ ao cp, v = .slice ao n cp ∧ n ≤ cp ∧ cp ≤ maxLen := by
  rcases h.2 with ⟨rfl, rfl⟩ | ⟨g, cap, cur, rfl, _, _, h1, h2, _⟩
  · exact ⟨none, 0, rfl, Nat.le_refl _, Nat.zero_le _⟩
  · exact ⟨_, _, rfl, h1, h2⟩

/-- One number stored into the row. -/
theorem own_set {w : World} {base : Nat} {e : TypeId} {g n cap : Nat} {xs : List Value} (h : w.ownsRow base e 1 (.slice (some ⟨g, 0, none⟩) n cap) n xs) {k : Nat} (hk : k < n) (u : Value) :
    (w.setCell ⟨g, k, none⟩ u).ownsRow base e 1 (.slice (some ⟨g, 0, none⟩) n cap) n (xs.set k u) ∧ w.frozen? ⟨g, k, none⟩ = false ∧ (∃ v, w.cell? ⟨g, k, none⟩ = some v) := by
  obtain ⟨hl, h2⟩ := h
  rcases h2 with ⟨hv, hn⟩ | ⟨g', cap', cur, hv, hb, hg, h1, h3, hs, ht⟩
  · omega
  · simp at hv
    obtain ⟨rfl, rfl⟩ := hv
    have hkc : k < cur.size := by omega
    refine ⟨⟨by simpa using hl, .inr ⟨g, cap, cur.setIfInBounds k u, rfl, hb, heap_setCell_same w g k cur e u hg, h1, h3, by simpa using hs, ?_⟩⟩, by simp [World.frozen?, hg], ?_⟩
    · rw [← ht, Array.toList_setIfInBounds, List.take_set]
    · exact ⟨cur[k], by simp [World.cell?, hg, hkc]⟩

/-- A row of the call's own holds its numbers as one that came in does. -/
theorem ints_of_own {w : World} {base : Nat} {ao : Option Addr} {n cp : Nat} {zs : List Int} (h : w.ownsRow base 3 1 (.slice ao n cp) n (zs.map (Value.int .i64))) (hz : ∀ i, -9223372036854775808 ≤ zs.getD i 0 ∧ zs.getD i 0 ≤ 9223372036854775807) : IsInts w ao n cp zs := by
  have hl : zs.length = n := by have := h.1; simpa using this
  obtain ⟨ao', cp', e, h1, h2⟩ := own_form h
  simp at e
  obtain ⟨rfl, rfl⟩ := e
  refine ⟨hl, h1, h2, hz, fun hp => ?_⟩
  rcases h.2 with ⟨hv, hn⟩ | ⟨g, cap, cur, hv, hb, hg, _⟩
  · omega
  · simp at hv
    obtain ⟨rfl, rfl⟩ := hv
    refine ⟨g, 0, rfl, (h.lt g rfl).2, fun i hi => ?_⟩
    have hi' : i < zs.length := by omega
    have := h.cells (g := g) rfl i (.int .i64 (zs.getD i 0)) (by simp [List.getD, hi'])
    have e : (⟨g, 0, none⟩ : Addr).add i = ⟨g, 0 + i, none⟩ := by
      unfold Addr.add
      by_cases hj : i = 0 <;> simp [hj]
    rwa [e] at this
end Go.Proofs.YtcfhhjnbkpgpeaaDoor
/- Ints in memory stay, where a store or a new block is elsewhere. -/
namespace Go.Proofs.YtcfhhjnbkpgpeaaDoor
open Go.ChangeShapes Go.WideShapes Go.ChangeAt Go.RowKit
set_option linter.unusedVariables false

/-- Ints that lie elsewhere stay. -/
theorem isI_far {U : World} {a : Option Addr} {len cap q k : Nat} {zs : List Int} {v : Value} (h : IsInts U a len cap zs) (hne : ∀ b off, a = some ⟨b, off, none⟩ → q ≠ b) : IsInts (U.setCell ⟨q, k, none⟩ v) a len cap zs := by
  obtain ⟨h1, h2, h3, hbd, h4⟩ := h
  refine ⟨h1, h2, h3, hbd, fun hp => ?_⟩
  obtain ⟨b, off, e, hlt, hl⟩ := h4 hp
  have hn := hne b off e
  refine ⟨b, off, e, by simpa using hlt, fun i hi => ?_⟩
  rw [World.cell?_of_block (a := ⟨b, off + i, none⟩) (Below.heap_setCell U _ _ b (fun e' => hn e'.symm))]
  exact hl i hi
theorem isI_alloc {U : World} {a : Option Addr} {len cap : Nat} {zs : List Int} (h : IsInts U a len cap zs) (ob : Obj) : IsInts (U.alloc ob) a len cap zs := h.below ((Below.refl _ _).alloc (Nat.le_refl _) ob)
end Go.Proofs.YtcfhhjnbkpgpeaaDoor
