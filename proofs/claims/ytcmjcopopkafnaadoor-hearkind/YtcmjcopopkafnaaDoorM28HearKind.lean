/- Texts of this claim, one behind the other. -/
import Derived.Test.YtcmjcopopkafnaaDoorM27HearKind
import Derived.Test.YtcmjcopopkafnaaDoorA4HearKind
import Derived.Test.YtcmjcopopkafnaaDoorM22HearKind
import Derived.Test.YtcmjcopopkafnaaDoorM26HearKind
import Derived.Deep.Cut
import Derived.Deep.RegionHeld3
/- What a store has that is made of raw numbers: few transactions, few keys; what Read, Write and End leave so. -/
namespace Go.Proofs.YtcmjcopopkafnaaDoor.St
open Go.ChangeShapes Go.WideShapes Go.ChangeAt Go.RowKit
set_option linter.unusedVariables false

def isT (t : Int × Int) : Prop := t ∈ [((0 : Int), (1 : Int)), (0, 2), (1, 1), (1, 2)]
structure Gd (p : PS) (v : Int) : Prop where
  ok : OKP p
  ver : ∀ x ∈ p.items, x.version ≤ v
  ik : ∀ x ∈ p.items, x.key ≤ 4
  lt : ∀ k ∈ p.locks, isT k.t ∧ k.key ≤ 4
  ot : ∀ t ∈ p.over, isT t
  da0 : ∀ d ∈ p.doubts, d.age = 0
theorem gd_nil : Gd PS.nil 1 := ⟨(okP_iff _).1 (by decide), by simp [PS.nil], by simp [PS.nil], by simp [PS.nil], by simp [PS.nil], by simp [PS.nil]⟩
theorem Gd.mono {p : PS} {v u : Int} (h : Gd p v) (hu : v ≤ u) : Gd p u := ⟨h.ok, fun x hx => by have := h.ver x hx; omega, h.ik, h.lt, h.ot, h.da0⟩
theorem holdL_mem {l : List LkV} {k o : LkV} (h : o ∈ holdL l k) : o = k ∨ o ∈ l := by
  unfold holdL at h
  split at h
  · rcases mem_set h with e | ⟨j, hj, _, e⟩
    · exact .inl e
    · exact .inr (e ▸ List.getElem_mem hj)
  · rcases List.mem_append.1 h with h | h
    · exact .inr h
    · simp at h; exact .inl h
theorem holdD0 {l : List DbV} {t : Int × Int} (h : ∀ d ∈ l, d.age = 0) : ∀ d ∈ holdD l t, d.age = 0 := by
  intro d hd
  unfold holdD at hd
  split at hd
  · exact h d hd
  · rcases List.mem_append.1 hd with hd | hd
    · exact h d hd
    · simp at hd; rw [hd]
theorem gd_read {s : SV} {v : Int} (h : Gd s.data v) {t : Int × Int} {key : Int} (ht : isT t) (hk : key ≤ 4) (he : readErr s t key = 0) : Gd (readData s t key) v := by
  have hok := read_ok he
  have e : readData s t key = if idxI (byT t key) s.locks < 0 then ⟨s.items, holdL s.locks ⟨t, key, false, 0, 0⟩, holdD s.doubts t, s.over⟩ else ⟨s.items, s.locks, s.doubts, s.over⟩ := by unfold readData; rw [if_pos he]
  rw [e] at hok ⊢
  split
  · rename_i hi
    rw [if_pos hi] at hok
    refine ⟨hok, h.ver, h.ik, fun k hk2 => ?_, h.ot, holdD0 h.da0⟩
    rcases holdL_mem hk2 with rfl | hk2
    · exact ⟨ht, hk⟩
    · exact h.lt k hk2
  · exact h
theorem gd_write {s : SV} {v : Int} (h : Gd s.data v) {t : Int × Int} {key value ask : Int} (ht : isT t) (hk : key ≤ 4) (he : writeErr s t key value ask = 0) : Gd (writeData s t key value ask) v := by
  have hok := write_ok he
  have e : writeData s t key value ask = ⟨s.items, holdL s.locks ⟨t, key, true, value, ask⟩, holdD s.doubts t, s.over⟩ := by unfold writeData; rw [if_pos he]
  rw [e] at hok ⊢
  refine ⟨hok, h.ver, h.ik, fun k hk2 => ?_, h.ot, holdD0 h.da0⟩
  rcases holdL_mem hk2 with rfl | hk2
  · exact ⟨ht, hk⟩
  · exact h.lt k hk2
theorem gd_end {s : SV} {v : Int} (h : Gd s.data v) (v1 : 1 ≤ v) (v2 : v ≤ 1048000) {t : Int × Int} {yes : Bool} (ht : isT t) (he : endErr s t yes = 0) : Gd (endData s t yes) (v + 24) := by
  obtain ⟨hok, hver⟩ := end_ok he v1 v2 h.ver
  have e : endData s t yes = ⟨if yes then putAll s.items (s.locks.filter (wOf t)) else s.items, keep (ofT t) s.locks, keep (dbT t) s.doubts, if t ∈ s.over then s.over else s.over ++ [t]⟩ := by unfold endData; rw [if_pos he]
  rw [e] at hok hver ⊢
  refine ⟨hok, hver, ?_, fun k hk2 => h.lt k (mem_keep.1 hk2).1, ?_, fun d hd => h.da0 d (mem_keep.1 hd).1⟩
  · show ∀ x ∈ (if yes then putAll s.items (s.locks.filter (wOf t)) else s.items), x.key ≤ 4
    split
    · exact putAll_keys (fun k => k ≤ 4) _ _ (fun k hk => (h.lt k (List.mem_filter.1 hk).1).2) h.ik
    · exact h.ik
  · show ∀ x ∈ (if t ∈ s.over then s.over else s.over ++ [t]), isT x
    split
    · exact h.ot
    · intro x hx
      rcases List.mem_append.1 hx with hx | hx
      · exact h.ot x hx
      · simp at hx; subst hx; exact ht
theorem nodup_le {α : Type} [BEq α] [LawfulBEq α] : ∀ (l m : List α), l.Nodup → (∀ x ∈ l, x ∈ m) → l.length ≤ m.length
  | [], m, _, _ => Nat.zero_le _
  | x :: r, m, h1, h2 => by
    rw [List.nodup_cons] at h1
    have hx := h2 x (by simp)
    have := nodup_le r (m.erase x) h1.2 (fun y hy => (List.mem_erase_of_ne (a := y) (b := x) (fun e => h1.1 (by rw [← e]; exact hy))).2 (h2 y (by simp [hy])))
    rw [List.length_erase_of_mem hx] at this
    have hp := List.length_pos_of_mem hx
    simp only [List.length_cons]
    omega
theorem Gd.over4 {p : PS} {v : Int} (h : Gd p v) : p.over.length ≤ 4 := nodup_le p.over _ h.ok.ov h.ot
theorem Gd.locks20 {p : PS} {v : Int} (h : Gd p v) : p.locks.length ≤ 20 := by
  have hn : (p.locks.map (fun k => (k.t, k.key))).Nodup := by
    rw [List.Nodup, List.pairwise_map]
    refine h.ok.nag.imp ?_
    intro a b hab e
    simp only [Prod.mk.injEq] at e
    simp [against, e.1, e.2] at hab
  have := nodup_le _ [(((0 : Int), (1 : Int)), (0 : Int)), ((0, 1), 1), ((0, 1), 2), ((0, 1), 3), ((0, 1), 4), ((0, 2), 0), ((0, 2), 1), ((0, 2), 2), ((0, 2), 3), ((0, 2), 4), ((1, 1), 0), ((1, 1), 1), ((1, 1), 2), ((1, 1), 3), ((1, 1), 4), ((1, 2), 0), ((1, 2), 1), ((1, 2), 2), ((1, 2), 3), ((1, 2), 4)] hn (fun x hx => by
    obtain ⟨k, hk, rfl⟩ := List.mem_map.1 hx
    obtain ⟨h1, h2⟩ := h.lt k hk
    have h3 := h.ok.lk k hk
    simp only [lockOK, Bool.and_eq_true] at h3
    have h4 := inR_of h3.1.1.1.2
    have h5 : k.key = 0 ∨ k.key = 1 ∨ k.key = 2 ∨ k.key = 3 ∨ k.key = 4 := by omega
    simp only [isT, List.mem_cons, List.not_mem_nil, or_false] at h1
    rcases h1 with e1 | e1 | e1 | e1 <;> rcases h5 with e2 | e2 | e2 | e2 | e2 <;> rw [e1, e2] <;> decide)
  simpa using this
theorem Gd.wf {s : SV} {v : Int} (h : Gd s.data v) : ∀ t ∈ s.over, TxWf t := by
  intro t ht
  have := h.ot t ht
  simp only [isT, List.mem_cons, List.not_mem_nil, or_false] at this
  rcases this with e | e | e | e <;> rw [e] <;> exact ⟨by decide, by decide⟩
theorem Gd.h4 {s : SV} {w : World} {v : Int} (h : Gd s.data v) (hs : IsStore w s) : s.ol * 16 ≤ 140737488351232 := by
  have h1 := h.over4
  have h2 : s.over.length = s.ol := hs.over.1
  have h3 : s.over.length ≤ 4 := h1
  omega
end Go.Proofs.YtcmjcopopkafnaaDoor.St
/- The contract of reredoskeep.Store: what transactions do, one by one, leaves a store that may be. -/
namespace Go.Proofs.YtcmjcopopkafnaaDoor.St
open Go.ChangeShapes Go.WideShapes Go.ChangeAt Go.RowKit
set_option linter.unusedVariables false

theorem nS {W V : World} (h : Below W.heap.size W V) {b i : Nat} (hb : W.heap.size ≤ b) (v : Value) : Below W.heap.size W (V.setCell ⟨b, i, none⟩ v) := h.setCell (p := ⟨b, i, none⟩) hb v
theorem nT {W V U : World} (h : Below W.heap.size W V) (h2 : Below V.heap.size V U) : Below W.heap.size W U := h.trans (h2.mono h.size)
theorem boxn_drew {u : World} {b n : Nat} {vs : List Value} (h : BoxN u b n vs) : BoxN u.drew b n vs := h.below (B := u.heap.size) ((Below.refl _ _).drew) h.lt
theorem isT_of (a b : Int) (ha : 0 ≤ a ∧ a < 2) (hb : 0 ≤ b ∧ b < 2) : isT (a, 1 + b) := by
  have h1 : a = 0 ∨ a = 1 := by omega
  have h2 : b = 0 ∨ b = 1 := by omega
  rcases h1 with rfl | rfl <;> rcases h2 with rfl | rfl <;> simp [isT]
set_option maxRecDepth 100000 in
set_option maxHeartbeats 8000000 in
theorem store_made (a : Option Addr) (len cap : Nat) (rs : List RV) (M : Int) (w : World) (h : IsRaws w a len cap rs) (hM : 0 ≤ M ∧ M ≤ 40) :
    Calls Tryd.prog 11 #[.slice a len cap, .int .i64 M] w fun e w' => ∃ r : SV, e = .returned r.val ∧ OwnStore w' w.heap.size r ∧ Gd r.data 961 ∧ Below w.heap.size w w' := by
  obtain ⟨M0, M40⟩ := hM
  have hmx : len ≤ maxLen := Nat.le_trans h.row.2.1 h.row.2.2.1
  unfold maxLen at hmx
  obtain ⟨W, hW⟩ : ∃ W : World, W = (w.alloc (.cells #[.slice none 0 0, .slice none 0 0, .slice none 0 0, .slice none 0 0] 41)).alloc (.cells #[.slice none 0 0, .slice none 0 0, .slice none 0 0, .slice none 0 0] 41) := ⟨_, rfl⟩
  have hP := pre_of w SV.nil (isStore_nil w)
  simp only [SV.nil] at hP
  rw [← hW] at hP
  have hp1 := hP.par
  have hp2 := hP.res
  have hB := hP.bel
  clear hP
  go_enter Tryd.func11, Tryd.ntmps11
  go_upto_region 2 with (fail)
  rw [← hW]
  clear hW
  go_wp2
  go_loopw [6, 7, 8, 9, 10, 11, 12, 13, 14, 15, 16] (fun s6 _ _ _ _ _ _ _ _ _ _ wr => ∃ (k : Nat) (r : SV), s6 = .int .i64 (k : Int) ∧ k ≤ len ∧ (k : Int) ≤ M ∧ Gd r.data (1 + 24 * k) ∧ OwnStore wr (w.heap.size + 2) r ∧ BoxN wr (w.heap.size + 1) 4 r.box ∧ BoxN wr w.heap.size 4 SV.nil.box ∧ Below w.heap.size w wr) (fun s6 _ _ _ _ _ _ _ _ _ _ _ => len - (intOf s6).toNat)
  case atStart => exact ⟨0, SV.nil, rfl, Nat.zero_le _, M0, gd_nil, ownStore_nil _ _, hp2, hp1, hB⟩
  case round =>
    clear hp1 hp2 hB
    obtain ⟨k, ⟨a0, n0, u0, a1, n1, u1, a2, n2, u2, a3, n3, u3, xi, xl, xd, xo⟩, rfl, hk, hkM, hG, hO, hbx, hbr, hb⟩ := hrel
    by_cases hlt : k < len ∧ (k : Int) < M
    · obtain ⟨hlt, hltM⟩ := hlt
      have hlt' : (k : Int) < (len : Int) := by omega
      have hlen : rs.length = len := h.row.1
      have hrok := h.ok _ (getD_mem (l := rs) (i := k) (by omega))
      obtain ⟨b, off, rfl, zb, hc⟩ := h.row.2.2.2.2 (by omega)
      have hcells := hc k hlt
      obtain ⟨x, ex⟩ : ∃ x, x = rs.getD k default := ⟨_, rfl⟩
      rw [← ex] at hcells hrok
      clear ex hc hlen
      obtain ⟨kd, ra, rb, rc, rd, re⟩ := x
      obtain ⟨okd, ora, orb, orc, ord, ore⟩ := hrok
      have KE0 : Hid (∀ U, Below w.heap.size w U → U.cell? ⟨b, off + k * 6, none⟩ = some (.int .i64 kd) ∧ U.cell? ⟨b, off + k * 6 + 1, none⟩ = some (.int .i64 ra) ∧ U.cell? ⟨b, off + k * 6 + 2, none⟩ = some (.int .i64 rb) ∧ U.cell? ⟨b, off + k * 6 + 3, none⟩ = some (.int .i64 rc) ∧ U.cell? ⟨b, off + k * 6 + 4, none⟩ = some (.int .i64 rd) ∧ U.cell? ⟨b, off + k * 6 + 5, none⟩ = some (.int .i64 re)) := fun U hU => by
        have e0 := (hU.cell (p := ⟨b, off + k * 6, none⟩) zb).trans (hcells 0 (by decide))
        have e1 := (hU.cell (p := ⟨b, off + k * 6 + 1, none⟩) zb).trans (hcells 1 (by decide))
        have e2 := (hU.cell (p := ⟨b, off + k * 6 + 2, none⟩) zb).trans (hcells 2 (by decide))
        have e3 := (hU.cell (p := ⟨b, off + k * 6 + 3, none⟩) zb).trans (hcells 3 (by decide))
        have e4 := (hU.cell (p := ⟨b, off + k * 6 + 4, none⟩) zb).trans (hcells 4 (by decide))
        have e5 := (hU.cell (p := ⟨b, off + k * 6 + 5, none⟩) zb).trans (hcells 5 (by decide))
        simp only [RV.cells, List.getElem?_cons_zero, List.getElem?_cons_succ] at e0 e1 e2 e3 e4 e5
        exact ⟨e0, e1, e2, e3, e4, e5⟩
      clear hcells
      have zr : b < wr.heap.size := Nat.lt_of_lt_of_le zb hb.size
      have bA' := pk_bd ra 2 (by decide)
      have bB' := pk_bd rb 2 (by decide)
      have bC' := pk_bd rc 5 (by decide)
      have bK' := pk_bd kd 5 (by decide)
      have bV' := pk_bd rd 100 (by decide)
      have bQ' := pk_bd re 5 (by decide)
      simp only [Bd] at okd ora orb orc ord ore
      have hw1 : IntKind.i64.wrap (1 + pk rb 2) = 1 + pk rb 2 := by apply wrap_in <;> omega
      have hisT : Hid (isT (pk ra 2, 1 + pk rb 2)) := isT_of _ _ bA' bB'
      go_upto_region 5 with (fail)
      go_cut [7] (fun s7 wc => ∃ q : Nat, s7 = .pointer (some ⟨q, 0, none⟩) ∧ BoxN wc q 2 [.int .i64 (pk ra 2), .int .i64 (1 + pk rb 2)] ∧ Below wr.heap.size wr wc)
      case first =>
        have KE2 : Hid (∀ U, Below wr.heap.size wr U → U.cell? ⟨b, off + k * 6 + 1, none⟩ = some (.int .i64 ra) ∧ U.cell? ⟨b, off + k * 6 + 2, none⟩ = some (.int .i64 rb)) := fun U hU => by
          have := KE0.out U (hb.trans (hU.mono hb.size))
          exact ⟨this.2.1, this.2.2.1⟩
        go_region_held3 (fun U => U.cell? ⟨b, off + k * 6 + 1, none⟩ = some (.int .i64 ra) ∧ U.cell? ⟨b, off + k * 6 + 2, none⟩ = some (.int .i64 rb))
          (exact KE2.out _ (by (with_reducible repeat (first | exact Below.refl _ _ | refine nD ?_ | refine nA ?_ _ | refine nS ?_ (by simp) _)); done))
          (((go_at_call 10; refine (picked_any _ _ _ (by assumption) (by decide) (by decide)).mono ?_; rintro e u ⟨rfl, hu⟩; rw [hu]; clear hu)))
        all_goals
          go_wp2_with fail
          go_meet
          case rel => exact ⟨_, rfl, by first | exact boxn_drew (boxn_new wr #[.int .i64 (pk ra 2), .int .i64 (1 + pk rb 2)] _ 2 rfl) | exact boxn_new _ #[.int .i64 (pk ra 2), .int .i64 (1 + pk rb 2)] _ 2 rfl | exact ((boxn_new _ #[.int .i64 0, .int .i64 0] _ 2 rfl).set 0 (by decide) (.int .i64 (pk ra 2))).set 1 (by decide) (.int .i64 (1 + pk rb 2)), by (with_reducible repeat (first | exact Below.refl _ _ | refine nD ?_ | refine nA ?_ _ | refine nS ?_ (by simp) _)); done⟩
      case rest =>
        obtain ⟨q, rfl, bt, bF⟩ := hcut
        obtain ⟨X, eX⟩ : ∃ X, X = wc := ⟨_, rfl⟩
        rw [← eX] at bt bF ⊢
        clear eX
        have hOX := hO.below bF
        have hbxX := hbx.below bF hbx.lt
        have hbrX := hbr.below bF hbr.lt
        have hbX : Below w.heap.size w X := hb.trans (bF.mono hb.size)
        have zwX : w.heap.size + 1 < X.heap.size := hbxX.lt
        clear hO hbx hbr hb bF zr
        obtain ⟨e0, e1, e2, e3, e4, e5⟩ := KE0.out X hbX
        have zX : b < X.heap.size := Nat.lt_of_lt_of_le zb hbX.size
        have t0 := (bt.c 0 (by decide)).1
        have t1 := (bt.c 1 (by decide)).1
        simp only [SV.box] at hbxX
        have x0 := (hbxX.c 0 (by decide)).1
        have x1 := (hbxX.c 1 (by decide)).1
        have x2 := (hbxX.c 2 (by decide)).1
        have x3 := (hbxX.c 3 (by decide)).1
        simp only [List.getD_cons_zero, List.getD_cons_succ] at t0 t1 x0 x1 x2 x3
        have ztq := bt.lt
        have hSX := hOX.isStore
        have hwf := hG.wf
        have h4 := hG.h4 hSX
        have KX : Hid (∀ U, Below X.heap.size X U → U.cell? ⟨w.heap.size + 1, 0, none⟩ = some (.slice a0 n0 u0) ∧ U.cell? ⟨w.heap.size + 1, 1, none⟩ = some (.slice a1 n1 u1) ∧ U.cell? ⟨w.heap.size + 1, 2, none⟩ = some (.slice a2 n2 u2) ∧ U.cell? ⟨w.heap.size + 1, 3, none⟩ = some (.slice a3 n3 u3) ∧ U.cell? ⟨q, 0, none⟩ = some (.int .i64 (pk ra 2)) ∧ U.cell? ⟨q, 1, none⟩ = some (.int .i64 (1 + pk rb 2)) ∧ U.cell? ⟨b, off + k * 6 + 4, none⟩ = some (.int .i64 rd) ∧ U.cell? ⟨b, off + k * 6 + 5, none⟩ = some (.int .i64 re)) := fun U hU =>
          ⟨(hU.cell (p := ⟨w.heap.size + 1, 0, none⟩) zwX).trans x0, (hU.cell (p := ⟨w.heap.size + 1, 1, none⟩) zwX).trans x1, (hU.cell (p := ⟨w.heap.size + 1, 2, none⟩) zwX).trans x2, (hU.cell (p := ⟨w.heap.size + 1, 3, none⟩) zwX).trans x3, (hU.cell (p := ⟨q, 0, none⟩) ztq).trans t0, (hU.cell (p := ⟨q, 1, none⟩) ztq).trans t1, (hU.cell (p := ⟨b, off + k * 6 + 4, none⟩) zX).trans e4, (hU.cell (p := ⟨b, off + k * 6 + 5, none⟩) zX).trans e5⟩
        have HSX : Hid (∀ U, Below X.heap.size X U → IsStore U ⟨a0, n0, u0, a1, n1, u1, a2, n2, u2, a3, n3, u3, xi, xl, xd, xo⟩) := fun U hU => hSX.below hU
        have hZ : pk kd 5 = 0 ∨ pk kd 5 = 1 ∨ pk kd 5 = 2 ∨ pk kd 5 = 3 ∨ pk kd 5 = 4 := by omega
        rcases hZ with hZ | hZ | hZ | hZ | hZ
        ·
          have hCall := fun w' h1 => read_own ⟨a0, n0, u0, a1, n1, u1, a2, n2, u2, a3, n3, u3, xi, xl, xd, xo⟩ (pk ra 2, 1 + pk rb 2) (pk rc 5) w' h1 hwf h4
          have HGd : Hid (readErr ⟨a0, n0, u0, a1, n1, u1, a2, n2, u2, a3, n3, u3, xi, xl, xd, xo⟩ (pk ra 2, 1 + pk rb 2) (pk rc 5) = 0 → Gd (readData ⟨a0, n0, u0, a1, n1, u1, a2, n2, u2, a3, n3, u3, xi, xl, xd, xo⟩ (pk ra 2, 1 + pk rb 2) (pk rc 5)) (1 + 24 * ((k + 1 : Nat) : Int))) := fun he => (gd_read hG hisT.out (by omega) he).mono (by omega)
          obtain ⟨E, eE⟩ : ∃ E, E = readErr ⟨a0, n0, u0, a1, n1, u1, a2, n2, u2, a3, n3, u3, xi, xl, xd, xo⟩ (pk ra 2, 1 + pk rb 2) (pk rc 5) := ⟨_, rfl⟩
          obtain ⟨D, eD⟩ : ∃ D, D = readData ⟨a0, n0, u0, a1, n1, u1, a2, n2, u2, a3, n3, u3, xi, xl, xd, xo⟩ (pk ra 2, 1 + pk rb 2) (pk rc 5) := ⟨_, rfl⟩
          obtain ⟨V1, eV1⟩ : ∃ E, E = readVal ⟨a0, n0, u0, a1, n1, u1, a2, n2, u2, a3, n3, u3, xi, xl, xd, xo⟩ (pk ra 2, 1 + pk rb 2) (pk rc 5) := ⟨_, rfl⟩
          obtain ⟨V2, eV2⟩ : ∃ E, E = readVer ⟨a0, n0, u0, a1, n1, u1, a2, n2, u2, a3, n3, u3, xi, xl, xd, xo⟩ (pk ra 2, 1 + pk rb 2) (pk rc 5) := ⟨_, rfl⟩
          rw [← eE, ← eD] at HGd
          simp only [← eE, ← eD, ← eV1, ← eV2, SV.val] at hCall
          clear eE eD eV1 eV2
          go_upto_region 14 with (first | (go_at_call 10; refine (picked_any _ _ _ (by assumption) (by decide) (by decide)).mono ?_; rintro e u ⟨rfl, hu⟩; rw [hu]; clear hu; (try rw [hZ]); (try rw [hY])) | (go_at_call 23; refine (hCall _ hSX).mono ?_; rintro e w2 ⟨⟨b0, m0, v0, b1, m1, v1, b2, m2, v2, b3, m3, v3, yi, yl, yd, yo⟩, rfl, hO2', hd2, hb2⟩; simp only []))
          obtain ⟨Y, hY⟩ : ∃ Y : World, Y = w2.alloc (.cells #[.slice b0 m0 v0, .slice b1 m1 v1, .slice b2 m2 v2, .slice b3 m3 v3] 41) := ⟨_, rfl⟩
          have bYw : Below w2.heap.size w2 Y := by rw [hY]; exact (Below.refl _ _).alloc (Nat.le_refl _) _
          have hb2x : BoxN Y w2.heap.size 4 [.slice b0 m0 v0, .slice b1 m1 v1, .slice b2 m2 v2, .slice b3 m3 v3] := by rw [hY]; exact boxn_new w2 #[.slice b0 m0 v0, .slice b1 m1 v1, .slice b2 m2 v2, .slice b3 m3 v3] 41 4 rfl
          have bY : Below X.heap.size X Y := nT hb2 bYw
          have hbY : Below w.heap.size w Y := hbX.trans (bY.mono hbX.size)
          have hO2 : OwnStore Y (w.heap.size + 2) ⟨b0, m0, v0, b1, m1, v1, b2, m2, v2, b3, m3, v3, yi, yl, yd, yo⟩ := (hO2'.below bYw).base (by omega)
          rw [← hY]
          clear hY hO2' bYw x0 x1 x2 x3 t0 t1 e0 e1 e2 e3 e4 e5
          have zyl := hbY.size
          have hbm := hbxX.below bY hbxX.lt
          have hbn := hbrX.below bY hbrX.lt
          have x0 := (hb2x.c 0 (by decide)).1
          have x1 := (hb2x.c 1 (by decide)).1
          have x2 := (hb2x.c 2 (by decide)).1
          have x3 := (hb2x.c 3 (by decide)).1
          have y0 := (hbm.c 0 (by decide)).1
          have y1 := (hbm.c 1 (by decide)).1
          have y2 := (hbm.c 2 (by decide)).1
          have y3 := (hbm.c 3 (by decide)).1
          have f0 := (hbm.c 0 (by decide)).2
          have f1 := (hbm.c 1 (by decide)).2
          have f2 := (hbm.c 2 (by decide)).2
          have f3 := (hbm.c 3 (by decide)).2
          simp only [List.getD_cons_zero, List.getD_cons_succ] at x0 x1 x2 x3 y0 y1 y2 y3
          have zq2 := hb2x.lt
          have zbm := hbm.lt
          by_cases hE : E = 0
          · subst hE
            have hG2 : Gd (SV.data ⟨b0, m0, v0, b1, m1, v1, b2, m2, v2, b3, m3, v3, yi, yl, yd, yo⟩) (1 + 24 * ((k + 1 : Nat) : Int)) := by rw [hd2]; exact HGd.out rfl
            obtain ⟨V, hV⟩ : ∃ V : World, V = (((Y.setCell ⟨w.heap.size + 1, 0, none⟩ (.slice b0 m0 v0)).setCell ⟨w.heap.size + 1, 1, none⟩ (.slice b1 m1 v1)).setCell ⟨w.heap.size + 1, 2, none⟩ (.slice b2 m2 v2)).setCell ⟨w.heap.size + 1, 3, none⟩ (.slice b3 m3 v3) := ⟨_, rfl⟩
            have hOV : OwnStore V (w.heap.size + 2) ⟨b0, m0, v0, b1, m1, v1, b2, m2, v2, b3, m3, v3, yi, yl, yd, yo⟩ := by rw [hV]; exact hO2.four (by omega) _ _ _ _
            have bV : BoxN V (w.heap.size + 1) 4 [.slice b0 m0 v0, .slice b1 m1 v1, .slice b2 m2 v2, .slice b3 m3 v3] := by rw [hV]; exact (((hbm.set 0 (by decide) _).set 1 (by decide) _).set 2 (by decide) _).set 3 (by decide) _
            have bVn : BoxN V w.heap.size 4 SV.nil.box := by rw [hV]; exact (((hbn.far (by omega)).far (by omega)).far (by omega)).far (by omega)
            have hbV : Below w.heap.size w V := by rw [hV]; exact below_four hbY (by omega) _ _ _ _
            go_upto_region 4 with (fail)
            rw [← hV]
            clear hV x0 x1 x2 x3 y0 y1 y2 y3 f0 f1 f2 f3 zq2 zbm
            go_wp2
            go_roundw
            case rel => exact ⟨k + 1, ⟨b0, m0, v0, b1, m1, v1, b2, m2, v2, b3, m3, v3, yi, yl, yd, yo⟩, by go_num, by omega, by omega, hG2, hOV, bV, bVn, hbV⟩
            case measure => simp [intOf]; omega
          · have hOk := hOX.below bY
            have hGk : Gd (SV.data ⟨a0, n0, u0, a1, n1, u1, a2, n2, u2, a3, n3, u3, xi, xl, xd, xo⟩) (1 + 24 * ((k + 1 : Nat) : Int)) := hG.mono (by omega)
            go_wp2
            go_roundw
            case rel => exact ⟨k + 1, ⟨a0, n0, u0, a1, n1, u1, a2, n2, u2, a3, n3, u3, xi, xl, xd, xo⟩, by go_num, by omega, by omega, hGk, hOk, hbm, hbn, hbY⟩
            case measure => simp [intOf]; omega
        ·
          have hCall := fun w' h1 => read_own ⟨a0, n0, u0, a1, n1, u1, a2, n2, u2, a3, n3, u3, xi, xl, xd, xo⟩ (pk ra 2, 1 + pk rb 2) (pk rc 5) w' h1 hwf h4
          have HGd : Hid (readErr ⟨a0, n0, u0, a1, n1, u1, a2, n2, u2, a3, n3, u3, xi, xl, xd, xo⟩ (pk ra 2, 1 + pk rb 2) (pk rc 5) = 0 → Gd (readData ⟨a0, n0, u0, a1, n1, u1, a2, n2, u2, a3, n3, u3, xi, xl, xd, xo⟩ (pk ra 2, 1 + pk rb 2) (pk rc 5)) (1 + 24 * ((k + 1 : Nat) : Int))) := fun he => (gd_read hG hisT.out (by omega) he).mono (by omega)
          obtain ⟨E, eE⟩ : ∃ E, E = readErr ⟨a0, n0, u0, a1, n1, u1, a2, n2, u2, a3, n3, u3, xi, xl, xd, xo⟩ (pk ra 2, 1 + pk rb 2) (pk rc 5) := ⟨_, rfl⟩
          obtain ⟨D, eD⟩ : ∃ D, D = readData ⟨a0, n0, u0, a1, n1, u1, a2, n2, u2, a3, n3, u3, xi, xl, xd, xo⟩ (pk ra 2, 1 + pk rb 2) (pk rc 5) := ⟨_, rfl⟩
          obtain ⟨V1, eV1⟩ : ∃ E, E = readVal ⟨a0, n0, u0, a1, n1, u1, a2, n2, u2, a3, n3, u3, xi, xl, xd, xo⟩ (pk ra 2, 1 + pk rb 2) (pk rc 5) := ⟨_, rfl⟩
          obtain ⟨V2, eV2⟩ : ∃ E, E = readVer ⟨a0, n0, u0, a1, n1, u1, a2, n2, u2, a3, n3, u3, xi, xl, xd, xo⟩ (pk ra 2, 1 + pk rb 2) (pk rc 5) := ⟨_, rfl⟩
          rw [← eE, ← eD] at HGd
          simp only [← eE, ← eD, ← eV1, ← eV2, SV.val] at hCall
          clear eE eD eV1 eV2
          go_upto_region 14 with (first | (go_at_call 10; refine (picked_any _ _ _ (by assumption) (by decide) (by decide)).mono ?_; rintro e u ⟨rfl, hu⟩; rw [hu]; clear hu; (try rw [hZ]); (try rw [hY])) | (go_at_call 23; refine (hCall _ hSX).mono ?_; rintro e w2 ⟨⟨b0, m0, v0, b1, m1, v1, b2, m2, v2, b3, m3, v3, yi, yl, yd, yo⟩, rfl, hO2', hd2, hb2⟩; simp only []))
          obtain ⟨Y, hY⟩ : ∃ Y : World, Y = w2.alloc (.cells #[.slice b0 m0 v0, .slice b1 m1 v1, .slice b2 m2 v2, .slice b3 m3 v3] 41) := ⟨_, rfl⟩
          have bYw : Below w2.heap.size w2 Y := by rw [hY]; exact (Below.refl _ _).alloc (Nat.le_refl _) _
          have hb2x : BoxN Y w2.heap.size 4 [.slice b0 m0 v0, .slice b1 m1 v1, .slice b2 m2 v2, .slice b3 m3 v3] := by rw [hY]; exact boxn_new w2 #[.slice b0 m0 v0, .slice b1 m1 v1, .slice b2 m2 v2, .slice b3 m3 v3] 41 4 rfl
          have bY : Below X.heap.size X Y := nT hb2 bYw
          have hbY : Below w.heap.size w Y := hbX.trans (bY.mono hbX.size)
          have hO2 : OwnStore Y (w.heap.size + 2) ⟨b0, m0, v0, b1, m1, v1, b2, m2, v2, b3, m3, v3, yi, yl, yd, yo⟩ := (hO2'.below bYw).base (by omega)
          rw [← hY]
          clear hY hO2' bYw x0 x1 x2 x3 t0 t1 e0 e1 e2 e3 e4 e5
          have zyl := hbY.size
          have hbm := hbxX.below bY hbxX.lt
          have hbn := hbrX.below bY hbrX.lt
          have x0 := (hb2x.c 0 (by decide)).1
          have x1 := (hb2x.c 1 (by decide)).1
          have x2 := (hb2x.c 2 (by decide)).1
          have x3 := (hb2x.c 3 (by decide)).1
          have y0 := (hbm.c 0 (by decide)).1
          have y1 := (hbm.c 1 (by decide)).1
          have y2 := (hbm.c 2 (by decide)).1
          have y3 := (hbm.c 3 (by decide)).1
          have f0 := (hbm.c 0 (by decide)).2
          have f1 := (hbm.c 1 (by decide)).2
          have f2 := (hbm.c 2 (by decide)).2
          have f3 := (hbm.c 3 (by decide)).2
          simp only [List.getD_cons_zero, List.getD_cons_succ] at x0 x1 x2 x3 y0 y1 y2 y3
          have zq2 := hb2x.lt
          have zbm := hbm.lt
          by_cases hE : E = 0
          · subst hE
            have hG2 : Gd (SV.data ⟨b0, m0, v0, b1, m1, v1, b2, m2, v2, b3, m3, v3, yi, yl, yd, yo⟩) (1 + 24 * ((k + 1 : Nat) : Int)) := by rw [hd2]; exact HGd.out rfl
            obtain ⟨V, hV⟩ : ∃ V : World, V = (((Y.setCell ⟨w.heap.size + 1, 0, none⟩ (.slice b0 m0 v0)).setCell ⟨w.heap.size + 1, 1, none⟩ (.slice b1 m1 v1)).setCell ⟨w.heap.size + 1, 2, none⟩ (.slice b2 m2 v2)).setCell ⟨w.heap.size + 1, 3, none⟩ (.slice b3 m3 v3) := ⟨_, rfl⟩
            have hOV : OwnStore V (w.heap.size + 2) ⟨b0, m0, v0, b1, m1, v1, b2, m2, v2, b3, m3, v3, yi, yl, yd, yo⟩ := by rw [hV]; exact hO2.four (by omega) _ _ _ _
            have bV : BoxN V (w.heap.size + 1) 4 [.slice b0 m0 v0, .slice b1 m1 v1, .slice b2 m2 v2, .slice b3 m3 v3] := by rw [hV]; exact (((hbm.set 0 (by decide) _).set 1 (by decide) _).set 2 (by decide) _).set 3 (by decide) _
            have bVn : BoxN V w.heap.size 4 SV.nil.box := by rw [hV]; exact (((hbn.far (by omega)).far (by omega)).far (by omega)).far (by omega)
            have hbV : Below w.heap.size w V := by rw [hV]; exact below_four hbY (by omega) _ _ _ _
            go_upto_region 4 with (fail)
            rw [← hV]
            clear hV x0 x1 x2 x3 y0 y1 y2 y3 f0 f1 f2 f3 zq2 zbm
            go_wp2
            go_roundw
            case rel => exact ⟨k + 1, ⟨b0, m0, v0, b1, m1, v1, b2, m2, v2, b3, m3, v3, yi, yl, yd, yo⟩, by go_num, by omega, by omega, hG2, hOV, bV, bVn, hbV⟩
            case measure => simp [intOf]; omega
          · have hOk := hOX.below bY
            have hGk : Gd (SV.data ⟨a0, n0, u0, a1, n1, u1, a2, n2, u2, a3, n3, u3, xi, xl, xd, xo⟩) (1 + 24 * ((k + 1 : Nat) : Int)) := hG.mono (by omega)
            go_wp2
            go_roundw
            case rel => exact ⟨k + 1, ⟨a0, n0, u0, a1, n1, u1, a2, n2, u2, a3, n3, u3, xi, xl, xd, xo⟩, by go_num, by omega, by omega, hGk, hOk, hbm, hbn, hbY⟩
            case measure => simp [intOf]; omega
        ·
          have hCall := fun w' h1 => write_own ⟨a0, n0, u0, a1, n1, u1, a2, n2, u2, a3, n3, u3, xi, xl, xd, xo⟩ (pk ra 2, 1 + pk rb 2) (pk rc 5) (pk rd 100) (pk re 5) w' h1 hwf h4
          have HGd : Hid (writeErr ⟨a0, n0, u0, a1, n1, u1, a2, n2, u2, a3, n3, u3, xi, xl, xd, xo⟩ (pk ra 2, 1 + pk rb 2) (pk rc 5) (pk rd 100) (pk re 5) = 0 → Gd (writeData ⟨a0, n0, u0, a1, n1, u1, a2, n2, u2, a3, n3, u3, xi, xl, xd, xo⟩ (pk ra 2, 1 + pk rb 2) (pk rc 5) (pk rd 100) (pk re 5)) (1 + 24 * ((k + 1 : Nat) : Int))) := fun he => (gd_write hG hisT.out (by omega) he).mono (by omega)
          obtain ⟨E, eE⟩ : ∃ E, E = writeErr ⟨a0, n0, u0, a1, n1, u1, a2, n2, u2, a3, n3, u3, xi, xl, xd, xo⟩ (pk ra 2, 1 + pk rb 2) (pk rc 5) (pk rd 100) (pk re 5) := ⟨_, rfl⟩
          obtain ⟨D, eD⟩ : ∃ D, D = writeData ⟨a0, n0, u0, a1, n1, u1, a2, n2, u2, a3, n3, u3, xi, xl, xd, xo⟩ (pk ra 2, 1 + pk rb 2) (pk rc 5) (pk rd 100) (pk re 5) := ⟨_, rfl⟩
          rw [← eE, ← eD] at HGd
          simp only [← eE, ← eD, SV.val] at hCall
          clear eE eD
          go_upto_region 18 with ((go_at_call 10; refine (picked_any _ _ _ (by assumption) (by decide) (by decide)).mono ?_; rintro e u ⟨rfl, hu⟩; rw [hu]; clear hu; (try rw [hZ]); (try rw [hY])))
          go_cut [13, 14] (fun sp se wc => ∃ (q2 : Nat) (r2 : SV), sp = .pointer (some ⟨q2, 0, none⟩) ∧ se = .int .i64 E ∧ BoxN wc q2 4 r2.box ∧ OwnStore wc (w.heap.size + 2) r2 ∧ r2.data = D ∧ Below X.heap.size X wc)
          case first =>
            clear x0 x1 x2 x3 t0 t1 e0 e1 e2 e3 e4 e5
            go_region_held3 (fun U => U.cell? ⟨w.heap.size + 1, 0, none⟩ = some (.slice a0 n0 u0) ∧ U.cell? ⟨w.heap.size + 1, 1, none⟩ = some (.slice a1 n1 u1) ∧ U.cell? ⟨w.heap.size + 1, 2, none⟩ = some (.slice a2 n2 u2) ∧ U.cell? ⟨w.heap.size + 1, 3, none⟩ = some (.slice a3 n3 u3) ∧ U.cell? ⟨q, 0, none⟩ = some (.int .i64 (pk ra 2)) ∧ U.cell? ⟨q, 1, none⟩ = some (.int .i64 (1 + pk rb 2)) ∧ U.cell? ⟨b, off + k * 6 + 4, none⟩ = some (.int .i64 rd) ∧ U.cell? ⟨b, off + k * 6 + 5, none⟩ = some (.int .i64 re))
              (exact KX.out _ (by (with_reducible repeat (first | exact Below.refl _ _ | exact hu2 | refine nD ?_ | refine nA ?_ _ | refine nS ?_ (by first | omega | (simp; done)) _)); done))
              (first | (go_at_call 10; refine (picked_any _ _ _ (by assumption) (by decide) (by decide)).mono ?_; rintro e u ⟨rfl, hu⟩; rw [hu]; clear hu; (try rw [hZ]); (try rw [hY])) | (go_at_call 18; refine (hCall _ (HSX.out _ (by (with_reducible repeat (first | exact Below.refl _ _ | exact hu2 | refine nD ?_ | refine nA ?_ _ | refine nS ?_ (by first | omega | (simp; done)) _)); done))).mono ?_; rintro e w2 ⟨⟨b0, m0, v0, b1, m1, v1, b2, m2, v2, b3, m3, v3, yi, yl, yd, yo⟩, rfl, hO2', hd2, hb2⟩; simp only []; have hu2 : Below X.heap.size X w2 := nT (by (with_reducible repeat (first | exact Below.refl _ _ | exact hu2 | refine nD ?_ | refine nA ?_ _ | refine nS ?_ (by first | omega | (simp; done)) _)); done) hb2; have zu2 := hu2.size; (first | (have bx3 : BoxN w2 X.heap.size 4 [.slice none 0 0, .slice none 0 0, .slice none 0 0, .slice none 0 0] := (boxn_new X.drew #[.slice none 0 0, .slice none 0 0, .slice none 0 0, .slice none 0 0] 41 4 rfl).below hb2 (by simp); have s0 : _ = some (Value.slice none 0 0) := (bx3.c 0 (by decide)).1; have s1 : _ = some (Value.slice none 0 0) := (bx3.c 1 (by decide)).1; have s2 : _ = some (Value.slice none 0 0) := (bx3.c 2 (by decide)).1; have s3 : _ = some (Value.slice none 0 0) := (bx3.c 3 (by decide)).1; have g0 := (bx3.c 0 (by decide)).2; have g1 := (bx3.c 1 (by decide)).2; have g2 := (bx3.c 2 (by decide)).2; have g3 := (bx3.c 3 (by decide)).2; have zbx3 := bx3.lt) | skip)))
            all_goals
              go_wp2_with fail
              go_meet
              case rel => first | exact ⟨_, ⟨b0, m0, v0, b1, m1, v1, b2, m2, v2, b3, m3, v3, yi, yl, yd, yo⟩, rfl, rfl, (((bx3.set 0 (by decide) (.slice b0 m0 v0)).set 1 (by decide) (.slice b1 m1 v1)).set 2 (by decide) (.slice b2 m2 v2)).set 3 (by decide) (.slice b3 m3 v3), (hO2'.four (b := X.heap.size) (by simp) _ _ _ _).base (by simp; omega), hd2, by (with_reducible repeat (first | exact Below.refl _ _ | exact hu2 | refine nD ?_ | refine nA ?_ _ | refine nS ?_ (by first | omega | (simp; done)) _)); done⟩ | exact ⟨_, ⟨b0, m0, v0, b1, m1, v1, b2, m2, v2, b3, m3, v3, yi, yl, yd, yo⟩, rfl, rfl, boxn_new w2 #[.slice b0 m0 v0, .slice b1 m1 v1, .slice b2 m2 v2, .slice b3 m3 v3] _ 4 rfl, (hO2'.below ((Below.refl _ _).alloc (Nat.le_refl _) _)).base (by first | omega | (simp; omega)), hd2, by (with_reducible repeat (first | exact Below.refl _ _ | exact hu2 | refine nD ?_ | refine nA ?_ _ | refine nS ?_ (by first | omega | (simp; done)) _)); done⟩
          case rest =>
            obtain ⟨q2, ⟨b0, m0, v0, b1, m1, v1, b2, m2, v2, b3, m3, v3, yi, yl, yd, yo⟩, rfl, rfl, hb2x, hO2, hd2, bY⟩ := hcut
            obtain ⟨Y, eY⟩ : ∃ Y, Y = wc := ⟨_, rfl⟩
            rw [← eY] at hb2x hO2 bY ⊢
            simp only [SV.box] at hb2x
            clear eY x0 x1 x2 x3 t0 t1 e0 e1 e2 e3 e4 e5
            have hbY : Below w.heap.size w Y := hbX.trans (bY.mono hbX.size)
            have zyl := hbY.size
            have hbm := hbxX.below bY hbxX.lt
            have hbn := hbrX.below bY hbrX.lt
            have x0 := (hb2x.c 0 (by decide)).1
            have x1 := (hb2x.c 1 (by decide)).1
            have x2 := (hb2x.c 2 (by decide)).1
            have x3 := (hb2x.c 3 (by decide)).1
            have y0 := (hbm.c 0 (by decide)).1
            have y1 := (hbm.c 1 (by decide)).1
            have y2 := (hbm.c 2 (by decide)).1
            have y3 := (hbm.c 3 (by decide)).1
            have f0 := (hbm.c 0 (by decide)).2
            have f1 := (hbm.c 1 (by decide)).2
            have f2 := (hbm.c 2 (by decide)).2
            have f3 := (hbm.c 3 (by decide)).2
            simp only [List.getD_cons_zero, List.getD_cons_succ] at x0 x1 x2 x3 y0 y1 y2 y3
            have zq2 := hb2x.lt
            have zbm := hbm.lt
            by_cases hE : E = 0
            · subst hE
              have hG2 : Gd (SV.data ⟨b0, m0, v0, b1, m1, v1, b2, m2, v2, b3, m3, v3, yi, yl, yd, yo⟩) (1 + 24 * ((k + 1 : Nat) : Int)) := by rw [hd2]; exact HGd.out rfl
              obtain ⟨V, hV⟩ : ∃ V : World, V = (((Y.setCell ⟨w.heap.size + 1, 0, none⟩ (.slice b0 m0 v0)).setCell ⟨w.heap.size + 1, 1, none⟩ (.slice b1 m1 v1)).setCell ⟨w.heap.size + 1, 2, none⟩ (.slice b2 m2 v2)).setCell ⟨w.heap.size + 1, 3, none⟩ (.slice b3 m3 v3) := ⟨_, rfl⟩
              have hOV : OwnStore V (w.heap.size + 2) ⟨b0, m0, v0, b1, m1, v1, b2, m2, v2, b3, m3, v3, yi, yl, yd, yo⟩ := by rw [hV]; exact hO2.four (by omega) _ _ _ _
              have bV : BoxN V (w.heap.size + 1) 4 [.slice b0 m0 v0, .slice b1 m1 v1, .slice b2 m2 v2, .slice b3 m3 v3] := by rw [hV]; exact (((hbm.set 0 (by decide) _).set 1 (by decide) _).set 2 (by decide) _).set 3 (by decide) _
              have bVn : BoxN V w.heap.size 4 SV.nil.box := by rw [hV]; exact (((hbn.far (by omega)).far (by omega)).far (by omega)).far (by omega)
              have hbV : Below w.heap.size w V := by rw [hV]; exact below_four hbY (by omega) _ _ _ _
              go_upto_region 4 with (fail)
              rw [← hV]
              clear hV x0 x1 x2 x3 y0 y1 y2 y3 f0 f1 f2 f3 zq2 zbm
              go_wp2
              go_roundw
              case rel => exact ⟨k + 1, ⟨b0, m0, v0, b1, m1, v1, b2, m2, v2, b3, m3, v3, yi, yl, yd, yo⟩, by go_num, by omega, by omega, hG2, hOV, bV, bVn, hbV⟩
              case measure => simp [intOf]; omega
            · have hOk := hOX.below bY
              have hGk : Gd (SV.data ⟨a0, n0, u0, a1, n1, u1, a2, n2, u2, a3, n3, u3, xi, xl, xd, xo⟩) (1 + 24 * ((k + 1 : Nat) : Int)) := hG.mono (by omega)
              go_wp2
              go_roundw
              case rel => exact ⟨k + 1, ⟨a0, n0, u0, a1, n1, u1, a2, n2, u2, a3, n3, u3, xi, xl, xd, xo⟩, by go_num, by omega, by omega, hGk, hOk, hbm, hbn, hbY⟩
              case measure => simp [intOf]; omega
        ·
          have hCall := fun w' h1 => write_own ⟨a0, n0, u0, a1, n1, u1, a2, n2, u2, a3, n3, u3, xi, xl, xd, xo⟩ (pk ra 2, 1 + pk rb 2) (pk rc 5) (pk rd 100) (pk re 5) w' h1 hwf h4
          have HGd : Hid (writeErr ⟨a0, n0, u0, a1, n1, u1, a2, n2, u2, a3, n3, u3, xi, xl, xd, xo⟩ (pk ra 2, 1 + pk rb 2) (pk rc 5) (pk rd 100) (pk re 5) = 0 → Gd (writeData ⟨a0, n0, u0, a1, n1, u1, a2, n2, u2, a3, n3, u3, xi, xl, xd, xo⟩ (pk ra 2, 1 + pk rb 2) (pk rc 5) (pk rd 100) (pk re 5)) (1 + 24 * ((k + 1 : Nat) : Int))) := fun he => (gd_write hG hisT.out (by omega) he).mono (by omega)
          obtain ⟨E, eE⟩ : ∃ E, E = writeErr ⟨a0, n0, u0, a1, n1, u1, a2, n2, u2, a3, n3, u3, xi, xl, xd, xo⟩ (pk ra 2, 1 + pk rb 2) (pk rc 5) (pk rd 100) (pk re 5) := ⟨_, rfl⟩
          obtain ⟨D, eD⟩ : ∃ D, D = writeData ⟨a0, n0, u0, a1, n1, u1, a2, n2, u2, a3, n3, u3, xi, xl, xd, xo⟩ (pk ra 2, 1 + pk rb 2) (pk rc 5) (pk rd 100) (pk re 5) := ⟨_, rfl⟩
          rw [← eE, ← eD] at HGd
          simp only [← eE, ← eD, SV.val] at hCall
          clear eE eD
          go_upto_region 18 with ((go_at_call 10; refine (picked_any _ _ _ (by assumption) (by decide) (by decide)).mono ?_; rintro e u ⟨rfl, hu⟩; rw [hu]; clear hu; (try rw [hZ]); (try rw [hY])))
          go_cut [13, 14] (fun sp se wc => ∃ (q2 : Nat) (r2 : SV), sp = .pointer (some ⟨q2, 0, none⟩) ∧ se = .int .i64 E ∧ BoxN wc q2 4 r2.box ∧ OwnStore wc (w.heap.size + 2) r2 ∧ r2.data = D ∧ Below X.heap.size X wc)
          case first =>
            clear x0 x1 x2 x3 t0 t1 e0 e1 e2 e3 e4 e5
            go_region_held3 (fun U => U.cell? ⟨w.heap.size + 1, 0, none⟩ = some (.slice a0 n0 u0) ∧ U.cell? ⟨w.heap.size + 1, 1, none⟩ = some (.slice a1 n1 u1) ∧ U.cell? ⟨w.heap.size + 1, 2, none⟩ = some (.slice a2 n2 u2) ∧ U.cell? ⟨w.heap.size + 1, 3, none⟩ = some (.slice a3 n3 u3) ∧ U.cell? ⟨q, 0, none⟩ = some (.int .i64 (pk ra 2)) ∧ U.cell? ⟨q, 1, none⟩ = some (.int .i64 (1 + pk rb 2)) ∧ U.cell? ⟨b, off + k * 6 + 4, none⟩ = some (.int .i64 rd) ∧ U.cell? ⟨b, off + k * 6 + 5, none⟩ = some (.int .i64 re))
              (exact KX.out _ (by (with_reducible repeat (first | exact Below.refl _ _ | exact hu2 | refine nD ?_ | refine nA ?_ _ | refine nS ?_ (by first | omega | (simp; done)) _)); done))
              (first | (go_at_call 10; refine (picked_any _ _ _ (by assumption) (by decide) (by decide)).mono ?_; rintro e u ⟨rfl, hu⟩; rw [hu]; clear hu; (try rw [hZ]); (try rw [hY])) | (go_at_call 18; refine (hCall _ (HSX.out _ (by (with_reducible repeat (first | exact Below.refl _ _ | exact hu2 | refine nD ?_ | refine nA ?_ _ | refine nS ?_ (by first | omega | (simp; done)) _)); done))).mono ?_; rintro e w2 ⟨⟨b0, m0, v0, b1, m1, v1, b2, m2, v2, b3, m3, v3, yi, yl, yd, yo⟩, rfl, hO2', hd2, hb2⟩; simp only []; have hu2 : Below X.heap.size X w2 := nT (by (with_reducible repeat (first | exact Below.refl _ _ | exact hu2 | refine nD ?_ | refine nA ?_ _ | refine nS ?_ (by first | omega | (simp; done)) _)); done) hb2; have zu2 := hu2.size; (first | (have bx3 : BoxN w2 X.heap.size 4 [.slice none 0 0, .slice none 0 0, .slice none 0 0, .slice none 0 0] := (boxn_new X.drew #[.slice none 0 0, .slice none 0 0, .slice none 0 0, .slice none 0 0] 41 4 rfl).below hb2 (by simp); have s0 : _ = some (Value.slice none 0 0) := (bx3.c 0 (by decide)).1; have s1 : _ = some (Value.slice none 0 0) := (bx3.c 1 (by decide)).1; have s2 : _ = some (Value.slice none 0 0) := (bx3.c 2 (by decide)).1; have s3 : _ = some (Value.slice none 0 0) := (bx3.c 3 (by decide)).1; have g0 := (bx3.c 0 (by decide)).2; have g1 := (bx3.c 1 (by decide)).2; have g2 := (bx3.c 2 (by decide)).2; have g3 := (bx3.c 3 (by decide)).2; have zbx3 := bx3.lt) | skip)))
            all_goals
              go_wp2_with fail
              go_meet
              case rel => first | exact ⟨_, ⟨b0, m0, v0, b1, m1, v1, b2, m2, v2, b3, m3, v3, yi, yl, yd, yo⟩, rfl, rfl, (((bx3.set 0 (by decide) (.slice b0 m0 v0)).set 1 (by decide) (.slice b1 m1 v1)).set 2 (by decide) (.slice b2 m2 v2)).set 3 (by decide) (.slice b3 m3 v3), (hO2'.four (b := X.heap.size) (by simp) _ _ _ _).base (by simp; omega), hd2, by (with_reducible repeat (first | exact Below.refl _ _ | exact hu2 | refine nD ?_ | refine nA ?_ _ | refine nS ?_ (by first | omega | (simp; done)) _)); done⟩ | exact ⟨_, ⟨b0, m0, v0, b1, m1, v1, b2, m2, v2, b3, m3, v3, yi, yl, yd, yo⟩, rfl, rfl, boxn_new w2 #[.slice b0 m0 v0, .slice b1 m1 v1, .slice b2 m2 v2, .slice b3 m3 v3] _ 4 rfl, (hO2'.below ((Below.refl _ _).alloc (Nat.le_refl _) _)).base (by first | omega | (simp; omega)), hd2, by (with_reducible repeat (first | exact Below.refl _ _ | exact hu2 | refine nD ?_ | refine nA ?_ _ | refine nS ?_ (by first | omega | (simp; done)) _)); done⟩
          case rest =>
            obtain ⟨q2, ⟨b0, m0, v0, b1, m1, v1, b2, m2, v2, b3, m3, v3, yi, yl, yd, yo⟩, rfl, rfl, hb2x, hO2, hd2, bY⟩ := hcut
            obtain ⟨Y, eY⟩ : ∃ Y, Y = wc := ⟨_, rfl⟩
            rw [← eY] at hb2x hO2 bY ⊢
            simp only [SV.box] at hb2x
            clear eY x0 x1 x2 x3 t0 t1 e0 e1 e2 e3 e4 e5
            have hbY : Below w.heap.size w Y := hbX.trans (bY.mono hbX.size)
            have zyl := hbY.size
            have hbm := hbxX.below bY hbxX.lt
            have hbn := hbrX.below bY hbrX.lt
            have x0 := (hb2x.c 0 (by decide)).1
            have x1 := (hb2x.c 1 (by decide)).1
            have x2 := (hb2x.c 2 (by decide)).1
            have x3 := (hb2x.c 3 (by decide)).1
            have y0 := (hbm.c 0 (by decide)).1
            have y1 := (hbm.c 1 (by decide)).1
            have y2 := (hbm.c 2 (by decide)).1
            have y3 := (hbm.c 3 (by decide)).1
            have f0 := (hbm.c 0 (by decide)).2
            have f1 := (hbm.c 1 (by decide)).2
            have f2 := (hbm.c 2 (by decide)).2
            have f3 := (hbm.c 3 (by decide)).2
            simp only [List.getD_cons_zero, List.getD_cons_succ] at x0 x1 x2 x3 y0 y1 y2 y3
            have zq2 := hb2x.lt
            have zbm := hbm.lt
            by_cases hE : E = 0
            · subst hE
              have hG2 : Gd (SV.data ⟨b0, m0, v0, b1, m1, v1, b2, m2, v2, b3, m3, v3, yi, yl, yd, yo⟩) (1 + 24 * ((k + 1 : Nat) : Int)) := by rw [hd2]; exact HGd.out rfl
              obtain ⟨V, hV⟩ : ∃ V : World, V = (((Y.setCell ⟨w.heap.size + 1, 0, none⟩ (.slice b0 m0 v0)).setCell ⟨w.heap.size + 1, 1, none⟩ (.slice b1 m1 v1)).setCell ⟨w.heap.size + 1, 2, none⟩ (.slice b2 m2 v2)).setCell ⟨w.heap.size + 1, 3, none⟩ (.slice b3 m3 v3) := ⟨_, rfl⟩
              have hOV : OwnStore V (w.heap.size + 2) ⟨b0, m0, v0, b1, m1, v1, b2, m2, v2, b3, m3, v3, yi, yl, yd, yo⟩ := by rw [hV]; exact hO2.four (by omega) _ _ _ _
              have bV : BoxN V (w.heap.size + 1) 4 [.slice b0 m0 v0, .slice b1 m1 v1, .slice b2 m2 v2, .slice b3 m3 v3] := by rw [hV]; exact (((hbm.set 0 (by decide) _).set 1 (by decide) _).set 2 (by decide) _).set 3 (by decide) _
              have bVn : BoxN V w.heap.size 4 SV.nil.box := by rw [hV]; exact (((hbn.far (by omega)).far (by omega)).far (by omega)).far (by omega)
              have hbV : Below w.heap.size w V := by rw [hV]; exact below_four hbY (by omega) _ _ _ _
              go_upto_region 4 with (fail)
              rw [← hV]
              clear hV x0 x1 x2 x3 y0 y1 y2 y3 f0 f1 f2 f3 zq2 zbm
              go_wp2
              go_roundw
              case rel => exact ⟨k + 1, ⟨b0, m0, v0, b1, m1, v1, b2, m2, v2, b3, m3, v3, yi, yl, yd, yo⟩, by go_num, by omega, by omega, hG2, hOV, bV, bVn, hbV⟩
              case measure => simp [intOf]; omega
            · have hOk := hOX.below bY
              have hGk : Gd (SV.data ⟨a0, n0, u0, a1, n1, u1, a2, n2, u2, a3, n3, u3, xi, xl, xd, xo⟩) (1 + 24 * ((k + 1 : Nat) : Int)) := hG.mono (by omega)
              go_wp2
              go_roundw
              case rel => exact ⟨k + 1, ⟨a0, n0, u0, a1, n1, u1, a2, n2, u2, a3, n3, u3, xi, xl, xd, xo⟩, by go_num, by omega, by omega, hGk, hOk, hbm, hbn, hbY⟩
              case measure => simp [intOf]; omega
        ·
          have hY2 : pk rd 2 = 0 ∨ pk rd 2 = 1 := by have := pk_bd rd 2 (by decide); omega
          rcases hY2 with hY | hY
          ·
            have hCall := fun w' h1 => end_own ⟨a0, n0, u0, a1, n1, u1, a2, n2, u2, a3, n3, u3, xi, xl, xd, xo⟩ (pk ra 2, 1 + pk rb 2) false w' h1 hwf h4
            have HGd : Hid (endErr ⟨a0, n0, u0, a1, n1, u1, a2, n2, u2, a3, n3, u3, xi, xl, xd, xo⟩ (pk ra 2, 1 + pk rb 2) false = 0 → Gd (endData ⟨a0, n0, u0, a1, n1, u1, a2, n2, u2, a3, n3, u3, xi, xl, xd, xo⟩ (pk ra 2, 1 + pk rb 2) false) (1 + 24 * ((k + 1 : Nat) : Int))) := fun he => (gd_end hG (by omega) (by omega) hisT.out he).mono (by omega)
            obtain ⟨E, eE⟩ : ∃ E, E = endErr ⟨a0, n0, u0, a1, n1, u1, a2, n2, u2, a3, n3, u3, xi, xl, xd, xo⟩ (pk ra 2, 1 + pk rb 2) false := ⟨_, rfl⟩
            obtain ⟨D, eD⟩ : ∃ D, D = endData ⟨a0, n0, u0, a1, n1, u1, a2, n2, u2, a3, n3, u3, xi, xl, xd, xo⟩ (pk ra 2, 1 + pk rb 2) false := ⟨_, rfl⟩
            rw [← eE, ← eD] at HGd
            simp only [← eE, ← eD, SV.val] at hCall
            clear eE eD
            go_upto_region 8 with ((go_at_call 10; refine (picked_any _ _ _ (by assumption) (by decide) (by decide)).mono ?_; rintro e u ⟨rfl, hu⟩; rw [hu]; clear hu; (try rw [hZ]); (try rw [hY])))
            go_cut [15, 16] (fun sp se wc => ∃ (q2 : Nat) (r2 : SV), sp = .pointer (some ⟨q2, 0, none⟩) ∧ se = .int .i64 E ∧ BoxN wc q2 4 r2.box ∧ OwnStore wc (w.heap.size + 2) r2 ∧ r2.data = D ∧ Below X.heap.size X wc)
            case first =>
              clear x0 x1 x2 x3 t0 t1 e0 e1 e2 e3 e4 e5
              go_region_held3 (fun U => U.cell? ⟨w.heap.size + 1, 0, none⟩ = some (.slice a0 n0 u0) ∧ U.cell? ⟨w.heap.size + 1, 1, none⟩ = some (.slice a1 n1 u1) ∧ U.cell? ⟨w.heap.size + 1, 2, none⟩ = some (.slice a2 n2 u2) ∧ U.cell? ⟨w.heap.size + 1, 3, none⟩ = some (.slice a3 n3 u3) ∧ U.cell? ⟨q, 0, none⟩ = some (.int .i64 (pk ra 2)) ∧ U.cell? ⟨q, 1, none⟩ = some (.int .i64 (1 + pk rb 2)) ∧ U.cell? ⟨b, off + k * 6 + 4, none⟩ = some (.int .i64 rd) ∧ U.cell? ⟨b, off + k * 6 + 5, none⟩ = some (.int .i64 re))
                (exact KX.out _ (by (with_reducible repeat (first | exact Below.refl _ _ | exact hu2 | refine nD ?_ | refine nA ?_ _ | refine nS ?_ (by first | omega | (simp; done)) _)); done))
                (first | (go_at_call 10; refine (picked_any _ _ _ (by assumption) (by decide) (by decide)).mono ?_; rintro e u ⟨rfl, hu⟩; rw [hu]; clear hu; (try rw [hZ]); (try rw [hY])) | (go_at_call 19; refine (hCall _ (HSX.out _ (by (with_reducible repeat (first | exact Below.refl _ _ | exact hu2 | refine nD ?_ | refine nA ?_ _ | refine nS ?_ (by first | omega | (simp; done)) _)); done))).mono ?_; rintro e w2 ⟨⟨b0, m0, v0, b1, m1, v1, b2, m2, v2, b3, m3, v3, yi, yl, yd, yo⟩, rfl, hO2', hd2, hb2⟩; simp only []; have hu2 : Below X.heap.size X w2 := nT (by (with_reducible repeat (first | exact Below.refl _ _ | exact hu2 | refine nD ?_ | refine nA ?_ _ | refine nS ?_ (by first | omega | (simp; done)) _)); done) hb2; have zu2 := hu2.size; (first | (have bx3 : BoxN w2 X.heap.size 4 [.slice none 0 0, .slice none 0 0, .slice none 0 0, .slice none 0 0] := (boxn_new X.drew #[.slice none 0 0, .slice none 0 0, .slice none 0 0, .slice none 0 0] 41 4 rfl).below hb2 (by simp); have s0 : _ = some (Value.slice none 0 0) := (bx3.c 0 (by decide)).1; have s1 : _ = some (Value.slice none 0 0) := (bx3.c 1 (by decide)).1; have s2 : _ = some (Value.slice none 0 0) := (bx3.c 2 (by decide)).1; have s3 : _ = some (Value.slice none 0 0) := (bx3.c 3 (by decide)).1; have g0 := (bx3.c 0 (by decide)).2; have g1 := (bx3.c 1 (by decide)).2; have g2 := (bx3.c 2 (by decide)).2; have g3 := (bx3.c 3 (by decide)).2; have zbx3 := bx3.lt) | skip)))
              all_goals
                go_wp2_with fail
                go_meet
                case rel => first | exact ⟨_, ⟨b0, m0, v0, b1, m1, v1, b2, m2, v2, b3, m3, v3, yi, yl, yd, yo⟩, rfl, rfl, (((bx3.set 0 (by decide) (.slice b0 m0 v0)).set 1 (by decide) (.slice b1 m1 v1)).set 2 (by decide) (.slice b2 m2 v2)).set 3 (by decide) (.slice b3 m3 v3), (hO2'.four (b := X.heap.size) (by simp) _ _ _ _).base (by simp; omega), hd2, by (with_reducible repeat (first | exact Below.refl _ _ | exact hu2 | refine nD ?_ | refine nA ?_ _ | refine nS ?_ (by first | omega | (simp; done)) _)); done⟩ | exact ⟨_, ⟨b0, m0, v0, b1, m1, v1, b2, m2, v2, b3, m3, v3, yi, yl, yd, yo⟩, rfl, rfl, boxn_new w2 #[.slice b0 m0 v0, .slice b1 m1 v1, .slice b2 m2 v2, .slice b3 m3 v3] _ 4 rfl, (hO2'.below ((Below.refl _ _).alloc (Nat.le_refl _) _)).base (by first | omega | (simp; omega)), hd2, by (with_reducible repeat (first | exact Below.refl _ _ | exact hu2 | refine nD ?_ | refine nA ?_ _ | refine nS ?_ (by first | omega | (simp; done)) _)); done⟩
            case rest =>
              obtain ⟨q2, ⟨b0, m0, v0, b1, m1, v1, b2, m2, v2, b3, m3, v3, yi, yl, yd, yo⟩, rfl, rfl, hb2x, hO2, hd2, bY⟩ := hcut
              obtain ⟨Y, eY⟩ : ∃ Y, Y = wc := ⟨_, rfl⟩
              rw [← eY] at hb2x hO2 bY ⊢
              simp only [SV.box] at hb2x
              clear eY x0 x1 x2 x3 t0 t1 e0 e1 e2 e3 e4 e5
              have hbY : Below w.heap.size w Y := hbX.trans (bY.mono hbX.size)
              have zyl := hbY.size
              have hbm := hbxX.below bY hbxX.lt
              have hbn := hbrX.below bY hbrX.lt
              have x0 := (hb2x.c 0 (by decide)).1
              have x1 := (hb2x.c 1 (by decide)).1
              have x2 := (hb2x.c 2 (by decide)).1
              have x3 := (hb2x.c 3 (by decide)).1
              have y0 := (hbm.c 0 (by decide)).1
              have y1 := (hbm.c 1 (by decide)).1
              have y2 := (hbm.c 2 (by decide)).1
              have y3 := (hbm.c 3 (by decide)).1
              have f0 := (hbm.c 0 (by decide)).2
              have f1 := (hbm.c 1 (by decide)).2
              have f2 := (hbm.c 2 (by decide)).2
              have f3 := (hbm.c 3 (by decide)).2
              simp only [List.getD_cons_zero, List.getD_cons_succ] at x0 x1 x2 x3 y0 y1 y2 y3
              have zq2 := hb2x.lt
              have zbm := hbm.lt
              by_cases hE : E = 0
              · subst hE
                have hG2 : Gd (SV.data ⟨b0, m0, v0, b1, m1, v1, b2, m2, v2, b3, m3, v3, yi, yl, yd, yo⟩) (1 + 24 * ((k + 1 : Nat) : Int)) := by rw [hd2]; exact HGd.out rfl
                obtain ⟨V, hV⟩ : ∃ V : World, V = (((Y.setCell ⟨w.heap.size + 1, 0, none⟩ (.slice b0 m0 v0)).setCell ⟨w.heap.size + 1, 1, none⟩ (.slice b1 m1 v1)).setCell ⟨w.heap.size + 1, 2, none⟩ (.slice b2 m2 v2)).setCell ⟨w.heap.size + 1, 3, none⟩ (.slice b3 m3 v3) := ⟨_, rfl⟩
                have hOV : OwnStore V (w.heap.size + 2) ⟨b0, m0, v0, b1, m1, v1, b2, m2, v2, b3, m3, v3, yi, yl, yd, yo⟩ := by rw [hV]; exact hO2.four (by omega) _ _ _ _
                have bV : BoxN V (w.heap.size + 1) 4 [.slice b0 m0 v0, .slice b1 m1 v1, .slice b2 m2 v2, .slice b3 m3 v3] := by rw [hV]; exact (((hbm.set 0 (by decide) _).set 1 (by decide) _).set 2 (by decide) _).set 3 (by decide) _
                have bVn : BoxN V w.heap.size 4 SV.nil.box := by rw [hV]; exact (((hbn.far (by omega)).far (by omega)).far (by omega)).far (by omega)
                have hbV : Below w.heap.size w V := by rw [hV]; exact below_four hbY (by omega) _ _ _ _
                go_upto_region 4 with (fail)
                rw [← hV]
                clear hV x0 x1 x2 x3 y0 y1 y2 y3 f0 f1 f2 f3 zq2 zbm
                go_wp2
                go_roundw
                case rel => exact ⟨k + 1, ⟨b0, m0, v0, b1, m1, v1, b2, m2, v2, b3, m3, v3, yi, yl, yd, yo⟩, by go_num, by omega, by omega, hG2, hOV, bV, bVn, hbV⟩
                case measure => simp [intOf]; omega
              · have hOk := hOX.below bY
                have hGk : Gd (SV.data ⟨a0, n0, u0, a1, n1, u1, a2, n2, u2, a3, n3, u3, xi, xl, xd, xo⟩) (1 + 24 * ((k + 1 : Nat) : Int)) := hG.mono (by omega)
                go_wp2
                go_roundw
                case rel => exact ⟨k + 1, ⟨a0, n0, u0, a1, n1, u1, a2, n2, u2, a3, n3, u3, xi, xl, xd, xo⟩, by go_num, by omega, by omega, hGk, hOk, hbm, hbn, hbY⟩
                case measure => simp [intOf]; omega
          ·
            have hCall := fun w' h1 => end_own ⟨a0, n0, u0, a1, n1, u1, a2, n2, u2, a3, n3, u3, xi, xl, xd, xo⟩ (pk ra 2, 1 + pk rb 2) true w' h1 hwf h4
            have HGd : Hid (endErr ⟨a0, n0, u0, a1, n1, u1, a2, n2, u2, a3, n3, u3, xi, xl, xd, xo⟩ (pk ra 2, 1 + pk rb 2) true = 0 → Gd (endData ⟨a0, n0, u0, a1, n1, u1, a2, n2, u2, a3, n3, u3, xi, xl, xd, xo⟩ (pk ra 2, 1 + pk rb 2) true) (1 + 24 * ((k + 1 : Nat) : Int))) := fun he => (gd_end hG (by omega) (by omega) hisT.out he).mono (by omega)
            obtain ⟨E, eE⟩ : ∃ E, E = endErr ⟨a0, n0, u0, a1, n1, u1, a2, n2, u2, a3, n3, u3, xi, xl, xd, xo⟩ (pk ra 2, 1 + pk rb 2) true := ⟨_, rfl⟩
            obtain ⟨D, eD⟩ : ∃ D, D = endData ⟨a0, n0, u0, a1, n1, u1, a2, n2, u2, a3, n3, u3, xi, xl, xd, xo⟩ (pk ra 2, 1 + pk rb 2) true := ⟨_, rfl⟩
            rw [← eE, ← eD] at HGd
            simp only [← eE, ← eD, SV.val] at hCall
            clear eE eD
            go_upto_region 8 with ((go_at_call 10; refine (picked_any _ _ _ (by assumption) (by decide) (by decide)).mono ?_; rintro e u ⟨rfl, hu⟩; rw [hu]; clear hu; (try rw [hZ]); (try rw [hY])))
            go_cut [15, 16] (fun sp se wc => ∃ (q2 : Nat) (r2 : SV), sp = .pointer (some ⟨q2, 0, none⟩) ∧ se = .int .i64 E ∧ BoxN wc q2 4 r2.box ∧ OwnStore wc (w.heap.size + 2) r2 ∧ r2.data = D ∧ Below X.heap.size X wc)
            case first =>
              clear x0 x1 x2 x3 t0 t1 e0 e1 e2 e3 e4 e5
              go_region_held3 (fun U => U.cell? ⟨w.heap.size + 1, 0, none⟩ = some (.slice a0 n0 u0) ∧ U.cell? ⟨w.heap.size + 1, 1, none⟩ = some (.slice a1 n1 u1) ∧ U.cell? ⟨w.heap.size + 1, 2, none⟩ = some (.slice a2 n2 u2) ∧ U.cell? ⟨w.heap.size + 1, 3, none⟩ = some (.slice a3 n3 u3) ∧ U.cell? ⟨q, 0, none⟩ = some (.int .i64 (pk ra 2)) ∧ U.cell? ⟨q, 1, none⟩ = some (.int .i64 (1 + pk rb 2)) ∧ U.cell? ⟨b, off + k * 6 + 4, none⟩ = some (.int .i64 rd) ∧ U.cell? ⟨b, off + k * 6 + 5, none⟩ = some (.int .i64 re))
                (exact KX.out _ (by (with_reducible repeat (first | exact Below.refl _ _ | exact hu2 | refine nD ?_ | refine nA ?_ _ | refine nS ?_ (by first | omega | (simp; done)) _)); done))
                (first | (go_at_call 10; refine (picked_any _ _ _ (by assumption) (by decide) (by decide)).mono ?_; rintro e u ⟨rfl, hu⟩; rw [hu]; clear hu; (try rw [hZ]); (try rw [hY])) | (go_at_call 19; refine (hCall _ (HSX.out _ (by (with_reducible repeat (first | exact Below.refl _ _ | exact hu2 | refine nD ?_ | refine nA ?_ _ | refine nS ?_ (by first | omega | (simp; done)) _)); done))).mono ?_; rintro e w2 ⟨⟨b0, m0, v0, b1, m1, v1, b2, m2, v2, b3, m3, v3, yi, yl, yd, yo⟩, rfl, hO2', hd2, hb2⟩; simp only []; have hu2 : Below X.heap.size X w2 := nT (by (with_reducible repeat (first | exact Below.refl _ _ | exact hu2 | refine nD ?_ | refine nA ?_ _ | refine nS ?_ (by first | omega | (simp; done)) _)); done) hb2; have zu2 := hu2.size; (first | (have bx3 : BoxN w2 X.heap.size 4 [.slice none 0 0, .slice none 0 0, .slice none 0 0, .slice none 0 0] := (boxn_new X.drew #[.slice none 0 0, .slice none 0 0, .slice none 0 0, .slice none 0 0] 41 4 rfl).below hb2 (by simp); have s0 : _ = some (Value.slice none 0 0) := (bx3.c 0 (by decide)).1; have s1 : _ = some (Value.slice none 0 0) := (bx3.c 1 (by decide)).1; have s2 : _ = some (Value.slice none 0 0) := (bx3.c 2 (by decide)).1; have s3 : _ = some (Value.slice none 0 0) := (bx3.c 3 (by decide)).1; have g0 := (bx3.c 0 (by decide)).2; have g1 := (bx3.c 1 (by decide)).2; have g2 := (bx3.c 2 (by decide)).2; have g3 := (bx3.c 3 (by decide)).2; have zbx3 := bx3.lt) | skip)))
              all_goals
                go_wp2_with fail
                go_meet
                case rel => first | exact ⟨_, ⟨b0, m0, v0, b1, m1, v1, b2, m2, v2, b3, m3, v3, yi, yl, yd, yo⟩, rfl, rfl, (((bx3.set 0 (by decide) (.slice b0 m0 v0)).set 1 (by decide) (.slice b1 m1 v1)).set 2 (by decide) (.slice b2 m2 v2)).set 3 (by decide) (.slice b3 m3 v3), (hO2'.four (b := X.heap.size) (by simp) _ _ _ _).base (by simp; omega), hd2, by (with_reducible repeat (first | exact Below.refl _ _ | exact hu2 | refine nD ?_ | refine nA ?_ _ | refine nS ?_ (by first | omega | (simp; done)) _)); done⟩ | exact ⟨_, ⟨b0, m0, v0, b1, m1, v1, b2, m2, v2, b3, m3, v3, yi, yl, yd, yo⟩, rfl, rfl, boxn_new w2 #[.slice b0 m0 v0, .slice b1 m1 v1, .slice b2 m2 v2, .slice b3 m3 v3] _ 4 rfl, (hO2'.below ((Below.refl _ _).alloc (Nat.le_refl _) _)).base (by first | omega | (simp; omega)), hd2, by (with_reducible repeat (first | exact Below.refl _ _ | exact hu2 | refine nD ?_ | refine nA ?_ _ | refine nS ?_ (by first | omega | (simp; done)) _)); done⟩
            case rest =>
              obtain ⟨q2, ⟨b0, m0, v0, b1, m1, v1, b2, m2, v2, b3, m3, v3, yi, yl, yd, yo⟩, rfl, rfl, hb2x, hO2, hd2, bY⟩ := hcut
              obtain ⟨Y, eY⟩ : ∃ Y, Y = wc := ⟨_, rfl⟩
              rw [← eY] at hb2x hO2 bY ⊢
              simp only [SV.box] at hb2x
              clear eY x0 x1 x2 x3 t0 t1 e0 e1 e2 e3 e4 e5
              have hbY : Below w.heap.size w Y := hbX.trans (bY.mono hbX.size)
              have zyl := hbY.size
              have hbm := hbxX.below bY hbxX.lt
              have hbn := hbrX.below bY hbrX.lt
              have x0 := (hb2x.c 0 (by decide)).1
              have x1 := (hb2x.c 1 (by decide)).1
              have x2 := (hb2x.c 2 (by decide)).1
              have x3 := (hb2x.c 3 (by decide)).1
              have y0 := (hbm.c 0 (by decide)).1
              have y1 := (hbm.c 1 (by decide)).1
              have y2 := (hbm.c 2 (by decide)).1
              have y3 := (hbm.c 3 (by decide)).1
              have f0 := (hbm.c 0 (by decide)).2
              have f1 := (hbm.c 1 (by decide)).2
              have f2 := (hbm.c 2 (by decide)).2
              have f3 := (hbm.c 3 (by decide)).2
              simp only [List.getD_cons_zero, List.getD_cons_succ] at x0 x1 x2 x3 y0 y1 y2 y3
              have zq2 := hb2x.lt
              have zbm := hbm.lt
              by_cases hE : E = 0
              · subst hE
                have hG2 : Gd (SV.data ⟨b0, m0, v0, b1, m1, v1, b2, m2, v2, b3, m3, v3, yi, yl, yd, yo⟩) (1 + 24 * ((k + 1 : Nat) : Int)) := by rw [hd2]; exact HGd.out rfl
                obtain ⟨V, hV⟩ : ∃ V : World, V = (((Y.setCell ⟨w.heap.size + 1, 0, none⟩ (.slice b0 m0 v0)).setCell ⟨w.heap.size + 1, 1, none⟩ (.slice b1 m1 v1)).setCell ⟨w.heap.size + 1, 2, none⟩ (.slice b2 m2 v2)).setCell ⟨w.heap.size + 1, 3, none⟩ (.slice b3 m3 v3) := ⟨_, rfl⟩
                have hOV : OwnStore V (w.heap.size + 2) ⟨b0, m0, v0, b1, m1, v1, b2, m2, v2, b3, m3, v3, yi, yl, yd, yo⟩ := by rw [hV]; exact hO2.four (by omega) _ _ _ _
                have bV : BoxN V (w.heap.size + 1) 4 [.slice b0 m0 v0, .slice b1 m1 v1, .slice b2 m2 v2, .slice b3 m3 v3] := by rw [hV]; exact (((hbm.set 0 (by decide) _).set 1 (by decide) _).set 2 (by decide) _).set 3 (by decide) _
                have bVn : BoxN V w.heap.size 4 SV.nil.box := by rw [hV]; exact (((hbn.far (by omega)).far (by omega)).far (by omega)).far (by omega)
                have hbV : Below w.heap.size w V := by rw [hV]; exact below_four hbY (by omega) _ _ _ _
                go_upto_region 4 with (fail)
                rw [← hV]
                clear hV x0 x1 x2 x3 y0 y1 y2 y3 f0 f1 f2 f3 zq2 zbm
                go_wp2
                go_roundw
                case rel => exact ⟨k + 1, ⟨b0, m0, v0, b1, m1, v1, b2, m2, v2, b3, m3, v3, yi, yl, yd, yo⟩, by go_num, by omega, by omega, hG2, hOV, bV, bVn, hbV⟩
                case measure => simp [intOf]; omega
              · have hOk := hOX.below bY
                have hGk : Gd (SV.data ⟨a0, n0, u0, a1, n1, u1, a2, n2, u2, a3, n3, u3, xi, xl, xd, xo⟩) (1 + 24 * ((k + 1 : Nat) : Int)) := hG.mono (by omega)
                go_wp2
                go_roundw
                case rel => exact ⟨k + 1, ⟨a0, n0, u0, a1, n1, u1, a2, n2, u2, a3, n3, u3, xi, xl, xd, xo⟩, by go_num, by omega, by omega, hGk, hOk, hbm, hbn, hbY⟩
                case measure => simp [intOf]; omega
    · have hfin : Gd (SV.data ⟨a0, n0, u0, a1, n1, u1, a2, n2, u2, a3, n3, u3, xi, xl, xd, xo⟩) 961 := hG.mono (by omega)
      simp only [SV.box] at hbx
      have x0 := (hbx.c 0 (by decide)).1
      have x1 := (hbx.c 1 (by decide)).1
      have x2 := (hbx.c 2 (by decide)).1
      have x3 := (hbx.c 3 (by decide)).1
      have r0 := (hbr.c 0 (by decide)).1
      have r1 := (hbr.c 1 (by decide)).1
      have r2 := (hbr.c 2 (by decide)).1
      have r3 := (hbr.c 3 (by decide)).1
      have f0 := (hbr.c 0 (by decide)).2
      have f1 := (hbr.c 1 (by decide)).2
      have f2 := (hbr.c 2 (by decide)).2
      have f3 := (hbr.c 3 (by decide)).2
      simp only [List.getD_cons_zero, List.getD_cons_succ, SV.nil, SV.box] at x0 x1 x2 x3 r0 r1 r2 r3
      have z1 := hbx.lt
      have z0 := hbr.lt
      have hkl : ¬ ((k : Int) < (len : Int)) ∨ ((k : Int) < (len : Int) ∧ ¬ ((k : Int) < M)) := by
        by_cases hq : (k : Int) < (len : Int)
        · exact .inr ⟨hq, fun e => hlt ⟨by omega, e⟩⟩
        · exact .inl hq
      rcases hkl with hq | ⟨hq, hq2⟩
      all_goals
        go_wp2
        refine bodyPost_ret (v := .agg #[.slice a0 n0 u0, .slice a1 n1 u1, .slice a2 n2 u2, .slice a3 n3 u3]) (by simp [results, Tryd.results11, go_sem, r0, r1, r2, r3]) rfl ?_
        exact ⟨⟨a0, n0, u0, a1, n1, u1, a2, n2, u2, a3, n3, u3, xi, xl, xd, xo⟩, rfl, (hO.four (b := w.heap.size) (by omega) _ _ _ _).base (by omega), hfin, below_four hb (Nat.le_refl _) _ _ _ _⟩
end Go.Proofs.YtcmjcopopkafnaaDoor.St
/- What Read and Write do for a transaction that a store does not know yet; what Read, Write and End then find. -/
namespace Go.Proofs.YtcmjcopopkafnaaDoor.St
open Go.ChangeShapes Go.WideShapes Go.ChangeAt Go.RowKit
set_option linter.unusedVariables false

structure Fresh (p : PS) (x : Int × Int) : Prop where
  nl : ∀ k ∈ p.locks, k.t ≠ x
  nov : x ∉ p.over
  nd : ∀ d ∈ p.doubts, d.t ≠ x
  okx : txOK x = true
theorem Gd.fresh {p : PS} {v : Int} (h : Gd p v) {a b : Int} (h1 : 2 ≤ a) (h2 : a ≤ 3) (h3 : 1 ≤ b) (h4 : b ≤ 100) : Fresh p (a, b) := by
  have key : ¬ isT (a, b) := by
    simp only [isT, List.mem_cons, List.not_mem_nil, or_false, Prod.mk.injEq]
    omega
  refine ⟨fun k hk e => key (e ▸ (h.lt k hk).1), fun e => key (h.ot _ e), fun d hd e => ?_, ?_⟩
  · obtain ⟨k, hk, e2⟩ := h.ok.dl d hd
    exact key (by rw [← e, ← e2]; exact (h.lt k hk).1)
  · simp only [txOK, Bool.and_eq_true]
    exact ⟨inR_true (by show (0 : Int) ≤ a; omega) h2, inR_true h3 (by show b ≤ 1048576; omega)⟩
theorem Fresh.idx {p : PS} {x : Int × Int} (h : Fresh p x) (k : Int) : idxI (byT x k) p.locks < 0 := idx_neg fun o ho => by simp [byT, h.nl o ho]
theorem Fresh.holdL {p : PS} {x : Int × Int} (h : Fresh p x) (k : Int) (wr : Bool) (va ask : Int) : holdL p.locks ⟨x, k, wr, va, ask⟩ = p.locks ++ [⟨x, k, wr, va, ask⟩] := by
  have := h.idx k
  unfold St.holdL
  rw [if_neg (Int.not_le.mpr this)]
theorem Fresh.holdD {p : PS} {x : Int × Int} (h : Fresh p x) : holdD p.doubts x = p.doubts ++ [⟨x, 0⟩] := by
  have : p.doubts.any (dbT x) = false := List.any_eq_false.2 fun d hd => by simp [dbT, h.nd d hd]
  unfold St.holdD
  rw [this]
  rfl
theorem itemAt_nil (k : Int) : itemAt [] k = ⟨k, 0, 0⟩ := rfl
theorem itemAt_cons (x : ItV) (r : List ItV) (k : Int) : itemAt (x :: r) k = if x.key = k then x else itemAt r k := by
  unfold itemAt idxI
  rw [List.findIdx?_cons]
  by_cases h : x.key = k
  · simp [kyT, h]
  · have : kyT k x = false := by simp [kyT, h]
    rw [this]
    cases e : r.findIdx? (kyT k) with
    | none => simp [h]
    | some q =>
      rw [if_neg h]
      show (if ((q + 1 : Nat) : Int) < 0 then _ else (x :: r).getD (((q + 1 : Nat) : Int)).toNat default) = (if ((q : Nat) : Int) < 0 then _ else r.getD ((q : Nat) : Int).toNat default)
      rw [if_neg (by omega), if_neg (by omega)]
      rfl
theorem itemAt_none {k : Int} : ∀ {l : List ItV}, (∀ x ∈ l, x.key ≠ k) → itemAt l k = ⟨k, 0, 0⟩
  | [], _ => rfl
  | x :: r, h => by rw [itemAt_cons, if_neg (h x (by simp)), itemAt_none fun y hy => h y (by simp [hy])]
theorem itemAt_bd {v k : Int} (hv : 0 ≤ v) : ∀ {l : List ItV}, (∀ x ∈ l, x.version ≤ v) → (itemAt l k).version ≤ v
  | [], _ => hv
  | x :: r, h => by
    rw [itemAt_cons]
    split
    · exact h x (by simp)
    · exact itemAt_bd hv fun y hy => h y (by simp [hy])
theorem itemAt_put (k va : Int) : ∀ (xs : List ItV) (lo : Int), itemsOK lo xs = true → itemAt (putI k va xs) k = ⟨k, va, (itemAt xs k).version + 1⟩
  | [], lo, _ => by simp [putI, itemAt_cons, itemAt_nil]
  | x :: r, lo, h => by
    simp only [itemsOK, Bool.and_eq_true] at h
    have hge := itemsOK_ge r _ h.2
    rw [putI]
    split
    · rename_i e
      rw [itemAt_cons, if_pos rfl, itemAt_cons, if_pos e]
    · rename_i e
      split
      · rename_i e2
        rw [itemAt_cons, if_pos rfl, itemAt_none (l := x :: r) (fun y hy => ?_)]
        · rfl
        · rcases List.mem_cons.1 hy with rfl | hy
          · exact e
          · have := hge y hy; omega
      · rw [itemAt_cons, if_neg e, itemAt_cons, if_neg e, itemAt_put k va r _ h.2]
theorem ref0 {s : SV} {x : Int × Int} {k : Int} (ho : OKP s.data) (hx : txOK x = true) (hk : inR k 0 7 = true) : refErr s x k = 0 := by
  unfold refErr
  rw [if_pos ho.ok, hx, hk]
  rfl
/-- Who reads a key for the first time. -/
theorem read_fresh {s : SV} {x : Int × Int} {k : Int} (ho : OKP s.data) (h20 : s.locks.length ≤ 22) (hF : Fresh s.data x) (hk : inR k 0 7 = true) :
    (s.locks.any (wrT k) = true → readErr s x k = 11 ∧ readVal s x k = 0 ∧ readVer s x k = 0) ∧ (s.locks.any (wrT k) = false → readErr s x k = 0 ∧ readVal s x k = (itemAt s.items k).value ∧ readVer s x k = (itemAt s.items k).version ∧ readData s x k = ⟨s.items, s.locks ++ [⟨x, k, false, 0, 0⟩], s.doubts ++ [⟨x, 0⟩], s.over⟩) := by
  have h0 := ref0 ho hF.okx hk
  have hi : idxI (byT x k) s.locks < 0 := hF.idx k
  have hn : x ∉ s.over := hF.nov
  have hE : readErr s x k = if s.locks.any (wrT k) then 11 else 0 := by
    unfold readErr
    rw [if_pos h0, if_pos hi]
    unfold rrErr
    rw [if_neg hn, if_neg (show ¬ 24 ≤ s.locks.length by omega)]
  constructor
  · intro h
    rw [h] at hE
    have hE' : readErr s x k = 11 := hE
    exact ⟨hE', by unfold readVal; rw [hE']; rfl, by unfold readVer; rw [hE']; rfl⟩
  · intro h
    rw [h] at hE
    have hE' : readErr s x k = 0 := hE
    refine ⟨hE', ?_, ?_, ?_⟩
    · unfold readVal
      rw [if_pos hE', if_neg (fun e => by omega)]
    · unfold readVer
      rw [if_pos hE']
    · unfold readData
      rw [if_pos hE', if_pos hi]
      have e1 : holdL s.locks ⟨x, k, false, 0, 0⟩ = s.locks ++ [⟨x, k, false, 0, 0⟩] := hF.holdL k false 0 0
      have e2 : holdD s.doubts x = s.doubts ++ [⟨x, 0⟩] := hF.holdD
      rw [e1, e2]
/-- Who writes a key for the first time. -/
theorem write_fresh {s : SV} {x : Int × Int} {k va ask : Int} (ho : OKP s.data) (h20 : s.locks.length ≤ 22) (hF : Fresh s.data x) (hk : inR k 0 7 = true) (hva : inR va 0 1073741824 = true) (hask : inR ask 0 1048576 = true) (hver : ∀ y ∈ s.items, y.version ≤ 1048000) :
    (s.locks.any (othT x k) = true → writeErr s x k va ask = 11) ∧ (s.locks.any (othT x k) = false → writeErr s x k va ask = 0 ∧ writeData s x k va ask = ⟨s.items, s.locks ++ [⟨x, k, true, va, ask⟩], s.doubts ++ [⟨x, 0⟩], s.over⟩) := by
  have h0 := ref0 ho hF.okx hk
  have hi : idxI (byT x k) s.locks < 0 := hF.idx k
  have hn : x ∉ s.over := hF.nov
  have hl : lateT s x k ask = false := by
    unfold lateT
    rw [decide_eq_false hn, decide_eq_false (Int.not_le.mpr hi)]
    rfl
  have hE : writeErr s x k va ask = if s.locks.any (othT x k) then 11 else 0 := by
    unfold writeErr
    rw [if_pos h0, hva, hask]
    unfold rwErr
    have hb := itemAt_bd (k := k) (v := 1048000) (by omega) hver
    rw [hl, if_neg (show ¬ (idxI (byT x k) s.locks < 0 ∧ 24 ≤ s.locks.length) by omega), if_neg (show ¬ 1048576 ≤ (itemAt s.items k).version by omega)]
    rfl
  constructor
  · intro h
    rw [hE, h]
    rfl
  · intro h
    rw [h] at hE
    have hE' : writeErr s x k va ask = 0 := hE
    refine ⟨hE', ?_⟩
    unfold writeData
    rw [if_pos hE']
    have e1 : holdL s.locks ⟨x, k, true, va, ask⟩ = s.locks ++ [⟨x, k, true, va, ask⟩] := hF.holdL k true va ask
    have e2 : holdD s.doubts x = s.doubts ++ [⟨x, 0⟩] := hF.holdD
    rw [e1, e2]
/-- The lock that stands last is the one that is found. -/
theorem idx_last {l : List LkV} {x : Int × Int} {k : Int} {wr : Bool} {va ask : Int} (h : ∀ o ∈ l, o.t ≠ x) : idxI (byT x k) (l ++ [⟨x, k, wr, va, ask⟩]) = (l.length : Int) ∧ (l ++ [(⟨x, k, wr, va, ask⟩ : LkV)]).getD l.length default = ⟨x, k, wr, va, ask⟩ := by
  have e : (l ++ [(⟨x, k, wr, va, ask⟩ : LkV)]).getD l.length default = ⟨x, k, wr, va, ask⟩ := by simp [List.getD]
  refine ⟨idxI_hit (by simp) (fun i hi => ?_) (by rw [e]; simp [byT]), e⟩
  have hm : (l ++ [(⟨x, k, wr, va, ask⟩ : LkV)]).getD i default = l.getD i default := by rw [List.getD, List.getD, List.getElem?_append_left hi]
  rw [hm]
  have := h _ (getD_mem hi)
  simp only [byT, decide_eq_false this, Bool.false_and]
/-- A store with one lock more, of a transaction that it did not know. -/
structure Plus (p q : PS) (L : LkV) : Prop where
  items : q.items = p.items
  locks : q.locks = p.locks ++ [L]
  doubts : q.doubts = p.doubts ++ [⟨L.t, 0⟩]
  over : q.over = p.over
theorem Plus.of {p q : PS} {L : LkV} (h : q = ⟨p.items, p.locks ++ [L], p.doubts ++ [⟨L.t, 0⟩], p.over⟩) : Plus p q L := by subst h; exact ⟨rfl, rfl, rfl, rfl⟩
/-- Who has a lock reads its own. -/
theorem read_again {p : PS} {u : SV} {x : Int × Int} {k : Int} {wr : Bool} {va ask : Int} (hF : Fresh p x) (hP : Plus p u.data ⟨x, k, wr, va, ask⟩) (ho : OKP u.data) (hk : inR k 0 7 = true) :
    readErr u x k = 0 ∧ readVal u x k = (if wr then va else (itemAt p.items k).value) ∧ readVer u x k = (itemAt p.items k).version ∧ readData u x k = u.data := by
  have h0 := ref0 ho hF.okx hk
  have el : u.locks = p.locks ++ [⟨x, k, wr, va, ask⟩] := hP.locks
  have ei : u.items = p.items := hP.items
  obtain ⟨i1, i2⟩ := idx_last (k := k) (wr := wr) (va := va) (ask := ask) hF.nl
  have hE : readErr u x k = 0 := by
    unfold readErr
    rw [if_pos h0, el, i1, if_neg (by omega)]
  refine ⟨hE, ?_, ?_, ?_⟩
  · unfold readVal
    rw [if_pos hE, el, i1, ei]
    simp only [Int.toNat_natCast, i2]
    cases wr with
    | true => rw [if_pos ⟨by omega, rfl⟩]; rfl
    | false => rw [if_neg (fun e => by simp at e)]; rfl
  · unfold readVer
    rw [if_pos hE, ei]
  · unfold readData
    rw [if_pos hE, el, i1, if_neg (by omega), ← el]
    rfl
/-- What others are told where one writes. -/
theorem wr_plus {p : PS} {u : SV} {x : Int × Int} {k va ask : Int} (hP : Plus p u.data ⟨x, k, true, va, ask⟩) : u.locks.any (wrT k) = true ∧ ∀ y, y ≠ x → u.locks.any (othT y k) = true := by
  have el : u.locks = p.locks ++ [⟨x, k, true, va, ask⟩] := hP.locks
  rw [el]
  refine ⟨by simp [wrT], fun y hy => ?_⟩
  have : ¬ x = y := fun e => hy e.symm
  simp [othT, this]
theorem Plus.fresh {p q : PS} {L : LkV} (hP : Plus p q L) {y : Int × Int} (h : Fresh p y) (hne : L.t ≠ y) : Fresh q y := by
  refine ⟨?_, by rw [hP.over]; exact h.nov, ?_, h.okx⟩
  · rw [hP.locks]
    intro k hk
    rcases List.mem_append.1 hk with hk | hk
    · exact h.nl k hk
    · simp at hk; subst hk; exact hne
  · rw [hP.doubts]
    intro d hd
    rcases List.mem_append.1 hd with hd | hd
    · exact h.nd d hd
    · simp at hd; subst hd; exact hne
/-- A later ask counts, an earlier one does not. -/
theorem write_again {p : PS} {u : SV} {x : Int × Int} {k va ask va2 ask2 : Int} (hF : Fresh p x) (hP : Plus p u.data ⟨x, k, true, va, ask⟩) (ho : OKP u.data) (hk : inR k 0 7 = true) (hno : p.locks.any (othT x k) = false) (hva : inR va2 0 1073741824 = true) (hask : inR ask2 0 1048576 = true) (hver : ∀ y ∈ p.items, y.version ≤ 1048000) :
    (ask2 < ask → writeErr u x k va2 ask2 = 13) ∧ (ask ≤ ask2 → writeErr u x k va2 ask2 = 0) := by
  have h0 := ref0 ho hF.okx hk
  have el : u.locks = p.locks ++ [⟨x, k, true, va, ask⟩] := hP.locks
  have ei : u.items = p.items := hP.items
  have eo : u.over = p.over := hP.over
  obtain ⟨i1, i2⟩ := idx_last (k := k) (wr := true) (va := va) (ask := ask) hF.nl
  have hl : lateT u x k ask2 = decide (ask2 < ask) := by
    unfold lateT
    rw [eo, decide_eq_false hF.nov, el, i1]
    simp only [Int.toNat_natCast, i2]
    rw [decide_eq_true (by omega : (0 : Int) ≤ (p.locks.length : Int))]
    rfl
  have hoth : u.locks.any (othT x k) = false := by
    rw [el, List.any_append, hno]
    simp [othT]
  have hb := itemAt_bd (k := k) (v := 1048000) (by omega) hver
  have hE : writeErr u x k va2 ask2 = if ask2 < ask then 13 else 0 := by
    unfold writeErr
    rw [if_pos h0, hva, hask]
    unfold rwErr
    rw [hl, hoth, if_neg (show ¬ (idxI (byT x k) u.locks < 0 ∧ 24 ≤ u.locks.length) by rw [el, i1]; omega), ei, if_neg (show ¬ 1048576 ≤ (itemAt p.items k).version by omega)]
    by_cases e : ask2 < ask <;> simp [e]
  exact ⟨fun e => by rw [hE, if_pos e], fun e => by rw [hE, if_neg (by omega)]⟩
theorem oth_wr {p : PS} {x : Int × Int} {k : Int} (hF : Fresh p x) (h : p.locks.any (othT x k) = false) : p.locks.any (wrT k) = false := by
  rw [List.any_eq_false] at h ⊢
  intro o ho e
  have h1 := h o ho
  have h2 := hF.nl o ho
  simp only [wrT, Bool.and_eq_true, decide_eq_true_eq] at e
  simp [othT, h2, e.2] at h1
end Go.Proofs.YtcmjcopopkafnaaDoor.St
