/- Texts of this claim, one behind the other. -/
import Derived.Test.YtflfcjbgkpfgkaaDoorM13TapeRecovers
import Derived.Test.YtflfcjbgkpfgkaaDoorM18TapeRecovers
import Derived.Test.YtflfcjbgkpfgkaaDoorM12TapeRecovers
import Derived.Test.YtflfcjbgkpfgkaaDoorM15TapeRecovers
/- The contract of the reader's sites. -/
namespace Go.Proofs.YtflfcjbgkpfgkaaDoor
open Go.ChangeShapes Go.WideShapes Go.ChangeAt Go.RowKit
set_option linter.unusedVariables false

theorem intInfoS : (Tryd.prog.info? 3).map (fun i => (i.zero, i.size, i.bytes)) = some (some (.int .i64 0), 1, 8) := by kernel_rfl
def intsS (zs : List Int) : List Value := zs.map (Value.int .i64)
theorem num_nonneg (r : RS) (hb : Byt r.rest) : 0 ≤ (r.num 1).1 ∧ (r.num 1).1 < 256 := by
  by_cases h0 : r.wrong = 0
  · by_cases hk : 1 ≤ r.rest.length
    · rw [num_ok h0 hk]
      simpa using bval_bd 1 (r.rest.take 1) (by simp; omega) (hb.take 1)
    · rw [num_short h0 (by omega)]; simp
  · rw [num_wrong h0]; simp
theorem rd_snoc (k : Nat) (r : RS) : rdNums (List.replicate (k + 1) 1) r = ((rdNums (List.replicate k 1) r).1 ++ [((rdNums (List.replicate k 1) r).2.num 1).1], ((rdNums (List.replicate k 1) r).2.num 1).2) := by
  rw [List.replicate_succ', rd_app]
  rfl

/-- Numbers that a slice of the call's own holds. -/
theorem isI_ownS {w : World} {B : Nat} {a : Option Addr} {n cap : Nat} {zs : List Int} (h : w.ownsRow B 3 1 (.slice a n cap) n (intsS zs)) (hz : ∀ z ∈ zs, 0 ≤ z ∧ z ≤ 1000) :
    IsInts w a n cap zs ∧ (∀ b off, a = some ⟨b, off, none⟩ → B ≤ b ∧ b < w.heap.size) := by
  have hlen : zs.length = n := by have := h.1; simpa [intsS] using this
  have hbd : ∀ i, -9223372036854775808 ≤ zs.getD i 0 ∧ zs.getD i 0 ≤ 9223372036854775807 := by
    intro i
    by_cases hi : i < zs.length
    · have := hz zs[i] (List.getElem_mem hi)
      simp [List.getD, hi]
      omega
    · simp [List.getD, List.getElem?_eq_none (by omega : zs.length ≤ i)]
  rcases h.2 with ⟨hv, hn⟩ | ⟨g, cap', cur, hv, hg, hcur, h1, h2, h3, h4⟩
  · simp only [Value.slice.injEq] at hv
    obtain ⟨rfl, rfl, rfl⟩ := hv
    exact ⟨⟨hlen, Nat.le_refl _, Nat.zero_le _, hbd, fun hp => absurd hp (by omega)⟩, fun b off e => by simp at e⟩
  · simp only [Value.slice.injEq, true_and] at hv
    obtain ⟨rfl, rfl⟩ := hv
    refine ⟨⟨hlen, h1, h2, hbd, fun hp => ⟨g, 0, rfl, (h.lt g rfl).2, fun i hi => ?_⟩⟩, fun b off e => ?_⟩
    · have hx := h.cells (g := g) rfl i (.int .i64 (zs.getD i 0)) (by simp [intsS, List.getD, show i < zs.length by omega])
      rwa [adr_add] at hx
    · simp at e
      obtain ⟨rfl, _⟩ := e
      exact ⟨hg, (h.lt g rfl).2⟩

def SitesPost (w w' : World) (R L : Nat) (e : Ending) (d : List Int × RS) : Prop :=
  ∃ sa sc, e = .returned (.slice sa d.1.length sc) ∧ IsInts w' sa d.1.length sc d.1 ∧ (∀ b off, sa = some ⟨b, off, none⟩ → w.heap.size ≤ b ∧ b < w'.heap.size) ∧ RdTo w' R L d.2 ∧ w.grownBy w' (some R)

set_option maxRecDepth 100000 in
set_option maxHeartbeats 1000000 in
theorem sitesR_any (R L : Nat) (st : RS) (n : Int) (w : World) (h : RdTo w R L st) (hb : Byt st.rest) (hn : 0 ≤ n ∧ n < 256) :
    Calls Tryd.prog 75 #[.pointer (some ⟨R, 0, none⟩), .int .i64 n] w fun e w' => SitesPost w w' R L e (st.sites n) := by
  obtain ⟨i0, hi, li0, li1, li2⟩ := info_parts intInfoS
  obtain ⟨N, rfl⟩ : ∃ N : Nat, n = N := ⟨n.toNat, by omega⟩
  have hN : N < 256 := by omega
  have hNi : (N : Int) < 256 := by omega
  have hRw := h.lt
  have hLR := h.hL
  have ES : Hid (st.sites (N : Int) = rdNums (List.replicate N 1) st) := by show _ = _; unfold RS.sites; rw [Int.toNat_natCast]
  obtain ⟨SD, eSD⟩ : ∃ x, x = st.sites (N : Int) := ⟨_, rfl⟩
  rw [← eSD] at ES ⊢
  clear eSD
  go_enter Tryd.func75, Tryd.ntmps75
  go_wp2
  go_loopw [5, 7] (fun s5 s7 wr => ∃ (k : Nat) (a1 : Option Addr) (c1 : Nat) (zs : List Int) (sk : RS), k ≤ N ∧ s7 = .int .i64 k ∧ s5 = .slice a1 k c1 ∧ wr.ownsRow w.heap.size 3 1 (.slice a1 k c1) k (intsS zs) ∧ RdTo wr R L sk ∧ w.grownBy wr (some R) ∧ Byt sk.rest ∧ (∀ z ∈ zs, 0 ≤ z ∧ z ≤ 1000) ∧ Hid (rdNums (List.replicate k 1) st = (zs, sk))) (fun _ s7 _ => N - (intOf s7).toNat)
  case atStart => exact ⟨0, none, 0, [], st, by omega, rfl, rfl, World.ownsRow_nil _ _ _ _, h, grownR_refl _ _, hb, by simp, rfl⟩
  case round =>
    obtain ⟨k, a1, c1, zs, sk, hk, rfl, rfl, own, hR, hgr, hby, hzs, hrd⟩ := hrel
    by_cases hlt : k < N
    · have hlt' : (k : Int) < (N : Int) := by omega
      have hn := number_any R L sk 1 _ hR (by omega)
      have hnb := num_nonneg sk hby
      have hby' := num_byt sk 1 hby
      have hrd' : Hid (rdNums (List.replicate (k + 1) 1) st = (zs ++ [(sk.num 1).1], (sk.num 1).2)) := by show _ = _; rw [rd_snoc, hrd.out]
      obtain ⟨x, r1, ex⟩ : ∃ x r, sk.num 1 = (x, r) := ⟨_, _, rfl⟩
      rw [ex] at hn hnb hby' hrd'
      simp only at hn hnb hby' hrd'
      clear ex hrd
      have hzs' : ∀ z ∈ zs ++ [x], 0 ≤ z ∧ z ≤ 1000 := fun z hz => by
        rcases List.mem_append.1 hz with hz | hz
        · exact hzs z hz
        · simp at hz; omega
      have hnR : (Value.slice a1 k c1).ownBlock = none ∨ (Value.slice a1 k c1).ownBlock ≠ some R := by
        right
        intro e
        have := (own.lt R e).1
        omega
      have hc2 : ∀ u ∈ [Value.int .i64 x], u.oneCell' = true := by intro u hu; simp at hu; subst hu; rfl
      go_wp2_with (first
        | (go_at_call 48; refine hn.mono ?_; rintro e w1 ⟨rfl, h1, hg1⟩; have own1 := own.kept hg1 hnR; have z1 := hg1.size; have zz := hgr.size)
        | (at_builtin; refine wpList_append_lies _ (by rfl) (.tmp 9) (.tmp 12) 44 (by rfl) w.heap.size 3 i0 (.int .i64 0) 1 8 Tryd.underlying44 hi li0 li1 li2 rfl (by decide) (.slice a1 k c1) k (intsS zs) (by rfl) (own1.alloc _) ⟨w1.heap.size, 0, none⟩ 1 1 [.int .i64 x] (by rfl) rfl (cell_one_new w1 _ _) hc2 (by omega) (by unfold maxLen; omega) (by omega) (by simp; omega) _ rfl ?_; intro g5 c5 w5 own5 gr5 at5 lt5))
      have hal := World.grownBy_alloc w1 (.cells #[.int .i64 x] 3) none
      have eV : intsS zs ++ [Value.int .i64 x] = intsS (zs ++ [x]) := by simp [intsS]
      rw [eV] at own5
      have hR5 : RdTo w5 R L r1 := (h1.grown hal (fun q hq => by cases hq)).grown gr5 (fun q hq => by have := own1.lt q hq; omega)
      have hg5 : w.grownBy w5 (some R) := by
        refine ⟨gr5.os.trans (hal.os.trans (hg1.os.trans hgr.os)), gr5.tape.trans (hal.tape.trans (hg1.tape.trans hgr.tape)), gr5.output.trans (hal.output.trans (hg1.output.trans hgr.output)), by have := gr5.size; have := hal.size; omega, fun q hq hne => ?_⟩
        rw [gr5.block q (by simp; omega) (by intro e; have := (own1.lt q e.symm).1; omega), hal.block q (by omega) (by simp), hg1.block q (by omega) hne, hgr.block q hq hne]
      go_roundw
      case rel => exact ⟨k + 1, some ⟨g5, 0, none⟩, c5, zs ++ [x], r1, by omega, by go_num, rfl, own5, hR5, hg5, hby', hzs', hrd'⟩
      case measure => simp [intOf]; omega
    · have hke : k = N := by omega
      subst hke
      obtain ⟨hII, hnew⟩ := isI_ownS own hzs
      have hl : zs.length = k := hII.1
      have hSD : SD = (zs, sk) := by rw [ES.out, hrd.out]
      go_wp2
      go_ret
      refine ⟨a1, c1, ?_, ?_, hnew, ?_, hgr⟩
      · rw [hSD]; simp [hl]
      · rw [hSD]; simpa [hl] using hII
      · rw [hSD]; exact hR
end Go.Proofs.YtflfcjbgkpfgkaaDoor
/- The contract of wire.CheckRecord: at every config and record it returns the fault that recFault tells, and leaves what was in memory. -/
namespace Go.Proofs.YtflfcjbgkpfgkaaDoor
open Go.ChangeShapes Go.WideShapes Go.ChangeAt Go.RowKit
set_option linter.unusedVariables false

theorem rHas_eight (k : Nat) (hk : k < 7) : rHas.getD k [] = [(rHas.getD k []).getD 0 false, (rHas.getD k []).getD 1 false, (rHas.getD k []).getD 2 false, (rHas.getD k []).getD 3 false, (rHas.getD k []).getD 4 false, (rHas.getD k []).getD 5 false, (rHas.getD k []).getD 6 false, (rHas.getD k []).getD 7 false] := by
  rcases (by omega : k = 0 ∨ k = 1 ∨ k = 2 ∨ k = 3 ∨ k = 4 ∨ k = 5 ∨ k = 6) with rfl | rfl | rfl | rfl | rfl | rfl | rfl <;> rfl

set_option maxRecDepth 100000 in
set_option maxHeartbeats 4000000 in
theorem checkRecord_any (s p : Int) (a : Option Addr) (len cap : Nat) (ls : List (Int × Int)) (r : RcV) (w : World) (h : IsLabs w a len cap ls) (hi : IsInts w r.sa r.sl r.sc r.sites) (hm : HasAt w 1 rHas) (ht : TopsAt w) :
    Calls Tryd.prog 64 #[.agg #[.int .i64 s, .slice a len cap, .int .i64 p], r.val] w fun e w' => e = .returned (.int .i64 (recFault s ls p r)) ∧ Below w.heap.size w w' := by
  have hgT : 3 < w.heap.size := World.block_lt_of_cell? w _ ht.1
  have hgM : 1 < w.heap.size := hm.lt (by decide)
  have hmx : r.sl ≤ maxLen := Nat.le_trans hi.2.1 hi.2.2.1
  have hPs := fun w' => recordParts_any r w' hmx
  obtain ⟨kind, site, num, key, value, ask, yes, sa, sl, sc, sites⟩ := r
  obtain ⟨M, eM⟩ : ∃ M : RcV, M = ⟨kind, site, num, key, value, ask, yes, sa, sl, sc, sites⟩ := ⟨_, rfl⟩
  have EM : Hid (M = ⟨kind, site, num, key, value, ask, yes, sa, sl, sc, sites⟩) := eM
  have hMF : ∀ v, recFault s ls p M = v → recFault s ls p ⟨kind, site, num, key, value, ask, yes, sa, sl, sc, sites⟩ = v := fun v hv => by rw [← eM]; exact hv
  have MF : Hid (∀ v, recFault s ls p M = v → recFault s ls p ⟨kind, site, num, key, value, ask, yes, sa, sl, sc, sites⟩ = v) := hMF
  clear hMF eM
  simp only [RcV.val] at hPs ⊢
  have hi' : IsInts w sa sl sc sites := hi
  clear hi
  have HM : Hid (sl ≤ maxLen) := hmx
  clear hmx
  obtain ⟨W, hW⟩ : ∃ W : World, W = (w.alloc (.cells #[.int .i64 s, .slice a len cap, .int .i64 p] 24)).alloc (.cells #[.int .i64 kind, .int .i64 site, .int .i64 num, .int .i64 key, .int .i64 value, .int .i64 ask, .bool yes, .slice sa sl sc] 56) := ⟨_, rfl⟩
  have hB : Below w.heap.size w W := by rw [hW]; exact ((Below.refl _ _).alloc (Nat.le_refl _) _).alloc (by simp) _
  have zW : W.heap.size = w.heap.size + 2 := by rw [hW]; simp
  have c0 : W.cell? ⟨w.heap.size, 0, none⟩ = some (.int .i64 s) := by rw [hW]; go_simp
  have c1 : W.cell? ⟨w.heap.size, 1, none⟩ = some (.slice a len cap) := by rw [hW]; go_simp
  have c2 : W.cell? ⟨w.heap.size, 2, none⟩ = some (.int .i64 p) := by rw [hW]; go_simp
  have d0 : W.cell? ⟨w.heap.size + 1, 0, none⟩ = some (.int .i64 kind) := by rw [hW]; go_simp
  have d1 : W.cell? ⟨w.heap.size + 1, 1, none⟩ = some (.int .i64 site) := by rw [hW]; go_simp
  have d2 : W.cell? ⟨w.heap.size + 1, 2, none⟩ = some (.int .i64 num) := by rw [hW]; go_simp
  have d3 : W.cell? ⟨w.heap.size + 1, 3, none⟩ = some (.int .i64 key) := by rw [hW]; go_simp
  have d4 : W.cell? ⟨w.heap.size + 1, 4, none⟩ = some (.int .i64 value) := by rw [hW]; go_simp
  have d5 : W.cell? ⟨w.heap.size + 1, 5, none⟩ = some (.int .i64 ask) := by rw [hW]; go_simp
  have d6 : W.cell? ⟨w.heap.size + 1, 6, none⟩ = some (.bool yes) := by rw [hW]; go_simp
  have d7 : W.cell? ⟨w.heap.size + 1, 7, none⟩ = some (.slice sa sl sc) := by rw [hW]; go_simp
  have hLW := h.below hB
  have hIW := hi'.below hB
  have tW : TopsAt W := ht.below hB (by omega)
  have mW : HasAt W 1 rHas := hm.below hB (by omega)
  go_enter Tryd.func64, Tryd.ntmps64
  go_upto_region 1 with (fail)
  rw [← hW]
  clear hW ht hm
  by_cases hF : cfgFault s ls p = 0
  · obtain ⟨s1, s4, n1, n6, _, _, _⟩ := cfg_zero hF
    have hlen : Hid (ls.length = len) := h.1
    have l6 : len ≤ 6 := by have := hlen.out; omega
    go_upto_region 4 with (go_at_call 23; refine (check_any s p a len cap ls _ hLW).mono ?_; rintro e w1 ⟨rfl, hb1⟩)
    have KC : Hid (∀ (U : World), Below W.heap.size W U → (U.cell? ⟨w.heap.size, 0, none⟩ = some (.int .i64 s) ∧ U.cell? ⟨w.heap.size, 1, none⟩ = some (.slice a len cap) ∧ U.cell? ⟨w.heap.size, 2, none⟩ = some (.int .i64 p)) ∧ (U.cell? ⟨w.heap.size + 1, 0, none⟩ = some (.int .i64 kind) ∧ U.cell? ⟨w.heap.size + 1, 1, none⟩ = some (.int .i64 site) ∧ U.cell? ⟨w.heap.size + 1, 2, none⟩ = some (.int .i64 num) ∧ U.cell? ⟨w.heap.size + 1, 3, none⟩ = some (.int .i64 key) ∧ U.cell? ⟨w.heap.size + 1, 4, none⟩ = some (.int .i64 value) ∧ U.cell? ⟨w.heap.size + 1, 5, none⟩ = some (.int .i64 ask) ∧ U.cell? ⟨w.heap.size + 1, 6, none⟩ = some (.bool yes) ∧ U.cell? ⟨w.heap.size + 1, 7, none⟩ = some (.slice sa sl sc))) := by
      intro V hV
      have e0 : ∀ o, V.cell? ⟨w.heap.size, o, none⟩ = W.cell? ⟨w.heap.size, o, none⟩ := fun o => hV.cell (p := ⟨w.heap.size, o, none⟩) (by show w.heap.size < _; omega)
      have e1 : ∀ o, V.cell? ⟨w.heap.size + 1, o, none⟩ = W.cell? ⟨w.heap.size + 1, o, none⟩ := fun o => hV.cell (p := ⟨w.heap.size + 1, o, none⟩) (by show w.heap.size + 1 < _; omega)
      simp only [e0, e1]
      exact ⟨⟨c0, c1, c2⟩, d0, d1, d2, d3, d4, d5, d6, d7⟩
    clear c0 c1 c2 d0 d1 d2 d3 d4 d5 d6 d7
    obtain ⟨⟨c0, c1, c2⟩, d0, d1, d2, d3, d4, d5, d6, d7⟩ := KC.out w1 hb1
    cases hK : inR kind 1 6 with
    | false =>
      have hf := MF.out 3 (rf_kind hF (by rw [EM.out]; exact hK))
      go_wp2_with (go_at_call 44; refine (within_any _ _ _ _).mono ?_; rintro e u1 ⟨rfl, hu1⟩; rw [hu1]; clear hu1)
      go_ret
      exact ⟨ret_int hf.symm, hB.trans (hb1.mono hB.size)⟩
    | true =>
      have kb := inR_of hK
      obtain ⟨k, rfl⟩ : ∃ k : Nat, kind = k := ⟨kind.toNat, by omega⟩
      have k10 : k < 7 := by omega
      have k9 : (k : Int) < 7 := by omega
      go_upto_region 6 with (go_at_call 44; refine (within_any _ _ _ _).mono ?_; rintro e u1 ⟨rfl, hu1⟩; rw [hu1]; clear hu1)
      go_upto_region 7 with (go_at_call 67; refine (hPs _).mono ?_; rintro e w2 ⟨rfl, hb2⟩)
      obtain ⟨V, hV⟩ : ∃ V : World, V = w2.alloc (.cells #[.int .i64 0, .int .i64 key, .int .i64 value, .int .i64 0, .int .i64 ask, .int .i64 (bit yes), .int .i64 0, .int .i64 (sl : Int)] 92) := ⟨_, rfl⟩
      have hbW : Below W.heap.size W V := by rw [hV]; exact (hb1.trans (hb2.mono hb1.size)).alloc (by have := hb1.size; have := hb2.size; omega) _
      have zV : V.heap.size = w2.heap.size + 1 := by rw [hV]; simp
      have zw2 : W.heap.size ≤ w2.heap.size := Nat.le_trans hb1.size hb2.size
      have e0 : V.cell? ⟨w2.heap.size, 0, none⟩ = some (.int .i64 0) := by rw [hV]; go_simp
      have e1 : V.cell? ⟨w2.heap.size, 1, none⟩ = some (.int .i64 key) := by rw [hV]; go_simp
      have e2 : V.cell? ⟨w2.heap.size, 2, none⟩ = some (.int .i64 value) := by rw [hV]; go_simp
      have e3 : V.cell? ⟨w2.heap.size, 3, none⟩ = some (.int .i64 0) := by rw [hV]; go_simp
      have e4 : V.cell? ⟨w2.heap.size, 4, none⟩ = some (.int .i64 ask) := by rw [hV]; go_simp
      have e5 : V.cell? ⟨w2.heap.size, 5, none⟩ = some (.int .i64 (bit yes)) := by rw [hV]; go_simp
      have e6 : V.cell? ⟨w2.heap.size, 6, none⟩ = some (.int .i64 0) := by rw [hV]; go_simp
      have e7 : V.cell? ⟨w2.heap.size, 7, none⟩ = some (.int .i64 (sl : Int)) := by rw [hV]; go_simp
      rw [← hV]
      clear hV
      have tV : TopsAt V := tW.below hbW (by omega)
      have mV : HasAt V 1 rHas := mW.below hbW (by omega)
      have iV : IsInts V sa sl sc sites := hIW.below hbW
      have EH : Hid (rHas.getD k [] = [(rHas.getD k []).getD 0 false, (rHas.getD k []).getD 1 false, (rHas.getD k []).getD 2 false, (rHas.getD k []).getD 3 false, (rHas.getD k []).getD 4 false, (rHas.getD k []).getD 5 false, (rHas.getD k []).getD 6 false, (rHas.getD k []).getD 7 false]) := rHas_eight k k10
      have f0 := mV k 0 k10 (by decide)
      have f1 := mV k 1 k10 (by decide)
      have f2 := mV k 2 k10 (by decide)
      have f3 := mV k 3 k10 (by decide)
      have f4 := mV k 4 k10 (by decide)
      have f5 := mV k 5 k10 (by decide)
      have f6 := mV k 6 k10 (by decide)
      have f7 := mV k 7 k10 (by decide)
      obtain ⟨h0, eh0⟩ : ∃ x, x = (rHas.getD k []).getD 0 false := ⟨_, rfl⟩
      obtain ⟨h1, eh1⟩ : ∃ x, x = (rHas.getD k []).getD 1 false := ⟨_, rfl⟩
      obtain ⟨h2, eh2⟩ : ∃ x, x = (rHas.getD k []).getD 2 false := ⟨_, rfl⟩
      obtain ⟨h3, eh3⟩ : ∃ x, x = (rHas.getD k []).getD 3 false := ⟨_, rfl⟩
      obtain ⟨h4, eh4⟩ : ∃ x, x = (rHas.getD k []).getD 4 false := ⟨_, rfl⟩
      obtain ⟨h5, eh5⟩ : ∃ x, x = (rHas.getD k []).getD 5 false := ⟨_, rfl⟩
      obtain ⟨h6, eh6⟩ : ∃ x, x = (rHas.getD k []).getD 6 false := ⟨_, rfl⟩
      obtain ⟨h7, eh7⟩ : ∃ x, x = (rHas.getD k []).getD 7 false := ⟨_, rfl⟩
      rw [← eh0, ← eh1, ← eh2, ← eh3, ← eh4, ← eh5, ← eh6, ← eh7] at EH
      rw [← eh0] at f0
      rw [← eh1] at f1
      rw [← eh2] at f2
      rw [← eh3] at f3
      rw [← eh4] at f4
      rw [← eh5] at f5
      rw [← eh6] at f6
      rw [← eh7] at f7
      clear eh0 eh1 eh2 eh3 eh4 eh5 eh6 eh7
      simp only [Nat.add_zero] at f0
      have KA : Hid (∀ (U : World), Below V.heap.size V U → (U.cell? ⟨w.heap.size, 0, none⟩ = some (.int .i64 s) ∧ U.cell? ⟨w.heap.size, 1, none⟩ = some (.slice a len cap) ∧ U.cell? ⟨w.heap.size, 2, none⟩ = some (.int .i64 p)) ∧ (U.cell? ⟨w.heap.size + 1, 0, none⟩ = some (.int .i64 k) ∧ U.cell? ⟨w.heap.size + 1, 1, none⟩ = some (.int .i64 site) ∧ U.cell? ⟨w.heap.size + 1, 2, none⟩ = some (.int .i64 num) ∧ U.cell? ⟨w.heap.size + 1, 3, none⟩ = some (.int .i64 key) ∧ U.cell? ⟨w.heap.size + 1, 4, none⟩ = some (.int .i64 value) ∧ U.cell? ⟨w.heap.size + 1, 5, none⟩ = some (.int .i64 ask) ∧ U.cell? ⟨w.heap.size + 1, 6, none⟩ = some (.bool yes) ∧ U.cell? ⟨w.heap.size + 1, 7, none⟩ = some (.slice sa sl sc)) ∧ (U.cell? ⟨w2.heap.size, 0, none⟩ = some (.int .i64 0) ∧ U.cell? ⟨w2.heap.size, 1, none⟩ = some (.int .i64 key) ∧ U.cell? ⟨w2.heap.size, 2, none⟩ = some (.int .i64 value) ∧ U.cell? ⟨w2.heap.size, 3, none⟩ = some (.int .i64 0) ∧ U.cell? ⟨w2.heap.size, 4, none⟩ = some (.int .i64 ask) ∧ U.cell? ⟨w2.heap.size, 5, none⟩ = some (.int .i64 (bit yes)) ∧ U.cell? ⟨w2.heap.size, 6, none⟩ = some (.int .i64 0) ∧ U.cell? ⟨w2.heap.size, 7, none⟩ = some (.int .i64 (sl : Int))) ∧ (U.cell? ⟨1, k * 8, none⟩ = some (.bool h0) ∧ U.cell? ⟨1, k * 8 + 1, none⟩ = some (.bool h1) ∧ U.cell? ⟨1, k * 8 + 2, none⟩ = some (.bool h2) ∧ U.cell? ⟨1, k * 8 + 3, none⟩ = some (.bool h3) ∧ U.cell? ⟨1, k * 8 + 4, none⟩ = some (.bool h4) ∧ U.cell? ⟨1, k * 8 + 5, none⟩ = some (.bool h5) ∧ U.cell? ⟨1, k * 8 + 6, none⟩ = some (.bool h6) ∧ U.cell? ⟨1, k * 8 + 7, none⟩ = some (.bool h7))) := by
        intro U hU
        have q1 : ∀ o, U.cell? ⟨w2.heap.size, o, none⟩ = V.cell? ⟨w2.heap.size, o, none⟩ := fun o => hU.cell (p := ⟨w2.heap.size, o, none⟩) (by show w2.heap.size < _; omega)
        have q2 : ∀ o, U.cell? ⟨1, o, none⟩ = V.cell? ⟨1, o, none⟩ := fun o => hU.cell (p := ⟨1, o, none⟩) (by show 1 < _; omega)
        obtain ⟨hc, hd⟩ := KC.out U (hbW.trans (hU.mono hbW.size))
        refine ⟨hc, hd, ?_, ?_⟩
        · simp only [q1]
          exact ⟨e0, e1, e2, e3, e4, e5, e6, e7⟩
        · simp only [q2]
          exact ⟨f0, f1, f2, f3, f4, f5, f6, f7⟩
      clear c0 c1 c2 d0 d1 d2 d3 d4 d5 d6 d7 e0 e1 e2 e3 e4 e5 e6 e7 f0 f1 f2 f3 f4 f5 f6 f7
      have hbv : Below V.heap.size V V := Below.refl _ _
      have hbw : Below w.heap.size w V := hB.trans (hbW.mono hB.size)
      obtain ⟨⟨c0, c1, c2⟩, ⟨d0, d1, d2, d3, d4, d5, d6, d7⟩, ⟨e0, e1, e2, e3, e4, e5, e6, e7⟩, ⟨f0, f1, f2, f3, f4, f5, f6, f7⟩⟩ := KA.out _ hbv
      have hRng : Hid (recRange s ls.length M = (txnOK s site num && partsOK len [0, key, value, 0, ask, bit yes, 0, (sl : Int)] && rising s 0 sites)) := by
        show recRange s ls.length M = _
        rw [EM.out, hlen.out]
        rfl
      cases g0 : txnOK s site num with
      | false =>
        have hf := MF.out 2 (rf_range hF (by rw [EM.out]; exact hK) (by rw [hRng.out, g0]; simp))
        go_wp2_with (first
          | (go_at_call 54; refine (txn_any site num s _ ⟨s1, s4⟩).mono ?_; rintro e u ⟨rfl, hu⟩; replace hbv := hbv.trans (hu.mono hbv.size); clear hu c0 c1 c2 d0 d1 d2 d3 d4 d5 d6 d7 e0 e1 e2 e3 e4 e5 e6 e7; obtain ⟨⟨c0, c1, c2⟩, ⟨d0, d1, d2, d3, d4, d5, d6, d7⟩, ⟨e0, e1, e2, e3, e4, e5, e6, e7⟩, ⟨f0, f1, f2, f3, f4, f5, f6, f7⟩⟩ := KA.out _ hbv)
          | (go_at_call 55; refine (inBoundsW_any s p a len cap 0 key value 0 ask (bit yes) 0 (sl : Int) _ l6 (tV.below hbv (by omega)) (by have := hbv.size; omega)).mono ?_; rintro e u ⟨rfl, hu⟩; replace hbv := hbv.trans (hu.mono hbv.size); clear hu c0 c1 c2 d0 d1 d2 d3 d4 d5 d6 d7 e0 e1 e2 e3 e4 e5 e6 e7; obtain ⟨⟨c0, c1, c2⟩, ⟨d0, d1, d2, d3, d4, d5, d6, d7⟩, ⟨e0, e1, e2, e3, e4, e5, e6, e7⟩, ⟨f0, f1, f2, f3, f4, f5, f6, f7⟩⟩ := KA.out _ hbv)
          | (go_at_call 73; refine (rising_any s p a len cap sa sl sc sites _ ⟨s1, s4⟩ (iV.below hbv)).mono ?_; rintro e u ⟨rfl, hu⟩; replace hbv := hbv.trans (hu.mono hbv.size); clear hu c0 c1 c2 d0 d1 d2 d3 d4 d5 d6 d7 e0 e1 e2 e3 e4 e5 e6 e7; obtain ⟨⟨c0, c1, c2⟩, ⟨d0, d1, d2, d3, d4, d5, d6, d7⟩, ⟨e0, e1, e2, e3, e4, e5, e6, e7⟩, ⟨f0, f1, f2, f3, f4, f5, f6, f7⟩⟩ := KA.out _ hbv))
        go_ret
        exact ⟨ret_int hf.symm, hbw.trans (hbv.mono hbw.size)⟩
      | true =>
      cases g1 : partsOK len [0, key, value, 0, ask, bit yes, 0, (sl : Int)] with
      | false =>
        have hf := MF.out 2 (rf_range hF (by rw [EM.out]; exact hK) (by rw [hRng.out, g0, g1]; simp))
        go_wp2_with (first
          | (go_at_call 54; refine (txn_any site num s _ ⟨s1, s4⟩).mono ?_; rintro e u ⟨rfl, hu⟩; replace hbv := hbv.trans (hu.mono hbv.size); clear hu c0 c1 c2 d0 d1 d2 d3 d4 d5 d6 d7 e0 e1 e2 e3 e4 e5 e6 e7; obtain ⟨⟨c0, c1, c2⟩, ⟨d0, d1, d2, d3, d4, d5, d6, d7⟩, ⟨e0, e1, e2, e3, e4, e5, e6, e7⟩, ⟨f0, f1, f2, f3, f4, f5, f6, f7⟩⟩ := KA.out _ hbv)
          | (go_at_call 55; refine (inBoundsW_any s p a len cap 0 key value 0 ask (bit yes) 0 (sl : Int) _ l6 (tV.below hbv (by omega)) (by have := hbv.size; omega)).mono ?_; rintro e u ⟨rfl, hu⟩; replace hbv := hbv.trans (hu.mono hbv.size); clear hu c0 c1 c2 d0 d1 d2 d3 d4 d5 d6 d7 e0 e1 e2 e3 e4 e5 e6 e7; obtain ⟨⟨c0, c1, c2⟩, ⟨d0, d1, d2, d3, d4, d5, d6, d7⟩, ⟨e0, e1, e2, e3, e4, e5, e6, e7⟩, ⟨f0, f1, f2, f3, f4, f5, f6, f7⟩⟩ := KA.out _ hbv)
          | (go_at_call 73; refine (rising_any s p a len cap sa sl sc sites _ ⟨s1, s4⟩ (iV.below hbv)).mono ?_; rintro e u ⟨rfl, hu⟩; replace hbv := hbv.trans (hu.mono hbv.size); clear hu c0 c1 c2 d0 d1 d2 d3 d4 d5 d6 d7 e0 e1 e2 e3 e4 e5 e6 e7; obtain ⟨⟨c0, c1, c2⟩, ⟨d0, d1, d2, d3, d4, d5, d6, d7⟩, ⟨e0, e1, e2, e3, e4, e5, e6, e7⟩, ⟨f0, f1, f2, f3, f4, f5, f6, f7⟩⟩ := KA.out _ hbv))
        go_ret
        exact ⟨ret_int hf.symm, hbw.trans (hbv.mono hbw.size)⟩
      | true =>
      cases g2 : rising s 0 sites with
      | false =>
        have hf := MF.out 2 (rf_range hF (by rw [EM.out]; exact hK) (by rw [hRng.out, g0, g1, g2]; simp))
        go_wp2_with (first
          | (go_at_call 54; refine (txn_any site num s _ ⟨s1, s4⟩).mono ?_; rintro e u ⟨rfl, hu⟩; replace hbv := hbv.trans (hu.mono hbv.size); clear hu c0 c1 c2 d0 d1 d2 d3 d4 d5 d6 d7 e0 e1 e2 e3 e4 e5 e6 e7; obtain ⟨⟨c0, c1, c2⟩, ⟨d0, d1, d2, d3, d4, d5, d6, d7⟩, ⟨e0, e1, e2, e3, e4, e5, e6, e7⟩, ⟨f0, f1, f2, f3, f4, f5, f6, f7⟩⟩ := KA.out _ hbv)
          | (go_at_call 55; refine (inBoundsW_any s p a len cap 0 key value 0 ask (bit yes) 0 (sl : Int) _ l6 (tV.below hbv (by omega)) (by have := hbv.size; omega)).mono ?_; rintro e u ⟨rfl, hu⟩; replace hbv := hbv.trans (hu.mono hbv.size); clear hu c0 c1 c2 d0 d1 d2 d3 d4 d5 d6 d7 e0 e1 e2 e3 e4 e5 e6 e7; obtain ⟨⟨c0, c1, c2⟩, ⟨d0, d1, d2, d3, d4, d5, d6, d7⟩, ⟨e0, e1, e2, e3, e4, e5, e6, e7⟩, ⟨f0, f1, f2, f3, f4, f5, f6, f7⟩⟩ := KA.out _ hbv)
          | (go_at_call 73; refine (rising_any s p a len cap sa sl sc sites _ ⟨s1, s4⟩ (iV.below hbv)).mono ?_; rintro e u ⟨rfl, hu⟩; replace hbv := hbv.trans (hu.mono hbv.size); clear hu c0 c1 c2 d0 d1 d2 d3 d4 d5 d6 d7 e0 e1 e2 e3 e4 e5 e6 e7; obtain ⟨⟨c0, c1, c2⟩, ⟨d0, d1, d2, d3, d4, d5, d6, d7⟩, ⟨e0, e1, e2, e3, e4, e5, e6, e7⟩, ⟨f0, f1, f2, f3, f4, f5, f6, f7⟩⟩ := KA.out _ hbv))
        go_ret
        exact ⟨ret_int hf.symm, hbw.trans (hbv.mono hbw.size)⟩
      | true =>
      go_upto_region 9 with (first
          | (go_at_call 54; refine (txn_any site num s _ ⟨s1, s4⟩).mono ?_; rintro e u ⟨rfl, hu⟩; replace hbv := hbv.trans (hu.mono hbv.size); clear hu c0 c1 c2 d0 d1 d2 d3 d4 d5 d6 d7 e0 e1 e2 e3 e4 e5 e6 e7; obtain ⟨⟨c0, c1, c2⟩, ⟨d0, d1, d2, d3, d4, d5, d6, d7⟩, ⟨e0, e1, e2, e3, e4, e5, e6, e7⟩, ⟨f0, f1, f2, f3, f4, f5, f6, f7⟩⟩ := KA.out _ hbv)
          | (go_at_call 55; refine (inBoundsW_any s p a len cap 0 key value 0 ask (bit yes) 0 (sl : Int) _ l6 (tV.below hbv (by omega)) (by have := hbv.size; omega)).mono ?_; rintro e u ⟨rfl, hu⟩; replace hbv := hbv.trans (hu.mono hbv.size); clear hu c0 c1 c2 d0 d1 d2 d3 d4 d5 d6 d7 e0 e1 e2 e3 e4 e5 e6 e7; obtain ⟨⟨c0, c1, c2⟩, ⟨d0, d1, d2, d3, d4, d5, d6, d7⟩, ⟨e0, e1, e2, e3, e4, e5, e6, e7⟩, ⟨f0, f1, f2, f3, f4, f5, f6, f7⟩⟩ := KA.out _ hbv)
          | (go_at_call 73; refine (rising_any s p a len cap sa sl sc sites _ ⟨s1, s4⟩ (iV.below hbv)).mono ?_; rintro e u ⟨rfl, hu⟩; replace hbv := hbv.trans (hu.mono hbv.size); clear hu c0 c1 c2 d0 d1 d2 d3 d4 d5 d6 d7 e0 e1 e2 e3 e4 e5 e6 e7; obtain ⟨⟨c0, c1, c2⟩, ⟨d0, d1, d2, d3, d4, d5, d6, d7⟩, ⟨e0, e1, e2, e3, e4, e5, e6, e7⟩, ⟨f0, f1, f2, f3, f4, f5, f6, f7⟩⟩ := KA.out _ hbv))
      have hbu : Below w.heap.size w u := hbw.trans (hbv.mono hbw.size)
      have cH := fun w' => hasAll_any h0 h1 h2 h3 h4 h5 h6 h7 0 key value 0 ask (bit yes) 0 (sl : Int) w'
      have hFrm : Hid (recForm M = hasAll [h0, h1, h2, h3, h4, h5, h6, h7] [0, key, value, 0, ask, bit yes, 0, (sl : Int)]) := by
        show recForm M = _
        rw [EM.out]
        unfold recForm rHasOf
        simp only [Int.toNat_natCast]
        rw [EH.out]
      have hKM : Hid (inR M.kind 1 6 = true) := by show inR M.kind 1 6 = true; rw [EM.out]; exact hK
      have hRM : Hid (recRange s ls.length M = true) := by show recRange s ls.length M = true; rw [hRng.out, g0, g1, g2]; rfl
      have Gd0 := fun d os => cell_regrown d0 d os
      have Ge0 := fun d os => cell_regrown e0 d os
      have Ge1 := fun d os => cell_regrown e1 d os
      have Ge2 := fun d os => cell_regrown e2 d os
      have Ge3 := fun d os => cell_regrown e3 d os
      have Ge4 := fun d os => cell_regrown e4 d os
      have Ge5 := fun d os => cell_regrown e5 d os
      have Ge6 := fun d os => cell_regrown e6 d os
      have Ge7 := fun d os => cell_regrown e7 d os
      have Gf0 := fun d os => cell_regrown f0 d os
      have Gf1 := fun d os => cell_regrown f1 d os
      have Gf2 := fun d os => cell_regrown f2 d os
      have Gf3 := fun d os => cell_regrown f3 d os
      have Gf4 := fun d os => cell_regrown f4 d os
      have Gf5 := fun d os => cell_regrown f5 d os
      have Gf6 := fun d os => cell_regrown f6 d os
      have Gf7 := fun d os => cell_regrown f7 d os
      cases hH : hasAll [h0, h1, h2, h3, h4, h5, h6, h7] [0, key, value, 0, ask, bit yes, 0, (sl : Int)] with
      | false =>
        have hf := MF.out 4 (rf_form hF hKM.out hRM.out (by rw [hFrm.out, hH]))
        rw [hH] at cH
        clear hH
        refine wp_region_quiet_below (by kernel_rfl) (by kernel_rfl) ?_
        repeat (go_big_quiet_step (exact Calls.regrown_of (cH _)))
        refine wpQuiet_nil ?_
        intro _ hw'
        obtain ⟨⟨dq, osq⟩, hw''⟩ := hw'
        subst hw''
        have hBr := below_regrown u dq osq
        go_wp2
        go_ret
        exact ⟨ret_int hf.symm, hbu.trans (hBr.mono hbu.size)⟩
      | true =>
        have hf := MF.out 0 (rf_ok hF hKM.out hRM.out (by rw [hFrm.out, hH]))
        rw [hH] at cH
        clear hH
        refine wp_region_quiet_below (by kernel_rfl) (by kernel_rfl) ?_
        repeat (go_big_quiet_step (exact Calls.regrown_of (cH _)))
        refine wpQuiet_nil ?_
        intro _ hw'
        obtain ⟨⟨dq, osq⟩, hw''⟩ := hw'
        subst hw''
        have hBr := below_regrown u dq osq
        go_wp2
        go_ret
        exact ⟨ret_int hf.symm, hbu.trans (hBr.mono hbu.size)⟩
  · have hf := MF.out _ (rf_cfg hF)
    go_wp2_with (go_at_call 23; refine (check_any s p a len cap ls _ hLW).mono ?_; rintro e w1 ⟨rfl, hb1⟩)
    go_ret
    exact ⟨ret_int hf.symm, hB.trans (hb1.mono hB.size)⟩
end Go.Proofs.YtflfcjbgkpfgkaaDoor
/- The contract of wire.readRecord. -/
namespace Go.Proofs.YtflfcjbgkpfgkaaDoor
open Go.ChangeShapes Go.WideShapes Go.ChangeAt Go.RowKit
set_option linter.unusedVariables false

/-- All that readRecord has in memory. -/
structure RRAt (w V : World) (M R L : Nat) (vs : List Value) (st : RS) : Prop where
  mb : BoxN V M 8 vs
  rb : BoxN V w.heap.size 8 [.int .i64 0, .int .i64 0, .int .i64 0, .int .i64 0, .int .i64 0, .int .i64 0, .bool false, .slice none 0 0]
  rd : RdTo V R L st
  gr : w.grownBy V (some R)
  mlt : w.heap.size < M
  rlt : R < w.heap.size

theorem RRAt.set {w V : World} {M R L : Nat} {vs : List Value} {st : RS} (h : RRAt w V M R L vs st) (k : Nat) (hk : k < 8) (v : Value) : RRAt w (V.setCell ⟨M, k, none⟩ v) M R L (vs.set k v) st := by
  have hm := h.mlt
  have hr := h.rlt
  refine ⟨h.mb.set k hk v, h.rb.far (by omega), ?_, ?_, hm, hr⟩
  · refine h.rd.grown (grown_set (R := M) (grownR_refl V (some M))) (fun q hq => ?_)
    have := h.rd.hL
    simp at hq
    omega
  · have hg := h.gr
    refine ⟨hg.os, hg.tape, hg.output, by simpa using hg.size, fun q hq hne => ?_⟩
    rw [Below.heap_setCell V _ _ q (by show q ≠ M; omega)]
    exact hg.block q hq hne
theorem RRAt.call {w V V' : World} {M R L : Nat} {vs : List Value} {st st' : RS} (h : RRAt w V M R L vs st) (hg : V.grownBy V' (some R)) (hr' : RdTo V' R L st') : RRAt w V' M R L vs st' := by
  have hm := h.mlt
  have hr := h.rlt
  exact ⟨h.mb.grown hg (by simp; omega), h.rb.grown hg (by simp; omega), hr', grownR_trans h.gr hg, hm, hr⟩
theorem RRAt.alloc {w V : World} {M R L : Nat} {vs : List Value} {st : RS} (h : RRAt w V M R L vs st) (ob : Obj) : RRAt w (V.alloc ob) M R L vs st := by
  have ha := World.grownBy_alloc V ob none
  have hg := h.gr
  exact ⟨h.mb.grown ha (by simp), h.rb.grown ha (by simp), h.rd.grown ha (fun q hq => by cases hq), ⟨ha.os.trans hg.os, ha.tape.trans hg.tape, ha.output.trans hg.output, Nat.le_trans hg.size ha.size, fun q hq hne => (ha.block q (Nat.lt_of_lt_of_le hq hg.size) (by simp)).trans (hg.block q hq hne)⟩, h.mlt, h.rlt⟩

theorem isI_grownR {w w' : World} {a : Option Addr} {len cap : Nat} {zs : List Int} {row : Option Nat} (h : IsInts w a len cap zs) (hg : w.grownBy w' row) (hne : ∀ b off, a = some ⟨b, off, none⟩ → some b ≠ row) : IsInts w' a len cap zs := by
  obtain ⟨h1, h2, h3, hbd, h4⟩ := h
  refine ⟨h1, h2, h3, hbd, fun hp => ?_⟩
  obtain ⟨b, off, e, hlt, hl⟩ := h4 hp
  refine ⟨b, off, e, Nat.lt_of_lt_of_le hlt hg.size, fun i hi => ?_⟩
  rw [World.cell?_of_block (a := ⟨b, off + i, none⟩) (hg.block b hlt (hne b off e))]
  exact hl i hi
theorem part_byt (r : RS) (i k : Nat) (h : Byt r.rest) : Byt (r.part i k).2.rest := by
  unfold RS.part
  split
  · rw [show ((r.num k).2.refuse 4).rest = (r.num k).2.rest from by unfold RS.refuse; split <;> rfl]; exact num_byt r k h
  · exact num_byt r k h
theorem dec_byt : ∀ (hs : List Bool) (ks : List Nat) (i : Nat) (r : RS), Byt r.rest → Byt (decParts i hs ks r).2.rest := by
  intro hs
  induction hs with
  | nil => intro ks i r h; simpa [decParts] using h
  | cons b hs ih =>
    intro ks i r h
    cases ks with
    | nil => simpa [decParts] using h
    | cons k ks =>
      cases b with
      | true => rw [dec_true]; exact ih _ _ _ (part_byt r i k h)
      | false => rw [dec_false]; exact ih _ _ _ h
theorem kind_byt (r : RS) (top : Int) (h : Byt r.rest) : Byt (r.kind top).2.rest := by
  unfold RS.kind
  split
  · rw [show ((r.num 1).2.refuse 3).rest = (r.num 1).2.rest from by unfold RS.refuse; split <;> rfl]; exact num_byt r 1 h
  · exact num_byt r 1 h
/-- The count of sites is a byte. -/
theorem count_bd : ∀ (k : Nat), k < 7 → ∀ (r : RS), Byt r.rest → 0 ≤ (decParts 0 (rHas.getD k []) widL r).1.getD 7 0 ∧ (decParts 0 (rHas.getD k []) widL r).1.getD 7 0 < 256 := by
  intro k hk r hb
  have hn := fun (r' : RS) (hb' : Byt r'.rest) => num_nonneg r' hb'
  rcases (by omega : k = 0 ∨ k = 1 ∨ k = 2 ∨ k = 3 ∨ k = 4 ∨ k = 5 ∨ k = 6) with rfl | rfl | rfl | rfl | rfl | rfl | rfl
  all_goals simp [rHas, widL, decParts, RS.part, List.getD]
  exact hn r hb

/-- What readRecord answers: the record, its sites in new memory. -/
def ReadRPost (w w' : World) (R L : Nat) (v : Value) (d : RcV × RS) : Prop :=
  ∃ sa sc, v = RcV.val { d.1 with sa := sa, sc := sc } ∧ IsInts w' sa d.1.sl sc d.1.sites ∧ (∀ b off, sa = some ⟨b, off, none⟩ → w.heap.size ≤ b ∧ b < w'.heap.size) ∧ RdTo w' R L d.2 ∧ w.grownBy w' (some R)

set_option maxRecDepth 100000 in
set_option maxHeartbeats 4000000 in
theorem readRecord_any (R L : Nat) (st : RS) (w : World) (h : RdTo w R L st) (hb : Byt st.rest) (hm : HasAt w 1 rHas) (hwd : WidsAt w) (hgm : 1 < L) (hgw : 2 < L) (hkb : 0 ≤ (st.kind 7).1) :
    Calls Tryd.prog 72 #[.pointer (some ⟨R, 0, none⟩)] w fun e w' => ∃ v, e = .returned v ∧ ReadRPost w w' R L v (decRecRS st) := by
  have hLR := h.hL
  have hRw := h.lt
  have hk9 : (st.kind 7).1 < 7 := by
    unfold RS.kind
    split
    · exact (by decide : (0 : Int) < 7)
    · omega
  have hK := fun w' hh => kindR_any R L st 7 w' hh (by omega)
  have hb1 := kind_byt st 7 hb
  obtain ⟨k, r1, e1⟩ : ∃ n r, st.kind 7 = (n, r) := ⟨_, _, rfl⟩
  obtain ⟨n4, r4, e4⟩ : ∃ n r, r1.num 1 = (n, r) := ⟨_, _, rfl⟩
  obtain ⟨n5, r5, e5⟩ : ∃ n r, r4.num 3 = (n, r) := ⟨_, _, rfl⟩
  have hT := fun w' hh hr => txnRd_any R L r1 w' hh hr
  rw [e1] at hK hkb hk9 hb1
  simp only at hK hkb hk9 hb1
  have hb4 := num_byt r1 1 hb1
  rw [e4] at hT hb4
  simp only at hT hb4
  have hb5 := num_byt r4 3 hb4
  rw [e5] at hT hb5
  simp only at hT hb5
  obtain ⟨kn, rfl⟩ : ∃ kn : Nat, k = kn := ⟨k.toNat, by omega⟩
  have k10 : kn < 7 := by omega
  have k9 : (kn : Int) < 7 := by omega
  have ED : Hid (∀ d, decParts 0 (rHas.getD kn []) widL r5 = d → decRecRS st = (recMk (kn : Int) n4 n5 d.1 (d.2.sites (d.1.getD 7 0)).1, (d.2.sites (d.1.getD 7 0)).2)) := by
    show ∀ d, _ → _
    intro d hd
    rw [← hd]
    unfold decRecRS
    rw [e1]
    simp only [e4, e5, rHasOf, Int.toNat_natCast]
  have hcnt := count_bd kn k10 r5 hb5
  clear e1 e4 e5
  obtain ⟨W, hW⟩ : ∃ W : World, W = w.alloc (.cells #[.int .i64 0, .int .i64 0, .int .i64 0, .int .i64 0, .int .i64 0, .int .i64 0, .bool false, .slice none 0 0] 56) := ⟨_, rfl⟩
  have hG : w.grownBy W none := by rw [hW]; exact World.grownBy_alloc w _ none
  have zW : W.heap.size = w.heap.size + 1 := by rw [hW]; simp
  have rbW : BoxN W w.heap.size 8 [.int .i64 0, .int .i64 0, .int .i64 0, .int .i64 0, .int .i64 0, .int .i64 0, .bool false, .slice none 0 0] := by rw [hW]; simpa using boxn_new w #[.int .i64 0, .int .i64 0, .int .i64 0, .int .i64 0, .int .i64 0, .int .i64 0, .bool false, .slice none 0 0] 56 8 rfl
  have hRW := h.grown hG (fun q hq => by cases hq)
  go_enter Tryd.func72, Tryd.ntmps72
  go_upto_region 1 with (fail)
  rw [← hW]
  clear hW
  go_upto_region 2 with (go_at_call 47; refine (hK _ hRW).mono ?_; rintro e w1 ⟨rfl, h1, hg1⟩)
  obtain ⟨V1, hV1⟩ : ∃ V : World, V = w1.alloc (.cells #[.int .i64 (kn : Int), .int .i64 0, .int .i64 0, .int .i64 0, .int .i64 0, .int .i64 0, .bool false, .slice none 0 0] 56) := ⟨_, rfl⟩
  have A1 : RRAt w V1 w1.heap.size R L [.int .i64 (kn : Int), .int .i64 0, .int .i64 0, .int .i64 0, .int .i64 0, .int .i64 0, .bool false, .slice none 0 0] r1 := by
    have ha := World.grownBy_alloc w1 (.cells #[.int .i64 (kn : Int), .int .i64 0, .int .i64 0, .int .i64 0, .int .i64 0, .int .i64 0, .bool false, .slice none 0 0] 56) none
    have s1 := hg1.size
    refine ⟨?_, ?_, ?_, ?_, by omega, hRw⟩
    · rw [hV1]; simpa using boxn_new w1 #[.int .i64 (kn : Int), .int .i64 0, .int .i64 0, .int .i64 0, .int .i64 0, .int .i64 0, .bool false, .slice none 0 0] 56 8 rfl
    · rw [hV1]; exact (rbW.grown hg1 (by simp; omega)).grown ha (by simp)
    · rw [hV1]; exact h1.grown ha (fun q hq => by cases hq)
    · rw [hV1]
      exact ⟨ha.os.trans (hg1.os.trans hG.os), ha.tape.trans (hg1.tape.trans hG.tape), ha.output.trans (hg1.output.trans hG.output), by have := ha.size; omega, fun q hq hne => (ha.block q (by omega) (by simp)).trans ((hg1.block q (by omega) hne).trans (hG.block q hq (by simp)))⟩
  rw [← hV1]
  clear hV1
  obtain ⟨M, hM⟩ : ∃ M, M = w1.heap.size := ⟨_, rfl⟩
  rw [← hM] at A1 ⊢
  clear hM h1 hg1 hRW rbW
  go_upto_region 3 with (go_at_call 49; refine (hT _ A1.rd A1.rd.lt).mono ?_; rintro e u ⟨rfl, hu, hgu⟩; have Q := A1.call hgu hu; obtain ⟨q0, q1⟩ := Q.mb.c 1 (by omega); obtain ⟨q2, q3⟩ := Q.mb.c 2 (by omega))
  have A2 := (Q.set 1 (by omega) (.int .i64 n4)).set 2 (by omega) (.int .i64 n5)
  obtain ⟨V2, hV2⟩ : ∃ V : World, V = (u.setCell ⟨M, 1, none⟩ (.int .i64 n4)).setCell ⟨M, 2, none⟩ (.int .i64 n5) := ⟨_, rfl⟩
  rw [← hV2] at A2 ⊢
  clear hV2 Q q0 q1 q2 q3 hu hgu A1
  replace A2 : RRAt w V2 M R L [.int .i64 (kn : Int), .int .i64 n4, .int .i64 n5, .int .i64 0, .int .i64 0, .int .i64 0, .bool false, .slice none 0 0] r5 := A2
  have EH : Hid (rHas.getD kn [] = [(rHas.getD kn []).getD 0 false, (rHas.getD kn []).getD 1 false, (rHas.getD kn []).getD 2 false, (rHas.getD kn []).getD 3 false, (rHas.getD kn []).getD 4 false, (rHas.getD kn []).getD 5 false, (rHas.getD kn []).getD 6 false, (rHas.getD kn []).getD 7 false]) := rHas_eight kn k10
  have hmV : HasAt V2 1 rHas := fun i j hi hj => A2.gr.cell (hm i j hi hj) (by simp; omega)
  have wV : WidsAt V2 := hwd.grown A2.gr (by simp; omega)
  have f0 := hmV kn 0 k10 (by decide)
  have f1 := hmV kn 1 k10 (by decide)
  have f2 := hmV kn 2 k10 (by decide)
  have f3 := hmV kn 3 k10 (by decide)
  have f4 := hmV kn 4 k10 (by decide)
  have f5 := hmV kn 5 k10 (by decide)
  have f6 := hmV kn 6 k10 (by decide)
  have f7 := hmV kn 7 k10 (by decide)
  obtain ⟨h0, eh0⟩ : ∃ x, x = (rHas.getD kn []).getD 0 false := ⟨_, rfl⟩
  obtain ⟨h1, eh1⟩ : ∃ x, x = (rHas.getD kn []).getD 1 false := ⟨_, rfl⟩
  obtain ⟨h2, eh2⟩ : ∃ x, x = (rHas.getD kn []).getD 2 false := ⟨_, rfl⟩
  obtain ⟨h3, eh3⟩ : ∃ x, x = (rHas.getD kn []).getD 3 false := ⟨_, rfl⟩
  obtain ⟨h4, eh4⟩ : ∃ x, x = (rHas.getD kn []).getD 4 false := ⟨_, rfl⟩
  obtain ⟨h5, eh5⟩ : ∃ x, x = (rHas.getD kn []).getD 5 false := ⟨_, rfl⟩
  obtain ⟨h6, eh6⟩ : ∃ x, x = (rHas.getD kn []).getD 6 false := ⟨_, rfl⟩
  obtain ⟨h7, eh7⟩ : ∃ x, x = (rHas.getD kn []).getD 7 false := ⟨_, rfl⟩
  rw [← eh0, ← eh1, ← eh2, ← eh3, ← eh4, ← eh5, ← eh6, ← eh7] at EH
  rw [← eh0] at f0
  rw [← eh1] at f1
  rw [← eh2] at f2
  rw [← eh3] at f3
  rw [← eh4] at f4
  rw [← eh5] at f5
  rw [← eh6] at f6
  rw [← eh7] at f7
  clear eh0 eh1 eh2 eh3 eh4 eh5 eh6 eh7
  simp only [Nat.add_zero] at f0
  obtain ⟨k0, _⟩ := A2.mb.c 0 (by omega)
  have k0' : V2.cell? ⟨M, 0, none⟩ = some (.int .i64 (kn : Int)) := k0
  clear k0
  have hbD := dec_byt [h0, h1, h2, h3, h4, h5, h6, h7] widL 0 r5 hb5
  go_upto_region 4 with (go_at_call 50; refine (partsR_any R L r5 h0 h1 h2 h3 h4 h5 h6 h7 _ A2.rd wV hgw).mono ?_; rintro e u ⟨v, rfl, q0, q1, q2, q3, q4, q5, q6, q7, rfl, hq, hu, hgu⟩)
  have A3 := (A2.call hgu hu).alloc (.cells #[.int .i64 q0, .int .i64 q1, .int .i64 q2, .int .i64 q3, .int .i64 q4, .int .i64 q5, .int .i64 q6, .int .i64 q7] 92)
  obtain ⟨V3, hV3⟩ : ∃ V : World, V = u.alloc (.cells #[.int .i64 q0, .int .i64 q1, .int .i64 q2, .int .i64 q3, .int .i64 q4, .int .i64 q5, .int .i64 q6, .int .i64 q7] 92) := ⟨_, rfl⟩
  have P3 : BoxN V3 u.heap.size 8 [.int .i64 q0, .int .i64 q1, .int .i64 q2, .int .i64 q3, .int .i64 q4, .int .i64 q5, .int .i64 q6, .int .i64 q7] := by rw [hV3]; simpa using boxn_new u #[.int .i64 q0, .int .i64 q1, .int .i64 q2, .int .i64 q3, .int .i64 q4, .int .i64 q5, .int .i64 q6, .int .i64 q7] 92 8 rfl
  have hMP : u.heap.size ≠ M := by have := (A2.call hgu hu).mb.lt; omega
  rw [← hV3] at A3 ⊢
  clear hV3
  obtain ⟨Pb, hPb⟩ : ∃ Pb, Pb = u.heap.size := ⟨_, rfl⟩
  rw [← hPb] at P3 hMP ⊢
  obtain ⟨rF, erF⟩ : ∃ r, r = (decParts 0 [h0, h1, h2, h3, h4, h5, h6, h7] widL r5).2 := ⟨_, rfl⟩
  have hD : decRecRS st = (recMk (kn : Int) n4 n5 [q0, q1, q2, q3, q4, q5, q6, q7] (rF.sites q7).1, (rF.sites q7).2) := by
    have hh := ED.out _ rfl
    rw [EH.out] at hh
    rw [hq, ← erF] at hh
    exact hh
  have hc7 : 0 ≤ q7 ∧ q7 < 256 := by
    rw [EH.out, hq] at hcnt
    exact hcnt
  rw [← erF] at A3 hu hbD
  have HD : Hid (decRecRS st = (recMk (kn : Int) n4 n5 [q0, q1, q2, q3, q4, q5, q6, q7] (rF.sites q7).1, (rF.sites q7).2)) := hD
  have hSi := fun w' hh => sitesR_any R L rF q7 w' hh hbD hc7
  clear hPb hu hgu A2 hD erF hq ED EH f0 f1 f2 f3 f4 f5 f6 f7 hmV wV k0' hK hT hcnt
  obtain ⟨x0, _⟩ := P3.c 1 (by omega)
  replace x0 : V3.cell? ⟨Pb, 1, none⟩ = some (.int .i64 q1) := x0
  obtain ⟨y0, y1⟩ := A3.mb.c 3 (by omega)
  replace y0 : V3.cell? ⟨M, 3, none⟩ = some (.int .i64 0) := y0
  go_upto_region 5 with (fail)
  have A4 := A3.set 3 (by omega) (.int .i64 q1)
  have P4 := P3.far (c := M) (k := 3) (v := .int .i64 q1) hMP
  obtain ⟨V4, hV4⟩ : ∃ V : World, V = V3.setCell ⟨M, 3, none⟩ (.int .i64 q1) := ⟨_, rfl⟩
  rw [← hV4] at A4 P4 ⊢
  clear hV4 x0 y0 y1 A3 P3
  replace A4 : RRAt w V4 M R L [.int .i64 (kn : Int), .int .i64 n4, .int .i64 n5, .int .i64 q1, .int .i64 0, .int .i64 0, .bool false, .slice none 0 0] rF := A4
  obtain ⟨x0, _⟩ := P4.c 2 (by omega)
  replace x0 : V4.cell? ⟨Pb, 2, none⟩ = some (.int .i64 q2) := x0
  obtain ⟨y0, y1⟩ := A4.mb.c 4 (by omega)
  replace y0 : V4.cell? ⟨M, 4, none⟩ = some (.int .i64 0) := y0
  go_upto_region 6 with (fail)
  have A5 := A4.set 4 (by omega) (.int .i64 q2)
  have P5 := P4.far (c := M) (k := 4) (v := .int .i64 q2) hMP
  obtain ⟨V5, hV5⟩ : ∃ V : World, V = V4.setCell ⟨M, 4, none⟩ (.int .i64 q2) := ⟨_, rfl⟩
  rw [← hV5] at A5 P5 ⊢
  clear hV5 x0 y0 y1 A4 P4
  replace A5 : RRAt w V5 M R L [.int .i64 (kn : Int), .int .i64 n4, .int .i64 n5, .int .i64 q1, .int .i64 q2, .int .i64 0, .bool false, .slice none 0 0] rF := A5
  obtain ⟨x0, _⟩ := P5.c 4 (by omega)
  replace x0 : V5.cell? ⟨Pb, 4, none⟩ = some (.int .i64 q4) := x0
  obtain ⟨y0, y1⟩ := A5.mb.c 5 (by omega)
  replace y0 : V5.cell? ⟨M, 5, none⟩ = some (.int .i64 0) := y0
  go_upto_region 7 with (fail)
  have A6 := A5.set 5 (by omega) (.int .i64 q4)
  have P6 := P5.far (c := M) (k := 5) (v := .int .i64 q4) hMP
  obtain ⟨V6, hV6⟩ : ∃ V : World, V = V5.setCell ⟨M, 5, none⟩ (.int .i64 q4) := ⟨_, rfl⟩
  rw [← hV6] at A6 P6 ⊢
  clear hV6 x0 y0 y1 A5 P5
  replace A6 : RRAt w V6 M R L [.int .i64 (kn : Int), .int .i64 n4, .int .i64 n5, .int .i64 q1, .int .i64 q2, .int .i64 q4, .bool false, .slice none 0 0] rF := A6
  obtain ⟨x0, _⟩ := P6.c 5 (by omega)
  replace x0 : V6.cell? ⟨Pb, 5, none⟩ = some (.int .i64 q5) := x0
  obtain ⟨y0, y1⟩ := A6.mb.c 6 (by omega)
  replace y0 : V6.cell? ⟨M, 6, none⟩ = some (.bool false) := y0
  go_upto_region 8 with (fail)
  have A7 := A6.set 6 (by omega) (.bool (q5 == 1))
  have P7 := P6.far (c := M) (k := 6) (v := .bool (q5 == 1)) hMP
  obtain ⟨V7, hV7⟩ : ∃ V : World, V = V6.setCell ⟨M, 6, none⟩ (.bool (q5 == 1)) := ⟨_, rfl⟩
  rw [← hV7] at A7 P7 ⊢
  clear hV7 x0 y0 y1 A6 P6
  replace A7 : RRAt w V7 M R L [.int .i64 (kn : Int), .int .i64 n4, .int .i64 n5, .int .i64 q1, .int .i64 q2, .int .i64 q4, .bool (q5 == 1), .slice none 0 0] rF := A7
  obtain ⟨x0, _⟩ := P7.c 7 (by omega)
  replace x0 : V7.cell? ⟨Pb, 7, none⟩ = some (.int .i64 q7) := x0
  have hML := A7.mb.lt
  obtain ⟨SD, eSD⟩ : ∃ x, x = rF.sites q7 := ⟨_, rfl⟩
  rw [← eSD] at hSi HD
  clear eSD
  go_upto_region 9 with (go_at_call 75; refine (hSi _ A7.rd).mono ?_; rintro e u8 ⟨sa, sc, rfl, hI8, hn8, hu8, hg8⟩; have Q := A7.call hg8 hu8; obtain ⟨y0, y1⟩ := Q.mb.c 7 (by omega))
  have zV7 : w.heap.size < V7.heap.size := by have := A7.mlt; omega
  have A8 := Q.set 7 (by omega) (.slice sa SD.1.length sc)
  have hsetM : u8.grownBy (u8.setCell ⟨M, 7, none⟩ (.slice sa SD.1.length sc)) (some M) := grown_set (grownR_refl _ _)
  have hI9 := isI_grownR hI8 hsetM (fun b off e => by have := (hn8 b off e).1; simp; omega)
  have hn9 : ∀ b off, sa = some ⟨b, off, none⟩ → V7.heap.size ≤ b ∧ b < (u8.setCell ⟨M, 7, none⟩ (.slice sa SD.1.length sc)).heap.size := fun b off e => by have := hn8 b off e; simpa using this
  obtain ⟨V8, hV8⟩ : ∃ V : World, V = u8.setCell ⟨M, 7, none⟩ (.slice sa SD.1.length sc) := ⟨_, rfl⟩
  rw [← hV8] at A8 hI9 hn9 ⊢
  clear hV8 Q y0 y1 x0 hI8 hn8 hu8 hg8 A7 P7 hsetM hSi
  replace A8 : RRAt w V8 M R L [.int .i64 (kn : Int), .int .i64 n4, .int .i64 n5, .int .i64 q1, .int .i64 q2, .int .i64 q4, .bool (q5 == 1), .slice sa SD.1.length sc] SD.2 := A8
  have mlt := A8.mlt
  have rlt := A8.rlt
  have m0 : V8.cell? ⟨M, 0, none⟩ = some (.int .i64 (kn : Int)) := (A8.mb.c 0 (by omega)).1
  have s0 : V8.cell? ⟨w.heap.size, 0, none⟩ = some (.int .i64 0) := (A8.rb.c 0 (by omega)).1
  have g0 : V8.frozen? ⟨w.heap.size, 0, none⟩ = false := (A8.rb.c 0 (by omega)).2
  have m1 : V8.cell? ⟨M, 1, none⟩ = some (.int .i64 n4) := (A8.mb.c 1 (by omega)).1
  have s1 : V8.cell? ⟨w.heap.size, 1, none⟩ = some (.int .i64 0) := (A8.rb.c 1 (by omega)).1
  have g1 : V8.frozen? ⟨w.heap.size, 1, none⟩ = false := (A8.rb.c 1 (by omega)).2
  have m2 : V8.cell? ⟨M, 2, none⟩ = some (.int .i64 n5) := (A8.mb.c 2 (by omega)).1
  have s2 : V8.cell? ⟨w.heap.size, 2, none⟩ = some (.int .i64 0) := (A8.rb.c 2 (by omega)).1
  have g2 : V8.frozen? ⟨w.heap.size, 2, none⟩ = false := (A8.rb.c 2 (by omega)).2
  have m3 : V8.cell? ⟨M, 3, none⟩ = some (.int .i64 q1) := (A8.mb.c 3 (by omega)).1
  have s3 : V8.cell? ⟨w.heap.size, 3, none⟩ = some (.int .i64 0) := (A8.rb.c 3 (by omega)).1
  have g3 : V8.frozen? ⟨w.heap.size, 3, none⟩ = false := (A8.rb.c 3 (by omega)).2
  have m4 : V8.cell? ⟨M, 4, none⟩ = some (.int .i64 q2) := (A8.mb.c 4 (by omega)).1
  have s4 : V8.cell? ⟨w.heap.size, 4, none⟩ = some (.int .i64 0) := (A8.rb.c 4 (by omega)).1
  have g4 : V8.frozen? ⟨w.heap.size, 4, none⟩ = false := (A8.rb.c 4 (by omega)).2
  have m5 : V8.cell? ⟨M, 5, none⟩ = some (.int .i64 q4) := (A8.mb.c 5 (by omega)).1
  have s5 : V8.cell? ⟨w.heap.size, 5, none⟩ = some (.int .i64 0) := (A8.rb.c 5 (by omega)).1
  have g5 : V8.frozen? ⟨w.heap.size, 5, none⟩ = false := (A8.rb.c 5 (by omega)).2
  have m6 : V8.cell? ⟨M, 6, none⟩ = some (.bool (q5 == 1)) := (A8.mb.c 6 (by omega)).1
  have s6 : V8.cell? ⟨w.heap.size, 6, none⟩ = some (.bool false) := (A8.rb.c 6 (by omega)).1
  have g6 : V8.frozen? ⟨w.heap.size, 6, none⟩ = false := (A8.rb.c 6 (by omega)).2
  have m7 : V8.cell? ⟨M, 7, none⟩ = some (.slice sa SD.1.length sc) := (A8.mb.c 7 (by omega)).1
  have s7 : V8.cell? ⟨w.heap.size, 7, none⟩ = some (.slice none 0 0) := (A8.rb.c 7 (by omega)).1
  have g7 : V8.frozen? ⟨w.heap.size, 7, none⟩ = false := (A8.rb.c 7 (by omega)).2
  have hset : V8.grownBy _ (some w.heap.size) := grown_set (i := 7) (v := .slice sa SD.1.length sc) (grown_set (i := 6) (v := .bool (q5 == 1)) (grown_set (i := 5) (v := .int .i64 q4) (grown_set (i := 4) (v := .int .i64 q2) (grown_set (i := 3) (v := .int .i64 q1) (grown_set (i := 2) (v := .int .i64 n5) (grown_set (i := 1) (v := .int .i64 n4) (grown_set (i := 0) (v := .int .i64 (kn : Int)) (grownR_refl V8 (some w.heap.size)))))))))
  have hrdF := A8.rd.grown hset (fun q hq => by have := A8.rd.hL; simp at hq; omega)
  have hIF := isI_grownR hI9 hset (fun b off e => by have := (hn9 b off e).1; simp; omega)
  have hgrF := A8.gr
  clear A8
  go_wp2
  refine bodyPost_ret (v := .agg #[.int .i64 (kn : Int), .int .i64 n4, .int .i64 n5, .int .i64 q1, .int .i64 q2, .int .i64 q4, .bool (q5 == 1), .slice sa SD.1.length sc]) (by simp [results, Tryd.results72, go_sem, s0, s1, s2, s3, s4, s5, s6, s7]) rfl ⟨_, rfl, sa, sc, by rw [HD.out]; rfl, by rw [HD.out]; exact hIF, fun b off e => ?_, by rw [HD.out]; exact hrdF, ?_⟩
  · have hx := hn9 b off e
    exact ⟨by omega, Nat.lt_of_lt_of_le hx.2 hset.size⟩
  · exact ⟨hset.os.trans hgrF.os, hset.tape.trans hgrF.tape, hset.output.trans hgrF.output, Nat.le_trans hgrF.size hset.size, fun q hq hne => (hset.block q (by have := hgrF.size; omega) (by simp; omega)).trans (hgrF.block q hq hne)⟩
end Go.Proofs.YtflfcjbgkpfgkaaDoor
