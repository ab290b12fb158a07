/- The contract of the reader's sites. -/
import Derived.Test.YtpikiaepomjmgaaDoorWRead
import Derived.Test.YtpikiaepomjmgaaDoorWDecR1
namespace Go.Proofs.YtpikiaepomjmgaaDoor
open Go.ChangeShapes Go.WideShapes Go.ChangeAt Go.RowKit
set_option linter.unusedVariables false

theorem intInfoS : (Tryd.prog.info? 3).map (fun i => (i.zero, i.size, i.bytes)) = some (some (.int .i64 0), 1, 8) := by kernel_rfl
def intsS (zs : List Int) : List Value := zs.map (Value.int .i64)
theorem num_nonneg (r : RS) (hb : Byt r.rest) : 0 ≤ (r.num 1).1 ∧ (r.num 1).1 < 256 := by
  by_cases h0 : r.wrong = 0
  · by_cases hk : 1 ≤ r.rest.length
    · rw [num_ok h0 hk]
      simpa using bval_bd 1 (r.rest.take 1) (by simp; omega) (hb.take 1)
    · rw [num_short h0 (by omega)]; simp
  · rw [num_wrong h0]; simp
theorem rd_snoc (k : Nat) (r : RS) : rdNums (List.replicate (k + 1) 1) r = ((rdNums (List.replicate k 1) r).1 ++ [((rdNums (List.replicate k 1) r).2.num 1).1], ((rdNums (List.replicate k 1) r).2.num 1).2) := by
  rw [List.replicate_succ', rd_app]
  rfl

/-- Numbers that a slice of the call's own holds. -/
theorem isI_ownS {w : World} {B : Nat} {a : Option Addr} {n cap : Nat} {zs : List Int} (h : w.ownsRow B 3 1 (.slice a n cap) n (intsS zs)) (hz : ∀ z ∈ zs, 0 ≤ z ∧ z ≤ 1000) :
    IsInts w a n cap zs ∧ (∀ b off, a = some ⟨b, off, none⟩ → B ≤ b ∧ b < w.heap.size) := by
  have hlen : zs.length = n := by have := h.1; simpa [intsS] using this
  have hbd : ∀ i, -9223372036854775808 ≤ zs.getD i 0 ∧ zs.getD i 0 ≤ 9223372036854775807 := by
    intro i
    by_cases hi : i < zs.length
    · have := hz zs[i] (List.getElem_mem hi)
      simp [List.getD, hi]
      omega
    · simp [List.getD, List.getElem?_eq_none (by omega : zs.length ≤ i)]
  rcases h.2 with ⟨hv, hn⟩ | ⟨g, cap', cur, hv, hg, hcur, h1, h2, h3, h4⟩
  · simp only [Value.slice.injEq] at hv
    obtain ⟨rfl, rfl, rfl⟩ := hv
    exact ⟨⟨hlen, Nat.le_refl _, Nat.zero_le _, hbd, fun hp => absurd hp (by omega)⟩, fun b off e => by simp at e⟩
  · simp only [Value.slice.injEq, true_and] at hv
    obtain ⟨rfl, rfl⟩ := hv
    refine ⟨⟨hlen, h1, h2, hbd, fun hp => ⟨g, 0, rfl, (h.lt g rfl).2, fun i hi => ?_⟩⟩, fun b off e => ?_⟩
    · have hx := h.cells (g := g) rfl i (.int .i64 (zs.getD i 0)) (by simp [intsS, List.getD, show i < zs.length by omega])
      rwa [adr_add] at hx
    · simp at e
      obtain ⟨rfl, _⟩ := e
      exact ⟨hg, (h.lt g rfl).2⟩

def SitesPost (w w' : World) (R L : Nat) (e : Ending) (d : List Int × RS) : Prop :=
  ∃ sa sc, e = .returned (.slice sa d.1.length sc) ∧ IsInts w' sa d.1.length sc d.1 ∧ (∀ b off, sa = some ⟨b, off, none⟩ → w.heap.size ≤ b ∧ b < w'.heap.size) ∧ RdTo w' R L d.2 ∧ w.grownBy w' (some R)

set_option maxRecDepth 100000 in
set_option maxHeartbeats 1000000 in
theorem sitesR_any (R L : Nat) (st : RS) (n : Int) (w : World) (h : RdTo w R L st) (hb : Byt st.rest) (hn : 0 ≤ n ∧ n < 256) :
    Calls Tryd.prog 53 #[.pointer (some ⟨R, 0, none⟩), .int .i64 n] w fun e w' => SitesPost w w' R L e (st.sites n) := by
  obtain ⟨i0, hi, li0, li1, li2⟩ := info_parts intInfoS
  obtain ⟨N, rfl⟩ : ∃ N : Nat, n = N := ⟨n.toNat, by omega⟩
  have hN : N < 256 := by omega
  have hNi : (N : Int) < 256 := by omega
  have hRw := h.lt
  have hLR := h.hL
  have ES : Hid (st.sites (N : Int) = rdNums (List.replicate N 1) st) := by show _ = _; unfold RS.sites; rw [Int.toNat_natCast]
  obtain ⟨SD, eSD⟩ : ∃ x, x = st.sites (N : Int) := ⟨_, rfl⟩
  rw [← eSD] at ES ⊢
  clear eSD
  go_enter Tryd.func53, Tryd.ntmps53
  go_wp2
  go_loopw [5, 7] (fun s5 s7 wr => ∃ (k : Nat) (a1 : Option Addr) (c1 : Nat) (zs : List Int) (sk : RS), k ≤ N ∧ s7 = .int .i64 k ∧ s5 = .slice a1 k c1 ∧ wr.ownsRow w.heap.size 3 1 (.slice a1 k c1) k (intsS zs) ∧ RdTo wr R L sk ∧ w.grownBy wr (some R) ∧ Byt sk.rest ∧ (∀ z ∈ zs, 0 ≤ z ∧ z ≤ 1000) ∧ Hid (rdNums (List.replicate k 1) st = (zs, sk))) (fun _ s7 _ => N - (intOf s7).toNat)
  case atStart => exact ⟨0, none, 0, [], st, by omega, rfl, rfl, World.ownsRow_nil _ _ _ _, h, grownR_refl _ _, hb, by simp, rfl⟩
  case round =>
    obtain ⟨k, a1, c1, zs, sk, hk, rfl, rfl, own, hR, hgr, hby, hzs, hrd⟩ := hrel
    by_cases hlt : k < N
    · have hlt' : (k : Int) < (N : Int) := by omega
      have hn := number_any R L sk 1 _ hR (by omega)
      have hnb := num_nonneg sk hby
      have hby' := num_byt sk 1 hby
      have hrd' : Hid (rdNums (List.replicate (k + 1) 1) st = (zs ++ [(sk.num 1).1], (sk.num 1).2)) := by show _ = _; rw [rd_snoc, hrd.out]
      obtain ⟨x, r1, ex⟩ : ∃ x r, sk.num 1 = (x, r) := ⟨_, _, rfl⟩
      rw [ex] at hn hnb hby' hrd'
      simp only at hn hnb hby' hrd'
      clear ex hrd
      have hzs' : ∀ z ∈ zs ++ [x], 0 ≤ z ∧ z ≤ 1000 := fun z hz => by
        rcases List.mem_append.1 hz with hz | hz
        · exact hzs z hz
        · simp at hz; omega
      have hnR : (Value.slice a1 k c1).ownBlock = none ∨ (Value.slice a1 k c1).ownBlock ≠ some R := by
        right
        intro e
        have := (own.lt R e).1
        omega
      have hc2 : ∀ u ∈ [Value.int .i64 x], u.oneCell' = true := by intro u hu; simp at hu; subst hu; rfl
      go_wp2_with (first
        | (go_at_call 40; refine hn.mono ?_; rintro e w1 ⟨rfl, h1, hg1⟩; have own1 := own.kept hg1 hnR; have z1 := hg1.size; have zz := hgr.size)
        | (at_builtin; refine wpList_append_lies _ (by rfl) (.tmp 9) (.tmp 12) 35 (by rfl) w.heap.size 3 i0 (.int .i64 0) 1 8 Tryd.underlying35 hi li0 li1 li2 rfl (by decide) (.slice a1 k c1) k (intsS zs) (by rfl) (own1.alloc _) ⟨w1.heap.size, 0, none⟩ 1 1 [.int .i64 x] (by rfl) rfl (cell_one_new w1 _ _) hc2 (by omega) (by unfold maxLen; omega) (by omega) (by simp; omega) _ rfl ?_; intro g5 c5 w5 own5 gr5 at5 lt5))
      have hal := World.grownBy_alloc w1 (.cells #[.int .i64 x] 3) none
      have eV : intsS zs ++ [Value.int .i64 x] = intsS (zs ++ [x]) := by simp [intsS]
      rw [eV] at own5
      have hR5 : RdTo w5 R L r1 := (h1.grown hal (fun q hq => by cases hq)).grown gr5 (fun q hq => by have := own1.lt q hq; omega)
      have hg5 : w.grownBy w5 (some R) := by
        refine ⟨gr5.os.trans (hal.os.trans (hg1.os.trans hgr.os)), gr5.tape.trans (hal.tape.trans (hg1.tape.trans hgr.tape)), gr5.output.trans (hal.output.trans (hg1.output.trans hgr.output)), by have := gr5.size; have := hal.size; omega, fun q hq hne => ?_⟩
        rw [gr5.block q (by simp; omega) (by intro e; have := (own1.lt q e.symm).1; omega), hal.block q (by omega) (by simp), hg1.block q (by omega) hne, hgr.block q hq hne]
      go_roundw
      case rel => exact ⟨k + 1, some ⟨g5, 0, none⟩, c5, zs ++ [x], r1, by omega, by go_num, rfl, own5, hR5, hg5, hby', hzs', hrd'⟩
      case measure => simp [intOf]; omega
    · have hke : k = N := by omega
      subst hke
      obtain ⟨hII, hnew⟩ := isI_ownS own hzs
      have hl : zs.length = k := hII.1
      have hSD : SD = (zs, sk) := by rw [ES.out, hrd.out]
      go_wp2
      go_ret
      refine ⟨a1, c1, ?_, ?_, hnew, ?_, hgr⟩
      · rw [hSD]; simp [hl]
      · rw [hSD]; simpa [hl] using hII
      · rw [hSD]; exact hR
end Go.Proofs.YtpikiaepomjmgaaDoor
