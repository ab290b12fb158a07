/- recover.refuse and recover.Rebuild. -/
import Derived.Test.YtekglahigjblkaaGreatDoorM24RecoverRebuilds
import Derived.Test.YtekglahigjblkaaGreatDoorM25RecoverRebuilds
import Derived.Test.YtekglahigjblkaaGreatDoorM28RecoverRebuilds
import Derived.Test.YtekglahigjblkaaGreatDoorM29RecoverRebuilds
namespace Go.Proofs.YtekglahigjblkaaGreatDoor.Rb
open Go.ChangeShapes Go.WideShapes Go.ChangeAt Go.RowKit
open Go.Proofs.YtekglahigjblkaaGreatDoor.St Go.Proofs.YtekglahigjblkaaGreatDoor.Co Go.Proofs.YtekglahigjblkaaGreatDoor.Pt
set_option linter.unusedVariables false

def RcM.v (r : RcM) : RcV := ⟨r.p.kind, r.p.site, r.p.num, r.p.key, r.p.value, r.p.ask, r.p.yes, r.sa, r.sl, r.sc, r.p.zs⟩
def RcP.v (r : RcP) : RcV := ⟨r.kind, r.site, r.num, r.key, r.value, r.ask, r.yes, none, r.zs.length, r.zs.length, r.zs⟩
def recsErr (s : Int) (ls : List (Int × Int)) (p : Int) : List RcP → Int
  | [] => 0
  | r :: l => if recFault s ls p (RcP.v r) = 0 then recsErr s ls p l else recFault s ls p (RcP.v r)
/-- Why records are refused. -/
def rbErr (s : Int) (ls : List (Int × Int)) (p me : Int) (rs : List RcP) : Int := if cfgFault s ls p = 0 then (if inR me 0 (s - 1) then recsErr s ls p rs else 2) else cfgFault s ls p
theorem recFault_v (s : Int) (ls : List (Int × Int)) (p : Int) (r : RcM) (h : r.p.zs.length = r.sl) : recFault s ls p (RcM.v r) = recFault s ls p (RcP.v r.p) := by
  unfold recFault recRange recForm RcM.v RcP.v
  simp only [h]
/-- Records in memory, with their sites. -/
structure RecsAt (w : World) (a : Option Addr) (n c : Nat) (rs : List RcM) : Prop where
  row : IsRow 8 RcM.cells w a n c rs
  ints : ∀ r ∈ rs, IsInts w r.sa r.sl r.sc r.p.zs
theorem RecsAt.below {w u : World} {a : Option Addr} {n c : Nat} {rs : List RcM} (h : RecsAt w a n c rs) (hb : Below w.heap.size w u) : RecsAt u a n c rs := ⟨h.row.below hb, fun r hr => (h.ints r hr).below hb⟩
theorem isSt_of {w : World} {a : Option Addr} {n c : Nat} {zs : List Int} (h : IsInts w a n c zs) : IsSt w a n c zs := by
  obtain ⟨h1, h2, h3, h4, h5⟩ := h
  refine ⟨h1, h2, h3, fun h0 => ⟨h1, h2, h3, fun e => ?_, fun h0 => ?_⟩⟩
  · obtain ⟨b, off, e2, _⟩ := h5 h0
    rw [e] at e2
    cases e2
  · obtain ⟨b, off, e2, hb, hc⟩ := h5 h0
    refine ⟨b, off, e2, hb, fun i hi j hj => ?_⟩
    obtain rfl : j = 0 := by omega
    simp only [Nat.mul_one, Nat.add_zero]
    rw [hc i hi]
    rfl
theorem recsErr_at {s : Int} {ls : List (Int × Int)} {p : Int} {rs : List RcM} {k : Nat} (hk : k < rs.length) : recsErr s ls p ((rs.map RcM.p).drop k) = if recFault s ls p (RcP.v (rs.getD k default).p) = 0 then recsErr s ls p ((rs.map RcM.p).drop (k + 1)) else recFault s ls p (RcP.v (rs.getD k default).p) := by
  have h8 : (rs.map RcM.p).drop k = (rs.getD k default).p :: (rs.map RcM.p).drop (k + 1) := by
    rw [List.drop_eq_getElem_cons (by simpa using hk)]
    simp [List.getD, hk]
  rw [h8, recsErr]
theorem cfg_rangeR {s : Int} {ls : List (Int × Int)} {p : Int} (h : cfgFault s ls p = 0) : 1 ≤ s ∧ s ≤ 4 := by
  by_cases hs : s < 1 ∨ 4 < s
  · rw [cfg_sites hs] at h; omega
  · omega
theorem siteR_any (s p : Int) (a : Option Addr) (len cap : Nat) (n : Int) (w : World) (hs : 1 ≤ s ∧ s ≤ 4) :
    Calls Tryz.prog 25 #[.agg #[.int .i64 s, .slice a len cap, .int .i64 p], .int .i64 n] w fun e w' => e = .returned (.bool (inR n 0 (s - 1))) ∧ Below w.heap.size w w' := by
  have hA : Below w.heap.size w (w.alloc (.cells #[.int .i64 s, .slice a len cap, .int .i64 p] 24)) := (Below.refl _ _).alloc (Nat.le_refl _) _
  obtain ⟨h1, h2⟩ := hs
  go_enter Tryz.func25, Tryz.ntmps25
  go_wp2_with (go_at_call 41; refine (within_any _ _ _ _).mono ?_; rintro e u1 ⟨rfl, hu1⟩; rw [hu1]; clear hu1)
  go_ret
  exact ⟨rfl, hA⟩
set_option maxRecDepth 100000 in
set_option maxHeartbeats 8000000 in
theorem refuse_rec (s p : Int) (a : Option Addr) (len cap : Nat) (ls : List (Int × Int)) (me : Int) (ao : Option Addr) (n cp : Nat) (rs : List RcM) (w : World) (h : IsLabs w a len cap ls) (hr : RecsAt w ao n cp rs) (hm : HasAt w 0 rHas) (ht : TopsAt w) :
    Calls Tryz.prog 9 #[.agg #[.int .i64 s, .slice a len cap, .int .i64 p], .int .i64 me, .slice ao n cp] w fun e w' => e = .returned (.int .i64 (rbErr s ls p me (rs.map RcM.p))) ∧ Below w.heap.size w w' := by
  have hgT : 1 < w.heap.size := World.block_lt_of_cell? w _ ht.1
  have hgM : 0 < w.heap.size := hm.lt (by decide)
  have HL : Hid (rs.length = n) := hr.row.1
  have hcap : n ≤ cp := hr.row.2.1
  have hcpm : cp ≤ maxLen := hr.row.2.2.1
  unfold maxLen at hcpm
  have HW : Hid (∀ U, Below w.heap.size w U → IsLabs U a len cap ls ∧ RecsAt U ao n cp rs ∧ HasAt U 0 rHas ∧ TopsAt U) := fun U hU => ⟨h.below hU, hr.below hU, hm.below hU hgM, ht.below hU hgT⟩
  clear hr h hm ht hgT hgM
  obtain ⟨W, hW⟩ : ∃ W : World, W = w.alloc (.cells #[.int .i64 s, .slice a len cap, .int .i64 p] 24) := ⟨_, rfl⟩
  have bW : Below w.heap.size w W := by rw [hW]; exact (Below.refl _ _).alloc (Nat.le_refl _) _
  have cb : BoxN W w.heap.size 3 [.int .i64 s, .slice a len cap, .int .i64 p] := by rw [hW]; exact boxn_new w #[.int .i64 s, .slice a len cap, .int .i64 p] 24 3 rfl
  have HC : Hid (∀ U, Below W.heap.size W U → BoxN U w.heap.size 3 [.int .i64 s, .slice a len cap, .int .i64 p] ∧ Below w.heap.size w U) := fun U hU => ⟨cb.below hU cb.lt, bW.trans (hU.mono bW.size)⟩
  have c0 : W.cell? ⟨w.heap.size, 0, none⟩ = some (.int .i64 s) := (cb.c 0 (by decide)).1
  have c1 : W.cell? ⟨w.heap.size, 1, none⟩ = some (.slice a len cap) := (cb.c 1 (by decide)).1
  have c2 : W.cell? ⟨w.heap.size, 2, none⟩ = some (.int .i64 p) := (cb.c 2 (by decide)).1
  have cz := cb.lt
  have hck := check_any s p a len cap ls W (HW.out W bW).1
  have HE : Hid (rbErr s ls p me (rs.map RcM.p) = if cfgFault s ls p = 0 then (if inR me 0 (s - 1) then recsErr s ls p (rs.map RcM.p) else 2) else cfgFault s ls p) := rfl
  obtain ⟨E, eE⟩ : ∃ E, E = rbErr s ls p me (rs.map RcM.p) := ⟨_, rfl⟩
  rw [← eE] at HE ⊢
  clear eE cb
  have hs14 : cfgFault s ls p = 0 → 1 ≤ s ∧ s ≤ 4 := fun h8 => cfg_rangeR h8
  obtain ⟨F, eF⟩ : ∃ F, F = cfgFault s ls p := ⟨_, rfl⟩
  rw [← eF] at hck HE hs14
  clear eF
  go_enter Tryz.func9, Tryz.ntmps9
  go_upto_region 1 with (fail)
  rw [← hW]
  clear hW
  by_cases hF : F = 0
  · have s14 := hs14 hF
    subst hF
    go_upto_region 4 with (go_at_call 24; refine hck.mono ?_; rintro e u ⟨rfl, hu⟩)
    obtain ⟨cbu, bwu⟩ := HC.out u hu
    clear c0 c1 c2 cz hck hs14
    have c0 : u.cell? ⟨w.heap.size, 0, none⟩ = some (.int .i64 s) := (cbu.c 0 (by decide)).1
    have c1 : u.cell? ⟨w.heap.size, 1, none⟩ = some (.slice a len cap) := (cbu.c 1 (by decide)).1
    have c2 : u.cell? ⟨w.heap.size, 2, none⟩ = some (.int .i64 p) := (cbu.c 2 (by decide)).1
    have cz := cbu.lt
    have hsite := siteR_any s p a len cap me u s14
    by_cases hme : inR me 0 (s - 1) = true
    · have HE2 : Hid (E = recsErr s ls p (rs.map RcM.p)) := by show _ = _; rw [HE.out, if_pos (by first | rfl | trivial), if_pos hme]
      rw [hme] at hsite
      clear HE hme
      go_upto_region 7 with (go_at_call 25; refine hsite.mono ?_; rintro e v ⟨rfl, hv⟩)
      clear c0 c1 c2 cz hsite
      have HV : Hid (∀ U, Below v.heap.size v U → BoxN U w.heap.size 3 [.int .i64 s, .slice a len cap, .int .i64 p] ∧ Below w.heap.size w U) := fun U hU => HC.out U (hu.trans ((hv.trans (hU.mono hv.size)).mono hu.size))
      clear hu hv HC cbu bwu bW
      go_loopw [9, 10, 22] (fun _ _ s22 wr => ∃ (k : Nat), s22 = .int .i64 (k : Int) ∧ k ≤ n ∧ Hid (recsErr s ls p (rs.map RcM.p) = recsErr s ls p ((rs.map RcM.p).drop k)) ∧ Hid (Below v.heap.size v wr)) (fun _ _ s22 _ => n - (intOf s22).toNat)
      case atStart => exact ⟨0, rfl, Nat.zero_le _, rfl, Below.refl _ _⟩
      case round =>
        obtain ⟨k, rfl, hk, hat, hbv⟩ := hrel
        obtain ⟨cbw, bww⟩ := HV.out wr hbv.out
        by_cases hlt : k < n
        · have hlt' : (k : Int) < (n : Int) := by omega
          have hrow := (HW.out wr bww).2.1.row
          obtain ⟨b, off, rfl, zb, hcr⟩ := hrow.2.2.2.2 (by omega)
          have hcl := hcr k hlt
          have hkc : k < cp := by omega
          have hkl : k < rs.length := by rw [HL.out]; exact hlt
          have HA := recsErr_at (s := s) (ls := ls) (p := p) hkl
          rw [← hat.out] at HA
          have hmr : rs.getD k default ∈ rs := by simp [List.getD, hkl]
          have HR : Hid (∀ U, Below w.heap.size w U → IsLabs U a len cap ls ∧ IsInts U (rs.getD k default).sa (rs.getD k default).sl (rs.getD k default).sc (rs.getD k default).p.zs ∧ HasAt U 0 rHas ∧ TopsAt U) := fun U hU => ⟨(HW.out U hU).1, (HW.out U hU).2.1.ints _ hmr, (HW.out U hU).2.2.1, (HW.out U hU).2.2.2⟩
          have hzl : (rs.getD k default).p.zs.length = (rs.getD k default).sl := ((HW.out wr bww).2.1.ints _ hmr).1
          rw [← recFault_v s ls p _ hzl] at HA
          obtain ⟨x, ev⟩ : ∃ x, x = rs.getD k default := ⟨_, rfl⟩
          rw [← ev] at hcl HA HR
          clear ev hcr hrow hmr hzl hkl
          have hck := fun U (hU : Below w.heap.size w U) => checkRecord_any s p a len cap ls (RcM.v x) U (HR.out U hU).1 (HR.out U hU).2.1 (HR.out U hU).2.2.1 (HR.out U hU).2.2.2
          obtain ⟨EF, eEF⟩ : ∃ EF, EF = recFault s ls p (RcM.v x) := ⟨_, rfl⟩
          rw [← eEF] at HA hck
          clear eEF HR
          obtain ⟨⟨kind, site, num, key, value, ask, yes, zs⟩, sa, sl, sc⟩ := x
          simp only [RcM.v, RcV.val] at hck
          have a0 := hcl 0 (by decide)
          have a1 := hcl 1 (by decide)
          have a2 := hcl 2 (by decide)
          have a3 := hcl 3 (by decide)
          have a4 := hcl 4 (by decide)
          have a5 := hcl 5 (by decide)
          have a6 := hcl 6 (by decide)
          have a7 := hcl 7 (by decide)
          simp only [RcM.cells, List.getElem?_cons_zero, List.getElem?_cons_succ, Nat.add_zero] at a0 a1 a2 a3 a4 a5 a6 a7
          clear hcl
          obtain ⟨U, hU⟩ : ∃ U : World, U = wr.alloc (.cells #[.int .i64 kind, .int .i64 site, .int .i64 num, .int .i64 key, .int .i64 value, .int .i64 ask, .bool yes, .slice sa sl sc] 54) := ⟨_, rfl⟩
          have bU : Below wr.heap.size wr U := by rw [hU]; exact (Below.refl _ _).alloc (Nat.le_refl _) _
          have ub : BoxN U wr.heap.size 8 [.int .i64 kind, .int .i64 site, .int .i64 num, .int .i64 key, .int .i64 value, .int .i64 ask, .bool yes, .slice sa sl sc] := by rw [hU]; exact boxn_new wr #[.int .i64 kind, .int .i64 site, .int .i64 num, .int .i64 key, .int .i64 value, .int .i64 ask, .bool yes, .slice sa sl sc] 54 8 rfl
          have hbU : Below v.heap.size v U := hbv.out.trans (bU.mono hbv.out.size)
          obtain ⟨cbU, bwU⟩ := HV.out U hbU
          have hcall := hck U bwU
          go_upto_region 9 with (fail)
          rw [← hU]
          clear hU a0 a1 a2 a3 a4 a5 a6 a7 bU zb hck
          have u0 : U.cell? ⟨wr.heap.size, 0, none⟩ = some (.int .i64 kind) := (ub.c 0 (by decide)).1
          have u1 : U.cell? ⟨wr.heap.size, 1, none⟩ = some (.int .i64 site) := (ub.c 1 (by decide)).1
          have u2 : U.cell? ⟨wr.heap.size, 2, none⟩ = some (.int .i64 num) := (ub.c 2 (by decide)).1
          have u3 : U.cell? ⟨wr.heap.size, 3, none⟩ = some (.int .i64 key) := (ub.c 3 (by decide)).1
          have u4 : U.cell? ⟨wr.heap.size, 4, none⟩ = some (.int .i64 value) := (ub.c 4 (by decide)).1
          have u5 : U.cell? ⟨wr.heap.size, 5, none⟩ = some (.int .i64 ask) := (ub.c 5 (by decide)).1
          have u6 : U.cell? ⟨wr.heap.size, 6, none⟩ = some (.bool yes) := (ub.c 6 (by decide)).1
          have u7 : U.cell? ⟨wr.heap.size, 7, none⟩ = some (.slice sa sl sc) := (ub.c 7 (by decide)).1
          have uz := ub.lt
          have c0 : U.cell? ⟨w.heap.size, 0, none⟩ = some (.int .i64 s) := (cbU.c 0 (by decide)).1
          have c1 : U.cell? ⟨w.heap.size, 1, none⟩ = some (.slice a len cap) := (cbU.c 1 (by decide)).1
          have c2 : U.cell? ⟨w.heap.size, 2, none⟩ = some (.int .i64 p) := (cbU.c 2 (by decide)).1
          have cz := cbU.lt
          clear ub cbw
          by_cases hEF : EF = 0
          · subst hEF
            have HS : Hid (recsErr s ls p (rs.map RcM.p) = recsErr s ls p ((rs.map RcM.p).drop (k + 1))) := by show _ = _; rw [HA, if_pos rfl]
            clear HA hat HE2
            go_upto_region 12 with (go_at_call 26; refine hcall.mono ?_; rintro e z ⟨rfl, hz⟩)
            have HB : Hid (Below v.heap.size v z) := hbU.trans (hz.mono hbU.size)
            clear hbU hz bwU bww cbU hcall
            go_wp2
            go_roundw
            case rel => exact ⟨k + 1, by go_num, by omega, HS.out, HB.out⟩
            case measure => simp [intOf]; omega
          · have hEF' : (EF != 0) = true := by simpa using hEF
            have HE3 : Hid (E = EF) := by show _ = _; rw [HE2.out, HA, if_neg hEF]
            clear HA hat HE2 hEF
            go_wp2_with (go_at_call 26; refine hcall.mono ?_; rintro e z ⟨rfl, hz⟩)
            go_ret
            exact ⟨by rw [HE3.out]; rfl, bwU.trans (hz.mono bwU.size)⟩
        · obtain rfl : k = n := by omega
          have HE3 : Hid (E = 0) := by
            show _ = _
            rw [HE2.out, hat.out, List.drop_eq_nil_of_le (by rw [List.length_map, HL.out]; exact Nat.le_refl _)]
            rfl
          clear hat HE2
          go_wp2
          go_ret
          exact ⟨by rw [HE3.out]; rfl, bww⟩
    · have hme' : inR me 0 (s - 1) = false := by simpa using hme
      have HE2 : Hid (E = 2) := by show _ = _; rw [HE.out, if_pos (by first | rfl | trivial), if_neg hme]
      rw [hme'] at hsite
      clear HE hme hme'
      go_wp2_with (go_at_call 25; refine hsite.mono ?_; rintro e v ⟨rfl, hv⟩)
      go_ret
      exact ⟨by rw [HE2.out]; rfl, bwu.trans (hv.mono bwu.size)⟩
  · have hF' : (F != 0) = true := by simpa using hF
    have HE2 : Hid (E = F) := by show _ = _; rw [HE.out, if_neg hF]
    clear HE hs14
    go_wp2_with (go_at_call 24; refine hck.mono ?_; rintro e u ⟨rfl, hu⟩)
    go_ret
    exact ⟨by rw [HE2.out]; rfl, bW.trans (hu.mono bW.size)⟩
theorem inR_ofR {n lo hi : Int} (h : inR n lo hi = true) : lo ≤ n ∧ n ≤ hi := by simpa [inR] using h
theorem rising_len (s : Int) : ∀ (zs : List Int) (low : Int), rising s low zs = true → (zs.length : Int) ≤ max 0 (s - low) := by
  intro zs
  induction zs with
  | nil => intro low h; simp; omega
  | cons a l ih =>
    intro low h
    simp only [rising, Bool.and_eq_true] at h
    have h1 := ih (a + 1) h.2
    have h2 := inR_ofR h.1
    simp only [List.length_cons]
    omega
theorem recsErr_all {s : Int} {ls : List (Int × Int)} {p : Int} : ∀ {rs : List RcP}, recsErr s ls p rs = 0 → ∀ r ∈ rs, recFault s ls p (RcP.v r) = 0 := by
  intro rs
  induction rs with
  | nil => intro _ r hr; cases hr
  | cons a l ih =>
    intro h r hr
    rw [recsErr] at h
    by_cases h8 : recFault s ls p (RcP.v a) = 0
    · rw [if_pos h8] at h
      rcases List.mem_cons.1 hr with rfl | hr
      · exact h8
      · exact ih h r hr
    · rw [if_neg h8] at h
      exact absurd h h8
/-- What a record that may be has. -/
theorem rec_fine {s : Int} {ls : List (Int × Int)} {p : Int} {r : RcP} (h : recFault s ls p (RcP.v r) = 0) : (1 ≤ s ∧ s ≤ 4) ∧ (0 ≤ r.site ∧ r.site ≤ s - 1) ∧ (1 ≤ r.num ∧ r.num ≤ 1048576) ∧ (1 ≤ r.kind ∧ r.kind ≤ 6) ∧ (r.zs.length ≤ 4 ∧ rising s 0 r.zs = true) := by
  by_cases hc : cfgFault s ls p = 0
  · have hs := cfg_rangeR hc
    cases hk : inR (RcP.v r).kind 1 6 with
    | false => rw [rf_kind hc hk] at h; omega
    | true =>
      cases hr : recRange s ls.length (RcP.v r) with
      | false => rw [rf_range hc hk hr] at h; omega
      | true =>
        unfold recRange at hr
        simp only [Bool.and_eq_true, txnOK] at hr
        have h1 := inR_ofR hr.1.1.1
        have h2 := inR_ofR hr.1.1.2
        have h3 := inR_ofR hk
        have h4 := rising_len s _ 0 hr.2
        simp only [RcP.v] at h1 h2 h3 h4
        exact ⟨hs, h1, h2, h3, by omega, hr.2⟩
  · rw [rf_cfg hc] at h
    exact absurd h hc
theorem rbErr_zero {s : Int} {ls : List (Int × Int)} {p me : Int} {rs : List RcP} (h : rbErr s ls p me rs = 0) : cfgFault s ls p = 0 ∧ (0 ≤ me ∧ me ≤ s - 1) ∧ ∀ r ∈ rs, recFault s ls p (RcP.v r) = 0 := by
  unfold rbErr at h
  by_cases hc : cfgFault s ls p = 0
  · rw [if_pos hc] at h
    by_cases hm : inR me 0 (s - 1) = true
    · rw [if_pos hm] at h
      exact ⟨hc, inR_ofR hm, recsErr_all h⟩
    · rw [if_neg hm] at h
      omega
  · rw [if_neg hc] at h
    exact absurd h hc
/-- What Rebuild tells. -/
def RebIs (w w' : World) (e : Ending) (E : Int) (me : Int) (rs : List RcP) : Prop :=
  (¬ E = 0 ∧ e = .returned (.tuple #[.agg #[.slice none 0 0, .slice none 0 0, .slice none 0 0, .slice none 0 0], .agg #[.int .i64 0, .slice none 0 0], .slice none 0 0, .int .i64 E]) ∧ Below w.heap.size w w') ∨
  (E = 0 ∧ ∃ (u : SV) (a : Option Addr) (c : Nat) (js : List JbV) (na : Option Addr) (nc : Nat), e = .returned (.tuple #[u.val, .agg #[.int .i64 (recDesk me rs).1, .slice a js.length c], .slice na (recNotes rs).length nc, .int .i64 0]) ∧ OwnStore w' w.heap.size u ∧ u.data = recStore rs ∧ JobsMem w' w.heap.size a js.length c js ∧ js.map JbV.bare = (recDesk me rs).2 ∧ w'.ownsRow w.heap.size 59 4 (.slice na (recNotes rs).length nc) (recNotes rs).length (flat NV.cells (recNotes rs)) ∧ Below w.heap.size w w')
theorem wf_small {z : Int} (h : 0 ≤ z ∧ z ≤ 1048577) : (Lit.int .i64 z).wf = true := WalkArith.wf_i64 (by omega)
set_option maxRecDepth 100000 in
set_option maxHeartbeats 8000000 in
theorem rebuild_any (s p : Int) (a : Option Addr) (len cap : Nat) (ls : List (Int × Int)) (me : Int) (ao : Option Addr) (n cp : Nat) (rs : List RcM) (w : World) (h : IsLabs w a len cap ls) (hr : RecsAt w ao n cp rs) (hm : HasAt w 0 rHas) (ht : TopsAt w) (hn : n ≤ 1759218604441) :
    Calls Tryz.prog 4 #[.agg #[.int .i64 s, .slice a len cap, .int .i64 p], .int .i64 me, .slice ao n cp] w fun e w' => RebIs w w' e (rbErr s ls p me (rs.map RcM.p)) me (rs.map RcM.p) := by
  have hgT : 1 < w.heap.size := World.block_lt_of_cell? w _ ht.1
  have hgM : 0 < w.heap.size := hm.lt (by decide)
  have HW : Hid (∀ U, Below w.heap.size w U → RecsAt U ao n cp rs) := fun U hU => hr.below hU
  have HFine : Hid (rbErr s ls p me (rs.map RcM.p) = 0 → (∀ r ∈ rs, TxWf r.p.tx) ∧ (∀ r ∈ rs, 0 ≤ r.p.num ∧ r.p.num ≤ 1048577) ∧ ∀ r ∈ rs, r.sl ≤ 100) := fun h0 => by
    have h1 := (rbErr_zero h0).2.2
    have h2 := fun r (hr8 : r ∈ rs) => rec_fine (h1 r.p (List.mem_map_of_mem hr8))
    refine ⟨fun r hr8 => ?_, fun r hr8 => ?_, fun r hr8 => ?_⟩
    · have h3 := h2 r hr8
      exact ⟨wf_small (by show 0 ≤ r.p.site ∧ r.p.site ≤ 1048577; omega), wf_small (by show 0 ≤ r.p.num ∧ r.p.num ≤ 1048577; omega)⟩
    · have h3 := h2 r hr8
      omega
    · have h3 := (h2 r hr8).2.2.2.2.1
      have h4 := (hr.ints r hr8).1
      omega
  obtain ⟨W, hW⟩ : ∃ W : World, W = ((w.alloc (.cells #[.int .i64 s, .slice a len cap, .int .i64 p] 24)).alloc (.cells #[.slice none 0 0, .slice none 0 0, .slice none 0 0, .slice none 0 0] 31)).alloc (.cells #[.int .i64 0, .slice none 0 0] 34) := ⟨_, rfl⟩
  have bW : Below w.heap.size w W := by rw [hW]; exact (((Below.refl _ _).alloc (Nat.le_refl _) _).alloc (by simp) _).alloc (by simp; omega) _
  have zW : W.heap.size = w.heap.size + 3 := by rw [hW]; simp
  have cb : BoxN W w.heap.size 3 [.int .i64 s, .slice a len cap, .int .i64 p] := by
    rw [hW]
    have h8 := boxn_new w #[.int .i64 s, .slice a len cap, .int .i64 p] 24 3 rfl
    exact (h8.below ((Below.refl _ _).alloc (Nat.le_refl _) _) h8.lt).below ((Below.refl _ _).alloc (Nat.le_refl _) _) (Nat.lt_of_lt_of_le h8.lt (by simp))
  have sb : BoxN W (w.heap.size + 1) 4 [.slice none 0 0, .slice none 0 0, .slice none 0 0, .slice none 0 0] := by
    rw [hW]
    have h8 := boxn_new (w.alloc (.cells #[.int .i64 s, .slice a len cap, .int .i64 p] 24)) #[.slice none 0 0, .slice none 0 0, .slice none 0 0, .slice none 0 0] 31 4 rfl
    have h9 := h8.below ((Below.refl _ _).alloc (Nat.le_refl _) (.cells #[.int .i64 0, .slice none 0 0] 34)) h8.lt
    simpa using h9
  have db : BoxN W (w.heap.size + 2) 2 [.int .i64 0, .slice none 0 0] := by
    rw [hW]
    have h8 := boxn_new ((w.alloc (.cells #[.int .i64 s, .slice a len cap, .int .i64 p] 24)).alloc (.cells #[.slice none 0 0, .slice none 0 0, .slice none 0 0, .slice none 0 0] 31)) #[.int .i64 0, .slice none 0 0] 34 2 rfl
    simpa using h8
  have hrf := refuse_rec s p a len cap ls me ao n cp rs W (h.below bW) (hr.below bW) (hm.below bW hgM) (ht.below bW hgT)
  have HC : Hid (∀ U, Below W.heap.size W U → BoxN U (w.heap.size + 1) 4 [.slice none 0 0, .slice none 0 0, .slice none 0 0, .slice none 0 0] ∧ BoxN U (w.heap.size + 2) 2 [.int .i64 0, .slice none 0 0] ∧ Below w.heap.size w U ∧ w.heap.size + 3 ≤ U.heap.size) := fun U hU => ⟨sb.below hU sb.lt, db.below hU db.lt, bW.trans (hU.mono bW.size), by have := hU.size; omega⟩
  have c0 : W.cell? ⟨w.heap.size, 0, none⟩ = some (.int .i64 s) := (cb.c 0 (by decide)).1
  have c1 : W.cell? ⟨w.heap.size, 1, none⟩ = some (.slice a len cap) := (cb.c 1 (by decide)).1
  have c2 : W.cell? ⟨w.heap.size, 2, none⟩ = some (.int .i64 p) := (cb.c 2 (by decide)).1
  have cz := cb.lt
  clear h hr hm ht hgT hgM sb db cb zW
  obtain ⟨E, eE⟩ : ∃ E, E = rbErr s ls p me (rs.map RcM.p) := ⟨_, rfl⟩
  rw [← eE] at hrf HFine ⊢
  clear eE
  go_enter Tryz.func4, Tryz.ntmps4
  go_upto_region 1 with (fail)
  rw [← hW]
  clear hW
  go_upto_region 2 with (go_at_call 9; refine hrf.mono ?_; rintro e u ⟨rfl, hu⟩)
  clear c0 c1 c2 cz hrf
  obtain ⟨sbu, dbu, bwu, z3⟩ := HC.out u hu
  by_cases hE : E = 0
  · subst hE
    have z3' := z3
    obtain ⟨f1, f2, f3⟩ := HFine.out rfl
    have hS := storeOf_any ao n cp rs u (HW.out u bwu).row f1 hn
    have hDk := fun U hU => deskOf_any me ao n cp rs U (HW.out U hU).row (fun r hr8 => ⟨isSt_of ((HW.out U hU).ints r hr8), f3 r hr8⟩) f2 hn
    have hNt := fun U hU => notesOf_any ao n cp rs U (HW.out U hU).row f1 hn
    obtain ⟨PS0, eP⟩ : ∃ P, P = recStore (rs.map RcM.p) := ⟨_, rfl⟩
    obtain ⟨DN, eDN⟩ : ∃ P, P = (recDesk me (rs.map RcM.p)).1 := ⟨_, rfl⟩
    obtain ⟨DJ, eDJ⟩ : ∃ P, P = (recDesk me (rs.map RcM.p)).2 := ⟨_, rfl⟩
    obtain ⟨NS, eNS⟩ : ∃ P, P = recNotes (rs.map RcM.p) := ⟨_, rfl⟩
    have HPs : Hid (PS0 = recStore (rs.map RcM.p) ∧ DN = (recDesk me (rs.map RcM.p)).1 ∧ DJ = (recDesk me (rs.map RcM.p)).2 ∧ NS = recNotes (rs.map RcM.p)) := ⟨eP, eDN, eDJ, eNS⟩
    rw [← eP] at hS
    simp only [← eDN, ← eDJ] at hDk
    simp only [← eNS] at hNt
    clear eP eDN eDJ eNS f1 f2 f3 HFine HW sbu dbu
    go_upto_region 4 with (fail)
    go_wp2_with (first
      | (go_at_call 10; refine hS.mono ?_; rintro e u1 ⟨⟨ia, il, ic, la, ll, lc, da, dl, dc, oa, ol, oc, its, lks, dbs, ovs⟩, rfl, hO1, hd1, hb1⟩; simp only [SV.val]; have hw1 := bwu.trans (hb1.mono bwu.size); have h1 := hDk u1 hw1; clear hDk hS)
      | (go_at_call 11; refine h1.mono ?_; rintro e u2 ⟨ja, jc, js, rfl, hJ2, hj2, hb2⟩; have hw2 := hw1.trans (hb2.mono hw1.size); have h2 := hNt u2 hw2; clear hNt h1)
      | (go_at_call 12; refine h2.mono ?_; rintro e u3 ⟨na, nc, rfl, hN3, hb3⟩; have hw3 := hw2.trans (hb3.mono hw2.size); have b13 := hb2.trans (hb3.mono hb2.size); have bu3 := hu.trans ((hb1.trans (b13.mono hb1.size)).mono hu.size); obtain ⟨sbz, dbz, _, z3⟩ := HC.out u3 bu3; have s0 := (sbz.c 0 (by decide)).1; have s1 := (sbz.c 1 (by decide)).1; have s2 := (sbz.c 2 (by decide)).1; have s3 := (sbz.c 3 (by decide)).1; have sf0 := (sbz.c 0 (by decide)).2; have sf1 := (sbz.c 1 (by decide)).2; have sf2 := (sbz.c 2 (by decide)).2; have sf3 := (sbz.c 3 (by decide)).2; have sz := sbz.lt; have d0 := (dbz.c 0 (by decide)).1; have d1 := (dbz.c 1 (by decide)).1; have df0 := (dbz.c 0 (by decide)).2; have df1 := (dbz.c 1 (by decide)).2; have dz := dbz.lt; simp only [List.getD_cons_zero, List.getD_cons_succ] at s0 s1 s2 s3 d0 d1; have HO : Hid (OwnStore u3 u.heap.size ⟨ia, il, ic, la, ll, lc, da, dl, dc, oa, ol, oc, its, lks, dbs, ovs⟩) := hO1.below b13; have HJ : Hid (JobsMem u3 u1.heap.size ja js.length jc js) := hJ2.below hb3; have HN : Hid (u3.ownsRow u2.heap.size 59 4 (.slice na NS.length nc) NS.length (flat NV.cells NS)) := hN3; have HSz : Hid (w.heap.size + 3 ≤ u.heap.size ∧ u.heap.size ≤ u1.heap.size ∧ u1.heap.size ≤ u2.heap.size) := ⟨z3', hb1.size, hb2.size⟩; have HDt : Hid (SV.data ⟨ia, il, ic, la, ll, lc, da, dl, dc, oa, ol, oc, its, lks, dbs, ovs⟩ = PS0) := hd1; have HJt : Hid (js.map JbV.bare = DJ) := hj2; have HW3 : Hid (Below w.heap.size w u3) := hw3; clear hO1 hd1 hJ2 hj2 hN3 hb1 hb2 hb3 hw1 hw2 hw3 b13 bu3 sbz dbz bwu h2 HC hu))
    obtain ⟨F, hF⟩ : ∃ F : World, F = ((((((u3.setCell ⟨w.heap.size + 1, 0, none⟩ (.slice ia il ic)).setCell ⟨w.heap.size + 1, 1, none⟩ (.slice la ll lc)).setCell ⟨w.heap.size + 1, 2, none⟩ (.slice da dl dc)).setCell ⟨w.heap.size + 1, 3, none⟩ (.slice oa ol oc)).setCell ⟨w.heap.size + 2, 0, none⟩ (.int .i64 DN)).setCell ⟨w.heap.size + 2, 1, none⟩ (.slice ja js.length jc)) := ⟨_, rfl⟩
    have k0 : F.cell? ⟨w.heap.size + 1, 0, none⟩ = some (.slice ia il ic) := by rw [hF]; go_simp
    have k1 : F.cell? ⟨w.heap.size + 1, 1, none⟩ = some (.slice la ll lc) := by rw [hF]; go_simp
    have k2 : F.cell? ⟨w.heap.size + 1, 2, none⟩ = some (.slice da dl dc) := by rw [hF]; go_simp
    have k3 : F.cell? ⟨w.heap.size + 1, 3, none⟩ = some (.slice oa ol oc) := by rw [hF]; go_simp
    have l0 : F.cell? ⟨w.heap.size + 2, 0, none⟩ = some (.int .i64 DN) := by rw [hF]; go_simp
    have l1 : F.cell? ⟨w.heap.size + 2, 1, none⟩ = some (.slice ja js.length jc) := by rw [hF]; go_simp
    have HD : Hid (RebIs w F (.returned (.tuple #[.agg #[.slice ia il ic, .slice la ll lc, .slice da dl dc, .slice oa ol oc], .agg #[.int .i64 DN, .slice ja js.length jc], .slice na NS.length nc, .int .i64 0])) 0 me (rs.map RcM.p)) := by
      obtain ⟨y1, y2, y3⟩ := HSz.out
      obtain ⟨q1, q2, q3, q4⟩ := HPs.out
      refine Or.inr ⟨rfl, ⟨ia, il, ic, la, ll, lc, da, dl, dc, oa, ol, oc, its, lks, dbs, ovs⟩, ja, jc, js, na, nc, ?_, ?_, ?_, ?_, ?_, ?_, ?_⟩
      · rw [← q2, ← q4]; rfl
      · rw [hF]; exact OwnStore.base ((((((HO.out.asideS (r := w.heap.size + 1) (by omega) 0 _).asideS (r := w.heap.size + 1) (by omega) 1 _).asideS (r := w.heap.size + 1) (by omega) 2 _).asideS (r := w.heap.size + 1) (by omega) 3 _).asideS (r := w.heap.size + 2) (by omega) 0 _).asideS (r := w.heap.size + 2) (by omega) 1 _) (by omega)
      · rw [HDt.out, q1]
      · rw [hF]; exact JobsMem.base ((((((HJ.out.aside (d := w.heap.size + 1) (by omega) 0 _).aside (d := w.heap.size + 1) (by omega) 1 _).aside (d := w.heap.size + 1) (by omega) 2 _).aside (d := w.heap.size + 1) (by omega) 3 _).aside (d := w.heap.size + 2) (by omega) 0 _).aside (d := w.heap.size + 2) (by omega) 1 _) (by omega)
      · rw [HJt.out, q3]
      · rw [← q4, hF]
        have key : ∀ {X : World} (d i : Nat) (v : Value), d < u2.heap.size → X.ownsRow u2.heap.size 59 4 (.slice na NS.length nc) NS.length (flat NV.cells NS) → (X.setCell ⟨d, i, none⟩ v).ownsRow u2.heap.size 59 4 (.slice na NS.length nc) NS.length (flat NV.cells NS) := fun d i v hd hx => ownsRow_setCell_other hx (fun e => by have h9 : u2.heap.size ≤ d := (hx.lt _ e).1; omega) v
        exact Go.Proofs.YtekglahigjblkaaGreatDoor.Co.own_base (key _ _ _ (by omega) (key _ _ _ (by omega) (key _ _ _ (by omega) (key _ _ _ (by omega) (key _ _ _ (by omega) (key _ _ _ (by omega) HN.out)))))) (by omega)
      · rw [hF]
        exact (((((HW3.out.setCell (by simp) _).setCell (by simp) _).setCell (by simp) _).setCell (by simp) _).setCell (by simp) _).setCell (by simp) _
    rw [← hF]
    clear hF HO HJ HN HSz HDt HJt HW3 HPs
    refine bodyPost_ret (v := .tuple #[.agg #[.slice ia il ic, .slice la ll lc, .slice da dl dc, .slice oa ol oc], .agg #[.int .i64 DN, .slice ja js.length jc], .slice na NS.length nc, .int .i64 0]) (by simp [results, Tryz.results4, go_sem, k0, k1, k2, k3, l0, l1]) rfl HD.out
  · have hE' : (E != 0) = true := by simpa using hE
    have s0 := (sbu.c 0 (by decide)).1
    have s1 := (sbu.c 1 (by decide)).1
    have s2 := (sbu.c 2 (by decide)).1
    have s3 := (sbu.c 3 (by decide)).1
    have sf0 := (sbu.c 0 (by decide)).2
    have sf1 := (sbu.c 1 (by decide)).2
    have sf2 := (sbu.c 2 (by decide)).2
    have sf3 := (sbu.c 3 (by decide)).2
    have sz := sbu.lt
    have d0 := (dbu.c 0 (by decide)).1
    have d1 := (dbu.c 1 (by decide)).1
    have df0 := (dbu.c 0 (by decide)).2
    have df1 := (dbu.c 1 (by decide)).2
    have dz := dbu.lt
    simp only [List.getD_cons_zero, List.getD_cons_succ] at s0 s1 s2 s3 d0 d1
    clear HC HW HFine
    obtain ⟨F, hF⟩ : ∃ F : World, F = ((((((u.setCell ⟨w.heap.size + 1, 0, none⟩ (.slice none 0 0)).setCell ⟨w.heap.size + 1, 1, none⟩ (.slice none 0 0)).setCell ⟨w.heap.size + 1, 2, none⟩ (.slice none 0 0)).setCell ⟨w.heap.size + 1, 3, none⟩ (.slice none 0 0)).setCell ⟨w.heap.size + 2, 0, none⟩ (.int .i64 0)).setCell ⟨w.heap.size + 2, 1, none⟩ (.slice none 0 0)) := ⟨_, rfl⟩
    have k0 : F.cell? ⟨w.heap.size + 1, 0, none⟩ = some (.slice none 0 0) := by rw [hF]; go_simp
    have k1 : F.cell? ⟨w.heap.size + 1, 1, none⟩ = some (.slice none 0 0) := by rw [hF]; go_simp
    have k2 : F.cell? ⟨w.heap.size + 1, 2, none⟩ = some (.slice none 0 0) := by rw [hF]; go_simp
    have k3 : F.cell? ⟨w.heap.size + 1, 3, none⟩ = some (.slice none 0 0) := by rw [hF]; go_simp
    have l0 : F.cell? ⟨w.heap.size + 2, 0, none⟩ = some (.int .i64 0) := by rw [hF]; go_simp
    have l1 : F.cell? ⟨w.heap.size + 2, 1, none⟩ = some (.slice none 0 0) := by rw [hF]; go_simp
    have HD : Hid (RebIs w F (.returned (.tuple #[.agg #[.slice none 0 0, .slice none 0 0, .slice none 0 0, .slice none 0 0], .agg #[.int .i64 0, .slice none 0 0], .slice none 0 0, .int .i64 E])) E me (rs.map RcM.p)) := by
      refine Or.inl ⟨hE, rfl, ?_⟩
      rw [hF]
      exact (((((bwu.setCell (by simp) _).setCell (by simp) _).setCell (by simp) _).setCell (by simp) _).setCell (by simp) _).setCell (by simp) _
    clear bwu sbu dbu hu
    go_wp2
    rw [← hF]
    clear hF
    refine bodyPost_ret (v := .tuple #[.agg #[.slice none 0 0, .slice none 0 0, .slice none 0 0, .slice none 0 0], .agg #[.int .i64 0, .slice none 0 0], .slice none 0 0, .int .i64 E]) (by simp [results, Tryz.results4, go_sem, k0, k1, k2, k3, l0, l1]) rfl HD.out
end Go.Proofs.YtekglahigjblkaaGreatDoor.Rb
