/- The contract of the document's TakenOf, where there is something to take. -/
import Derived.Test.YtpkbklhjpaaiiaaDoorNTaken
import Derived.Deep.RegionLaw
import Derived.Deep.DeepCutAuto
namespace Go.Proofs.YtpkbklhjpaaiiaaDoor.Nt
open Go.ChangeShapes Go.WideShapes Go.ChangeAt Go.RowKit
set_option linter.unusedVariables false

theorem erase_snoc {xs : List MV} {I j : Nat} (hj : j < xs.length) : (xs.take (j + 1)).eraseIdx I = if j = I then (xs.take j).eraseIdx I else (xs.take j).eraseIdx I ++ [xs.getD j default] := by
  have e : xs.take (j + 1) = xs.take j ++ [xs.getD j default] := take_here' hj
  have hl : (xs.take j).length = j := by simp; omega
  split
  · rename_i h
    subst h
    rw [e, List.eraseIdx_append_of_length_le (by omega), hl, Nat.sub_self, List.eraseIdx_of_length_le (l := xs.take j) (by omega)]
    simp
  · rename_i h
    rw [e]
    rcases Nat.lt_or_ge I j with h1 | h1
    · rw [List.eraseIdx_append_of_lt_length (by omega)]
    · rw [List.eraseIdx_append_of_length_le (by omega), hl, List.eraseIdx_of_length_le (l := xs.take j) (by omega), List.eraseIdx_of_length_le (l := [xs.getD j default]) (by simp; omega)]

set_option maxRecDepth 100000 in
set_option maxHeartbeats 4000000 in
theorem takenOf_ok (s p : Int) (a : Option Addr) (len cap : Nat) (ls : List (Int × Int)) (fa : Option Addr) (fl fc : Nat) (fs : List FL) (f t pick kind : Int) (w : World) (hpk : pick ≤ 9223372036854775807) (h : IsLabs w a len cap ls) (hL : IsFly w fa fl fc fs) (hby : fl * 24 ≤ 140737488351232) (hbs : ∀ f ∈ fs, f.len * 96 ≤ 140737488351232) (hte : takeErr s ls p fs f t pick kind = 0) :
    Calls Tryd.prog 13 #[.agg #[.int .i64 s, .slice a len cap, .int .i64 p], .slice fa fl fc, .int .i64 f, .int .i64 t, .int .i64 pick, .int .i64 kind] w fun e w' => ∃ a' c' gs, e = .returned (.tuple #[.slice a' fl c', ((atWay s (mss fs) f t).getD (pick.toNat % (atWay s (mss fs) f t).length) default).val, .int .i64 0]) ∧ OwnFly w' w.heap.size (.slice a' fl c') gs ∧ mss gs = takenL s (mss fs) f t kind (pick.toNat % (atWay s (mss fs) f t).length) ∧ Below w.heap.size w w' := by
  have HCP : Hid (∀ w', IsFly w' fa fl fc fs → Calls Tryd.prog 8 #[.slice fa fl fc] w' fun e w'' => ∃ a' c' gs, e = .returned (.slice a' fl c') ∧ OwnFly w'' w'.heap.size (.slice a' fl c') gs ∧ mss gs = mss fs ∧ Below w'.heap.size w' w'') := fun w' h' => flyingCopy_any fa fl fc fs w' h' hby hbs
  clear hbs hby
  obtain ⟨hf0, hk, sf, sd, hp0, hn0, hn30⟩ := te_zero hte
  obtain ⟨hcf, hsq, hfl⟩ := flyFault_of hf0
  obtain ⟨s1, s4, _⟩ := cfg_zero hcf
  obtain ⟨q1, q2, q3⟩ := sq_bd s1 s4
  obtain ⟨i0, E⟩ := msElem
  refine (show Calls Tryd.prog 13 #[.agg #[.int .i64 s, .slice a len cap, .int .i64 p], .slice fa fl fc, .int .i64 f, .int .i64 t, .int .i64 pick, .int .i64 kind] w (fun e w' => (∃ a' c' gs, e = .returned (.tuple #[.slice a' fl c', ((atWay s (mss fs) f t).getD (pick.toNat % (atWay s (mss fs) f t).length) default).val, .int .i64 0]) ∧ OwnFly w' w.heap.size (.slice a' fl c') gs ∧ mss gs = takenL s (mss fs) f t kind (pick.toNat % (atWay s (mss fs) f t).length)) ∧ Below w.heap.size w w') from ?_).mono (fun e w' ⟨⟨a', c', gs, h1, h2, h3⟩, h4⟩ => ⟨a', c', gs, h1, h2, h3, h4⟩)
  have HN : Hid (fs.length = fl) := hL.row.1
  have HLen : Hid (∀ i, i < fl → (fs.getD i default).ms.length = (fs.getD i default).len) := fun i hi => (hL.each _ (getD_mem (by rw [HN.out]; exact hi))).1
  have hFF := fun w' h1 h2 => flyingFault_any s p a len cap ls fa fl fc fs w' h1 h2
  obtain ⟨W, hW⟩ : ∃ W : World, W = (w.alloc (.cells #[.int .i64 s, .slice a len cap, .int .i64 p] 24)).alloc (.cells #[.int .i64 0, .int .i64 0, .int .i64 0, .int .i64 0, .int .i64 0, .int .i64 0, .int .i64 0, .int .i64 0, .int .i64 0, .int .i64 0, .bool false, .int .i64 0] 38) := ⟨_, rfl⟩
  have hB : Below w.heap.size w W := by rw [hW]; exact ((Below.refl _ _).alloc (Nat.le_refl _) _).alloc (by simp) _
  have z0 : w.heap.size < W.heap.size := by rw [hW]; simp; omega
  have z1 : w.heap.size + 1 < W.heap.size := by rw [hW]; simp
  have c0 : W.cell? ⟨w.heap.size, 0, none⟩ = some (.int .i64 s) := by rw [hW]; go_simp
  have c1 : W.cell? ⟨w.heap.size, 1, none⟩ = some (.slice a len cap) := by rw [hW]; go_simp
  have c2 : W.cell? ⟨w.heap.size, 2, none⟩ = some (.int .i64 p) := by rw [hW]; go_simp
  have bxR : BoxN W (w.heap.size + 1) 12 [.int .i64 0, .int .i64 0, .int .i64 0, .int .i64 0, .int .i64 0, .int .i64 0, .int .i64 0, .int .i64 0, .int .i64 0, .int .i64 0, .bool false, .int .i64 0] := by
    rw [hW]
    simpa using boxn_new (w.alloc (.cells #[.int .i64 s, .slice a len cap, .int .i64 p] 24)) #[.int .i64 0, .int .i64 0, .int .i64 0, .int .i64 0, .int .i64 0, .int .i64 0, .int .i64 0, .int .i64 0, .int .i64 0, .int .i64 0, .bool false, .int .i64 0] 38 12 rfl
  have KA : Hid (∀ U : World, Below W.heap.size W U → U.cell? ⟨w.heap.size, 0, none⟩ = some (.int .i64 s) ∧ U.cell? ⟨w.heap.size, 1, none⟩ = some (.slice a len cap) ∧ U.cell? ⟨w.heap.size, 2, none⟩ = some (.int .i64 p)) := fun U hU =>
    ⟨(hU.cell (p := ⟨w.heap.size, 0, none⟩) z0).trans c0, (hU.cell (p := ⟨w.heap.size, 1, none⟩) z0).trans c1, (hU.cell (p := ⟨w.heap.size, 2, none⟩) z0).trans c2⟩
  have HS : Hid (∀ U : World, Below W.heap.size W U → IsFly U fa fl fc fs) := fun U hU => hL.below (hB.trans (hU.mono hB.size))
  have hlW := h.below hB
  have hfW := hL.below hB
  clear h hL
  go_enter Tryd.func13, Tryd.ntmps13
  go_upto_region 1 with (fail)
  rw [← hW]
  clear hW
  · rw [HN.out] at hsq
    have ws : IntKind.i64.wrap (s - 1) = s - 1 := wrapI (by omega)
    rw [hf0] at hFF
    have eK : inR kind 2 4 = true := te_inr.1 hk
    have eA : inR f 0 (s - 1) = true := inR_true sf.1 sf.2
    have eB : inR t 0 (s - 1) = true := inR_true sd.1 sd.2
    obtain ⟨u1, u2, u3⟩ := mul_bd s1 s4 sf.1 sf.2
    obtain ⟨q', eq'⟩ : ∃ q', q' = f * s := ⟨_, rfl⟩
    have k1 : IntKind.i64.wrap (f * s) = q' := by rw [eq']; exact wrapI (by omega)
    have hq0 : 0 ≤ f * s + t ∧ f * s + t < (fl : Int) := by rw [hsq]; omega
    obtain ⟨q, eq⟩ : ∃ q : Nat, (q : Int) = f * s + t := ⟨(f * s + t).toNat, by omega⟩
    have hat : atWay s (mss fs) f t = (fs.getD q default).ms := by
      unfold atWay
      rw [← eq, Int.toNat_natCast, mss_at]
    have k2 : IntKind.i64.wrap (q' + t) = (q : Int) := by rw [eq', eq]; exact wrapI (by omega)
    have hqf : q < fl := by omega
    have hqf' : (q : Int) < (fl : Int) := by omega
    have HQ : Hid ((q : Int) = f * s + t) := eq
    have HAT : Hid (atWay s (mss fs) f t = (fs.getD q default).ms) := hat
    obtain ⟨P, eP⟩ : ∃ P : Nat, (P : Int) = pick := ⟨pick.toNat, by omega⟩
    have HP : Hid (pick.toNat = P) := by show _ = _; omega
    have hx30 : (fs.getD q default).len ≤ 30 := by rw [← HLen.out q hqf]; exact (hfl q (by rw [HN.out]; exact hqf)).1
    rw [hat, HLen.out q hqf] at hn0 hn30
    have HML : Hid ((fs.getD q default).ms.length = (fs.getD q default).len) := HLen.out q hqf
    have hf1 : 1 ≤ fl := by omega
    clear hfl hsq eq eq' u1 u2 u3 hq0 hat hf0 hte q1 q2 q3
    go_upto_region 2 with (go_at_call 7; refine (hFF _ hlW hfW).mono ?_; rintro e w1 ⟨rfl, hb1⟩)
    clear c0 c1 c2
    obtain ⟨c0, c1, c2⟩ := KA.out _ hb1
    have HX : Hid (∀ U : World, Below W.heap.size W U → ∃ b off, fa = some ⟨b, off, none⟩ ∧ b < U.heap.size ∧ U.cell? ⟨b, off + q, none⟩ = some (.slice (fs.getD q default).a (fs.getD q default).len (fs.getD q default).cap) ∧ IsMsgs U (fs.getD q default).a (fs.getD q default).len (fs.getD q default).cap (fs.getD q default).ms) := fun U hU => (HS.out _ hU).at hqf
    obtain ⟨x, ex⟩ : ∃ x, x = fs.getD q default := ⟨_, rfl⟩
    rw [← ex] at HX HML hx30 hn0 hn30 HAT
    clear ex
    obtain ⟨xa, xl, xc, xs⟩ := x
    simp only [] at HX HML hx30 hn0 hn30 HAT
    obtain ⟨b, off, rfl, hbl, hcell, hMx⟩ := HX.out _ hb1
    have hn0' : ¬ (xl : Int) = 0 := by omega
    have h30' : kind = 4 → ¬ (30 : Int) ≤ (xl : Int) := fun e => by have := hn30 e; omega
    obtain ⟨bb, offb, rfl, hlb, hc⟩ := hMx.2.2.2.2 hn0
    have KX : Hid (∀ U : World, Below W.heap.size W U → U.cell? ⟨b, off + q, none⟩ = some (.slice (some ⟨bb, offb, none⟩) xl xc) ∧ IsMsgs U (some ⟨bb, offb, none⟩) xl xc xs ∧ b < U.heap.size) := fun U hU => by
      obtain ⟨b', off', e, h1, h2, h3⟩ := HX.out _ hU
      simp at e
      obtain ⟨rfl, rfl⟩ := e
      exact ⟨h2, h3, h1⟩
    clear hc hMx HX
    obtain ⟨I, eI⟩ : ∃ I : Nat, I = P % xl := ⟨_, rfl⟩
    have hI : I < xl := by rw [eI]; exact Nat.mod_lt _ hn0
    have hmod : (P : Int).tmod (xl : Int) = (I : Int) := by rw [eI, Int.tmod_eq_emod_of_nonneg (by omega)]; first | exact (Int.natCast_mod P xl).symm | exact (Int.natCast_emod P xl).symm | simp
    have HI : Hid (pick.toNat % (atWay s (mss fs) f t).length = I) := by show _ = _; rw [HP.out, HAT.out, HML.out, eI]
    have hI' : (I : Int) < (xl : Int) := by omega
    have wI : IntKind.i64.wrap (I : Int) = (I : Int) := wrapI (by omega)
    have HMV : Hid ((atWay s (mss fs) f t).getD I default = xs.getD I default) := by show _ = _; rw [HAT.out]
    clear eI
    subst eP
    have hp : ¬ (P : Int) < 0 := by omega
    have hkk : kind = 4 ∨ ¬ kind = 4 := by omega
    go_upto_region 12 with (go_at_call 24; refine (in_eq (by assumption) _).mono ?_; rintro e u ⟨rfl, hu⟩; rw [hu]; clear hu)
    have hfw1 := HS.out _ hb1
    rcases hkk with hk4 | hk4
    · subst hk4
      have h30 := h30' rfl
      have hx29 := hn30 rfl
      clear h30'
      go_upto_region 15 with (go_at_call 8; refine (HCP.out _ hfw1).mono ?_; rintro e w2 ⟨a', c', gs, rfl, hO0, hms, hb2'⟩)
      have hb2 : Below W.heap.size W w2 := hb1.trans (hb2'.mono hb1.size)
      have HMS : Hid (mss gs = mss fs) := hms
      have HGL : Hid (gs.length = fl) := by show _ = _; rw [← mss_len, hms, mss_len, HN.out]
      have hO : OwnFly w2 W.heap.size (.slice a' fl c') gs := hO0.base hb1.size
      obtain ⟨g, rfl⟩ : ∃ g, a' = some ⟨g, 0, none⟩ := by
        rcases hO.row.2 with ⟨hv, hn⟩ | ⟨g, cap2, cur, hv, _⟩
        · rw [HGL.out] at hn; omega
        · simp at hv; exact ⟨g, hv.1⟩
      clear hO0 hms hb2' c0 c1 c2 hcell
      obtain ⟨hcell, hM2, hbl2⟩ := KX.out _ hb2
      obtain ⟨b3', off3', e3', hlb3', hc3'⟩ := hM2.2.2.2.2 hn0
      simp only [Option.some.injEq, Addr.mk.injEq, and_true] at e3'
      obtain ⟨rfl, rfl⟩ := e3'
      have hcells := hc3' I hI
      obtain ⟨m, em⟩ : ∃ m, m = xs.getD I default := ⟨_, rfl⟩
      rw [← em] at hcells HMV
      clear em hc3' hM2
      obtain ⟨kd, frm, dst, site, num, label, key, value, version, ask, yes, code⟩ := m
      have a0 := hcells 0 (by decide)
      have a1 := hcells 1 (by decide)
      have a2 := hcells 2 (by decide)
      have a3 := hcells 3 (by decide)
      have a4 := hcells 4 (by decide)
      have a5 := hcells 5 (by decide)
      have a6 := hcells 6 (by decide)
      have a7 := hcells 7 (by decide)
      have a8 := hcells 8 (by decide)
      have a9 := hcells 9 (by decide)
      have a10 := hcells 10 (by decide)
      have a11 := hcells 11 (by decide)
      simp only [mcells, List.getElem?_cons_zero, List.getElem?_cons_succ, Nat.add_zero] at a0 a1 a2 a3 a4 a5 a6 a7 a8 a9 a10 a11
      clear hcells
      go_cut [19] (fun s19 wc => ∃ mb, s19 = .pointer (some ⟨mb, 0, none⟩) ∧ BoxN wc mb 12 [.int .i64 kd, .int .i64 frm, .int .i64 dst, .int .i64 site, .int .i64 num, .int .i64 label, .int .i64 key, .int .i64 value, .int .i64 version, .int .i64 ask, .bool yes, .int .i64 code] ∧ w2.heap.size ≤ mb ∧ Below w2.heap.size w2 wc)
      case first =>
        go_region
        all_goals
          go_wp2_with fail
          go_meet
          case rel => first | exact ⟨_, rfl, (boxn_new w2 #[.int .i64 kd, .int .i64 frm, .int .i64 dst, .int .i64 site, .int .i64 num, .int .i64 label, .int .i64 key, .int .i64 value, .int .i64 version, .int .i64 ask, .bool yes, .int .i64 code] 38 12 rfl).below (Below.drew (Below.refl _ _)) (by simp), Nat.le_refl _, (by (with_reducible repeat (first | exact Below.refl _ _ | refine nD ?_ | refine nA ?_ _)); done)⟩ | exact ⟨_, rfl, boxn_new w2.drew #[.int .i64 kd, .int .i64 frm, .int .i64 dst, .int .i64 site, .int .i64 num, .int .i64 label, .int .i64 key, .int .i64 value, .int .i64 version, .int .i64 ask, .bool yes, .int .i64 code] 38 12 rfl, Nat.le_refl _, (by (with_reducible repeat (first | exact Below.refl _ _ | refine nD ?_ | refine nA ?_ _)); done)⟩
      case rest =>
      obtain ⟨mb, rfl, bxM, hmb, hbV⟩ := hcut
      obtain ⟨V, eV⟩ : ∃ V, V = wc := ⟨_, rfl⟩
      rw [← eV] at bxM hbV ⊢
      clear eV a0 a1 a2 a3 a4 a5 a6 a7 a8 a9 a10 a11
      have zM := bxM.lt
      have m0 : V.cell? ⟨mb, 0, none⟩ = some (.int .i64 kd) := (bxM.c 0 (by omega)).1
      have m1 : V.cell? ⟨mb, 1, none⟩ = some (.int .i64 frm) := (bxM.c 1 (by omega)).1
      have m2 : V.cell? ⟨mb, 2, none⟩ = some (.int .i64 dst) := (bxM.c 2 (by omega)).1
      have m3 : V.cell? ⟨mb, 3, none⟩ = some (.int .i64 site) := (bxM.c 3 (by omega)).1
      have m4 : V.cell? ⟨mb, 4, none⟩ = some (.int .i64 num) := (bxM.c 4 (by omega)).1
      have m5 : V.cell? ⟨mb, 5, none⟩ = some (.int .i64 label) := (bxM.c 5 (by omega)).1
      have m6 : V.cell? ⟨mb, 6, none⟩ = some (.int .i64 key) := (bxM.c 6 (by omega)).1
      have m7 : V.cell? ⟨mb, 7, none⟩ = some (.int .i64 value) := (bxM.c 7 (by omega)).1
      have m8 : V.cell? ⟨mb, 8, none⟩ = some (.int .i64 version) := (bxM.c 8 (by omega)).1
      have m9 : V.cell? ⟨mb, 9, none⟩ = some (.int .i64 ask) := (bxM.c 9 (by omega)).1
      have m10 : V.cell? ⟨mb, 10, none⟩ = some (.bool yes) := (bxM.c 10 (by omega)).1
      have m11 : V.cell? ⟨mb, 11, none⟩ = some (.int .i64 code) := (bxM.c 11 (by omega)).1
      have hWV : Below W.heap.size W V := hb2.trans (hbV.mono hb2.size)
      have hOv := hO.below hbV
      have hgl2 : W.heap.size ≤ g ∧ g < w2.heap.size := hO.row.lt g rfl
      have hgl : W.heap.size ≤ g ∧ g < V.heap.size := hOv.row.lt g rfl
      have hgV := hgl.2
      obtain ⟨b', off', e', _, hcq, hMq⟩ := hOv.isFly.2.1.at hqf
      simp only [Option.some.injEq, Addr.mk.injEq, and_true] at e'
      obtain ⟨rfl, rfl⟩ := e'
      simp only [Nat.zero_add] at hcq
      have hEl := (hOv.each q (by rw [HGL.out]; exact hqf))
      have hEl2 := (hO.each q (by rw [HGL.out]; exact hqf)).1
      have HPUT : Hid (∀ (V2 w5 : World) (x : FL), Below V.heap.size V V2 → V2.grownBy w5 (gs.getD q default).val.ownBlock → w5.ownsRow W.heap.size 38 12 x.val x.len (flat mcells x.ms) → x.ms.length = x.len → (x.val.ownBlock = (gs.getD q default).val.ownBlock ∨ ∀ m, x.val.ownBlock = some m → V2.heap.size ≤ m) → OwnFly (w5.setCell ⟨g, q, none⟩ x.val) W.heap.size (.slice (some ⟨g, 0, none⟩) fl c') (gs.set q x) ∧ w5.frozen? ⟨g, q, none⟩ = false ∧ (∃ v, w5.cell? ⟨g, q, none⟩ = some v) ∧ W.heap.size ≤ g ∧ g < V2.heap.size) := fun V2 w5 x hV2 hgr hown hln hnew =>
        (hOv.below hV2).put (by rw [HGL.out]; exact hqf) hgr hown hln hnew
      have hys : (gs.getD q default).ms = xs := by rw [← mss_at, HMS.out, ← HAT.out]; unfold atWay; rw [← HQ.out, Int.toNat_natCast]
      have hylx : xl = (gs.getD q default).len := by rw [← hEl.2, hys, HML.out]
      obtain ⟨x, ex⟩ : ∃ x, x = gs.getD q default := ⟨_, rfl⟩
      rw [← ex] at hcq hMq hEl hEl2 HPUT hys hylx
      clear ex
      obtain ⟨ya, yl, yc, ys⟩ := x
      obtain ⟨own4, hyl0⟩ := hEl
      simp only [FL.val] at hcq hMq own4 hEl2 HPUT hys hylx hyl0
      subst hylx
      have HYS : Hid (ys = xs) := hys
      have HYL : Hid (ys.length = xl) := hyl0
      clear hys hyl0 hMq
      obtain ⟨gx, rfl⟩ : ∃ gx, ya = some ⟨gx, 0, none⟩ := by
        rcases own4.2 with ⟨hv, hn⟩ | ⟨g', cap2, cur, hv, _⟩
        · omega
        · simp at hv; exact ⟨g', hv.1⟩
      have hgx : W.heap.size ≤ gx ∧ gx < w2.heap.size := hEl2.lt gx rfl
      go_upto_region 17 with (fail)
      go_region_law (first
        | (refine step_append_row E (by rfl) (.tmp 97) (.tmp 99) (by rfl) W.heap.size (.slice (some ⟨gx, 0, none⟩) xl yc) xl ys (by rfl) (own_below own4 (by (with_reducible repeat (first | exact Below.refl _ _ | refine nD ?_ | refine nA ?_ _)); done)) _ 1 1 [⟨kd, frm, dst, site, num, label, key, value, version, ask, yes, code⟩] (by rfl) (isMs_one _ _ _ _ _ _ _ _ _ _ _ _ _) (by unfold maxLen; omega) (by omega) (by simp; have := hWV.size; omega) ?_; intro a5 c5 w5 own5 gr5 at5; obtain ⟨hO5, fz5, ⟨y5, cl5⟩, hgW, _⟩ := HPUT.out _ w5 ⟨a5, xl + 1, c5, ys ++ [⟨kd, frm, dst, site, num, label, key, value, version, ask, yes, code⟩]⟩ (by (with_reducible repeat (first | exact Below.refl _ _ | refine nD ?_ | refine nA ?_ _)); done) gr5 own5 (by rw [List.length_append, HYL.out]; rfl) (at5.imp id (fun e m hm => Nat.le_of_eq (Option.some.inj (e.symm.trans hm)))); simp only [] at hO5; have hW5 : Below W.heap.size W w5 := Below.grown (by (with_reducible repeat (first | exact hWV | refine nD ?_ | refine nA ?_ _)); done) gr5 (by simp; have := hWV.size; omega) (fun m hm => (own4.lt m hm).1); have bM5 : BoxN w5 mb 12 [.int .i64 kd, .int .i64 frm, .int .i64 dst, .int .i64 site, .int .i64 num, .int .i64 label, .int .i64 key, .int .i64 value, .int .i64 version, .int .i64 ask, .bool yes, .int .i64 code] := (BoxN.below bxM (by (with_reducible repeat (first | exact Below.refl _ _ | refine nD ?_ | refine nA ?_ _)); done) zM).grown gr5 (by simp [Value.ownBlock]; omega); have bR5 : BoxN w5 (w.heap.size + 1) 12 [.int .i64 0, .int .i64 0, .int .i64 0, .int .i64 0, .int .i64 0, .int .i64 0, .int .i64 0, .int .i64 0, .int .i64 0, .int .i64 0, .bool false, .int .i64 0] := bxR.below hW5 z1))
      all_goals
        have hOX := hO5
        have hXW : Below W.heap.size W (w5.setCell ⟨g, q, none⟩ (.slice a5 (xl + 1) c5)) := hW5.setCell hgW _
        have bM : BoxN (w5.setCell ⟨g, q, none⟩ (.slice a5 (xl + 1) c5)) mb 12 [.int .i64 kd, .int .i64 frm, .int .i64 dst, .int .i64 site, .int .i64 num, .int .i64 label, .int .i64 key, .int .i64 value, .int .i64 version, .int .i64 ask, .bool yes, .int .i64 code] := bM5.far (by omega)
        have bR : BoxN (w5.setCell ⟨g, q, none⟩ (.slice a5 (xl + 1) c5)) (w.heap.size + 1) 12 [.int .i64 0, .int .i64 0, .int .i64 0, .int .i64 0, .int .i64 0, .int .i64 0, .int .i64 0, .int .i64 0, .int .i64 0, .int .i64 0, .bool false, .int .i64 0] := bR5.far (by omega)
        have HTK : Hid (mss (gs.set q ⟨a5, xl + 1, c5, ys ++ [⟨kd, frm, dst, site, num, label, key, value, version, ask, yes, code⟩]⟩) = takenL s (mss fs) f t 4 I) := by
          show _ = _
          rw [mss_set, HMS.out]
          unfold takenL
          rw [if_pos rfl, HMV.out, HAT.out, ← HQ.out, Int.toNat_natCast, HYS.out]
        obtain ⟨gs', egs⟩ : ∃ gs', gs' = gs.set q ⟨a5, xl + 1, c5, ys ++ [⟨kd, frm, dst, site, num, label, key, value, version, ask, yes, code⟩]⟩ := ⟨_, rfl⟩
        rw [← egs] at hOX HTK
        clear egs hO5 bM5 bR5
        obtain ⟨X, eX⟩ : ∃ X, X = w5.setCell ⟨g, q, none⟩ (.slice a5 (xl + 1) c5) := ⟨_, rfl⟩
        rw [← eX] at hOX hXW bM bR ⊢
        clear eX
        have y0 : _ = some (Value.int .i64 kd) := (bM.c 0 (by omega)).1
        have r0 : _ = some (Value.int .i64 0) := (bR.c 0 (by omega)).1
        have f0 := (bR.c 0 (by omega)).2
        have y1 : _ = some (Value.int .i64 frm) := (bM.c 1 (by omega)).1
        have r1 : _ = some (Value.int .i64 0) := (bR.c 1 (by omega)).1
        have f1 := (bR.c 1 (by omega)).2
        have y2 : _ = some (Value.int .i64 dst) := (bM.c 2 (by omega)).1
        have r2 : _ = some (Value.int .i64 0) := (bR.c 2 (by omega)).1
        have f2 := (bR.c 2 (by omega)).2
        have y3 : _ = some (Value.int .i64 site) := (bM.c 3 (by omega)).1
        have r3 : _ = some (Value.int .i64 0) := (bR.c 3 (by omega)).1
        have f3 := (bR.c 3 (by omega)).2
        have y4 : _ = some (Value.int .i64 num) := (bM.c 4 (by omega)).1
        have r4 : _ = some (Value.int .i64 0) := (bR.c 4 (by omega)).1
        have f4 := (bR.c 4 (by omega)).2
        have y5 : _ = some (Value.int .i64 label) := (bM.c 5 (by omega)).1
        have r5 : _ = some (Value.int .i64 0) := (bR.c 5 (by omega)).1
        have f5 := (bR.c 5 (by omega)).2
        have y6 : _ = some (Value.int .i64 key) := (bM.c 6 (by omega)).1
        have r6 : _ = some (Value.int .i64 0) := (bR.c 6 (by omega)).1
        have f6 := (bR.c 6 (by omega)).2
        have y7 : _ = some (Value.int .i64 value) := (bM.c 7 (by omega)).1
        have r7 : _ = some (Value.int .i64 0) := (bR.c 7 (by omega)).1
        have f7 := (bR.c 7 (by omega)).2
        have y8 : _ = some (Value.int .i64 version) := (bM.c 8 (by omega)).1
        have r8 : _ = some (Value.int .i64 0) := (bR.c 8 (by omega)).1
        have f8 := (bR.c 8 (by omega)).2
        have y9 : _ = some (Value.int .i64 ask) := (bM.c 9 (by omega)).1
        have r9 : _ = some (Value.int .i64 0) := (bR.c 9 (by omega)).1
        have f9 := (bR.c 9 (by omega)).2
        have y10 : _ = some (Value.bool yes) := (bM.c 10 (by omega)).1
        have r10 : _ = some (Value.bool false) := (bR.c 10 (by omega)).1
        have f10 := (bR.c 10 (by omega)).2
        have y11 : _ = some (Value.int .i64 code) := (bM.c 11 (by omega)).1
        have r11 : _ = some (Value.int .i64 0) := (bR.c 11 (by omega)).1
        have f11 := (bR.c 11 (by omega)).2
        go_upto_region 18 with (fail)
        go_region
        all_goals
          clear y0 r0 f0 y1 r1 f1 y2 r2 f2 y3 r3 f3 y4 r4 f4 y5 r5 f5 y6 r6 f6 y7 r7 f7 y8 r8 f8 y9 r9 f9 y10 r10 f10 y11 r11 f11 bM
          have bF := BoxN.below ((((((((((((bR.set 0 (by omega) (.int .i64 kd)).set 1 (by omega) (.int .i64 frm)).set 2 (by omega) (.int .i64 dst)).set 3 (by omega) (.int .i64 site)).set 4 (by omega) (.int .i64 num)).set 5 (by omega) (.int .i64 label)).set 6 (by omega) (.int .i64 key)).set 7 (by omega) (.int .i64 value)).set 8 (by omega) (.int .i64 version)).set 9 (by omega) (.int .i64 ask)).set 10 (by omega) (.bool yes)).set 11 (by omega) (.int .i64 code)) (Below.drew (Below.refl _ _)) (by simpa using bR.lt)
          have oF := OwnFly.below (OwnFly.foreign (OwnFly.foreign (OwnFly.foreign (OwnFly.foreign (OwnFly.foreign (OwnFly.foreign (OwnFly.foreign (OwnFly.foreign (OwnFly.foreign (OwnFly.foreign (OwnFly.foreign (OwnFly.foreign hOX z1 0 (.int .i64 kd)) z1 1 (.int .i64 frm)) z1 2 (.int .i64 dst)) z1 3 (.int .i64 site)) z1 4 (.int .i64 num)) z1 5 (.int .i64 label)) z1 6 (.int .i64 key)) z1 7 (.int .i64 value)) z1 8 (.int .i64 version)) z1 9 (.int .i64 ask)) z1 10 (.bool yes)) z1 11 (.int .i64 code)) (nD (Below.refl _ _))
          have wF := ((Below.setCell (Below.setCell (Below.setCell (Below.setCell (Below.setCell (Below.setCell (Below.setCell (Below.setCell (Below.setCell (Below.setCell (Below.setCell (Below.setCell (hB.trans (hXW.mono hB.size)) (p := ⟨w.heap.size + 1, 0, none⟩) (by show w.heap.size ≤ w.heap.size + 1; omega) (.int .i64 kd)) (p := ⟨w.heap.size + 1, 1, none⟩) (by show w.heap.size ≤ w.heap.size + 1; omega) (.int .i64 frm)) (p := ⟨w.heap.size + 1, 2, none⟩) (by show w.heap.size ≤ w.heap.size + 1; omega) (.int .i64 dst)) (p := ⟨w.heap.size + 1, 3, none⟩) (by show w.heap.size ≤ w.heap.size + 1; omega) (.int .i64 site)) (p := ⟨w.heap.size + 1, 4, none⟩) (by show w.heap.size ≤ w.heap.size + 1; omega) (.int .i64 num)) (p := ⟨w.heap.size + 1, 5, none⟩) (by show w.heap.size ≤ w.heap.size + 1; omega) (.int .i64 label)) (p := ⟨w.heap.size + 1, 6, none⟩) (by show w.heap.size ≤ w.heap.size + 1; omega) (.int .i64 key)) (p := ⟨w.heap.size + 1, 7, none⟩) (by show w.heap.size ≤ w.heap.size + 1; omega) (.int .i64 value)) (p := ⟨w.heap.size + 1, 8, none⟩) (by show w.heap.size ≤ w.heap.size + 1; omega) (.int .i64 version)) (p := ⟨w.heap.size + 1, 9, none⟩) (by show w.heap.size ≤ w.heap.size + 1; omega) (.int .i64 ask)) (p := ⟨w.heap.size + 1, 10, none⟩) (by show w.heap.size ≤ w.heap.size + 1; omega) (.bool yes)) (p := ⟨w.heap.size + 1, 11, none⟩) (by show w.heap.size ≤ w.heap.size + 1; omega) (.int .i64 code))).drew
          obtain ⟨Y, eY⟩ : ∃ Y : World, Y = ((((((((((((X.setCell ⟨w.heap.size + 1, 0, none⟩ (.int .i64 kd)).setCell ⟨w.heap.size + 1, 1, none⟩ (.int .i64 frm)).setCell ⟨w.heap.size + 1, 2, none⟩ (.int .i64 dst)).setCell ⟨w.heap.size + 1, 3, none⟩ (.int .i64 site)).setCell ⟨w.heap.size + 1, 4, none⟩ (.int .i64 num)).setCell ⟨w.heap.size + 1, 5, none⟩ (.int .i64 label)).setCell ⟨w.heap.size + 1, 6, none⟩ (.int .i64 key)).setCell ⟨w.heap.size + 1, 7, none⟩ (.int .i64 value)).setCell ⟨w.heap.size + 1, 8, none⟩ (.int .i64 version)).setCell ⟨w.heap.size + 1, 9, none⟩ (.int .i64 ask)).setCell ⟨w.heap.size + 1, 10, none⟩ (.bool yes)).setCell ⟨w.heap.size + 1, 11, none⟩ (.int .i64 code)).drew := ⟨_, rfl⟩
          rw [← eY] at bF oF wF ⊢
          clear eY bR
          have k0 : Y.cell? ⟨w.heap.size + 1, 0, none⟩ = some (Value.int .i64 kd) := (bF.c 0 (by omega)).1
          have k1 : Y.cell? ⟨w.heap.size + 1, 1, none⟩ = some (Value.int .i64 frm) := (bF.c 1 (by omega)).1
          have k2 : Y.cell? ⟨w.heap.size + 1, 2, none⟩ = some (Value.int .i64 dst) := (bF.c 2 (by omega)).1
          have k3 : Y.cell? ⟨w.heap.size + 1, 3, none⟩ = some (Value.int .i64 site) := (bF.c 3 (by omega)).1
          have k4 : Y.cell? ⟨w.heap.size + 1, 4, none⟩ = some (Value.int .i64 num) := (bF.c 4 (by omega)).1
          have k5 : Y.cell? ⟨w.heap.size + 1, 5, none⟩ = some (Value.int .i64 label) := (bF.c 5 (by omega)).1
          have k6 : Y.cell? ⟨w.heap.size + 1, 6, none⟩ = some (Value.int .i64 key) := (bF.c 6 (by omega)).1
          have k7 : Y.cell? ⟨w.heap.size + 1, 7, none⟩ = some (Value.int .i64 value) := (bF.c 7 (by omega)).1
          have k8 : Y.cell? ⟨w.heap.size + 1, 8, none⟩ = some (Value.int .i64 version) := (bF.c 8 (by omega)).1
          have k9 : Y.cell? ⟨w.heap.size + 1, 9, none⟩ = some (Value.int .i64 ask) := (bF.c 9 (by omega)).1
          have k10 : Y.cell? ⟨w.heap.size + 1, 10, none⟩ = some (Value.bool yes) := (bF.c 10 (by omega)).1
          have k11 : Y.cell? ⟨w.heap.size + 1, 11, none⟩ = some (Value.int .i64 code) := (bF.c 11 (by omega)).1
          go_wp2
          refine bodyPost_ret (v := .tuple #[.slice (some ⟨g, 0, none⟩) fl c', .agg #[.int .i64 kd, .int .i64 frm, .int .i64 dst, .int .i64 site, .int .i64 num, .int .i64 label, .int .i64 key, .int .i64 value, .int .i64 version, .int .i64 ask, .bool yes, .int .i64 code], .int .i64 0]) (by simp [results, Tryd.results13, go_sem, k0, k1, k2, k3, k4, k5, k6, k7, k8, k9, k10, k11]) rfl ⟨?_, wF⟩
          rw [HI.out]
          exact ⟨some ⟨g, 0, none⟩, c', _, by rw [HMV.out]; rfl, oF.base (Nat.le_of_lt z0), HTK.out⟩
    · clear h30'
      have hk4b : (kind == 4) = false := by simpa using hk4
      go_upto_region 15 with (go_at_call 8; refine (HCP.out _ hfw1).mono ?_; rintro e w2 ⟨a', c', gs, rfl, hO0, hms, hb2'⟩)
      have hb2 : Below W.heap.size W w2 := hb1.trans (hb2'.mono hb1.size)
      have HMS : Hid (mss gs = mss fs) := hms
      have HGL : Hid (gs.length = fl) := by show _ = _; rw [← mss_len, hms, mss_len, HN.out]
      have hO : OwnFly w2 W.heap.size (.slice a' fl c') gs := hO0.base hb1.size
      obtain ⟨g, rfl⟩ : ∃ g, a' = some ⟨g, 0, none⟩ := by
        rcases hO.row.2 with ⟨hv, hn⟩ | ⟨g, cap2, cur, hv, _⟩
        · rw [HGL.out] at hn; omega
        · simp at hv; exact ⟨g, hv.1⟩
      clear hO0 hms hb2' c0 c1 c2 hcell
      obtain ⟨hcell, hM2, hbl2⟩ := KX.out _ hb2
      obtain ⟨b3', off3', e3', hlb3', hc3'⟩ := hM2.2.2.2.2 hn0
      simp only [Option.some.injEq, Addr.mk.injEq, and_true] at e3'
      obtain ⟨rfl, rfl⟩ := e3'
      have hcells := hc3' I hI
      obtain ⟨m, em⟩ : ∃ m, m = xs.getD I default := ⟨_, rfl⟩
      rw [← em] at hcells HMV
      clear em hc3' hM2
      obtain ⟨kd, frm, dst, site, num, label, key, value, version, ask, yes, code⟩ := m
      have a0 := hcells 0 (by decide)
      have a1 := hcells 1 (by decide)
      have a2 := hcells 2 (by decide)
      have a3 := hcells 3 (by decide)
      have a4 := hcells 4 (by decide)
      have a5 := hcells 5 (by decide)
      have a6 := hcells 6 (by decide)
      have a7 := hcells 7 (by decide)
      have a8 := hcells 8 (by decide)
      have a9 := hcells 9 (by decide)
      have a10 := hcells 10 (by decide)
      have a11 := hcells 11 (by decide)
      simp only [mcells, List.getElem?_cons_zero, List.getElem?_cons_succ, Nat.add_zero] at a0 a1 a2 a3 a4 a5 a6 a7 a8 a9 a10 a11
      clear hcells
      go_cut [19] (fun s19 wc => ∃ mb, s19 = .pointer (some ⟨mb, 0, none⟩) ∧ BoxN wc mb 12 [.int .i64 kd, .int .i64 frm, .int .i64 dst, .int .i64 site, .int .i64 num, .int .i64 label, .int .i64 key, .int .i64 value, .int .i64 version, .int .i64 ask, .bool yes, .int .i64 code] ∧ w2.heap.size ≤ mb ∧ Below w2.heap.size w2 wc)
      case first =>
        go_region
        all_goals
          go_wp2_with fail
          go_meet
          case rel => first | exact ⟨_, rfl, (boxn_new w2 #[.int .i64 kd, .int .i64 frm, .int .i64 dst, .int .i64 site, .int .i64 num, .int .i64 label, .int .i64 key, .int .i64 value, .int .i64 version, .int .i64 ask, .bool yes, .int .i64 code] 38 12 rfl).below (Below.drew (Below.refl _ _)) (by simp), Nat.le_refl _, (by (with_reducible repeat (first | exact Below.refl _ _ | refine nD ?_ | refine nA ?_ _)); done)⟩ | exact ⟨_, rfl, boxn_new w2.drew #[.int .i64 kd, .int .i64 frm, .int .i64 dst, .int .i64 site, .int .i64 num, .int .i64 label, .int .i64 key, .int .i64 value, .int .i64 version, .int .i64 ask, .bool yes, .int .i64 code] 38 12 rfl, Nat.le_refl _, (by (with_reducible repeat (first | exact Below.refl _ _ | refine nD ?_ | refine nA ?_ _)); done)⟩
      case rest =>
      obtain ⟨mb, rfl, bxM, hmb, hbV⟩ := hcut
      obtain ⟨V, eV⟩ : ∃ V, V = wc := ⟨_, rfl⟩
      rw [← eV] at bxM hbV ⊢
      clear eV a0 a1 a2 a3 a4 a5 a6 a7 a8 a9 a10 a11
      have zM := bxM.lt
      have m0 : V.cell? ⟨mb, 0, none⟩ = some (.int .i64 kd) := (bxM.c 0 (by omega)).1
      have m1 : V.cell? ⟨mb, 1, none⟩ = some (.int .i64 frm) := (bxM.c 1 (by omega)).1
      have m2 : V.cell? ⟨mb, 2, none⟩ = some (.int .i64 dst) := (bxM.c 2 (by omega)).1
      have m3 : V.cell? ⟨mb, 3, none⟩ = some (.int .i64 site) := (bxM.c 3 (by omega)).1
      have m4 : V.cell? ⟨mb, 4, none⟩ = some (.int .i64 num) := (bxM.c 4 (by omega)).1
      have m5 : V.cell? ⟨mb, 5, none⟩ = some (.int .i64 label) := (bxM.c 5 (by omega)).1
      have m6 : V.cell? ⟨mb, 6, none⟩ = some (.int .i64 key) := (bxM.c 6 (by omega)).1
      have m7 : V.cell? ⟨mb, 7, none⟩ = some (.int .i64 value) := (bxM.c 7 (by omega)).1
      have m8 : V.cell? ⟨mb, 8, none⟩ = some (.int .i64 version) := (bxM.c 8 (by omega)).1
      have m9 : V.cell? ⟨mb, 9, none⟩ = some (.int .i64 ask) := (bxM.c 9 (by omega)).1
      have m10 : V.cell? ⟨mb, 10, none⟩ = some (.bool yes) := (bxM.c 10 (by omega)).1
      have m11 : V.cell? ⟨mb, 11, none⟩ = some (.int .i64 code) := (bxM.c 11 (by omega)).1
      have hWV : Below W.heap.size W V := hb2.trans (hbV.mono hb2.size)
      have hOv := hO.below hbV
      have hgl2 : W.heap.size ≤ g ∧ g < w2.heap.size := hO.row.lt g rfl
      have hgl : W.heap.size ≤ g ∧ g < V.heap.size := hOv.row.lt g rfl
      have hgV := hgl.2
      obtain ⟨b', off', e', _, hcq, hMq⟩ := hOv.isFly.2.1.at hqf
      simp only [Option.some.injEq, Addr.mk.injEq, and_true] at e'
      obtain ⟨rfl, rfl⟩ := e'
      simp only [Nat.zero_add] at hcq
      have hEl := (hOv.each q (by rw [HGL.out]; exact hqf))
      have hEl2 := (hO.each q (by rw [HGL.out]; exact hqf)).1
      have HPUT : Hid (∀ (V2 w5 : World) (x : FL), Below V.heap.size V V2 → V2.grownBy w5 (gs.getD q default).val.ownBlock → w5.ownsRow W.heap.size 38 12 x.val x.len (flat mcells x.ms) → x.ms.length = x.len → (x.val.ownBlock = (gs.getD q default).val.ownBlock ∨ ∀ m, x.val.ownBlock = some m → V2.heap.size ≤ m) → OwnFly (w5.setCell ⟨g, q, none⟩ x.val) W.heap.size (.slice (some ⟨g, 0, none⟩) fl c') (gs.set q x) ∧ w5.frozen? ⟨g, q, none⟩ = false ∧ (∃ v, w5.cell? ⟨g, q, none⟩ = some v) ∧ W.heap.size ≤ g ∧ g < V2.heap.size) := fun V2 w5 x hV2 hgr hown hln hnew =>
        (hOv.below hV2).put (by rw [HGL.out]; exact hqf) hgr hown hln hnew
      have hys : (gs.getD q default).ms = xs := by rw [← mss_at, HMS.out, ← HAT.out]; unfold atWay; rw [← HQ.out, Int.toNat_natCast]
      have hylx : xl = (gs.getD q default).len := by rw [← hEl.2, hys, HML.out]
      obtain ⟨x, ex⟩ : ∃ x, x = gs.getD q default := ⟨_, rfl⟩
      rw [← ex] at hcq hMq hEl hEl2 HPUT hys hylx
      clear ex
      obtain ⟨ya, yl, yc, ys⟩ := x
      obtain ⟨own4, hyl0⟩ := hEl
      simp only [FL.val] at hcq hMq own4 hEl2 HPUT hys hylx hyl0
      subst hylx
      have HYS : Hid (ys = xs) := hys
      have HYL : Hid (ys.length = xl) := hyl0
      clear hys hyl0 hMq
      obtain ⟨gx, rfl⟩ : ∃ gx, ya = some ⟨gx, 0, none⟩ := by
        rcases own4.2 with ⟨hv, hn⟩ | ⟨g', cap2, cur, hv, _⟩
        · omega
        · simp at hv; exact ⟨g', hv.1⟩
      have hgx : W.heap.size ≤ gx ∧ gx < w2.heap.size := hEl2.lt gx rfl
      go_wp2
      go_loopw [20, 21] (fun v i wr => ∃ (a5 : Option Addr) (c5 j : Nat) (L5 : List MV), v = .slice a5 L5.length c5 ∧ i = .int .i64 (j : Int) ∧ j ≤ xl ∧ Hid (L5 = (xs.take j).eraseIdx I) ∧ L5.length ≤ j ∧ wr.ownsRow V.heap.size 38 12 (.slice a5 L5.length c5) L5.length (flat mcells L5) ∧ Below V.heap.size V wr) (fun _ i _ => xl - (intOf i).toNat)
      case atStart => exact ⟨none, 0, 0, [], rfl, rfl, Nat.zero_le _, (by show _ = _; simp), Nat.zero_le _, World.ownsRow_nil _ _ _ _, Below.refl _ _⟩
      case round =>
        obtain ⟨a5, c5, j, L5, rfl, rfl, hj, hL5, hLj, hown, hq⟩ := hrel
        have hWq : Below W.heap.size W wr := hWV.trans (hq.mono hWV.size)
        by_cases hjl : j < xl
        · have hjl' : (j : Int) < (xl : Int) := by omega
          have HES : Hid ((xs.take (j + 1)).eraseIdx I = if j = I then L5 else L5 ++ [xs.getD j default]) := by
            show _ = _
            rw [erase_snoc (by rw [HML.out]; exact hjl), hL5.out]
          by_cases hjI : j = I
          · subst hjI
            go_wp2
            go_roundw
            case rel => exact ⟨a5, c5, j + 1, L5, rfl, by go_num, by omega, (by show _ = _; rw [HES.out, if_pos rfl]), by omega, hown, hq⟩
            case measure => simp [intOf]; omega
          · have hjI' : ¬ (j : Int) = (I : Int) := by omega
            obtain ⟨hcx, hMx, hbx⟩ := KX.out _ hWq
            obtain ⟨b3, off3, e3, hlb3, hc3⟩ := hMx.2.2.2.2 (by omega)
            simp only [Option.some.injEq, Addr.mk.injEq, and_true] at e3
            obtain ⟨rfl, rfl⟩ := e3
            have hcells := hc3 j hjl
            rw [if_neg hjI] at HES
            obtain ⟨mj, emj⟩ : ∃ mj, mj = xs.getD j default := ⟨_, rfl⟩
            rw [← emj] at hcells HES
            clear emj hc3 hMx
            obtain ⟨n0, n1, n2, n3, n4, n5, n6, n7, n8, n9, n10, n11⟩ := mj
            have p0 := hcells 0 (by decide)
            have p1 := hcells 1 (by decide)
            have p2 := hcells 2 (by decide)
            have p3 := hcells 3 (by decide)
            have p4 := hcells 4 (by decide)
            have p5 := hcells 5 (by decide)
            have p6 := hcells 6 (by decide)
            have p7 := hcells 7 (by decide)
            have p8 := hcells 8 (by decide)
            have p9 := hcells 9 (by decide)
            have p10 := hcells 10 (by decide)
            have p11 := hcells 11 (by decide)
            simp only [mcells, List.getElem?_cons_zero, List.getElem?_cons_succ, Nat.add_zero] at p0 p1 p2 p3 p4 p5 p6 p7 p8 p9 p10 p11
            clear hcells
            have zq := hq.size
            go_wp2_with (at_builtin; go_loud (refine wpList_append_row E (by rfl) _ _ (by rfl) V.heap.size (.slice a5 L5.length c5) L5.length L5 (by rfl) (own_below hown ((Below.refl _ _).alloc (Nat.le_refl _) _)) _ 1 1 [⟨n0, n1, n2, n3, n4, n5, n6, n7, n8, n9, n10, n11⟩] (by rfl) (isMs_one _ _ _ _ _ _ _ _ _ _ _ _ _) (by unfold maxLen; omega) (by omega) (by simp; omega) ?_; intro a6 c6 w6 own6 gr6 at6; obtain ⟨L6, eL6⟩ : ∃ L6, L6 = L5 ++ [(⟨n0, n1, n2, n3, n4, n5, n6, n7, n8, n9, n10, n11⟩ : MV)] := ⟨_, rfl⟩; have el6 : Hid (L6.length = L5.length + 1) := (by show _ = _; rw [eL6]; simp); rw [← eL6] at own6 HES; clear eL6))
            go_roundw
            case rel =>
              refine ⟨a6, c6, j + 1, L6, by rw [el6.out], by go_num, by omega, HES.out.symm, by rw [el6.out]; omega, by rw [el6.out]; exact own6, ?_⟩
              exact (hq.alloc hq.size _).grown gr6 (by simp; omega) (fun m hm => (hown.lt m hm).1)
            case measure => simp [intOf]; omega
        · obtain rfl : j = xl := by omega
          have HL6 : Hid (L5 = xs.eraseIdx I) := by show _ = _; rw [hL5.out, List.take_of_length_le (by rw [HML.out]; exact Nat.le_refl _)]
          obtain ⟨hO5, fz5, ⟨y5, cl5⟩, hgW, _⟩ := HPUT.out V wr ⟨a5, L5.length, c5, L5⟩ (Below.refl _ _) ⟨hq.os, hq.tape, hq.output, hq.size, fun k hk _ => hq.block k hk⟩ (own_base hown hWV.size) rfl (.inr (fun m hm => (hown.lt m hm).1))
          simp only [] at hO5
          have hgr : g < wr.heap.size := Nat.lt_of_lt_of_le hgV hq.size
          have bM5 : BoxN wr mb 12 [.int .i64 kd, .int .i64 frm, .int .i64 dst, .int .i64 site, .int .i64 num, .int .i64 label, .int .i64 key, .int .i64 value, .int .i64 version, .int .i64 ask, .bool yes, .int .i64 code] := bxM.below hq zM
          have bR5 : BoxN wr (w.heap.size + 1) 12 [.int .i64 0, .int .i64 0, .int .i64 0, .int .i64 0, .int .i64 0, .int .i64 0, .int .i64 0, .int .i64 0, .int .i64 0, .int .i64 0, .bool false, .int .i64 0] := bxR.below hWq z1
          have hOX := hO5
          have hXW : Below W.heap.size W (wr.setCell ⟨g, q, none⟩ (.slice a5 L5.length c5)) := hWq.setCell hgW _
          have bM : BoxN (wr.setCell ⟨g, q, none⟩ (.slice a5 L5.length c5)) mb 12 [.int .i64 kd, .int .i64 frm, .int .i64 dst, .int .i64 site, .int .i64 num, .int .i64 label, .int .i64 key, .int .i64 value, .int .i64 version, .int .i64 ask, .bool yes, .int .i64 code] := bM5.far (by omega)
          have bR : BoxN (wr.setCell ⟨g, q, none⟩ (.slice a5 L5.length c5)) (w.heap.size + 1) 12 [.int .i64 0, .int .i64 0, .int .i64 0, .int .i64 0, .int .i64 0, .int .i64 0, .int .i64 0, .int .i64 0, .int .i64 0, .int .i64 0, .bool false, .int .i64 0] := bR5.far (by omega)
          have HTK : Hid (mss (gs.set q ⟨a5, L5.length, c5, L5⟩) = takenL s (mss fs) f t kind I) := by
            show _ = _
            rw [mss_set, HMS.out]
            unfold takenL
            rw [if_neg hk4, HAT.out, ← HQ.out, Int.toNat_natCast, HL6.out]
          obtain ⟨gs', egs⟩ : ∃ gs', gs' = gs.set q ⟨a5, L5.length, c5, L5⟩ := ⟨_, rfl⟩
          rw [← egs] at hOX HTK
          clear egs hO5 bM5 bR5
          go_upto_region 26 with (fail)
          obtain ⟨X, eX⟩ : ∃ X, X = wr.setCell ⟨g, q, none⟩ (.slice a5 L5.length c5) := ⟨_, rfl⟩
          rw [← eX] at hOX hXW bM bR ⊢
          clear eX
          have y0 : _ = some (Value.int .i64 kd) := (bM.c 0 (by omega)).1
          have r0 : _ = some (Value.int .i64 0) := (bR.c 0 (by omega)).1
          have f0 := (bR.c 0 (by omega)).2
          have y1 : _ = some (Value.int .i64 frm) := (bM.c 1 (by omega)).1
          have r1 : _ = some (Value.int .i64 0) := (bR.c 1 (by omega)).1
          have f1 := (bR.c 1 (by omega)).2
          have y2 : _ = some (Value.int .i64 dst) := (bM.c 2 (by omega)).1
          have r2 : _ = some (Value.int .i64 0) := (bR.c 2 (by omega)).1
          have f2 := (bR.c 2 (by omega)).2
          have y3 : _ = some (Value.int .i64 site) := (bM.c 3 (by omega)).1
          have r3 : _ = some (Value.int .i64 0) := (bR.c 3 (by omega)).1
          have f3 := (bR.c 3 (by omega)).2
          have y4 : _ = some (Value.int .i64 num) := (bM.c 4 (by omega)).1
          have r4 : _ = some (Value.int .i64 0) := (bR.c 4 (by omega)).1
          have f4 := (bR.c 4 (by omega)).2
          have y5 : _ = some (Value.int .i64 label) := (bM.c 5 (by omega)).1
          have r5 : _ = some (Value.int .i64 0) := (bR.c 5 (by omega)).1
          have f5 := (bR.c 5 (by omega)).2
          have y6 : _ = some (Value.int .i64 key) := (bM.c 6 (by omega)).1
          have r6 : _ = some (Value.int .i64 0) := (bR.c 6 (by omega)).1
          have f6 := (bR.c 6 (by omega)).2
          have y7 : _ = some (Value.int .i64 value) := (bM.c 7 (by omega)).1
          have r7 : _ = some (Value.int .i64 0) := (bR.c 7 (by omega)).1
          have f7 := (bR.c 7 (by omega)).2
          have y8 : _ = some (Value.int .i64 version) := (bM.c 8 (by omega)).1
          have r8 : _ = some (Value.int .i64 0) := (bR.c 8 (by omega)).1
          have f8 := (bR.c 8 (by omega)).2
          have y9 : _ = some (Value.int .i64 ask) := (bM.c 9 (by omega)).1
          have r9 : _ = some (Value.int .i64 0) := (bR.c 9 (by omega)).1
          have f9 := (bR.c 9 (by omega)).2
          have y10 : _ = some (Value.bool yes) := (bM.c 10 (by omega)).1
          have r10 : _ = some (Value.bool false) := (bR.c 10 (by omega)).1
          have f10 := (bR.c 10 (by omega)).2
          have y11 : _ = some (Value.int .i64 code) := (bM.c 11 (by omega)).1
          have r11 : _ = some (Value.int .i64 0) := (bR.c 11 (by omega)).1
          have f11 := (bR.c 11 (by omega)).2
          go_upto_region 26 with (fail)
          go_region
          all_goals
            clear y0 r0 f0 y1 r1 f1 y2 r2 f2 y3 r3 f3 y4 r4 f4 y5 r5 f5 y6 r6 f6 y7 r7 f7 y8 r8 f8 y9 r9 f9 y10 r10 f10 y11 r11 f11 bM
            have bF := BoxN.below ((((((((((((bR.set 0 (by omega) (.int .i64 kd)).set 1 (by omega) (.int .i64 frm)).set 2 (by omega) (.int .i64 dst)).set 3 (by omega) (.int .i64 site)).set 4 (by omega) (.int .i64 num)).set 5 (by omega) (.int .i64 label)).set 6 (by omega) (.int .i64 key)).set 7 (by omega) (.int .i64 value)).set 8 (by omega) (.int .i64 version)).set 9 (by omega) (.int .i64 ask)).set 10 (by omega) (.bool yes)).set 11 (by omega) (.int .i64 code)) (Below.drew (Below.refl _ _)) (by simpa using bR.lt)
            have oF := OwnFly.below (OwnFly.foreign (OwnFly.foreign (OwnFly.foreign (OwnFly.foreign (OwnFly.foreign (OwnFly.foreign (OwnFly.foreign (OwnFly.foreign (OwnFly.foreign (OwnFly.foreign (OwnFly.foreign (OwnFly.foreign hOX z1 0 (.int .i64 kd)) z1 1 (.int .i64 frm)) z1 2 (.int .i64 dst)) z1 3 (.int .i64 site)) z1 4 (.int .i64 num)) z1 5 (.int .i64 label)) z1 6 (.int .i64 key)) z1 7 (.int .i64 value)) z1 8 (.int .i64 version)) z1 9 (.int .i64 ask)) z1 10 (.bool yes)) z1 11 (.int .i64 code)) (nD (Below.refl _ _))
            have wF := ((Below.setCell (Below.setCell (Below.setCell (Below.setCell (Below.setCell (Below.setCell (Below.setCell (Below.setCell (Below.setCell (Below.setCell (Below.setCell (Below.setCell (hB.trans (hXW.mono hB.size)) (p := ⟨w.heap.size + 1, 0, none⟩) (by show w.heap.size ≤ w.heap.size + 1; omega) (.int .i64 kd)) (p := ⟨w.heap.size + 1, 1, none⟩) (by show w.heap.size ≤ w.heap.size + 1; omega) (.int .i64 frm)) (p := ⟨w.heap.size + 1, 2, none⟩) (by show w.heap.size ≤ w.heap.size + 1; omega) (.int .i64 dst)) (p := ⟨w.heap.size + 1, 3, none⟩) (by show w.heap.size ≤ w.heap.size + 1; omega) (.int .i64 site)) (p := ⟨w.heap.size + 1, 4, none⟩) (by show w.heap.size ≤ w.heap.size + 1; omega) (.int .i64 num)) (p := ⟨w.heap.size + 1, 5, none⟩) (by show w.heap.size ≤ w.heap.size + 1; omega) (.int .i64 label)) (p := ⟨w.heap.size + 1, 6, none⟩) (by show w.heap.size ≤ w.heap.size + 1; omega) (.int .i64 key)) (p := ⟨w.heap.size + 1, 7, none⟩) (by show w.heap.size ≤ w.heap.size + 1; omega) (.int .i64 value)) (p := ⟨w.heap.size + 1, 8, none⟩) (by show w.heap.size ≤ w.heap.size + 1; omega) (.int .i64 version)) (p := ⟨w.heap.size + 1, 9, none⟩) (by show w.heap.size ≤ w.heap.size + 1; omega) (.int .i64 ask)) (p := ⟨w.heap.size + 1, 10, none⟩) (by show w.heap.size ≤ w.heap.size + 1; omega) (.bool yes)) (p := ⟨w.heap.size + 1, 11, none⟩) (by show w.heap.size ≤ w.heap.size + 1; omega) (.int .i64 code))).drew
            obtain ⟨Y, eY⟩ : ∃ Y : World, Y = ((((((((((((X.setCell ⟨w.heap.size + 1, 0, none⟩ (.int .i64 kd)).setCell ⟨w.heap.size + 1, 1, none⟩ (.int .i64 frm)).setCell ⟨w.heap.size + 1, 2, none⟩ (.int .i64 dst)).setCell ⟨w.heap.size + 1, 3, none⟩ (.int .i64 site)).setCell ⟨w.heap.size + 1, 4, none⟩ (.int .i64 num)).setCell ⟨w.heap.size + 1, 5, none⟩ (.int .i64 label)).setCell ⟨w.heap.size + 1, 6, none⟩ (.int .i64 key)).setCell ⟨w.heap.size + 1, 7, none⟩ (.int .i64 value)).setCell ⟨w.heap.size + 1, 8, none⟩ (.int .i64 version)).setCell ⟨w.heap.size + 1, 9, none⟩ (.int .i64 ask)).setCell ⟨w.heap.size + 1, 10, none⟩ (.bool yes)).setCell ⟨w.heap.size + 1, 11, none⟩ (.int .i64 code)).drew := ⟨_, rfl⟩
            rw [← eY] at bF oF wF ⊢
            clear eY bR
            have k0 : Y.cell? ⟨w.heap.size + 1, 0, none⟩ = some (Value.int .i64 kd) := (bF.c 0 (by omega)).1
            have k1 : Y.cell? ⟨w.heap.size + 1, 1, none⟩ = some (Value.int .i64 frm) := (bF.c 1 (by omega)).1
            have k2 : Y.cell? ⟨w.heap.size + 1, 2, none⟩ = some (Value.int .i64 dst) := (bF.c 2 (by omega)).1
            have k3 : Y.cell? ⟨w.heap.size + 1, 3, none⟩ = some (Value.int .i64 site) := (bF.c 3 (by omega)).1
            have k4 : Y.cell? ⟨w.heap.size + 1, 4, none⟩ = some (Value.int .i64 num) := (bF.c 4 (by omega)).1
            have k5 : Y.cell? ⟨w.heap.size + 1, 5, none⟩ = some (Value.int .i64 label) := (bF.c 5 (by omega)).1
            have k6 : Y.cell? ⟨w.heap.size + 1, 6, none⟩ = some (Value.int .i64 key) := (bF.c 6 (by omega)).1
            have k7 : Y.cell? ⟨w.heap.size + 1, 7, none⟩ = some (Value.int .i64 value) := (bF.c 7 (by omega)).1
            have k8 : Y.cell? ⟨w.heap.size + 1, 8, none⟩ = some (Value.int .i64 version) := (bF.c 8 (by omega)).1
            have k9 : Y.cell? ⟨w.heap.size + 1, 9, none⟩ = some (Value.int .i64 ask) := (bF.c 9 (by omega)).1
            have k10 : Y.cell? ⟨w.heap.size + 1, 10, none⟩ = some (Value.bool yes) := (bF.c 10 (by omega)).1
            have k11 : Y.cell? ⟨w.heap.size + 1, 11, none⟩ = some (Value.int .i64 code) := (bF.c 11 (by omega)).1
            go_wp2
            refine bodyPost_ret (v := .tuple #[.slice (some ⟨g, 0, none⟩) fl c', .agg #[.int .i64 kd, .int .i64 frm, .int .i64 dst, .int .i64 site, .int .i64 num, .int .i64 label, .int .i64 key, .int .i64 value, .int .i64 version, .int .i64 ask, .bool yes, .int .i64 code], .int .i64 0]) (by simp [results, Tryd.results13, go_sem, k0, k1, k2, k3, k4, k5, k6, k7, k8, k9, k10, k11]) rfl ⟨?_, wF⟩
            rw [HI.out]
            exact ⟨some ⟨g, 0, none⟩, c', _, by rw [HMV.out]; rfl, oF.base (Nat.le_of_lt z0), HTK.out⟩

end Go.Proofs.YtpkbklhjpaaiiaaDoor.Nt
