/- The contract of the document's SentOf. -/
import Derived.Test.YtpkbklhjpaaiiaaDoorNCopy
import Derived.Test.YtpkbklhjpaaiiaaDoorNFault
import Derived.Lib.QuietBelow
namespace Go.Proofs.YtpkbklhjpaaiiaaDoor.Nt
open Go.ChangeShapes Go.WideShapes Go.ChangeAt Go.RowKit
set_option linter.unusedVariables false

/-- What SentOf answers. -/
def SentAns (s : Int) (ls : List (Int × Int)) (p : Int) (fl : Nat) (fs : List FL) (l : List MV) (w w' : World) (e : Ending) : Prop :=
  if sendErr s ls p fs l = 0 then ∃ a' c' gs, e = .returned (.tuple #[.slice a' fl c', .int .i64 0]) ∧ OwnFly w' w.heap.size (.slice a' fl c') gs ∧ mss gs = sent s (mss fs) l
  else e = .returned (.tuple #[.slice none 0 0, .int .i64 (sendErr s ls p fs l)])
theorem sent_ok {s : Int} {ls : List (Int × Int)} {p : Int} {fl : Nat} {fs : List FL} {l : List MV} {w w' : World} {e : Ending} (h : sendErr s ls p fs l = 0) {a' : Option Addr} {c' : Nat} {gs : List FL} (he : e = .returned (.tuple #[.slice a' fl c', .int .i64 0])) (ho : OwnFly w' w.heap.size (.slice a' fl c') gs) (hs : mss gs = sent s (mss fs) l) : SentAns s ls p fl fs l w w' e := by
  unfold SentAns
  rw [if_pos h]
  exact ⟨a', c', gs, he, ho, hs⟩
theorem sent_no {s : Int} {ls : List (Int × Int)} {p : Int} {fl : Nat} {fs : List FL} {l : List MV} {w w' : World} {e : Ending} {E : Int} (h : sendErr s ls p fs l = E) (h0 : E ≠ 0) (he : e = .returned (.tuple #[.slice none 0 0, .int .i64 E])) : SentAns s ls p fl fs l w w' e := by
  unfold SentAns
  rw [if_neg (by rw [h]; exact h0), h]
  exact he

set_option maxRecDepth 100000 in
set_option maxHeartbeats 4000000 in
theorem sentOf_any (s p : Int) (a : Option Addr) (len cap : Nat) (ls : List (Int × Int)) (fa : Option Addr) (fl fc : Nat) (fs : List FL) (la : Option Addr) (ll lc : Nat) (ms : List MV) (w : World) (h : IsLabs w a len cap ls) (hL : IsFly w fa fl fc fs) (hM : IsMsgs w la ll lc ms) (hby : fl * 24 ≤ 140737488351232) (hbs : ∀ f ∈ fs, f.len * 96 ≤ 140737488351232) :
    Calls Tryd.prog 10 #[.agg #[.int .i64 s, .slice a len cap, .int .i64 p], .slice fa fl fc, .slice la ll lc] w fun e w' => SentAns s ls p fl fs ms w w' e ∧ Below w.heap.size w w' := by
  have hFF := fun w' h1 h2 => flyingFault_any s p a len cap ls fa fl fc fs w' h1 h2
  have HCP : Hid (∀ w', IsFly w' fa fl fc fs → Calls Tryd.prog 8 #[.slice fa fl fc] w' fun e w'' => ∃ a' c' gs, e = .returned (.slice a' fl c') ∧ OwnFly w'' w'.heap.size (.slice a' fl c') gs ∧ mss gs = mss fs ∧ Below w'.heap.size w' w'') := fun w' h' => flyingCopy_any fa fl fc fs w' h' hby hbs
  have hmx : ll ≤ maxLen := Nat.le_trans hM.2.1 hM.2.2.1
  unfold maxLen at hmx
  have HN : Hid (fs.length = fl) := hL.row.1
  have HM : Hid (ms.length = ll) := hM.1
  obtain ⟨W, hW⟩ : ∃ W : World, W = w.alloc (.cells #[.int .i64 s, .slice a len cap, .int .i64 p] 24) := ⟨_, rfl⟩
  have hB : Below w.heap.size w W := by rw [hW]; exact (Below.refl _ _).alloc (Nat.le_refl _) _
  have z0 : w.heap.size < W.heap.size := by rw [hW]; simp
  have c0 : W.cell? ⟨w.heap.size, 0, none⟩ = some (.int .i64 s) := by rw [hW]; go_simp
  have c1 : W.cell? ⟨w.heap.size, 1, none⟩ = some (.slice a len cap) := by rw [hW]; go_simp
  have c2 : W.cell? ⟨w.heap.size, 2, none⟩ = some (.int .i64 p) := by rw [hW]; go_simp
  have KA : Hid (∀ U : World, Below W.heap.size W U → U.cell? ⟨w.heap.size, 0, none⟩ = some (.int .i64 s) ∧ U.cell? ⟨w.heap.size, 1, none⟩ = some (.slice a len cap) ∧ U.cell? ⟨w.heap.size, 2, none⟩ = some (.int .i64 p)) := fun U hU =>
    ⟨(hU.cell (p := ⟨w.heap.size, 0, none⟩) z0).trans c0, (hU.cell (p := ⟨w.heap.size, 1, none⟩) z0).trans c1, (hU.cell (p := ⟨w.heap.size, 2, none⟩) z0).trans c2⟩
  have HS : Hid (∀ U : World, Below W.heap.size W U → IsLabs U a len cap ls ∧ IsFly U fa fl fc fs ∧ IsMsgs U la ll lc ms) := fun U hU => by
    have hv := hB.trans (hU.mono hB.size)
    exact ⟨h.below hv, hL.below hv, hM.below hv⟩
  obtain ⟨hlW, hfW, _⟩ := HS.out W (Below.refl _ _)
  have HE0 : Hid (flyFault s ls p fs ≠ 0 → sendErr s ls p fs ms = flyFault s ls p fs) := fun hh => by simp [sendErr, hh]
  have HE1 : Hid (flyFault s ls p fs = 0 → sendErr s ls p fs ms = msgsFault s ls p ms) := fun hh => by simp [sendErr, hh]
  clear h hL hM hbs
  go_enter Tryd.func10, Tryd.ntmps10
  go_upto_region 1 with (fail)
  rw [← hW]
  clear hW
  obtain ⟨FF, eFF⟩ : ∃ FF, FF = flyFault s ls p fs := ⟨_, rfl⟩
  rw [← eFF] at hFF HE0 HE1
  have HFF : Hid (FF = flyFault s ls p fs) := eFF
  clear eFF
  go_upto_region 3 with (go_at_call 7; refine (hFF _ hlW hfW).mono ?_; rintro e w1 ⟨rfl, hb1⟩)
  go_loopw [8, 9] (fun e i wr => ∃ (k : Nat) (E : Int), k ≤ ll ∧ e = .int .i64 E ∧ i = .int .i64 k ∧ Hid (E = 0 → FF = 0 ∧ ∀ j, j < k → msgFault s ls p (ms.getD j default) = 0) ∧ Hid (E ≠ 0 → sendErr s ls p fs ms = E) ∧ Below W.heap.size W wr) (fun _ i _ => ll - (intOf i).toNat)
  case atStart => exact ⟨0, FF, Nat.zero_le _, rfl, rfl, (fun h0 => ⟨h0, fun j hj => absurd hj (Nat.not_lt_zero j)⟩), HE0.out, hb1⟩
  case round =>
    obtain ⟨k, E, hk, rfl, rfl, hz, hnz, hb⟩ := hrel
    by_cases hE : E = 0
    · by_cases hlt : k < ll
      · have hlt' : (k : Int) < (ll : Int) := by omega
        obtain ⟨hl1, _, hM1⟩ := HS.out _ hb
        obtain ⟨c0, c1, c2⟩ := KA.out _ hb
        obtain ⟨b, off, rfl, hlb, hc⟩ := hM1.2.2.2.2 (by omega)
        have hck := fun w' h' => messageFault_any s p a len cap ls (ms.getD k default) w' h'
        have hcells := hc k hlt
        have HNZ : Hid (msgFault s ls p (ms.getD k default) ≠ 0 → sendErr s ls p fs ms = msgFault s ls p (ms.getD k default)) := fun hh => by
          rw [HE1.out (hz.out hE).1]
          exact msgsFault_at (by rw [HM.out]; exact hlt) (hz.out hE).2 hh
        have HZ : Hid (msgFault s ls p (ms.getD k default) = 0 → FF = 0 ∧ ∀ j, j < k + 1 → msgFault s ls p (ms.getD j default) = 0) := fun h1 => ⟨(hz.out hE).1, fun j hj => by
          by_cases e : j = k
          · subst e; exact h1
          · exact (hz.out hE).2 j (by omega)⟩
        obtain ⟨FV, eF⟩ : ∃ FV, FV = msgFault s ls p (ms.getD k default) := ⟨_, rfl⟩
        rw [← eF] at hck HNZ HZ
        clear eF
        obtain ⟨m, em⟩ : ∃ m, m = ms.getD k default := ⟨_, rfl⟩
        rw [← em] at hck hcells
        clear em hc hM1
        obtain ⟨kind, frm, dst, site, num, label, key, value, version, ask, yes, code⟩ := m
        simp only [MV.val] at hck
        have a0 := hcells 0 (by decide)
        have a1 := hcells 1 (by decide)
        have a2 := hcells 2 (by decide)
        have a3 := hcells 3 (by decide)
        have a4 := hcells 4 (by decide)
        have a5 := hcells 5 (by decide)
        have a6 := hcells 6 (by decide)
        have a7 := hcells 7 (by decide)
        have a8 := hcells 8 (by decide)
        have a9 := hcells 9 (by decide)
        have a10 := hcells 10 (by decide)
        have a11 := hcells 11 (by decide)
        simp only [mcells, List.getElem?_cons_zero, List.getElem?_cons_succ, Nat.add_zero] at a0 a1 a2 a3 a4 a5 a6 a7 a8 a9 a10 a11
        clear hcells
        have g0 := fun d os => cell_regrown a0 d os
        have g1 := fun d os => cell_regrown a1 d os
        have g2 := fun d os => cell_regrown a2 d os
        have g3 := fun d os => cell_regrown a3 d os
        have g4 := fun d os => cell_regrown a4 d os
        have g5 := fun d os => cell_regrown a5 d os
        have g6 := fun d os => cell_regrown a6 d os
        have g7 := fun d os => cell_regrown a7 d os
        have g8 := fun d os => cell_regrown a8 d os
        have g9 := fun d os => cell_regrown a9 d os
        have g10 := fun d os => cell_regrown a10 d os
        have g11 := fun d os => cell_regrown a11 d os
        have e0 := fun d os => cell_regrown c0 d os
        have e1 := fun d os => cell_regrown c1 d os
        have e2 := fun d os => cell_regrown c2 d os
        go_upto_region 5 with (fail)
        refine wp_region_quiet_below (by kernel_rfl) (by kernel_rfl) ?_
        repeat (go_big_quiet_step ((exact Calls.regrown_of (hck _ (hl1.below (below_regrown _ _ _))))))
        refine wpQuiet_nil ?_
        intro _ hw'
        obtain ⟨⟨dq, osq⟩, hw''⟩ := hw'
        subst hw''
        go_wp2
        go_roundw
        case rel => exact ⟨k + 1, FV, by omega, rfl, by go_num, HZ, HNZ, hb.trans ((below_regrown wr dq osq).mono hb.size)⟩
        case measure => simp [intOf]; omega
      · subst hE
        obtain rfl : k = ll := by omega
        obtain ⟨hF0, hall⟩ := hz.out rfl
        have HERR : Hid (sendErr s ls p fs ms = 0) := by
          show _ = _
          rw [HE1.out hF0]
          exact msgsFault_ok (fun j hj => hall j (by rw [HM.out] at hj; omega))
        obtain ⟨hcf, hsq, hfl⟩ := flyFault_of (HFF.out.symm.trans hF0)
        have HALL : Hid (∀ j, j < k → msgFault s ls p (ms.getD j default) = 0) := hall
        obtain ⟨s1, s4, _⟩ := cfg_zero hcf
        obtain ⟨q1, q2, q3⟩ := sq_bd s1 s4
        rw [HN.out] at hsq
        have h16 : fl ≤ 16 := by omega
        have hf1 : 1 ≤ fl := by omega
        have HSQ : Hid ((fl : Int) = s * s) := hsq
        clear hfl hsq hall hz hnz
        obtain ⟨_, hfr, _⟩ := HS.out _ hb
        go_upto_region 10 with (go_at_call 8; refine (HCP.out _ hfr).mono ?_; rintro e w2 ⟨a', c', gs0, rfl, hO0, hsame, hb2'⟩)
        have hO1 : OwnFly w2 W.heap.size (.slice a' fl c') gs0 := hO0.base hb.size
        have hb2 : Below W.heap.size W w2 := hb.trans (hb2'.mono hb.size)
        have HS0 : Hid (mss gs0 = mss fs) := hsame
        have HL0 : Hid (gs0.length = fl) := by show _ = _; rw [← mss_len, hsame, mss_len, HN.out]
        obtain ⟨g, rfl⟩ : ∃ g, a' = some ⟨g, 0, none⟩ := by
          rcases hO1.row.2 with ⟨hv, hn⟩ | ⟨g, cap2, cur, hv, _⟩
          · rw [HL0.out] at hn; omega
          · simp at hv; exact ⟨g, hv.1⟩
        clear hO0 hsame hb2' hfr hb
        go_loopw [11] (fun i wr => ∃ (j : Nat) (gs : List FL), j ≤ k ∧ i = .int .i64 j ∧ OwnFly wr W.heap.size (.slice (some ⟨g, 0, none⟩) fl c') gs ∧ Hid (gs.length = fl ∧ mss gs = sent s (mss fs) (ms.take j)) ∧ Below W.heap.size W wr) (fun i _ => k - (intOf i).toNat)
        case atStart => exact ⟨0, gs0, Nat.zero_le _, rfl, hO1, ⟨HL0.out, by rw [HS0.out]; rfl⟩, hb2⟩
        case round =>
          obtain ⟨j, gs, hj, rfl, hO, hgs, hb⟩ := hrel
          by_cases hlt : j < k
          · have hlt' : (j : Int) < (k : Int) := by omega
            obtain ⟨_, _, hM1⟩ := HS.out _ hb
            obtain ⟨c0, c1, c2⟩ := KA.out _ hb
            obtain ⟨b, off, rfl, hlb, hc⟩ := hM1.2.2.2.2 (by omega)
            have hcells := hc j hlt
            have hsit := may_sites' (HALL.out j hlt)
            have HTK : Hid (sent s (mss fs) (ms.take (j + 1)) = sendTo s (mss gs) (ms.getD j default)) := by
              show _ = _
              rw [take_here' (by rw [HM.out]; exact hlt), sent_snoc, hgs.out.2]
            obtain ⟨m, em⟩ : ∃ m, m = ms.getD j default := ⟨_, rfl⟩
            rw [← em] at hcells hsit HTK
            clear em hc hM1
            obtain ⟨kind, frm, dst, site, num, label, key, value, version, ask, yes, code⟩ := m
            obtain ⟨MM, eMM⟩ : ∃ MM : MV, MM = ⟨kind, frm, dst, site, num, label, key, value, version, ask, yes, code⟩ := ⟨_, rfl⟩
            rw [← eMM] at HTK
            have EM : Hid (MM = ⟨kind, frm, dst, site, num, label, key, value, version, ask, yes, code⟩) := eMM
            clear eMM
            have a0 := hcells 0 (by decide)
            have a1 := hcells 1 (by decide)
            have a2 := hcells 2 (by decide)
            have a3 := hcells 3 (by decide)
            have a4 := hcells 4 (by decide)
            have a5 := hcells 5 (by decide)
            have a6 := hcells 6 (by decide)
            have a7 := hcells 7 (by decide)
            have a8 := hcells 8 (by decide)
            have a9 := hcells 9 (by decide)
            have a10 := hcells 10 (by decide)
            have a11 := hcells 11 (by decide)
            simp only [mcells, List.getElem?_cons_zero, List.getElem?_cons_succ, Nat.add_zero] at a0 a1 a2 a3 a4 a5 a6 a7 a8 a9 a10 a11
            clear hcells
            simp only [] at hsit
            obtain ⟨sf, sd⟩ := hsit
            obtain ⟨u1, u2, u3⟩ := mul_bd s1 s4 sf.1 sf.2
            have hq0 : 0 ≤ frm * s + dst ∧ frm * s + dst < (fl : Int) := by rw [HSQ.out]; omega
            obtain ⟨q', eq'⟩ : ∃ q', q' = frm * s := ⟨_, rfl⟩
            have k1 : IntKind.i64.wrap (frm * s) = q' := by rw [eq']; exact wrapI (by omega)
            rw [← eq'] at u1 u2 u3 hq0
            obtain ⟨q, eq⟩ : ∃ q : Nat, (q : Int) = q' + dst := ⟨(q' + dst).toNat, by omega⟩
            have k2 : IntKind.i64.wrap (q' + dst) = (q : Int) := by rw [eq]; exact wrapI (by omega)
            rw [← eq] at hq0
            have HQ : Hid ((q : Int) = frm * s + dst) := by show _ = _; rw [eq, eq']
            clear eq eq' u1 u2 u3
            have hqf : q < fl := by omega
            have HTO : Hid (sendTo s (mss gs) MM = if (gs.getD q default).ms.length < 30 then (mss gs).set q ((gs.getD q default).ms ++ [MM]) else mss gs) := by
              show _ = _
              have e : (MM.frm * s + MM.dst).toNat = q := by rw [EM.out]; show (frm * s + dst).toNat = q; rw [← HQ.out]; simp
              unfold sendTo
              rw [e, mss_at]
            have HBU : Hid (∀ U : World, Below wr.heap.size wr U → U.cell? ⟨g, q, none⟩ = some (.slice (gs.getD q default).a (gs.getD q default).len (gs.getD q default).cap)) := fun U hU => by
              obtain ⟨b', off', e, _, hcl, _⟩ := (hO.below hU).isFly.2.1.at (by exact hqf)
              simp at e
              obtain ⟨rfl, rfl⟩ := e
              simpa using hcl
            have HGL : Hid (gs.length = fl) := hgs.out.1
            have hEl := (hO.each q (by rw [HGL.out]; exact hqf))
            have HPUT : Hid (∀ (V2 w5 : World) (f : FL), Below wr.heap.size wr V2 → V2.grownBy w5 (gs.getD q default).val.ownBlock → w5.ownsRow W.heap.size 38 12 f.val f.len (flat mcells f.ms) → f.ms.length = f.len → (f.val.ownBlock = (gs.getD q default).val.ownBlock ∨ ∀ m, f.val.ownBlock = some m → V2.heap.size ≤ m) → OwnFly (w5.setCell ⟨g, q, none⟩ f.val) W.heap.size (.slice (some ⟨g, 0, none⟩) fl c') (gs.set q f) ∧ w5.frozen? ⟨g, q, none⟩ = false ∧ (∃ v, w5.cell? ⟨g, q, none⟩ = some v) ∧ W.heap.size ≤ g ∧ g < V2.heap.size) := fun V2 w5 f hV2 hgr hown hln hnew =>
              (hO.below hV2).put (by rw [HGL.out]; exact hqf) hgr hown hln hnew
            obtain ⟨f, ef⟩ : ∃ f, f = gs.getD q default := ⟨_, rfl⟩
            rw [← ef] at HTO HBU HPUT hEl
            clear ef
            obtain ⟨xa, xl, xc, xs⟩ := f
            obtain ⟨hEl1, hEl2⟩ := hEl
            simp only [FL.val] at hEl1 hEl2 HBU HTO HPUT
            have HX : Hid (xs.length = xl) := hEl2
            clear hEl2
            obtain ⟨j0, E⟩ := msElem
            have hMq : Hid (∀ U : World, Below wr.heap.size wr U → U.cell? ⟨b, off + j * 12, none⟩ = some (.int .i64 kind) ∧ U.cell? ⟨b, off + j * 12 + 1, none⟩ = some (.int .i64 frm) ∧ U.cell? ⟨b, off + j * 12 + 2, none⟩ = some (.int .i64 dst) ∧ U.cell? ⟨b, off + j * 12 + 3, none⟩ = some (.int .i64 site) ∧ U.cell? ⟨b, off + j * 12 + 4, none⟩ = some (.int .i64 num) ∧ U.cell? ⟨b, off + j * 12 + 5, none⟩ = some (.int .i64 label) ∧ U.cell? ⟨b, off + j * 12 + 6, none⟩ = some (.int .i64 key) ∧ U.cell? ⟨b, off + j * 12 + 7, none⟩ = some (.int .i64 value) ∧ U.cell? ⟨b, off + j * 12 + 8, none⟩ = some (.int .i64 version) ∧ U.cell? ⟨b, off + j * 12 + 9, none⟩ = some (.int .i64 ask) ∧ U.cell? ⟨b, off + j * 12 + 10, none⟩ = some (.bool yes) ∧ U.cell? ⟨b, off + j * 12 + 11, none⟩ = some (.int .i64 code)) := fun U hU => ⟨(hU.cell (p := ⟨b, off + j * 12, none⟩) hlb).trans a0, (hU.cell (p := ⟨b, off + j * 12 + 1, none⟩) hlb).trans a1, (hU.cell (p := ⟨b, off + j * 12 + 2, none⟩) hlb).trans a2, (hU.cell (p := ⟨b, off + j * 12 + 3, none⟩) hlb).trans a3, (hU.cell (p := ⟨b, off + j * 12 + 4, none⟩) hlb).trans a4, (hU.cell (p := ⟨b, off + j * 12 + 5, none⟩) hlb).trans a5, (hU.cell (p := ⟨b, off + j * 12 + 6, none⟩) hlb).trans a6, (hU.cell (p := ⟨b, off + j * 12 + 7, none⟩) hlb).trans a7, (hU.cell (p := ⟨b, off + j * 12 + 8, none⟩) hlb).trans a8, (hU.cell (p := ⟨b, off + j * 12 + 9, none⟩) hlb).trans a9, (hU.cell (p := ⟨b, off + j * 12 + 10, none⟩) hlb).trans a10, (hU.cell (p := ⟨b, off + j * 12 + 11, none⟩) hlb).trans a11⟩
            go_upto_region 12 with (fail)
            go_quiet (fail)
            have hbq : Below wr.heap.size wr (wr.drewN nq) := below_drewN (Below.refl _ _) nq
            obtain ⟨V, eV⟩ : ∃ V, V = wr.drewN nq := ⟨_, rfl⟩
            rw [← eV] at hbq ⊢
            clear eV
            clear a0 a1 a2 a3 a4 a5 a6 a7 a8 a9 a10 a11
            obtain ⟨a0, a1, a2, a3, a4, a5, a6, a7, a8, a9, a10, a11⟩ := hMq.out _ hbq
            have hg4 := HBU.out _ hbq
            have hgl : g < V.heap.size := Nat.lt_of_lt_of_le (hO.row.lt g rfl).2 hbq.size
            have hbl : b < V.heap.size := Nat.lt_of_lt_of_le hlb hbq.size
            have hq1 : ((q : Int)) < (fl : Int) := hq0.2
            have hW4 : Below W.heap.size W V := hb.trans (hbq.mono hb.size)
            by_cases h30 : xl < 30
            · have h30' : (xl : Int) < 30 := by omega
              have own4 : V.ownsRow W.heap.size 38 12 (.slice xa xl xc) xl (flat mcells xs) := own_below hEl1 hbq
              go_upto_region 14 with (fail)
              go_region_law (first
                | (refine step_append_row E (by rfl) (.tmp 68) (.tmp 73) (by rfl) W.heap.size (.slice xa xl xc) xl xs (by rfl) (own_below own4 (by (with_reducible repeat (first | exact Below.refl _ _ | refine nD ?_ | refine nA ?_ _)); done)) _ 1 1 [⟨kind, frm, dst, site, num, label, key, value, version, ask, yes, code⟩] (by rfl) (isMs_one _ _ _ _ _ _ _ _ _ _ _ _ _) (by unfold maxLen; omega) (by omega) (by simp; have := hW4.size; omega) ?_; intro a5 c5 w5 own5 gr5 at5; obtain ⟨hO5, fz5, ⟨y5, cl5⟩, hgW, _⟩ := HPUT.out _ w5 ⟨a5, xl + 1, c5, xs ++ [⟨kind, frm, dst, site, num, label, key, value, version, ask, yes, code⟩]⟩ (by (with_reducible repeat (first | exact hbq | refine nD ?_ | refine nA ?_ _)); done) gr5 own5 (by rw [List.length_append, HX.out]; rfl) (at5.imp id (fun e m hm => Nat.le_of_eq (Option.some.inj (e.symm.trans hm)))); simp only [] at hO5; have hW5 : Below W.heap.size W w5 := Below.grown (by (with_reducible repeat (first | exact hW4 | refine nD ?_ | refine nA ?_ _)); done) gr5 (by simp; have := hW4.size; omega) (fun m hm => (hEl1.lt m hm).1)))
              all_goals
                go_wp2
                go_roundw
                case rel =>
                  refine ⟨j + 1, _, by omega, by go_num, hO5, ⟨by simpa using HGL.out, ?_⟩, hW5.setCell hgW _⟩
                  rw [HTK.out, HTO.out, if_pos (by rw [HX.out]; exact h30), mss_set, EM.out]
                case measure => simp [intOf]; omega
            · have h30' : ¬ (xl : Int) < 30 := by omega
              go_wp2
              go_roundw
              case rel => exact ⟨j + 1, gs, by omega, by go_num, hO.below hbq, ⟨HGL.out, by rw [HTK.out, HTO.out, if_neg (by rw [HX.out]; exact h30)]⟩, hW4⟩
              case measure => simp [intOf]; omega
          · go_wp2
            go_ret2
            obtain ⟨g1, g2⟩ := hgs.out
            refine ⟨sent_ok HERR.out rfl (hO.base (Nat.le_of_lt z0)) ?_, hB.trans (hb.mono hB.size)⟩
            rw [g2, List.take_of_length_le (by rw [HM.out]; omega)]
    · by_cases hlt : k < ll
      · have hlt' : (k : Int) < (ll : Int) := by omega
        go_wp2
        go_ret2
        exact ⟨sent_no (hnz.out hE) hE rfl, hB.trans (hb.mono hB.size)⟩
      · have hlt' : ¬ (k : Int) < (ll : Int) := by omega
        go_wp2
        go_ret2
        exact ⟨sent_no (hnz.out hE) hE rfl, hB.trans (hb.mono hB.size)⟩
end Go.Proofs.YtpkbklhjpaaiiaaDoor.Nt
