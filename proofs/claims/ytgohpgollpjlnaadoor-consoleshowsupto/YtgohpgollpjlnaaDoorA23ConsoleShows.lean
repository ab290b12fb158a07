/- console's audit: what was forced, line by line, of the labels that are seen. -/
import Derived.Test.YtgohpgollpjlnaaDoorM22ConsoleShows
import Derived.Test.YtgohpgollpjlnaaDoorM12ConsoleShows
namespace Go.Proofs.YtgohpgollpjlnaaDoor.Cn
open Go.ChangeShapes Go.WideShapes Go.ChangeAt Go.RowKit
open Go.Proofs.YtgohpgollpjlnaaDoor.St (BoxN boxn_new SV IsStore IsRow DbV storeOK TxWf own_below)
open Go.Proofs.YtgohpgollpjlnaaDoor.Pt (IsStores NV IsNotes)
set_option linter.unusedVariables false

/-- Notes of a label, and where they lie. -/
structure NL where
  a : Option Addr
  n : Nat
  c : Nat
  ns : List NV
instance : Inhabited NL := ⟨⟨none, 0, 0, []⟩⟩
def nlC (x : NL) : List Value := [.slice x.a x.n x.c]
structure IsNLs (w : World) (a : Option Addr) (n cap : Nat) (xs : List NL) : Prop where
  row : IsRow 1 nlC w a n cap xs
  each : ∀ i, i < n → IsNotes w (xs.getD i default).a (xs.getD i default).n (xs.getD i default).c (xs.getD i default).ns
theorem IsNLs.below {w w' : World} {a : Option Addr} {n cap : Nat} {xs : List NL} (h : IsNLs w a n cap xs) (hb : Below w.heap.size w w') : IsNLs w' a n cap xs :=
  ⟨h.row.below hb, fun i hi => St.IsRow.below (h.each i hi) hb⟩
theorem IsNLs.at {w : World} {a : Option Addr} {n cap : Nat} {xs : List NL} (h : IsNLs w a n cap xs) {k : Nat} (hk : k < n) : ∃ b off, a = some ⟨b, off, none⟩ ∧ b < w.heap.size ∧ w.cell? ⟨b, off + k, none⟩ = some (.slice (xs.getD k default).a (xs.getD k default).n (xs.getD k default).c) := by
  obtain ⟨b, off, e, hl, hc⟩ := h.row.2.2.2.2 (by omega)
  have := hc k hk 0 (by decide)
  rw [Nat.mul_one, Nat.add_zero] at this
  exact ⟨b, off, e, hl, this⟩
def ntLine (k : Int) (x : NV) : List UInt8 := (lineBy k x.site x.num (verdB x.yes x.dmg)).data.toList
def auditNs (k : Int) : List NV → List UInt8
  | [] => []
  | x :: r => ntLine k x ++ auditNs k r
def auditGo (ls : List (Int × Int)) (l : Int) : Nat → List NL → List UInt8
  | _, [] => []
  | k, x :: r => (if seesP ls l k then auditNs k x.ns else []) ++ auditGo ls l (k + 1) r
theorem auditGo_at {ls : List (Int × Int)} {l : Int} {xs : List NL} {k : Nat} (hk : k < xs.length) : auditGo ls l k (xs.drop k) = (if seesP ls l k then auditNs k (xs.getD k default).ns else []) ++ auditGo ls l (k + 1) (xs.drop (k + 1)) := by
  rw [List.drop_eq_getElem_cons hk, auditGo]
  have : xs.getD k default = xs[k] := by simp [List.getD, hk]
  rw [this]
theorem auditNs_at {k : Int} {ds : List NV} {i : Nat} (hi : i < ds.length) : auditNs k (ds.drop i) = ntLine k (ds.getD i default) ++ auditNs k (ds.drop (i + 1)) := by
  rw [List.drop_eq_getElem_cons hi, auditNs]
  have : ds.getD i default = ds[i] := by simp [List.getD, hi]
  rw [this]
theorem verdB_len (yes dmg : Bool) : (verdB yes dmg).length ≤ 2 ∧ ∀ x ∈ verdB yes dmg, x.size ≤ 30 := by
  cases yes <;> cases dmg <;> exact ⟨by decide, by decide⟩
set_option maxRecDepth 100000 in
set_option maxHeartbeats 8000000 in
theorem audit_any (s p : Int) (a : Option Addr) (len cap : Nat) (ls : List (Int × Int)) (l : Int) (sa : Option Addr) (n sc : Nat) (ss : List NL) (w : World) (hl : IsLabs w a len cap ls) (h6 : len ≤ 6) (hl0 : 0 ≤ l) (hl1 : l < (len : Int)) (hS : IsNLs w sa n sc ss) (hn : n ≤ 6)
    (hI : ∀ i, i < n → ∀ x ∈ (ss.getD i default).ns, i64 x.site ∧ i64 x.num) (hZ : (auditGo ls l 0 ss).length ≤ 140737488355328) (hT : ∀ U, Below w.heap.size w U → Lib.TabIs Tryd.prog U "internal/strconv.uint64pow10" .u64 Lib.pow10Tab) :
    Calls Tryd.prog 26 #[.agg #[.int .i64 s, .slice a len cap, .int .i64 p], .int .i64 l, .slice sa n sc] w fun e w' => e = .returned (.string ⟨(auditGo ls l 0 ss).toArray⟩) ∧ Below w.heap.size w w' := by
  obtain ⟨TOT, eTOT⟩ : ∃ T, T = auditGo ls l 0 ss := ⟨_, rfl⟩
  rw [← eTOT] at hZ ⊢
  have hsl := hS.row.1
  obtain ⟨V, hV⟩ : ∃ V : World, V = (w.alloc (.cells #[.int .i64 s, .slice a len cap, .int .i64 p] 32)).alloc (.cells #[.pointer none, .slice none 0 0] 98) := ⟨_, rfl⟩
  have oC : ObAt V w.heap.size #[.int .i64 s, .slice a len cap, .int .i64 p] 32 := by rw [hV]; exact (ObAt.new w _ _).below ((Below.refl _ _).alloc (Nat.le_refl _) _)
  have hB0 : Bld (w.heap.size + 1) (w.heap.size + 1) [] V := by
    rw [hV]
    have h8 := Bld.new (w.alloc (.cells #[.int .i64 s, .slice a len cap, .int .i64 p] 32)) (w.heap.size + 1) (by simp)
    simpa using h8
  have bV : Below w.heap.size w V := by rw [hV]; exact ((Below.refl _ _).alloc (Nat.le_refl _) _).alloc (by simp) _
  have zV : V.heap.size = w.heap.size + 2 := by rw [hV]; simp
  have KV : Hid (∀ U, Below (w.heap.size + 1) V U → ObAt U w.heap.size #[.int .i64 s, .slice a len cap, .int .i64 p] 32 ∧ IsNLs U sa n sc ss ∧ IsLabs U a len cap ls ∧ Below w.heap.size w U) := fun U hU => by
    have b2 : Below w.heap.size w U := bV.trans (hU.mono (by omega))
    exact ⟨(hU.block w.heap.size (by omega)).trans oC, hS.below b2, hl.below b2, b2⟩
  have KSee : Hid (∀ (U : World) (k : Int), Below (w.heap.size + 1) V U → Calls Tryd.prog 46 #[.agg #[.int .i64 s, .slice a len cap, .int .i64 p], .int .i64 l, .int .i64 k] U fun e w' => e = .returned (.bool (seesP ls l k)) ∧ Below U.heap.size U w') := fun U k hU => sees_any s p a len cap ls l k U (KV.out U hU).2.2.1 h6 hl0 hl1
  have KT : Hid (∀ U, Below (w.heap.size + 1) V U → ∀ X, Below U.heap.size U X → Lib.TabIs Tryd.prog X "internal/strconv.uint64pow10" .u64 Lib.pow10Tab) := fun U hU X hX => hT X ((KV.out U hU).2.2.2.trans (hX.mono (KV.out U hU).2.2.2.size))
  have HI : Hid (∀ i, i < n → ∀ x ∈ (ss.getD i default).ns, i64 x.site ∧ i64 x.num) := hI
  have HTot : Hid ([] ++ auditGo ls l 0 (ss.drop 0) = TOT) := by show _ = _; rw [eTOT]; rfl
  have HZ : Hid (TOT.length ≤ 140737488355328) := hZ
  clear hl hS hI hT oC eTOT hZ h6 hl0 hl1
  go_enter Tryd.func26, Tryd.ntmps26
  go_upto_region 2 with (fail)
  rw [← hV]
  clear hV
  have bV0 : Below (w.heap.size + 1) V V := Below.refl _ _
  go_upto_region 3 with (fail)
  go_loopw [14, 8, 9] (fun s14 _ _ wr => ∃ (k : Nat) (lc : List UInt8), s14 = .int .i64 (k : Int) ∧ k ≤ n ∧ Bld (w.heap.size + 1) (w.heap.size + 1) lc wr ∧ Below (w.heap.size + 1) V wr ∧ Hid (lc ++ auditGo ls l k (ss.drop k) = TOT)) (fun s14 _ _ _ => n - (intOf s14).toNat)
  case atStart => exact ⟨0, [], rfl, by omega, hB0, bV0, HTot⟩
  case round =>
    obtain ⟨k, lc, rfl, hk, hBd, hbw, hTo⟩ := hrel
    obtain ⟨wo, ewo⟩ : ∃ X : World, X = wr := ⟨_, rfl⟩
    subst ewo
    clear hB0 HTot bV0
    have zwo : w.heap.size + 2 ≤ wo.heap.size := by have := hbw.size; omega
    by_cases hlt : k < n
    · have hlt' : (k : Int) < (n : Int) := by omega
      obtain ⟨oCr, hSr, -, -⟩ := KV.out wo hbw
      obtain ⟨b1, o1, rfl, zb1, e0⟩ := hSr.at hlt
      have HT2 : Hid (lc ++ ((if seesP ls l k then auditNs k (ss.getD k default).ns else []) ++ auditGo ls l (k + 1) (ss.drop (k + 1))) = TOT) := by show _ = _; rw [← auditGo_at (by omega)]; exact hTo.out
      have hIk := HI.out k hlt
      obtain ⟨r, er⟩ : ∃ r, r = ss.getD k default := ⟨_, rfl⟩
      have KX : Hid (∀ U, Below (w.heap.size + 1) V U → IsNotes U r.a r.n r.c r.ns) := fun U hU => by rw [er]; exact (KV.out U hU).2.1.each k hlt
      rw [← er] at e0 HT2 hIk
      clear er hTo hSr
      obtain ⟨ra, rn, rc, rd⟩ := r
      simp only [] at e0 HT2 hIk KX
      have c0 : wo.cell? ⟨w.heap.size, 0, none⟩ = some (.int .i64 s) := oCr.cell 0
      have c1 : wo.cell? ⟨w.heap.size, 1, none⟩ = some (.slice a len cap) := oCr.cell 1
      have c2 : wo.cell? ⟨w.heap.size, 2, none⟩ = some (.int .i64 p) := oCr.cell 2
      have zc := oCr.lt
      have hSee := KSee.out wo k hbw
      clear oCr
      obtain ⟨SE, eSE⟩ : ∃ SE, SE = seesP ls l (k : Int) := ⟨_, rfl⟩
      rw [← eSE] at hSee HT2
      clear eSE
      cases SE with
      | false =>
        simp only [Bool.false_eq_true, if_false, List.nil_append] at HT2
        clear hIk
        go_wp2_with (go_at_call 46; refine hSee.mono ?_; rintro e U2 ⟨rfl, bU2⟩)
        go_roundw
        case rel => exact ⟨k + 1, lc, by go_num, by omega, hBd.below bU2, hbw.trans (bU2.mono (by omega)), HT2⟩
        case measure => simp [intOf]; omega
      | true =>
        simp only [if_true] at HT2
        go_upto_region 6 with (go_at_call 46; refine hSee.mono ?_; rintro e X2 ⟨rfl, bX2⟩)
        clear c0 c1 c2 zc hSee
        have hBd2 := hBd.below bX2
        have bX2V : Below (w.heap.size + 1) V X2 := hbw.trans (bX2.mono (by omega))
        have hD0 : IsNotes X2 ra rn rc rd := KX.out X2 bX2V
        have hDl : rd.length = rn := hD0.1
        have hDm : rn ≤ 9223372036854775807 := by have h8 := hD0.2.1; have h9 := hD0.2.2.1; unfold maxLen at h9; omega
        have HT3 : Hid (lc ++ auditNs k (rd.drop 0) ++ auditGo ls l (k + 1) (ss.drop (k + 1)) = TOT) := by show _ = _; rw [List.append_assoc]; exact HT2.out
        clear hBd HT2 hD0 e0
        go_upto_region 7 with (fail)
        go_loopw [26, 11] (fun s26 _ wy => ∃ (j : Nat) (l1 : List UInt8), s26 = .int .i64 (j : Int) ∧ j ≤ rn ∧ Bld (w.heap.size + 1) (w.heap.size + 1) l1 wy ∧ Below (w.heap.size + 1) V wy ∧ Hid (l1 ++ auditNs k (rd.drop j) ++ auditGo ls l (k + 1) (ss.drop (k + 1)) = TOT)) (fun s26 _ _ => rn - (intOf s26).toNat)
        case atStart => exact ⟨0, lc, rfl, by omega, hBd2, bX2V, HT3⟩
        case round =>
          obtain ⟨j, l1, rfl, hj, hB1, hby, hT1⟩ := hrel
          clear hBd2 HT3
          have zwr : w.heap.size + 2 ≤ wr.heap.size := by have := hby.size; omega
          by_cases hjl : j < rn
          · have hjl' : (j : Int) < (rn : Int) := by omega
            have HJ : Hid (j + 1 ≤ rn) := hjl
            have hjm : (j : Int) + 1 ≤ 9223372036854775807 := by omega
            obtain ⟨b2, o2, rfl, zb2, hc⟩ := (KX.out wr hby).2.2.2.2 (by omega)
            have e0 := hc j hjl 0 (by decide)
            have e1 := hc j hjl 1 (by decide)
            have e2 := hc j hjl 2 (by decide)
            have e3 := hc j hjl 3 (by decide)
            have HT4 : Hid (l1 ++ (ntLine k (rd.getD j default) ++ auditNs k (rd.drop (j + 1))) ++ auditGo ls l (k + 1) (ss.drop (k + 1)) = TOT) := by show _ = _; rw [← auditNs_at (by omega)]; exact hT1.out
            have hIj := hIk (rd.getD j default) (by rw [List.getD, List.getElem?_eq_getElem (by omega)]; exact List.getElem_mem _)
            obtain ⟨d, ed⟩ : ∃ d, d = rd.getD j default := ⟨_, rfl⟩
            rw [← ed] at e0 e1 e2 e3 HT4 hIj
            clear ed hT1 hc
            obtain ⟨t1, t2, ty, tg⟩ := d
            simp only [NV.cells, List.getElem?_cons_zero, List.getElem?_cons_succ, Nat.add_zero] at e0 e1 e2 e3 HT4 hIj
            go_upto_region 9 with (fail)
            obtain ⟨Y2, eY1⟩ : ∃ X : World, X = wr.alloc (.cells #[.int .i64 t1, .int .i64 t2, .bool ty, .bool tg] 48) := ⟨_, rfl⟩
            have bY1 : Below wr.heap.size wr Y2 := by rw [eY1]; exact (Below.refl _ _).alloc (Nat.le_refl _) _
            have oD3 : ObAt Y2 wr.heap.size #[.int .i64 t1, .int .i64 t2, .bool ty, .bool tg] 48 := by rw [eY1]; exact ObAt.new wr _ _
            rw [← eY1]
            clear eY1 e0 e1 e2 e3
            have bY2V : Below (w.heap.size + 1) V Y2 := hby.trans (bY1.mono (by omega))
            have hB3 := hB1.below bY1
            have zY2 : w.heap.size + 2 ≤ Y2.heap.size := by have := bY2V.size; omega
            obtain ⟨i1, i2⟩ := hIj
            obtain ⟨lnb, eln⟩ : ∃ x, x = lineBy k t1 t2 (verdB ty tg) := ⟨_, rfl⟩
            have hLD : ntLine k ⟨t1, t2, ty, tg⟩ = lnb.data.toList := by rw [eln]; rfl
            rw [hLD] at HT4
            have hlz : l1.length + lnb.size ≤ 140737488355328 := by
              have h8 := congrArg List.length HT4.out
              have h9 := HZ.out
              have h10 : lnb.data.toList.length = lnb.size := rfl
              simp only [List.length_append] at h8
              omega
            have HVd : Hid (∀ U, Below Y2.heap.size Y2 U → Calls Tryd.prog 52 #[.agg #[.int .i64 t1, .int .i64 t2, .bool ty, .bool tg]] U fun e w' => ∃ av nv, e = .returned (.slice av nv nv) ∧ IsRow 1 stC w' av nv nv (verdB ty tg) ∧ Below U.heap.size U w') := fun U _ => verdict_any t1 t2 ty tg U
            have HLn : Hid (∀ U av nv, Below Y2.heap.size Y2 U → IsRow 1 stC U av nv nv (verdB ty tg) → Calls Tryd.prog 49 #[.int .i64 (k : Int), .agg #[.int .i64 t1, .int .i64 t2], .slice av nv nv] U fun e w' => e = .returned (.string lnb) ∧ Below U.heap.size U w') := fun U av nv hU hq => by
              rw [eln]
              exact line_any k t1 t2 av nv nv (verdB ty tg) U (by unfold i64; omega) i1 i2 hq (by have h8 := hq.1; have h9 := (verdB_len ty tg).1; omega) (verdB_len ty tg).2 (fun X hX => KT.out Y2 bY2V X (hU.trans (hX.mono hU.size)))
            have HWr : Hid (∀ U, Below Y2.heap.size Y2 U → Calls Tryd.prog 48 #[.pointer (some ⟨w.heap.size + 1, 0, none⟩), .string lnb] U fun e w' => e = .returned (.tuple #[.int .i64 lnb.size, .nilIface]) ∧ (Bld (w.heap.size + 1) (w.heap.size + 1) (l1 ++ lnb.data.toList) w' ∧ Below (w.heap.size + 1) V w')) := fun U hU => by
              have zU := hU.size
              refine (write_any (w.heap.size + 1) (w.heap.size + 1) l1 lnb U (hB3.below hU) hlz (by omega)).mono ?_
              rintro e w' ⟨rfl, h1, h2, h3⟩
              exact ⟨rfl, h1, (bY2V.trans (hU.mono (by omega))).trans h2⟩
            have HXc : Hid (∀ U, Below Y2.heap.size Y2 U → U.cell? ⟨wr.heap.size, 0, none⟩ = some (.int .i64 t1) ∧ U.cell? ⟨wr.heap.size, 1, none⟩ = some (.int .i64 t2) ∧ U.cell? ⟨wr.heap.size, 2, none⟩ = some (.bool ty) ∧ U.cell? ⟨wr.heap.size, 3, none⟩ = some (.bool tg)) := fun U hU => ⟨(oD3.below hU).cell 0, (oD3.below hU).cell 1, (oD3.below hU).cell 2, (oD3.below hU).cell 3⟩
            clear hB3 oD3 eln hLD i1 i2 hlz hB1
            refine wp_region_inv (by kernel_rfl) [30, 31, 32, 33, 34, 35, 36] (fun L T u => ∃ (av : Option Addr) (nv : Nat), True ∧ (L 0 = true → T 30 = .int .i64 (k : Int)) ∧ (L 1 = true → T 31 = .pointer (some ⟨wr.heap.size, 0, none⟩)) ∧ (L 2 = true → T 32 = .agg #[.int .i64 t1, .int .i64 t2]) ∧ (L 3 = true → T 33 = .agg #[.int .i64 t1, .int .i64 t2, .bool ty, .bool tg]) ∧ (L 4 = true → T 34 = .slice av nv nv) ∧ (L 5 = true → T 35 = .string lnb) ∧ (L 6 = false → Below Y2.heap.size Y2 u) ∧ (L 6 = true → (Bld (w.heap.size + 1) (w.heap.size + 1) (l1 ++ lnb.data.toList) u ∧ Below (w.heap.size + 1) V u)) ∧ (L 4 = true → L 6 = false → IsRow 1 stC u av nv nv (verdB ty tg))) (by decide) (by kernel_rfl) (by kernel_rfl) ?_ ?_ ?_
            · exact ⟨none, 0, trivial, nofun, nofun, nofun, nofun, nofun, nofun, fun _ => (Below.refl _ _).drew, nofun, nofun⟩
            · refine ⟨?_, ?_, ?_, ?_, ?_, ?_, ?_, trivial⟩
              · rintro L T u hd hk hcl ⟨av, nv, hb, p0, p1, p2, p3, p4, p5, c1, c2, wv⟩ K hK
                simp only [fr, Act.put, List.setIfInBounds_toArray, List.set_cons_zero, List.set_cons_succ, updO] at hK ⊢
                simp [Region.binds] at hd
                rw [if_pos (by rfl)]
                simp only [Oper.wpv]
                go_simp
                exact hK _ _ ⟨av, nv, hb, fun _ => rfl, p1, p2, p3, p4, p5, c1, c2, wv⟩
              · rintro L T u hd hk hcl ⟨av, nv, hb, p0, p1, p2, p3, p4, p5, c1, c2, wv⟩ K hK
                simp only [fr, Act.put, List.setIfInBounds_toArray, List.set_cons_zero, List.set_cons_succ, updO] at hK ⊢
                simp [Region.binds] at hd
                rw [if_pos (by rfl)]
                simp only [Oper.wpv]
                go_simp
                exact hK _ _ ⟨av, nv, hb, p0, fun _ => rfl, p2, p3, p4, p5, c1, c2, wv⟩
              · rintro L T u hd hk hcl ⟨av, nv, hb, p0, p1, p2, p3, p4, p5, c1, c2, wv⟩ K hK
                simp only [fr, Act.put, List.setIfInBounds_toArray, List.set_cons_zero, List.set_cons_succ, updO] at hK ⊢
                simp [Region.binds] at hd
                have g1 := p1 (by simp [hd])
                have k6 := hcl 6 _ rfl
                simp [Region.binds] at k6
                have k5 := hcl 5 _ rfl
                simp [Region.binds] at k5
                have hE : L 6 = false := by cases h : L 6 with | false => rfl | true => have a6 := k6 h; have a5 := k5 (by simp [a6]); simp [hk] at a5
                obtain ⟨x0, x1, x2, x3⟩ := HXc.out u (c1 hE)
                rw [if_pos (by rfl)]
                simp only [Oper.wpv]
                go_simp
                exact hK _ _ ⟨av, nv, hb, p0, p1, fun _ => rfl, p3, p4, p5, c1, c2, wv⟩
              · rintro L T u hd hk hcl ⟨av, nv, hb, p0, p1, p2, p3, p4, p5, c1, c2, wv⟩ K hK
                simp only [fr, Act.put, List.setIfInBounds_toArray, List.set_cons_zero, List.set_cons_succ, updO] at hK ⊢
                simp [Region.binds] at hd
                have k6 := hcl 6 _ rfl
                simp [Region.binds] at k6
                have k5 := hcl 5 _ rfl
                simp [Region.binds] at k5
                have k4 := hcl 4 _ rfl
                simp [Region.binds] at k4
                have hE : L 6 = false := by cases h : L 6 with | false => rfl | true => have a6 := k6 h; have a5 := k5 (by simp [a6]); have a4 := k4 (by simp [a5]); simp [hk] at a4
                obtain ⟨x0, x1, x2, x3⟩ := HXc.out u (c1 hE)
                rw [if_pos (by rfl)]
                simp only [Oper.wpv]
                go_simp
                exact hK _ _ ⟨av, nv, hb, p0, p1, p2, fun _ => rfl, p4, p5, c1, c2, wv⟩
              · rintro L T u hd hk hcl ⟨av, nv, hb, p0, p1, p2, p3, p4, p5, c1, c2, wv⟩ K hK
                simp only [fr, Act.put, List.setIfInBounds_toArray, List.set_cons_zero, List.set_cons_succ, updO] at hK ⊢
                simp [Region.binds] at hd
                have g3 := p3 (by simp [hd])
                have k5 := hcl 5 _ rfl
                simp [Region.binds] at k5
                have k6 := hcl 6 _ rfl
                simp [Region.binds] at k6
                have k6 := hcl 6 _ rfl
                simp [Region.binds] at k6
                have k5 := hcl 5 _ rfl
                simp [Region.binds] at k5
                have hE : L 6 = false := by cases h : L 6 with | false => rfl | true => have a6 := k6 h; have a5 := k5 (by simp [a6]); simp [hk] at a5
                rw [if_pos (by rfl)]
                simp only [Oper.wpv]
                go_simp
                refine (HVd.out u (c1 hE)).mono ?_
                rintro e u1 ⟨av, nv, rfl, hrow, hg⟩
                exact hK _ _ ⟨av, nv, hb, p0, p1, p2, p3, fun _ => rfl, fun h => absurd (show L 5 = true from h) (by intro hh; have a5 := k5 hh; simp [hk] at a5), fun _ => lT (c1 hE) hg, fun h => absurd (show L 6 = true from h) (by simp [hE]), fun _ _ => hrow⟩
              · rintro L T u hd hk hcl ⟨av, nv, hb, p0, p1, p2, p3, p4, p5, c1, c2, wv⟩ K hK
                simp only [fr, Act.put, List.setIfInBounds_toArray, List.set_cons_zero, List.set_cons_succ, updO] at hK ⊢
                simp [Region.binds] at hd
                have g0 := p0 (by simp [hd])
                have g2 := p2 (by simp [hd])
                have g4 := p4 (by simp [hd])
                have k6 := hcl 6 _ rfl
                simp [Region.binds] at k6
                have hE : L 6 = false := by cases h : L 6 with | false => rfl | true => have a6 := k6 h; simp [hk] at a6
                rw [if_pos (by rfl)]
                simp only [Oper.wpv]
                go_simp
                refine (HLn.out u av nv (c1 hE) (wv (by simp [hd]) hE)).mono ?_
                rintro e u1 ⟨rfl, hg⟩
                exact hK _ _ ⟨av, nv, hb, p0, p1, p2, p3, p4, fun _ => rfl, fun _ => lT (c1 hE) hg, fun h => absurd (show L 6 = true from h) (by simp [hE]), fun h0 h1 => St.IsRow.below (wv h0 h1) hg⟩
              · rintro L T u hd hk hcl ⟨av, nv, hb, p0, p1, p2, p3, p4, p5, c1, c2, wv⟩ K hK
                simp only [fr, Act.put, List.setIfInBounds_toArray, List.set_cons_zero, List.set_cons_succ, updO] at hK ⊢
                simp [Region.binds] at hd
                have g5 := p5 (by simp [hd])
                have hE : L 6 = false := hk
                rw [if_pos (by rfl)]
                simp only [Oper.wpv]
                go_simp
                refine (HWr.out u (c1 hE)).mono ?_
                rintro e u1 ⟨rfl, hg⟩
                exact hK _ _ ⟨av, nv, hb, p0, p1, p2, p3, p4, p5, fun h => Bool.noConfusion (show true = false from h), fun _ => hg, fun h0 h1 => Bool.noConfusion (show true = false from h1)⟩
            · rintro L T u hl ⟨av, nv, hb, p0, p1, p2, p3, p4, p5, c1, c2, wv⟩
              simp only [fr, Act.put, List.setIfInBounds_toArray, List.set_cons_zero, List.set_cons_succ]
              obtain ⟨hB5, b5⟩ := c2 (hl 6 (by decide))
              clear p0 p1 p2 p3 p4 p5 c1 c2 wv HVd HLn HWr HXc
              go_wp2
              go_roundw
              case rel => exact ⟨j + 1, l1 ++ lnb.data.toList, by go_num, HJ.out, hB5, b5, by show _ = _; rw [← HT4.out]; simp only [List.append_assoc]⟩
              case measure => have := HJ.out; simp [intOf]; omega
          · obtain rfl : j = rn := by omega
            have hnl : ¬ ((j : Int) < (j : Int)) := by omega
            have HT5 : Hid (l1 ++ auditGo ls l (k + 1) (ss.drop (k + 1)) = TOT) := by
              show _ = _
              have h9 : rd.drop j = [] := List.drop_of_length_le (by omega)
              rw [← hT1.out, h9]
              simp [auditNs]
            clear hT1
            go_wp2
            go_roundw
            case rel => exact ⟨k + 1, l1, by go_num, by omega, hB1, hby, HT5⟩
            case measure => simp [intOf]; omega
    · obtain rfl : k = n := by omega
      have hnl : ¬ ((k : Int) < (k : Int)) := by omega
      have HE : Hid (lc = TOT) := by
        show _ = _
        have := hTo.out
        rw [List.drop_of_length_le (by omega)] at this
        simpa [auditGo] using this
      have hSt := string_any (w.heap.size + 1) (w.heap.size + 1) lc wo hBd (by omega)
      have hb2 := (KV.out wo hbw).2.2.2
      clear hTo
      go_wp2_with (go_at_call 51; refine hSt.mono ?_; rintro e U2 ⟨rfl, -, bU2, -⟩)
      go_ret
      exact ⟨by rw [← HE.out]; rfl, hb2.trans (bU2.mono (by omega))⟩
end Go.Proofs.YtgohpgollpjlnaaDoor.Cn
