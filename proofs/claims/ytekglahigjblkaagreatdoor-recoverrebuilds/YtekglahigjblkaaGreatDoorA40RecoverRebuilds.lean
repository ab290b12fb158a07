/- The document's RebuiltOf: what is wrong is told, ahead of all. -/
import Derived.Test.YtekglahigjblkaaGreatDoorA30RecoverRebuilds
import Derived.Test.YtekglahigjblkaaGreatDoorM33RecoverRebuilds
import Derived.Test.YtekglahigjblkaaGreatDoorM28RecoverRebuilds
import Derived.Test.YtekglahigjblkaaGreatDoorM36RecoverRebuilds
import Derived.Test.YtekglahigjblkaaGreatDoorM38RecoverRebuilds
import Derived.Test.YtekglahigjblkaaGreatDoorM23RecoverRebuilds
import Derived.Test.YtekglahigjblkaaGreatDoorM32RecoverRebuilds
import Derived.Test.YtekglahigjblkaaGreatDoorM39RecoverRebuilds
import Derived.BigQuiet
import Derived.Lib.QuietBelow
import Derived.Deep.DeepCutAuto
namespace Go.Proofs.YtekglahigjblkaaGreatDoor.Rb
open Go.ChangeShapes Go.WideShapes Go.ChangeAt Go.RowKit
open Go.Proofs.YtekglahigjblkaaGreatDoor.St Go.Proofs.YtekglahigjblkaaGreatDoor.Co Go.Proofs.YtekglahigjblkaaGreatDoor.Pt
set_option linter.unusedVariables false

def dmgF (t : Int × Int) (y : Bool) (x : NV) : NV := if (x.site, x.num) = t ∧ x.yes ≠ y then { x with dmg := true } else x
def dmgAt (t : Int × Int) (y : Bool) (j : Nat) (ns : List NV) : List NV := (ns.take j).map (dmgF t y) ++ ns.drop j
theorem dmgAt_len {t : Int × Int} {y : Bool} {j : Nat} {ns : List NV} (h : j ≤ ns.length) : (dmgAt t y j ns).length = ns.length := by
  unfold dmgAt
  simp
  omega
theorem dmgAt_all {t : Int × Int} {y : Bool} {ns : List NV} : dmgAt t y ns.length ns = ns.map (dmgF t y) := by
  unfold dmgAt
  rw [List.take_of_length_le (Nat.le_refl _), List.drop_eq_nil_of_le (Nat.le_refl _), List.append_nil]
theorem dmgAt_get {t : Int × Int} {y : Bool} {j : Nat} {ns : List NV} (h : j < ns.length) : (dmgAt t y j ns).getD j default = ns.getD j default := by
  unfold dmgAt
  rw [List.drop_eq_getElem_cons h]
  have hl : ((ns.take j).map (dmgF t y)).length = j := by simp; omega
  rw [List.getD_eq_getElem?_getD, List.getElem?_append_right (by omega), hl, Nat.sub_self]
  simp [List.getD, h]
theorem dmgAt_step {t : Int × Int} {y : Bool} {j : Nat} {ns : List NV} (h : j < ns.length) : dmgAt t y (j + 1) ns = (dmgAt t y j ns).set j (dmgF t y (ns.getD j default)) := by
  unfold dmgAt
  have hl : ((ns.take j).map (dmgF t y)).length = j := by simp; omega
  rw [List.drop_eq_getElem_cons h, List.set_append_right _ _ (by omega), hl, Nat.sub_self, List.set_cons_zero, List.take_succ_eq_append_getElem h, List.map_append]
  simp [List.getD, h]
theorem go_pair0 {s nl next : Int} : ∀ {l : List JbV} {a : Int}, jbsGo s nl next a l = true → (∀ x ∈ l, a ≤ x.n) ∧ l.Pairwise (fun x y => x.n ≠ y.n)
  | [], a, _ => ⟨(fun x hx => by cases hx), List.Pairwise.nil⟩
  | j :: r, a, h => by
    rw [jbsGo] at h
    simp only [Bool.and_eq_true] at h
    have h1 : a ≤ j.n := by
      have h9 := h.1.1
      unfold inR at h9
      simp at h9
      omega
    have ih := go_pair0 h.2
    refine ⟨fun x hx => ?_, List.pairwise_cons.2 ⟨fun x hx => ?_, ih.2⟩⟩
    · rcases List.mem_cons.1 hx with rfl | hx
      · exact h1
      · have := ih.1 x hx; omega
    · have := ih.1 x hx
      omega
theorem go_pair {s nl next a : Int} {l : List JbV} (h : jbsGo s nl next a l = true) : l.Pairwise (fun x y => x.n ≠ y.n) := (go_pair0 h).2
set_option maxRecDepth 100000 in
set_option maxHeartbeats 64000000 in
theorem rebuilt_any (s p : Int) (a : Option Addr) (len cap : Nat) (ls : List (Int × Int)) (me : Int) (ao : Option Addr) (n cp : Nat) (rs : List RcM) (w : World) (h : IsLabs w a len cap ls) (hr : RecsAt w ao n cp rs) (hn : n ≤ 1759218604441) :
    Calls Tryz.prog 5 #[.agg #[.int .i64 s, .slice a len cap, .int .i64 p], .int .i64 me, .slice ao n cp] w fun e w' => RebIs w w' e (rbErr s ls p me (rs.map RcM.p)) me (rs.map RcM.p) := by
  have HL : Hid (rs.length = n) := hr.row.1
  have hcap : n ≤ cp := hr.row.2.1
  have hcpm : cp ≤ maxLen := hr.row.2.2.1
  unfold maxLen at hcpm
  have HW : Hid (∀ U, Below w.heap.size w U → IsLabs U a len cap ls ∧ RecsAt U ao n cp rs) := fun U hU => ⟨h.below hU, hr.below hU⟩
  clear hr h
  obtain ⟨W, hW⟩ : ∃ W : World, W = ((w.alloc (.cells #[.int .i64 s, .slice a len cap, .int .i64 p] 24)).alloc (.cells #[.slice none 0 0, .slice none 0 0, .slice none 0 0, .slice none 0 0] 31)).alloc (.cells #[.int .i64 0, .slice none 0 0] 34) := ⟨_, rfl⟩
  have bW : Below w.heap.size w W := by rw [hW]; exact (((Below.refl _ _).alloc (Nat.le_refl _) _).alloc (by simp) _).alloc (by simp; omega) _
  have cb : BoxN W w.heap.size 3 [.int .i64 s, .slice a len cap, .int .i64 p] := by
    rw [hW]
    exact ((boxn_new w #[.int .i64 s, .slice a len cap, .int .i64 p] 24 3 rfl).below ((Below.refl _ _).alloc (Nat.le_refl _) _) (by simp)).below ((Below.refl _ _).alloc (Nat.le_refl _) _) (by simp; omega)
  have b1 : BoxN W (w.heap.size + 1) 4 [.slice none 0 0, .slice none 0 0, .slice none 0 0, .slice none 0 0] := by
    rw [hW]
    have h9 := boxn_new (w.alloc (.cells #[.int .i64 s, .slice a len cap, .int .i64 p] 24)) #[.slice none 0 0, .slice none 0 0, .slice none 0 0, .slice none 0 0] 31 4 rfl
    rw [show (w.alloc (.cells #[.int .i64 s, .slice a len cap, .int .i64 p] 24)).heap.size = w.heap.size + 1 by simp] at h9
    exact h9.below ((Below.refl _ _).alloc (Nat.le_refl _) _) (by simp)
  have b2 : BoxN W (w.heap.size + 1 + 1) 2 [.int .i64 0, .slice none 0 0] := by
    rw [hW]
    have h9 := boxn_new ((w.alloc (.cells #[.int .i64 s, .slice a len cap, .int .i64 p] 24)).alloc (.cells #[.slice none 0 0, .slice none 0 0, .slice none 0 0, .slice none 0 0] 31)) #[.int .i64 0, .slice none 0 0] 34 2 rfl
    rw [show ((w.alloc (.cells #[.int .i64 s, .slice a len cap, .int .i64 p] 24)).alloc (.cells #[.slice none 0 0, .slice none 0 0, .slice none 0 0, .slice none 0 0] 31)).heap.size = w.heap.size + 1 + 1 by simp] at h9
    exact h9
  have HRes : Hid (∀ U, Below W.heap.size W U → BoxN U (w.heap.size + 1) 4 [.slice none 0 0, .slice none 0 0, .slice none 0 0, .slice none 0 0] ∧ BoxN U (w.heap.size + 1 + 1) 2 [.int .i64 0, .slice none 0 0]) := fun U hU => ⟨b1.below hU b1.lt, b2.below hU b2.lt⟩
  clear b1 b2
  have HC : Hid (∀ U, Below W.heap.size W U → BoxN U w.heap.size 3 [.int .i64 s, .slice a len cap, .int .i64 p] ∧ Below w.heap.size w U) := fun U hU => ⟨cb.below hU cb.lt, bW.trans (hU.mono bW.size)⟩
  have c0 : W.cell? ⟨w.heap.size, 0, none⟩ = some (.int .i64 s) := (cb.c 0 (by decide)).1
  have c1 : W.cell? ⟨w.heap.size, 1, none⟩ = some (.slice a len cap) := (cb.c 1 (by decide)).1
  have c2 : W.cell? ⟨w.heap.size, 2, none⟩ = some (.int .i64 p) := (cb.c 2 (by decide)).1
  have cz := cb.lt
  have hck := fault_any s p a len cap ls W (HW.out W bW).1
  have HE : Hid (rbErr s ls p me (rs.map RcM.p) = if cfgFault s ls p = 0 then (if inR me 0 (s - 1) then recsErr s ls p (rs.map RcM.p) else 2) else cfgFault s ls p) := rfl
  obtain ⟨E, eE⟩ : ∃ E, E = rbErr s ls p me (rs.map RcM.p) := ⟨_, rfl⟩
  have eE9 : Hid (E = rbErr s ls p me (rs.map RcM.p)) := eE
  rw [← eE] at HE ⊢
  clear eE cb
  have hs14 : cfgFault s ls p = 0 → 1 ≤ s ∧ s ≤ 4 := fun h8 => cfg_rangeR h8
  obtain ⟨F, eF⟩ : ∃ F, F = cfgFault s ls p := ⟨_, rfl⟩
  rw [← eF] at hck HE hs14
  clear eF
  go_enter Tryz.func5, Tryz.ntmps5
  go_upto_region 1 with (fail)
  rw [← hW]
  clear hW
  go_upto_region 2 with (go_at_call 13; refine hck.mono ?_; rintro e u ⟨rfl, hu⟩)
  have HU0 : Hid (Below W.heap.size W u) := hu
  obtain ⟨cbu, bwu⟩ := HC.out u hu
  clear c0 c1 c2 cz hck
  have c0 : u.cell? ⟨w.heap.size, 0, none⟩ = some (.int .i64 s) := (cbu.c 0 (by decide)).1
  have cz := cbu.lt
  by_cases hF : F = 0
  · have s14 := hs14 hF
    subst hF
    have hin := in_any me 0 (s - 1) u
    have hw1 : IntKind.i64.wrap (s - 1) = s - 1 := by rw [IntKind.wrap_i64]; omega
    by_cases hme : inR me 0 (s - 1) = true
    · have H0 : Hid (E = recsErr s ls p (rs.map RcM.p)) := by show _ = _; rw [HE.out, if_pos rfl, if_pos hme]
      rw [hme] at hin
      clear HE hs14 hme cbu
      go_upto_region 5 with (go_at_call 14; refine hin.mono ?_; rintro e v ⟨rfl, hv⟩; rw [hv]; clear hv)
      clear c0 cz hin hw1
      go_loopw [10, 11] (fun s10 s11 wr => ∃ (e : Int) (k : Nat), s10 = .int .i64 e ∧ s11 = .int .i64 (k : Int) ∧ k ≤ n ∧ Hid (e = 0 → E = recsErr s ls p ((rs.map RcM.p).drop k)) ∧ Hid (e ≠ 0 → E = e) ∧ Hid (Below W.heap.size W wr)) (fun _ s11 _ => n - (intOf s11).toNat)
      case atStart => exact ⟨0, 0, rfl, rfl, by omega, fun _ => H0.out, fun h9 => absurd rfl h9, HU0⟩
      case round =>
        clear H0 HU0 hu bwu
        obtain ⟨e, k, rfl, rfl, hk, H0, H1, HB⟩ := hrel
        obtain ⟨wo, ewo⟩ : ∃ X : World, X = wr := ⟨_, rfl⟩
        subst ewo
        by_cases he : e = 0
        · subst he
          by_cases hlt : k < n
          · have hlt' : (k : Int) < (n : Int) := by omega
            obtain ⟨cbw, bww⟩ := HC.out wo HB.out
            have hrow := (HW.out wo bww).2.row
            obtain ⟨b, off, rfl, zb, hcr⟩ := hrow.2.2.2.2 (by omega)
            have hcl := hcr k hlt
            have hkl : k < rs.length := by rw [HL.out]; exact hlt
            have HA := recsErr_at (s := s) (ls := ls) (p := p) hkl
            have hmr : rs.getD k default ∈ rs := by simp [List.getD, hkl]
            have hzl : (rs.getD k default).p.zs.length = (rs.getD k default).sl := ((HW.out wo bww).2.ints _ hmr).1
            rw [← recFault_v s ls p _ hzl] at HA
            have HR : Hid (∀ U, Below w.heap.size w U → IsLabs U a len cap ls ∧ IsInts U (rs.getD k default).sa (rs.getD k default).sl (rs.getD k default).sc (rs.getD k default).p.zs) := fun U hU => ⟨(HW.out U hU).1, (HW.out U hU).2.ints _ hmr⟩
            obtain ⟨x, ev⟩ : ∃ x, x = rs.getD k default := ⟨_, rfl⟩
            rw [← ev] at hcl HA HR
            clear ev hcr hrow hmr hzl hkl
            have hck := fun U (hU : Below w.heap.size w U) => recordFault_any s p a len cap ls (RcM.v x) U (HR.out U hU).1 (HR.out U hU).2
            obtain ⟨EF, eEF⟩ : ∃ EF, EF = recFault s ls p (RcM.v x) := ⟨_, rfl⟩
            rw [← eEF] at HA hck
            clear eEF HR
            obtain ⟨⟨kind, site, num, key, value, ask, yes, zs⟩, sa, sl, sc⟩ := x
            simp only [RcM.v, RcV.val] at hck
            have a0 := hcl 0 (by decide)
            have a1 := hcl 1 (by decide)
            have a2 := hcl 2 (by decide)
            have a3 := hcl 3 (by decide)
            have a4 := hcl 4 (by decide)
            have a5 := hcl 5 (by decide)
            have a6 := hcl 6 (by decide)
            have a7 := hcl 7 (by decide)
            simp only [RcM.cells, List.getElem?_cons_zero, List.getElem?_cons_succ, Nat.add_zero] at a0 a1 a2 a3 a4 a5 a6 a7
            have c0 : wo.cell? ⟨w.heap.size, 0, none⟩ = some (.int .i64 s) := (cbw.c 0 (by decide)).1
            have c1 : wo.cell? ⟨w.heap.size, 1, none⟩ = some (.slice a len cap) := (cbw.c 1 (by decide)).1
            have c2 : wo.cell? ⟨w.heap.size, 2, none⟩ = some (.int .i64 p) := (cbw.c 2 (by decide)).1
            have cz := cbw.lt
            have hCk := fun d os => (hck (Go.Sort.grow (Go.redrawn wo d) os) (bww.trans ((below_regrown wo d os).mono bww.size)))
            have hk1 : IntKind.i64.wrap ((k : Int) + 1) = (k : Int) + 1 := by rw [IntKind.wrap_i64]; omega
            have HN0 : Hid (EF = 0 → E = recsErr s ls p ((rs.map RcM.p).drop (k + 1))) := fun h9 => by rw [H0.out rfl, HA, if_pos h9]
            have HN1 : Hid (EF ≠ 0 → E = EF) := fun h9 => by rw [H0.out rfl, HA, if_neg h9]
            clear hcl cbw hck HA H0 H1
            have q0 := fun d os => cell_regrown a0 d os
            have q1 := fun d os => cell_regrown a1 d os
            have q2 := fun d os => cell_regrown a2 d os
            have q3 := fun d os => cell_regrown a3 d os
            have q4 := fun d os => cell_regrown a4 d os
            have q5 := fun d os => cell_regrown a5 d os
            have q6 := fun d os => cell_regrown a6 d os
            have q7 := fun d os => cell_regrown a7 d os
            have m0 := fun d os => cell_regrown c0 d os
            have m1 := fun d os => cell_regrown c1 d os
            have m2 := fun d os => cell_regrown c2 d os
            go_upto_region 7 with (fail)
            refine wp_region_quiet_below (by kernel_rfl) (by kernel_rfl) ?_
            repeat (go_big_quiet_step ((go_at_call 15; exact Calls.regrown_of (hCk _ _))))
            refine wpQuiet_nil ?_
            intro _ hw'
            obtain ⟨⟨dq, osq⟩, hw''⟩ := hw'
            subst hw''
            have bQ := below_regrown wo dq osq
            obtain ⟨Z, eZ⟩ : ∃ X : World, X = Go.Sort.grow (Go.redrawn wo dq) osq := ⟨_, rfl⟩
            rw [← eZ] at bQ ⊢
            have HBZ : Hid (Below W.heap.size W Z) := HB.out.trans (bQ.mono HB.out.size)
            clear eZ bQ a0 a1 a2 a3 a4 a5 a6 a7 c0 c1 c2 cz hCk zb bww q0 q1 q2 q3 q4 q5 q6 q7 m0 m1 m2
            go_wp2
            go_roundw
            case rel => exact ⟨EF, k + 1, rfl, by go_num, by omega, HN0, HN1, HBZ⟩
            case measure => simp [intOf]; omega
          · obtain rfl : k = n := by omega
            have hE0 : E = 0 := by
              rw [H0.out rfl, List.drop_eq_nil_of_le (by rw [List.length_map, HL.out]; exact Nat.le_refl _)]
              rfl
            obtain ⟨P, eP⟩ : ∃ P, P = rs.map RcM.p := ⟨_, rfl⟩
            have hPl : P.length = k := by rw [eP, List.length_map, HL.out]
            rw [← eP] at eE9 ⊢
            have HFine : Hid (∀ r ∈ P, (1 ≤ s ∧ s ≤ 4) ∧ (0 ≤ r.site ∧ r.site ≤ s - 1) ∧ (1 ≤ r.num ∧ r.num ≤ 1048576) ∧ (1 ≤ r.kind ∧ r.kind ≤ 6) ∧ (r.zs.length ≤ 4 ∧ rising s 0 r.zs = true)) := fun r hr9 => rec_fine ((rbErr_zero (eE9.out.symm.trans hE0)).2.2 r hr9)
            have HTx : Hid (∀ r ∈ P, txOK r.tx = true) := fun r hr9 => by
              have h9 := HFine.out r hr9
              show (inR r.site 0 3 && inR r.num 1 1048576) = true
              rw [Bool.and_eq_true]
              constructor <;> (unfold inR; simp; omega)
            have HRv : Hid (∀ q, RvOK (recStore (P.take q))) := fun q => rv_fold rv_nil (fun r hr9 => HTx.out r (List.mem_of_mem_take hr9))
            have HDkOK : Hid (∀ q, (recDesk me (P.take q)).2.Pairwise (fun a b => a.n ≠ b.n)) := fun q => go_pair (recDesk_ok (s := s) (nl := ls.length) (fun r hr9 => by have h9 := HFine.out r (List.mem_of_mem_take hr9); exact ⟨h9.2.2.1, h9.2.2.2.2.2⟩)).2.2
            have HStep : Hid (∀ q, q < k → ∃ r, r ∈ P ∧ (∃ m : RcM, m ∈ rs ∧ m = rs.getD q default ∧ m.p = r) ∧ recStore (P.take (q + 1)) = docStep (recStore (P.take q)) r ∧ recDesk me (P.take (q + 1)) = docDk me (recDesk me (P.take q)) r ∧ recNotes (P.take (q + 1)) = docNt (recNotes (P.take q)) r) := fun q hq => by
              have hq2 : q < rs.length := by rw [HL.out]; exact hq
              have hm : rs.getD q default ∈ rs := by simp [List.getD, hq2]
              have hr9 : (rs.getD q default).p ∈ P := by rw [eP]; exact List.mem_map_of_mem hm
              have et : P.take (q + 1) = P.take q ++ [(rs.getD q default).p] := by
                rw [List.take_succ_eq_append_getElem (by omega)]
                congr 1
                simp [eP, List.getD, hq2]
              refine ⟨(rs.getD q default).p, hr9, ⟨_, hm, rfl, rfl⟩, ?_, ?_, ?_⟩
              · rw [et, recStore_snoc, doc_step (HRv.out q) (HTx.out _ hr9)]
              · rw [et, recDesk_snoc, docDk_eq]
              · rw [et, recNotes_snoc]
            have hbwo := (HC.out wo HB.out).2
            have HRow : Hid (∀ U, Below wo.heap.size wo U → RecsAt U ao k cp rs ∧ Below w.heap.size w U ∧ Below W.heap.size W U) := fun U hU => ⟨(HW.out U (hbwo.trans (hU.mono hbwo.size))).2, hbwo.trans (hU.mono hbwo.size), HB.out.trans (hU.mono HB.out.size)⟩
            obtain ⟨Y, hY⟩ : ∃ Y : World, Y = (wo.alloc (.cells #[.slice none 0 0, .slice none 0 0, .slice none 0 0, .slice none 0 0] 31)).alloc (.cells #[.int .i64 1, .slice none 0 0] 34) := ⟨_, rfl⟩
            have bY : Below wo.heap.size wo Y := by rw [hY]; exact ((Below.refl _ _).alloc (Nat.le_refl _) _).alloc (by simp) _
            have HRS0 : Hid (RS wo.heap.size Y SV.nil 1 none 0 [] none 0 []) := by
              refine ⟨?_, ?_, ownStore_nil _ _, jobsMem_nil _ _, World.ownsRow_nil _ _ _ _⟩
              · rw [hY]
                exact (boxn_new wo #[.slice none 0 0, .slice none 0 0, .slice none 0 0, .slice none 0 0] 31 4 rfl).below ((Below.refl _ _).alloc (Nat.le_refl _) _) (by simp)
              · rw [hY]
                have h9 := boxn_new (wo.alloc (.cells #[.slice none 0 0, .slice none 0 0, .slice none 0 0, .slice none 0 0] 31)) #[.int .i64 1, .slice none 0 0] 34 2 rfl
                rw [show (wo.alloc (.cells #[.slice none 0 0, .slice none 0 0, .slice none 0 0, .slice none 0 0] 31)).heap.size = wo.heap.size + 1 by simp] at h9
                exact h9
            have HBY : Hid (Below wo.heap.size wo Y) := bY
            have HE0 : Hid (E = 0) := hE0
            have h00 : ((0 : Int) != 0) = false := rfl
            clear H0 H1 hE0 bY hbwo
            go_upto_region 14 with (fail)
            rw [← hY]
            clear hY
            obtain ⟨B, eB⟩ : ∃ B, B = wo.heap.size := ⟨_, rfl⟩
            rw [← eB] at HRS0 ⊢
            have HBw : Hid (B = wo.heap.size) := eB
            clear eB
            go_loopw [14, 15] (fun s14 s15 wr => ∃ (q : Nat) (st : SV) (next : Int) (ja : Option Addr) (jc : Nat) (js : List JbV) (na : Option Addr) (nc : Nat) (ns : List NV), s14 = .slice na ns.length nc ∧ s15 = .int .i64 (q : Int) ∧ q ≤ k ∧ Hid (RS B wr st next ja jc js na nc ns) ∧ Hid (st.data = recStore (P.take q)) ∧ Hid ((next, js.map JbV.bare) = recDesk me (P.take q)) ∧ Hid (ns = recNotes (P.take q)) ∧ Hid (Below wo.heap.size wo wr)) (fun _ s15 _ => k - (intOf s15).toNat)
            case atStart => exact ⟨0, SV.nil, 1, none, 0, [], none, 0, [], rfl, rfl, by omega, HRS0, rfl, rfl, rfl, HBY⟩
            case round =>
              clear HRS0 HBY
              obtain ⟨q, st, next, ja, jc, js, na, nc, ns, rfl, rfl, hq, HRS, HSt, HDk, HNt, HBr⟩ := hrel
              obtain ⟨wp, ewp⟩ : ∃ X : World, X = wr := ⟨_, rfl⟩
              subst ewp
              by_cases hlt : q < k
              · have hlt' : (q : Int) < (k : Int) := by omega
                have hq1 : IntKind.i64.wrap ((q : Int) + 1) = (q : Int) + 1 := by rw [IntKind.wrap_i64]; omega
                obtain ⟨r, hrP, ⟨m, hmr, hmq, hmp⟩, hS1, hD1, hN1⟩ := HStep.out q hlt
                have hfine := HFine.out r hrP
                have hrow := (HRow.out wp HBr.out).1.row
                obtain ⟨b, off, rfl, zb, hcr⟩ := hrow.2.2.2.2 (by omega)
                have hcl := hcr q hlt
                rw [← hmq] at hcl
                have HI : Hid (∀ U, Below wo.heap.size wo U → IsInts U m.sa m.sl m.sc m.p.zs) := fun U hU => (HRow.out U hU).1.ints m hmr
                have hIl := (HI.out wp HBr.out).1
                obtain ⟨⟨kind, site, num, key, value, ask, yes, zs⟩, sa, sl, sc⟩ := m
                obtain rfl : r = ⟨kind, site, num, key, value, ask, yes, zs⟩ := hmp.symm
                simp only at hfine HI hIl
                have a0 := hcl 0 (by decide)
                have a1 := hcl 1 (by decide)
                have a2 := hcl 2 (by decide)
                have a3 := hcl 3 (by decide)
                have a4 := hcl 4 (by decide)
                have a5 := hcl 5 (by decide)
                have a6 := hcl 6 (by decide)
                have a7 := hcl 7 (by decide)
                simp only [RcM.cells, List.getElem?_cons_zero, List.getElem?_cons_succ, Nat.add_zero] at a0 a1 a2 a3 a4 a5 a6 a7
                obtain ⟨U, hU⟩ : ∃ U : World, U = wp.alloc (.cells #[.int .i64 kind, .int .i64 site, .int .i64 num, .int .i64 key, .int .i64 value, .int .i64 ask, .bool yes, .slice sa sl sc] 54) := ⟨_, rfl⟩
                have bU : Below wp.heap.size wp U := by rw [hU]; exact (Below.refl _ _).alloc (Nat.le_refl _) _
                have ub : BoxN U wp.heap.size 8 [.int .i64 kind, .int .i64 site, .int .i64 num, .int .i64 key, .int .i64 value, .int .i64 ask, .bool yes, .slice sa sl sc] := by rw [hU]; exact boxn_new wp #[.int .i64 kind, .int .i64 site, .int .i64 num, .int .i64 key, .int .i64 value, .int .i64 ask, .bool yes, .slice sa sl sc] 54 8 rfl
                have HRU : Hid (RS B U st next ja jc js na nc ns) := HRS.out.below bU
                have HBU : Hid (Below wo.heap.size wo U) := HBr.out.trans (bU.mono HBr.out.size)
                have HBox : Hid (BoxN U wp.heap.size 8 [.int .i64 kind, .int .i64 site, .int .i64 num, .int .i64 key, .int .i64 value, .int .i64 ask, .bool yes, .slice sa sl sc]) := ub
                have HBp : Hid (B + 2 ≤ wp.heap.size) := by show _ ≤ _; have := HRS.out.bd.lt; omega
                have HS1 : Hid (recStore (P.take (q + 1)) = docStep st.data ⟨kind, site, num, key, value, ask, yes, zs⟩) := by show _ = _; rw [hS1, HSt.out]
                have HD1 : Hid (recDesk me (P.take (q + 1)) = docDk me (next, js.map JbV.bare) ⟨kind, site, num, key, value, ask, yes, zs⟩) := by show _ = _; rw [hD1, HDk.out]
                have HN1 : Hid (recNotes (P.take (q + 1)) = docNt ns ⟨kind, site, num, key, value, ask, yes, zs⟩) := by show _ = _; rw [hN1, HNt.out]
                have HNs : Hid (ns = recNotes (P.take q)) := HNt.out
                have HNlt : Hid (∀ g, (Value.slice na ns.length nc).ownBlock = some g → g < wp.heap.size) := fun g e => (HRS.out.nt.lt g e).2
                have HStO : Hid (storeOK st = true ∧ st.over.length ≤ 1759218604441) := ⟨OKP.ok (s := st) (by have := (HRv.out q).okp; rw [← HSt.out] at this; exact this), by
                  have h8 := over_len_le (P.take q)
                  rw [← HSt.out] at h8
                  rw [List.length_take] at h8
                  show st.data.over.length ≤ _
                  omega⟩
                have HPw : Hid (js.Pairwise (fun a b => a.n ≠ b.n)) := by
                  have h8 := HDkOK.out q
                  rw [← HDk.out] at h8
                  rw [List.pairwise_map] at h8
                  exact h8
                have hj6 : js.length ≤ 6 := by
                  have h8 := recDesk_len me (P.take q)
                  rw [← HDk.out] at h8
                  simpa using h8
                clear hS1 hD1 hN1 hrP hmr hmq hmp hrow hcr hcl ub HRS HSt HDk HNt HStep HRv HFine HTx HDkOK HBr
                go_upto_region 17 with (fail)
                rw [← hU]
                clear hU a0 a1 a2 a3 a4 a5 a6 a7 zb bU
                have u0 : U.cell? ⟨wp.heap.size, 0, none⟩ = some (.int .i64 kind) := (HBox.out.c 0 (by decide)).1
                have u1 : U.cell? ⟨wp.heap.size, 1, none⟩ = some (.int .i64 site) := (HBox.out.c 1 (by decide)).1
                have u2 : U.cell? ⟨wp.heap.size, 2, none⟩ = some (.int .i64 num) := (HBox.out.c 2 (by decide)).1
                have u3 : U.cell? ⟨wp.heap.size, 3, none⟩ = some (.int .i64 key) := (HBox.out.c 3 (by decide)).1
                have u4 : U.cell? ⟨wp.heap.size, 4, none⟩ = some (.int .i64 value) := (HBox.out.c 4 (by decide)).1
                have u5 : U.cell? ⟨wp.heap.size, 5, none⟩ = some (.int .i64 ask) := (HBox.out.c 5 (by decide)).1
                have u6 : U.cell? ⟨wp.heap.size, 6, none⟩ = some (.bool yes) := (HBox.out.c 6 (by decide)).1
                have u7 : U.cell? ⟨wp.heap.size, 7, none⟩ = some (.slice sa sl sc) := (HBox.out.c 7 (by decide)).1
                have uz := HBox.out.lt
                rcases (by omega : kind = 1 ∨ kind = 2 ∨ kind = 3 ∨ kind = 4 ∨ kind = 5 ∨ kind = 6) with rfl | rfl | rfl | rfl | rfl | rfl
                · as_aux_lemma => -- prepared
                  have s0 : U.cell? ⟨B, 0, none⟩ = some (.slice st.ia st.il st.ic) := (HRU.out.bs.c 0 (by decide)).1
                  have s1 : U.cell? ⟨B, 1, none⟩ = some (.slice st.la st.ll st.lc) := (HRU.out.bs.c 1 (by decide)).1
                  have s2 : U.cell? ⟨B, 2, none⟩ = some (.slice st.da st.dl st.dc) := (HRU.out.bs.c 2 (by decide)).1
                  have s3 : U.cell? ⟨B, 3, none⟩ = some (.slice st.oa st.ol st.oc) := (HRU.out.bs.c 3 (by decide)).1
                  have g0 := (HRU.out.bs.c 0 (by decide)).2
                  have g1 := (HRU.out.bs.c 1 (by decide)).2
                  have g2 := (HRU.out.bs.c 2 (by decide)).2
                  have g3 := (HRU.out.bs.c 3 (by decide)).2
                  have sz := HRU.out.bs.lt
                  have hIs := HRU.out.st.isStore
                  have hsz := ok_sizes HStO.out.1 hIs
                  have hol : st.ol ≤ 1759218604441 := by have h8 := hIs.over.1; have := HStO.out.2; omega
                  have hW := writeRef_own st (site, num) key value ask U hIs (by omega) (by omega) (by omega) (by omega)
                  have hDd : recDesk me (P.take (q + 1)) = (next, js.map JbV.bare) := by rw [HD1.out]; rfl
                  have hNd : recNotes (P.take (q + 1)) = ns := by rw [HN1.out]; rfl
                  have HDd : Hid ((next, js.map JbV.bare) = recDesk me (P.take (q + 1))) := hDd.symm
                  have HNd : Hid (ns = recNotes (P.take (q + 1))) := hNd.symm
                  have HSd0 : Hid (recStore (P.take (q + 1)) = if writeErr st (site, num) key value ask = 0 then writeData st (site, num) key value ask else st.data) := by
                    show _ = _
                    rw [HS1.out, wErr_sv st, wData_sv st]
                    rfl
                  obtain ⟨WE, eWE⟩ : ∃ WE, WE = writeErr st (site, num) key value ask := ⟨_, rfl⟩
                  rw [← eWE] at hW HSd0
                  simp only [SV.val] at hW
                  clear hDd hNd HD1 HN1 HS1 eWE hIs hsz hol
                  go_upto_region 22 with (go_at_call 16; refine hW.mono ?_; rintro e V ⟨r1, rfl, hO1, hd1, hV⟩)
                  obtain ⟨ia1, il1, ic1, la1, ll1, lc1, da1, dl1, dc1, oa1, ol1, oc1, it1, lk1, db1, ov1⟩ := r1
                  obtain ⟨X1, hX1⟩ : ∃ X1 : World, X1 = V.alloc (.cells #[.slice ia1 il1 ic1, .slice la1 ll1 lc1, .slice da1 dl1 dc1, .slice oa1 ol1 oc1] 31) := ⟨_, rfl⟩
                  have bX1 : Below V.heap.size V X1 := by rw [hX1]; exact (Below.refl _ _).alloc (Nat.le_refl _) _
                  have xb : BoxN X1 V.heap.size 4 [.slice ia1 il1 ic1, .slice la1 ll1 lc1, .slice da1 dl1 dc1, .slice oa1 ol1 oc1] := by rw [hX1]; exact boxn_new V #[.slice ia1 il1 ic1, .slice la1 ll1 lc1, .slice da1 dl1 dc1, .slice oa1 ol1 oc1] 31 4 rfl
                  rw [← hX1]
                  have bUX : Below U.heap.size U X1 := hV.trans (bX1.mono hV.size)
                  have HRX : Hid (RS B X1 st next ja jc js na nc ns) := HRU.out.below bUX
                  have HBX : Hid (Below wo.heap.size wo X1) := HBU.out.trans (bUX.mono HBU.out.size)
                  have HO1 : Hid (OwnStore X1 (B + 2) ⟨ia1, il1, ic1, la1, ll1, lc1, da1, dl1, dc1, oa1, ol1, oc1, it1, lk1, db1, ov1⟩) := (hO1.below bX1).base (by have := HBp.out; omega)
                  have HXb : Hid (BoxN X1 V.heap.size 4 [.slice ia1 il1 ic1, .slice la1 ll1 lc1, .slice da1 dl1 dc1, .slice oa1 ol1 oc1]) := xb
                  clear hX1 hO1 hV bX1 xb bUX hW s0 s1 s2 s3 g0 g1 g2 g3 sz u0 u1 u2 u3 u4 u5 u6 u7 uz
                  by_cases hWE : WE = 0
                  · have HSd : Hid (SV.data ⟨ia1, il1, ic1, la1, ll1, lc1, da1, dl1, dc1, oa1, ol1, oc1, it1, lk1, db1, ov1⟩ = recStore (P.take (q + 1))) := by show _ = _; rw [HSd0.out, if_pos hWE, hd1]
                    have hwe : (WE == 0) = true := by simp [hWE]
                    subst hWE
                    have x0 : X1.cell? ⟨V.heap.size, 0, none⟩ = some (.slice ia1 il1 ic1) := (HXb.out.c 0 (by decide)).1
                    have x1 : X1.cell? ⟨V.heap.size, 1, none⟩ = some (.slice la1 ll1 lc1) := (HXb.out.c 1 (by decide)).1
                    have x2 : X1.cell? ⟨V.heap.size, 2, none⟩ = some (.slice da1 dl1 dc1) := (HXb.out.c 2 (by decide)).1
                    have x3 : X1.cell? ⟨V.heap.size, 3, none⟩ = some (.slice oa1 ol1 oc1) := (HXb.out.c 3 (by decide)).1
                    have xz := HXb.out.lt
                    have s0 : X1.cell? ⟨B, 0, none⟩ = some (.slice st.ia st.il st.ic) := (HRX.out.bs.c 0 (by decide)).1
                    have s1 : X1.cell? ⟨B, 1, none⟩ = some (.slice st.la st.ll st.lc) := (HRX.out.bs.c 1 (by decide)).1
                    have s2 : X1.cell? ⟨B, 2, none⟩ = some (.slice st.da st.dl st.dc) := (HRX.out.bs.c 2 (by decide)).1
                    have s3 : X1.cell? ⟨B, 3, none⟩ = some (.slice st.oa st.ol st.oc) := (HRX.out.bs.c 3 (by decide)).1
                    have g0 := (HRX.out.bs.c 0 (by decide)).2
                    have g1 := (HRX.out.bs.c 1 (by decide)).2
                    have g2 := (HRX.out.bs.c 2 (by decide)).2
                    have g3 := (HRX.out.bs.c 3 (by decide)).2
                    have sz := HRX.out.bs.lt
                    have HR9 := HRX.out.putS HO1.out
                    obtain ⟨F9, hF9⟩ : ∃ F9 : World, F9 = ((((X1.setCell ⟨B, 0, none⟩ (.slice ia1 il1 ic1)).setCell ⟨B, 1, none⟩ (.slice la1 ll1 lc1)).setCell ⟨B, 2, none⟩ (.slice da1 dl1 dc1)).setCell ⟨B, 3, none⟩ (.slice oa1 ol1 oc1)) := ⟨_, rfl⟩
                    have HR8 : Hid (RS B F9 ⟨ia1, il1, ic1, la1, ll1, lc1, da1, dl1, dc1, oa1, ol1, oc1, it1, lk1, db1, ov1⟩ next ja jc js na nc ns) := by rw [hF9]; exact HR9
                    have HB9 : Hid (Below wo.heap.size wo F9) := by
                      show Below _ _ _
                      rw [hF9]
                      have hBB : wo.heap.size ≤ B := Nat.le_of_eq HBw.out.symm
                      exact (((HBX.out.setCell (p := ⟨B, 0, none⟩) hBB _).setCell (p := ⟨B, 1, none⟩) hBB _).setCell (p := ⟨B, 2, none⟩) hBB _).setCell (p := ⟨B, 3, none⟩) hBB _
                    clear HR9 HSd0 HRX HO1 HBX HXb HRU HBU HBox hd1
                    go_wp2
                    rw [← hF9]
                    clear hF9
                    go_roundw
                    case rel => exact ⟨q + 1, ⟨ia1, il1, ic1, la1, ll1, lc1, da1, dl1, dc1, oa1, ol1, oc1, it1, lk1, db1, ov1⟩, next, ja, jc, js, na, nc, ns, rfl, by go_num, by omega, HR8, HSd, HDd, HNd, HB9⟩
                    case measure => simp [intOf]; omega
                  · have HSd : Hid (st.data = recStore (P.take (q + 1))) := by show _ = _; rw [HSd0.out, if_neg hWE]
                    have hwe : (WE == 0) = false := beq_eq_false_iff_ne.2 hWE
                    clear HSd0 HO1 HXb HRU HBU HBox hd1
                    go_wp2
                    go_roundw
                    case rel => exact ⟨q + 1, st, next, ja, jc, js, na, nc, ns, rfl, by go_num, by omega, HRX, HSd, HDd, HNd, HBX⟩
                    case measure => simp [intOf]; omega
                · as_aux_lemma => -- applied
                  have s0 : U.cell? ⟨B, 0, none⟩ = some (.slice st.ia st.il st.ic) := (HRU.out.bs.c 0 (by decide)).1
                  have s1 : U.cell? ⟨B, 1, none⟩ = some (.slice st.la st.ll st.lc) := (HRU.out.bs.c 1 (by decide)).1
                  have s2 : U.cell? ⟨B, 2, none⟩ = some (.slice st.da st.dl st.dc) := (HRU.out.bs.c 2 (by decide)).1
                  have s3 : U.cell? ⟨B, 3, none⟩ = some (.slice st.oa st.ol st.oc) := (HRU.out.bs.c 3 (by decide)).1
                  have g0 := (HRU.out.bs.c 0 (by decide)).2
                  have g1 := (HRU.out.bs.c 1 (by decide)).2
                  have g2 := (HRU.out.bs.c 2 (by decide)).2
                  have g3 := (HRU.out.bs.c 3 (by decide)).2
                  have sz := HRU.out.bs.lt
                  have hNd : recNotes (P.take (q + 1)) = ns.map (dmgF (site, num) yes) := by rw [HN1.out]; rfl
                  have HNd : Hid (ns.map (dmgF (site, num) yes) = recNotes (P.take (q + 1))) := hNd.symm
                  have hnl : ns.length ≤ q := by
                    have h8 := notesGo_len (P.take q) (P.take q) 0
                    have h9 : (P.take q).length ≤ q := by simp; omega
                    have h7 : ns = notesGo (P.take q) 0 (P.take q) := HNs.out
                    rw [← h7] at h8
                    omega
                  have hIs := HRU.out.st.isStore
                  have hsz := ok_sizes HStO.out.1 hIs
                  have hol : st.ol ≤ 1759218604441 := by have h8 := hIs.over.1; have := HStO.out.2; omega
                  have hW := endRef_own st (site, num) yes U hIs (by omega) (by omega) (by omega) (by omega)
                  have hDd : recDesk me (P.take (q + 1)) = (next, js.map JbV.bare) := by rw [HD1.out]; rfl
                  have HDd : Hid ((next, js.map JbV.bare) = recDesk me (P.take (q + 1))) := hDd.symm
                  have hE0 : endErr st (site, num) yes = 0 := by
                    unfold endErr
                    have h8 : txOK (site, num) = true := by
                      show (inR site 0 3 && inR num 1 1048576) = true
                      rw [Bool.and_eq_true]
                      constructor <;> (unfold inR; simp; omega)
                    rw [if_pos HStO.out.1, if_pos h8]
                  have HSd0 : Hid (recStore (P.take (q + 1)) = endData st (site, num) yes) := by
                    show _ = _
                    rw [HS1.out, eData_sv st]
                    show (if endErr st (site, num) yes = 0 then _ else _) = _
                    rw [if_pos hE0]
                    rfl
                  rw [hE0] at hW
                  simp only [SV.val] at hW
                  clear hDd hNd HD1 HN1 HS1 hIs hsz hol hE0
                  go_upto_region 27 with (go_at_call 17; refine hW.mono ?_; rintro e V ⟨r1, rfl, hO1, hd1, hV⟩)
                  obtain ⟨ia1, il1, ic1, la1, ll1, lc1, da1, dl1, dc1, oa1, ol1, oc1, it1, lk1, db1, ov1⟩ := r1
                  obtain ⟨X1, hX1⟩ : ∃ X1 : World, X1 = V.alloc (.cells #[.slice ia1 il1 ic1, .slice la1 ll1 lc1, .slice da1 dl1 dc1, .slice oa1 ol1 oc1] 31) := ⟨_, rfl⟩
                  have bX1 : Below V.heap.size V X1 := by rw [hX1]; exact (Below.refl _ _).alloc (Nat.le_refl _) _
                  have xb : BoxN X1 V.heap.size 4 [.slice ia1 il1 ic1, .slice la1 ll1 lc1, .slice da1 dl1 dc1, .slice oa1 ol1 oc1] := by rw [hX1]; exact boxn_new V #[.slice ia1 il1 ic1, .slice la1 ll1 lc1, .slice da1 dl1 dc1, .slice oa1 ol1 oc1] 31 4 rfl
                  rw [← hX1]
                  have bUX : Below U.heap.size U X1 := hV.trans (bX1.mono hV.size)
                  have HRX : Hid (RS B X1 st next ja jc js na nc ns) := HRU.out.below bUX
                  have HBX : Hid (Below wo.heap.size wo X1) := HBU.out.trans (bUX.mono HBU.out.size)
                  have HBoxX : Hid (BoxN X1 wp.heap.size 8 [.int .i64 2, .int .i64 site, .int .i64 num, .int .i64 key, .int .i64 value, .int .i64 ask, .bool yes, .slice sa sl sc]) := HBox.out.below bUX HBox.out.lt
                  have HO1 : Hid (OwnStore X1 (B + 2) ⟨ia1, il1, ic1, la1, ll1, lc1, da1, dl1, dc1, oa1, ol1, oc1, it1, lk1, db1, ov1⟩) := (hO1.below bX1).base (by have := HBp.out; omega)
                  have HXb : Hid (BoxN X1 V.heap.size 4 [.slice ia1 il1 ic1, .slice la1 ll1 lc1, .slice da1 dl1 dc1, .slice oa1 ol1 oc1]) := xb
                  have HSd : Hid (SV.data ⟨ia1, il1, ic1, la1, ll1, lc1, da1, dl1, dc1, oa1, ol1, oc1, it1, lk1, db1, ov1⟩ = recStore (P.take (q + 1))) := by show _ = _; rw [HSd0.out, hd1]
                  clear hX1 hO1 hV bX1 xb bUX hW s0 s1 s2 s3 g0 g1 g2 g3 sz u0 u1 u2 u3 u4 u5 u6 u7 uz HSd0 HRU HBU HBox hd1
                  have x0 : X1.cell? ⟨V.heap.size, 0, none⟩ = some (.slice ia1 il1 ic1) := (HXb.out.c 0 (by decide)).1
                  have x1 : X1.cell? ⟨V.heap.size, 1, none⟩ = some (.slice la1 ll1 lc1) := (HXb.out.c 1 (by decide)).1
                  have x2 : X1.cell? ⟨V.heap.size, 2, none⟩ = some (.slice da1 dl1 dc1) := (HXb.out.c 2 (by decide)).1
                  have x3 : X1.cell? ⟨V.heap.size, 3, none⟩ = some (.slice oa1 ol1 oc1) := (HXb.out.c 3 (by decide)).1
                  have xz := HXb.out.lt
                  have s0 : X1.cell? ⟨B, 0, none⟩ = some (.slice st.ia st.il st.ic) := (HRX.out.bs.c 0 (by decide)).1
                  have s1 : X1.cell? ⟨B, 1, none⟩ = some (.slice st.la st.ll st.lc) := (HRX.out.bs.c 1 (by decide)).1
                  have s2 : X1.cell? ⟨B, 2, none⟩ = some (.slice st.da st.dl st.dc) := (HRX.out.bs.c 2 (by decide)).1
                  have s3 : X1.cell? ⟨B, 3, none⟩ = some (.slice st.oa st.ol st.oc) := (HRX.out.bs.c 3 (by decide)).1
                  have g0 := (HRX.out.bs.c 0 (by decide)).2
                  have g1 := (HRX.out.bs.c 1 (by decide)).2
                  have g2 := (HRX.out.bs.c 2 (by decide)).2
                  have g3 := (HRX.out.bs.c 3 (by decide)).2
                  have sz := HRX.out.bs.lt
                  have HR9 := HRX.out.putS HO1.out
                  obtain ⟨F9, hF9⟩ : ∃ F9 : World, F9 = ((((X1.setCell ⟨B, 0, none⟩ (.slice ia1 il1 ic1)).setCell ⟨B, 1, none⟩ (.slice la1 ll1 lc1)).setCell ⟨B, 2, none⟩ (.slice da1 dl1 dc1)).setCell ⟨B, 3, none⟩ (.slice oa1 ol1 oc1)) := ⟨_, rfl⟩
                  have HR8 : Hid (RS B F9 ⟨ia1, il1, ic1, la1, ll1, lc1, da1, dl1, dc1, oa1, ol1, oc1, it1, lk1, db1, ov1⟩ next ja jc js na nc ns) := by rw [hF9]; exact HR9
                  have HB9 : Hid (Below wo.heap.size wo F9) := by
                    show Below _ _ _
                    rw [hF9]
                    have hBB : wo.heap.size ≤ B := Nat.le_of_eq HBw.out.symm
                    exact (((HBX.out.setCell (p := ⟨B, 0, none⟩) hBB _).setCell (p := ⟨B, 1, none⟩) hBB _).setCell (p := ⟨B, 2, none⟩) hBB _).setCell (p := ⟨B, 3, none⟩) hBB _
                  have HBox9 : Hid (BoxN F9 wp.heap.size 8 [.int .i64 2, .int .i64 site, .int .i64 num, .int .i64 key, .int .i64 value, .int .i64 ask, .bool yes, .slice sa sl sc]) := by
                    show BoxN _ _ _ _
                    have := HBp.out
                    rw [hF9]
                    exact (((HBoxX.out.far (by omega)).far (by omega)).far (by omega)).far (by omega)
                  clear HR9 HRX HO1 HBX HXb HBoxX
                  go_upto_region 30 with (fail)
                  rw [← hF9]
                  clear hF9 x0 x1 x2 x3 xz s0 s1 s2 s3 g0 g1 g2 g3 sz
                  go_loopw [21] (fun s21 wr => ∃ j : Nat, s21 = .int .i64 (j : Int) ∧ j ≤ ns.length ∧ Hid (RS B wr ⟨ia1, il1, ic1, la1, ll1, lc1, da1, dl1, dc1, oa1, ol1, oc1, it1, lk1, db1, ov1⟩ next ja jc js na nc (dmgAt (site, num) yes j ns)) ∧ Hid (BoxN wr wp.heap.size 8 [.int .i64 2, .int .i64 site, .int .i64 num, .int .i64 key, .int .i64 value, .int .i64 ask, .bool yes, .slice sa sl sc]) ∧ Hid (Below wo.heap.size wo wr)) (fun s21 _ => ns.length - (intOf s21).toNat)
                  case atStart => exact ⟨0, rfl, Nat.zero_le _, HR8, HBox9, HB9⟩
                  case round =>
                    clear HR8 HBox9 HB9
                    obtain ⟨j, rfl, hj, HRW, HBoxW, HBW⟩ := hrel
                    have u0 : wr.cell? ⟨wp.heap.size, 0, none⟩ = some (.int .i64 2) := (HBoxW.out.c 0 (by decide)).1
                    have u1 : wr.cell? ⟨wp.heap.size, 1, none⟩ = some (.int .i64 site) := (HBoxW.out.c 1 (by decide)).1
                    have u2 : wr.cell? ⟨wp.heap.size, 2, none⟩ = some (.int .i64 num) := (HBoxW.out.c 2 (by decide)).1
                    have u6 : wr.cell? ⟨wp.heap.size, 6, none⟩ = some (.bool yes) := (HBoxW.out.c 6 (by decide)).1
                    have uz := HBoxW.out.lt
                    by_cases hjl : j < ns.length
                    · have hjl' : (j : Int) < (ns.length : Int) := by omega
                      have hj1 : IntKind.i64.wrap ((j : Int) + 1) = (j : Int) + 1 := by rw [IntKind.wrap_i64]; omega
                      have hnt := HRW.out.nt
                      rw [dmgAt_len (Nat.le_of_lt hjl)] at hnt
                      obtain ⟨g, hg⟩ : ∃ g, na = some ⟨g, 0, none⟩ := by
                        rcases hnt.2 with ⟨e, _⟩ | ⟨g, cap, cur, e, _⟩
                        · simp at e; omega
                        · simp at e; exact ⟨g, e.1⟩
                      subst hg
                      have hrow := (own_isRow ncells_len hnt (dmgAt_len (Nat.le_of_lt hjl))).1
                      have hncap : ns.length ≤ nc := hrow.2.1
                      have hncm : nc ≤ maxLen := hrow.2.2.1
                      unfold maxLen at hncm
                      obtain ⟨b9, off9, e9, zb, hcr⟩ := hrow.2.2.2.2 (by omega)
                      simp only [Option.some.injEq, Addr.mk.injEq] at e9
                      obtain ⟨rfl, rfl, -⟩ := e9
                      have hcl := hcr j hjl
                      rw [dmgAt_get hjl] at hcl
                      have hSt := dmgAt_step (t := (site, num)) (y := yes) hjl
                      obtain ⟨x, ex⟩ : ∃ x, x = ns.getD j default := ⟨_, rfl⟩
                      rw [← ex] at hcl hSt
                      have hxg : (dmgAt (site, num) yes j ns).getD j default = x := by rw [dmgAt_get hjl, ex]
                      have HKeep : Hid (dmgF (site, num) yes x = x → dmgAt (site, num) yes (j + 1) ns = dmgAt (site, num) yes j ns) := fun h9 => by
                        rw [hSt, h9, ← hxg]
                        have hl9 : j < (dmgAt (site, num) yes j ns).length := by rw [dmgAt_len (Nat.le_of_lt hjl)]; exact hjl
                        simp [List.getD, hl9]
                      have HApart : Hid (wp.heap.size ≠ g) := by
                        have h9 := HNlt.out g rfl
                        show _ ≠ _
                        omega
                      have HPut : Hid (∀ Z, Below wr.heap.size wr Z → (dmgF (site, num) yes x = ⟨x.site, x.num, x.yes, true⟩ → RS B (Z.setCell ⟨g, j * 4 + 3, none⟩ (.bool true)) ⟨ia1, il1, ic1, la1, ll1, lc1, da1, dl1, dc1, oa1, ol1, oc1, it1, lk1, db1, ov1⟩ next ja jc js (some ⟨g, 0, none⟩) nc (dmgAt (site, num) yes (j + 1) ns)) ∧ Below wo.heap.size wo (Z.setCell ⟨g, j * 4 + 3, none⟩ (.bool true)) ∧ BoxN (Z.setCell ⟨g, j * 4 + 3, none⟩ (.bool true)) wp.heap.size 8 [.int .i64 2, .int .i64 site, .int .i64 num, .int .i64 key, .int .i64 value, .int .i64 ask, .bool yes, .slice sa sl sc] ∧ (∃ y, Z.cell? ⟨g, j * 4 + 3, none⟩ = some y) ∧ Z.frozen? ⟨g, j * 4 + 3, none⟩ = false ∧ g < Z.heap.size) := fun Z hZ => by
                        have HRZ := HRW.out.below hZ
                        have hnt := HRZ.nt
                        rw [dmgAt_len (Nat.le_of_lt hjl)] at hnt
                        have hth := own_there hnt (k := j * 4 + 3) (by omega)
                        have hsk := own_setk hnt (k := j * 4 + 3) (by omega) (.bool true)
                        have hgB : B + 2 ≤ g := (hnt.lt g rfl).1
                        refine ⟨fun h9 => ?_, (HBW.out.trans (hZ.mono HBW.out.size)).setCell (p := ⟨g, j * 4 + 3, none⟩) (by have := HBw.out; show wo.heap.size ≤ g; omega) _, (HBoxW.out.below hZ HBoxW.out.lt).far HApart.out, Option.isSome_iff_exists.1 hth.1, hth.2, (hnt.lt g rfl).2⟩
                        have e1 : (flat NV.cells (dmgAt (site, num) yes j ns)).set (j * 4 + 3) (.bool true) = flat NV.cells (dmgAt (site, num) yes (j + 1) ns) := by
                          rw [hSt, h9]
                          exact flat_set ncells_len _ j 3 _ _ (by rw [dmgAt_len (Nat.le_of_lt hjl)]; exact hjl) (by decide) (by rw [hxg]; rfl)
                        rw [e1] at hsk
                        exact HRZ.notes (grown_setCell _ _ _) (by rw [dmgAt_len (by omega)]; exact hsk)
                      have HZ : Hid (∀ Z, Below wr.heap.size wr Z → RS B Z ⟨ia1, il1, ic1, la1, ll1, lc1, da1, dl1, dc1, oa1, ol1, oc1, it1, lk1, db1, ov1⟩ next ja jc js (some ⟨g, 0, none⟩) nc (dmgAt (site, num) yes j ns) ∧ BoxN Z wp.heap.size 8 [.int .i64 2, .int .i64 site, .int .i64 num, .int .i64 key, .int .i64 value, .int .i64 ask, .bool yes, .slice sa sl sc] ∧ Below wo.heap.size wo Z) := fun Z hZ => ⟨HRW.out.below hZ, HBoxW.out.below hZ HBoxW.out.lt, HBW.out.trans (hZ.mono HBW.out.size)⟩
                      obtain ⟨xs, xn, xy, xd⟩ := x
                      have y0 := hcl 0 (by decide)
                      have y1 := hcl 1 (by decide)
                      have y2 := hcl 2 (by decide)
                      have y3 := hcl 3 (by decide)
                      simp only [NV.cells, List.getElem?_cons_zero, List.getElem?_cons_succ, Nat.add_zero, Nat.zero_add] at y0 y1 y2 y3
                      clear hcl hcr hrow hnt hSt hxg ex
                      by_cases hxs : site = xs
                      · subst hxs
                        by_cases hxn : num = xn
                        · subst hxn
                          by_cases hy : yes = xy
                          · subst hy
                            have HDm : Hid (dmgF (site, num) yes ⟨site, num, yes, xd⟩ = ⟨site, num, yes, xd⟩) := by show _ = _; unfold dmgF; rw [if_neg]; simp
                            go_upto_region 32 with (fail)
                            go_quiet (fail)
                            have bQ := below_drewN (Below.refl wr.heap.size wr) nq
                            obtain ⟨Z, eZ⟩ : ∃ Z : World, Z = wr.drewN nq := ⟨_, rfl⟩
                            rw [← eZ] at bQ ⊢
                            clear eZ y0 y1 y2 y3 u0 u1 u2 u6 uz zb
                            obtain ⟨HRZ, HXZ, HBZ⟩ := HZ.out Z bQ
                            have HRY : Hid (RS B Z ⟨ia1, il1, ic1, la1, ll1, lc1, da1, dl1, dc1, oa1, ol1, oc1, it1, lk1, db1, ov1⟩ next ja jc js (some ⟨g, 0, none⟩) nc (dmgAt (site, num) yes (j + 1) ns)) := by show RS _ _ _ _ _ _ _ _ _ _; rw [HKeep.out HDm.out]; exact HRZ
                            clear HRZ HDm HPut HZ HKeep HRW HBoxW HBW
                            go_wp2
                            go_roundw
                            case rel => exact ⟨j + 1, by go_num, by omega, HRY, HXZ, HBZ⟩
                            case measure => simp [intOf]; omega
                          · have hyv : (yes = true ∧ xy = false) ∨ (yes = false ∧ xy = true) := by cases yes <;> cases xy <;> simp at hy ⊢
                            clear hy
                            rcases hyv with ⟨rfl, rfl⟩ | ⟨rfl, rfl⟩
                            · have HDm : Hid (dmgF (site, num) true ⟨site, num, false, xd⟩ = ⟨site, num, false, true⟩) := by show _ = _; unfold dmgF; rw [if_pos ⟨rfl, fun e => by simp at e⟩]
                              go_upto_region 32 with (fail)
                              go_quiet (fail)
                              have bQ := below_drewN (Below.refl wr.heap.size wr) nq
                              obtain ⟨Z, eZ⟩ : ∃ Z : World, Z = wr.drewN nq := ⟨_, rfl⟩
                              rw [← eZ] at bQ ⊢
                              clear eZ y0 y1 y2 y3 u0 u1 u2 u6 uz zb
                              obtain ⟨HRZ, HBZ, HXZ, ⟨y, y3⟩, hfz, zb⟩ := HPut.out Z bQ
                              have HRY : Hid (RS B (Z.setCell ⟨g, j * 4 + 3, none⟩ (.bool true)) ⟨ia1, il1, ic1, la1, ll1, lc1, da1, dl1, dc1, oa1, ol1, oc1, it1, lk1, db1, ov1⟩ next ja jc js (some ⟨g, 0, none⟩) nc (dmgAt (site, num) true (j + 1) ns)) := HRZ HDm.out
                              clear HRZ HDm HPut HZ HKeep HRW HBoxW HBW
                              go_wp2
                              go_roundw
                              case rel => exact ⟨j + 1, by go_num, by omega, HRY, HXZ, HBZ⟩
                              case measure => simp [intOf]; omega
                            · have HDm : Hid (dmgF (site, num) false ⟨site, num, true, xd⟩ = ⟨site, num, true, true⟩) := by show _ = _; unfold dmgF; rw [if_pos ⟨rfl, fun e => by simp at e⟩]
                              go_upto_region 32 with (fail)
                              go_quiet (fail)
                              have bQ := below_drewN (Below.refl wr.heap.size wr) nq
                              obtain ⟨Z, eZ⟩ : ∃ Z : World, Z = wr.drewN nq := ⟨_, rfl⟩
                              rw [← eZ] at bQ ⊢
                              clear eZ y0 y1 y2 y3 u0 u1 u2 u6 uz zb
                              obtain ⟨HRZ, HBZ, HXZ, ⟨y, y3⟩, hfz, zb⟩ := HPut.out Z bQ
                              have HRY : Hid (RS B (Z.setCell ⟨g, j * 4 + 3, none⟩ (.bool true)) ⟨ia1, il1, ic1, la1, ll1, lc1, da1, dl1, dc1, oa1, ol1, oc1, it1, lk1, db1, ov1⟩ next ja jc js (some ⟨g, 0, none⟩) nc (dmgAt (site, num) false (j + 1) ns)) := HRZ HDm.out
                              clear HRZ HDm HPut HZ HKeep HRW HBoxW HBW
                              go_wp2
                              go_roundw
                              case rel => exact ⟨j + 1, by go_num, by omega, HRY, HXZ, HBZ⟩
                              case measure => simp [intOf]; omega
                        · have hxn' : (xn == num) = false := beq_eq_false_iff_ne.2 (fun e => hxn e.symm)
                          have HDm : Hid (dmgF (site, num) yes ⟨site, xn, xy, xd⟩ = ⟨site, xn, xy, xd⟩) := by show _ = _; unfold dmgF; rw [if_neg]; simp; exact fun e => absurd e.symm hxn
                          go_upto_region 32 with (fail)
                          go_quiet (fail)
                          have bQ := below_drewN (Below.refl wr.heap.size wr) nq
                          obtain ⟨Z, eZ⟩ : ∃ Z : World, Z = wr.drewN nq := ⟨_, rfl⟩
                          rw [← eZ] at bQ ⊢
                          clear eZ y0 y1 y2 y3 u0 u1 u2 u6 uz zb
                          obtain ⟨HRZ, HXZ, HBZ⟩ := HZ.out Z bQ
                          have HRY : Hid (RS B Z ⟨ia1, il1, ic1, la1, ll1, lc1, da1, dl1, dc1, oa1, ol1, oc1, it1, lk1, db1, ov1⟩ next ja jc js (some ⟨g, 0, none⟩) nc (dmgAt (site, num) yes (j + 1) ns)) := by show RS _ _ _ _ _ _ _ _ _ _; rw [HKeep.out HDm.out]; exact HRZ
                          clear HRZ HDm HPut HZ HKeep HRW HBoxW HBW
                          go_wp2
                          go_roundw
                          case rel => exact ⟨j + 1, by go_num, by omega, HRY, HXZ, HBZ⟩
                          case measure => simp [intOf]; omega
                      · have hxs' : (xs == site) = false := beq_eq_false_iff_ne.2 (fun e => hxs e.symm)
                        have HDm : Hid (dmgF (site, num) yes ⟨xs, xn, xy, xd⟩ = ⟨xs, xn, xy, xd⟩) := by show _ = _; unfold dmgF; rw [if_neg]; simp; exact fun e => absurd e.symm hxs
                        go_upto_region 32 with (fail)
                        go_quiet (fail)
                        have bQ := below_drewN (Below.refl wr.heap.size wr) nq
                        obtain ⟨Z, eZ⟩ : ∃ Z : World, Z = wr.drewN nq := ⟨_, rfl⟩
                        rw [← eZ] at bQ ⊢
                        clear eZ y0 y1 y2 y3 u0 u1 u2 u6 uz zb
                        obtain ⟨HRZ, HXZ, HBZ⟩ := HZ.out Z bQ
                        have HRY : Hid (RS B Z ⟨ia1, il1, ic1, la1, ll1, lc1, da1, dl1, dc1, oa1, ol1, oc1, it1, lk1, db1, ov1⟩ next ja jc js (some ⟨g, 0, none⟩) nc (dmgAt (site, num) yes (j + 1) ns)) := by show RS _ _ _ _ _ _ _ _ _ _; rw [HKeep.out HDm.out]; exact HRZ
                        clear HRZ HDm HPut HZ HKeep HRW HBoxW HBW
                        go_wp2
                        go_roundw
                        case rel => exact ⟨j + 1, by go_num, by omega, HRY, HXZ, HBZ⟩
                        case measure => simp [intOf]; omega
                    · obtain rfl : j = ns.length := by omega
                      have hnl2 : ¬ ((ns.length : Int) < (ns.length : Int)) := by omega
                      have HRY : Hid (RS B wr ⟨ia1, il1, ic1, la1, ll1, lc1, da1, dl1, dc1, oa1, ol1, oc1, it1, lk1, db1, ov1⟩ next ja jc js na nc (ns.map (dmgF (site, num) yes))) := by
                        have h8 := HRW.out
                        rw [dmgAt_all] at h8
                        exact h8
                      have HL1 : Hid ((ns.map (dmgF (site, num) yes)).length = ns.length) := List.length_map ..
                      clear HRW HBoxW
                      go_wp2
                      go_roundw
                      case rel => exact ⟨q + 1, ⟨ia1, il1, ic1, la1, ll1, lc1, da1, dl1, dc1, oa1, ol1, oc1, it1, lk1, db1, ov1⟩, next, ja, jc, js, na, nc, ns.map (dmgF (site, num) yes), by first | (rw [HL1.out]; done) | (rw [HL1.out]; exact ⟨rfl, rfl, rfl⟩), by go_num, by omega, HRY, by first | exact HSd | (rw [eP] at HSd; exact HSd), by first | exact HDd | (rw [eP] at HDd; exact HDd), by first | exact HNd | (rw [eP] at HNd; exact HNd), HBW⟩
                      case measure => simp [intOf]; omega
                · as_aux_lemma => -- committed
                  have d0 : U.cell? ⟨B + 1, 0, none⟩ = some (.int .i64 next) := (HRU.out.bd.c 0 (by decide)).1
                  have d1 : U.cell? ⟨B + 1, 1, none⟩ = some (.slice ja js.length jc) := (HRU.out.bd.c 1 (by decide)).1
                  have e0 := (HRU.out.bd.c 0 (by decide)).2
                  have e1 := (HRU.out.bd.c 1 (by decide)).2
                  have dz := HRU.out.bd.lt
                  have hNd : recNotes (P.take (q + 1)) = ns := by rw [HN1.out]; rfl
                  have hSd : recStore (P.take (q + 1)) = st.data := by rw [HS1.out]; rfl
                  have HNd : Hid (ns = recNotes (P.take (q + 1))) := hNd.symm
                  have HSd : Hid (st.data = recStore (P.take (q + 1))) := hSd.symm
                  have HD2 : Hid (recDesk me (P.take (q + 1)) = if site ≠ me ∨ next ≤ num ∨ zs.length = 0 ∨ 6 ≤ (js.map JbV.bare).length ∨ (js.map JbV.bare).any (isNr num) = true then (next, js.map JbV.bare) else (next, insS (tellJ ⟨3, site, num, key, value, ask, yes, zs⟩) (js.map JbV.bare))) := by show _ = _; rw [HD1.out]; rfl
                  rw [any_bare (fun _ => rfl), List.length_map] at HD2
                  have hzl : zs.length = sl := hIl
                  rw [hzl] at HD2
                  have hJ := jobAt_any next ja js.length jc js num U HRU.out.jb.row
                  obtain ⟨JA, eJA⟩ : ∃ JA, JA = jbAt num 0 js := ⟨_, rfl⟩
                  have HJA : Hid (JA = jbAt num 0 js) := eJA
                  rw [← eJA] at hJ
                  clear hNd hSd HD1 HN1 HS1 eJA u3 u4 u5 u6
                  by_cases hc1 : site = me
                  · subst hc1
                    by_cases hc2 : next ≤ num
                    · have HDd : Hid ((next, js.map JbV.bare) = recDesk site (P.take (q + 1))) := by show _ = _; rw [HD2.out, if_pos (Or.inr (Or.inl hc2))]
                      clear HD2 HJA HBox hJ
                      go_wp2
                      go_roundw
                      case rel => exact ⟨q + 1, st, next, ja, jc, js, na, nc, ns, rfl, by go_num, by omega, HRU, HSd, HDd, HNd, HBU⟩
                      case measure => simp [intOf]; omega
                    · by_cases hc3 : sl = 0
                      · have HDd : Hid ((next, js.map JbV.bare) = recDesk site (P.take (q + 1))) := by show _ = _; rw [HD2.out, if_pos (Or.inr (Or.inr (Or.inl hc3)))]
                        subst hc3
                        clear HD2 HJA HBox hJ
                        go_wp2
                        go_roundw
                        case rel => exact ⟨q + 1, st, next, ja, jc, js, na, nc, ns, rfl, by go_num, by omega, HRU, HSd, HDd, HNd, HBU⟩
                        case measure => simp [intOf]; omega
                      · have hc3' : ((sl : Int) == 0) = false := beq_eq_false_iff_ne.2 (by omega)
                        by_cases hc4 : 6 ≤ js.length
                        · have HDd : Hid ((next, js.map JbV.bare) = recDesk site (P.take (q + 1))) := by show _ = _; rw [HD2.out, if_pos (Or.inr (Or.inr (Or.inr (Or.inl hc4))))]
                          have hc4' : (6 : Int) ≤ (js.length : Int) := by omega
                          clear HD2 HJA HBox hJ
                          go_wp2
                          go_roundw
                          case rel => exact ⟨q + 1, st, next, ja, jc, js, na, nc, ns, rfl, by go_num, by omega, HRU, HSd, HDd, HNd, HBU⟩
                          case measure => simp [intOf]; omega
                        · have hc4' : ¬ (6 : Int) ≤ (js.length : Int) := by omega
                          by_cases hc5 : JA = -1
                          · have hany : js.any (isNr num) = false := by
                              have h9 := HJA.out
                              rw [hc5] at h9
                              have h7 := jbAt_none js 0 (n := num)
                              rw [← h9] at h7
                              exact h7.mp rfl
                            have HDd0 : Hid ((next, insS (tellJ ⟨3, site, num, key, value, ask, yes, zs⟩) (js.map JbV.bare)) = recDesk site (P.take (q + 1))) := by
                              show _ = _
                              rw [HD2.out, if_neg (by rintro (h | h | h | h | h) <;> first | exact h rfl | exact hc2 h | exact hc3 h | exact hc4 h | (rw [hany] at h; cases h))]
                            subst hc5
                            have hMm : ¬ (0 : Int) ≤ -1 := by decide
                            clear HD2 HJA hany
                            go_upto_region 38 with (go_at_call 18; refine hJ.mono ?_; rintro e V ⟨rfl, hV⟩)
                            have HRV : Hid (RS B V st next ja jc js na nc ns) := HRU.out.below hV
                            have HBV : Hid (Below wo.heap.size wo V) := HBU.out.trans (hV.mono HBU.out.size)
                            have HBoxV : Hid (BoxN V wp.heap.size 8 [.int .i64 3, .int .i64 site, .int .i64 num, .int .i64 key, .int .i64 value, .int .i64 ask, .bool yes, .slice sa sl sc]) := HBox.out.below hV HBox.out.lt
                            have KR : Hid (∀ Z, Below V.heap.size V Z → Z.cell? ⟨wp.heap.size, 2, none⟩ = some (.int .i64 num) ∧ Z.cell? ⟨wp.heap.size, 7, none⟩ = some (.slice sa sl sc) ∧ wp.heap.size < Z.heap.size) := fun Z hZ => by
                              have h9 := HBoxV.out.below hZ HBoxV.out.lt
                              exact ⟨(h9.c 2 (by decide)).1, (h9.c 7 (by decide)).1, h9.lt⟩
                            have HIC : Hid (∀ Z, Below V.heap.size V Z → Calls Tryz.prog 19 #[.slice sa sl sc] Z fun e w' => ∃ a5 c5, e = .returned (.slice a5 sl c5) ∧ OwR Z.heap.size w' a5 sl c5 zs ∧ Below Z.heap.size Z w') := fun Z hZ => by
                              have h9 : IsInts Z sa sl sc zs := HI.out Z (HBV.out.trans (hZ.mono HBV.out.size))
                              exact intsCopy_any sa sl sc zs Z ((isSt_of h9).2.2.2 (by omega)) (by have h8 := h9.2.1; have h7 := h9.2.2.1; unfold maxLen at h7; omega)
                            have nT : ∀ {u v z : World}, Below u.heap.size u v → Below v.heap.size v z → Below u.heap.size u z := fun h k => h.trans (k.mono h.size)
                            clear hJ hV HRU HBU HBox u0 u1 u2 u7 uz d0 d1 e0 e1 dz HBoxV hMm
                            refine wp_region_inv (by kernel_rfl) [204, 205, 206, 207, 208, 209, 210, 22] (fun L T u => ∃ (a9 : Option Addr) (c9 : Nat) (A : Nat), Below V.heap.size V u ∧ (L 0 = true → T 204 = .pointer (some ⟨wp.heap.size, 1, none⟩)) ∧ (L 1 = true → T 205 = .pointer (some ⟨wp.heap.size, 2, none⟩)) ∧ (L 2 = true → T 206 = .int .i64 num) ∧ (L 3 = true → T 207 = .pointer (some ⟨wp.heap.size, 7, none⟩)) ∧ (L 4 = true → T 208 = .slice sa sl sc) ∧ (L 5 = true → T 209 = .slice a9 sl c9) ∧ (L 6 = true → T 210 = .agg #[.int .i64 num, .int .i64 3, .slice none 0 0, .slice a9 sl c9, .int .i64 0, .int .i64 0]) ∧ (L 5 = true → OwR V.heap.size u a9 sl c9 zs) ∧ (L 7 = true → (T 22 = .pointer (some ⟨A, 0, none⟩) ∧ V.heap.size ≤ A ∧ A < u.heap.size)) ∧ (L 7 = true → L 8 = false → BoxN u A 6 [.int .i64 0, .int .i64 0, .slice none 0 0, .slice none 0 0, .int .i64 0, .int .i64 0]) ∧ (L 8 = true → BoxN u A 6 [.int .i64 num, .int .i64 3, .slice none 0 0, .slice a9 sl c9, .int .i64 0, .int .i64 0]) ∧ (L 5 = true → L 7 = true → FarR A (.slice a9 sl c9))) (by decide) (by kernel_rfl) (by kernel_rfl) ?_ ?_ ?_
                            · exact ⟨none, 0, 0, (Below.refl _ _).drew, nofun, nofun, nofun, nofun, nofun, nofun, nofun, nofun, nofun, nofun, nofun, nofun⟩
                            · refine ⟨?_, ?_, ?_, ?_, ?_, ?_, ?_, ?_, ?_, trivial⟩
                              · rintro L T u hd hk hcl ⟨a9, c9, A, hb, p0, p1, p2, p3, p4, p5, p6, ow, pa7, bz7, bv7, fr7_ow⟩ K hK
                                simp only [fr, Act.put, List.setIfInBounds_toArray, List.set_cons_zero, List.set_cons_succ, updO] at hK ⊢
                                simp [Region.binds] at hd
                                rw [if_pos (by rfl)]
                                simp only [Oper.wpv]
                                go_simp
                                exact hK _ _ ⟨a9, c9, A, hb, fun _ => rfl, p1, p2, p3, p4, p5, p6, ow, pa7, bz7, bv7, fr7_ow⟩
                              · rintro L T u hd hk hcl ⟨a9, c9, A, hb, p0, p1, p2, p3, p4, p5, p6, ow, pa7, bz7, bv7, fr7_ow⟩ K hK
                                simp only [fr, Act.put, List.setIfInBounds_toArray, List.set_cons_zero, List.set_cons_succ, updO] at hK ⊢
                                simp [Region.binds] at hd
                                have g0 := p0 (by simp [hd])
                                rw [if_pos (by rfl)]
                                simp only [Oper.wpv]
                                go_simp
                                exact hK _ _ ⟨a9, c9, A, hb, p0, fun _ => rfl, p2, p3, p4, p5, p6, ow, pa7, bz7, bv7, fr7_ow⟩
                              · rintro L T u hd hk hcl ⟨a9, c9, A, hb, p0, p1, p2, p3, p4, p5, p6, ow, pa7, bz7, bv7, fr7_ow⟩ K hK
                                simp only [fr, Act.put, List.setIfInBounds_toArray, List.set_cons_zero, List.set_cons_succ, updO] at hK ⊢
                                simp [Region.binds] at hd
                                have g1 := p1 (by simp [hd])
                                obtain ⟨x0, x1, x2⟩ := KR.out u hb
                                rw [if_pos (by rfl)]
                                simp only [Oper.wpv]
                                go_simp
                                exact hK _ _ ⟨a9, c9, A, hb, p0, p1, fun _ => rfl, p3, p4, p5, p6, ow, pa7, bz7, bv7, fr7_ow⟩
                              · rintro L T u hd hk hcl ⟨a9, c9, A, hb, p0, p1, p2, p3, p4, p5, p6, ow, pa7, bz7, bv7, fr7_ow⟩ K hK
                                simp only [fr, Act.put, List.setIfInBounds_toArray, List.set_cons_zero, List.set_cons_succ, updO] at hK ⊢
                                simp [Region.binds] at hd
                                rw [if_pos (by rfl)]
                                simp only [Oper.wpv]
                                go_simp
                                exact hK _ _ ⟨a9, c9, A, hb, p0, p1, p2, fun _ => rfl, p4, p5, p6, ow, pa7, bz7, bv7, fr7_ow⟩
                              · rintro L T u hd hk hcl ⟨a9, c9, A, hb, p0, p1, p2, p3, p4, p5, p6, ow, pa7, bz7, bv7, fr7_ow⟩ K hK
                                simp only [fr, Act.put, List.setIfInBounds_toArray, List.set_cons_zero, List.set_cons_succ, updO] at hK ⊢
                                simp [Region.binds] at hd
                                have g3 := p3 (by simp [hd])
                                obtain ⟨x0, x1, x2⟩ := KR.out u hb
                                rw [if_pos (by rfl)]
                                simp only [Oper.wpv]
                                go_simp
                                exact hK _ _ ⟨a9, c9, A, hb, p0, p1, p2, p3, fun _ => rfl, p5, p6, ow, pa7, bz7, bv7, fr7_ow⟩
                              · rintro L T u hd hk hcl ⟨a9, c9, A, hb, p0, p1, p2, p3, p4, p5, p6, ow, pa7, bz7, bv7, fr7_ow⟩ K hK
                                simp only [fr, Act.put, List.setIfInBounds_toArray, List.set_cons_zero, List.set_cons_succ, updO] at hK ⊢
                                simp [Region.binds] at hd
                                have g4 := p4 (by simp [hd])
                                have k6 := hcl 6 _ rfl
                                simp [Region.binds] at k6
                                have k8 := hcl 8 _ rfl
                                simp [Region.binds] at k8
                                rw [if_pos (by rfl)]
                                simp only [Oper.wpv]
                                go_simp
                                refine (HIC.out u hb).mono ?_
                                rintro e u1 ⟨a5, c5, rfl, hA1, hg⟩
                                exact hK _ _ ⟨a5, c5, A, nT hb hg, p0, p1, p2, p3, p4, fun _ => rfl, fun h => absurd (show L 6 = true from h) (by intro hh; have a6 := k6 hh; simp [hk] at a6), fun _ => hA1.base hb.size, fun h0 => ⟨(pa7 h0).1, (pa7 h0).2.1, Nat.lt_of_lt_of_le (pa7 h0).2.2 hg.size⟩, fun h0 h1 => (bz7 h0 h1).below hg (bz7 h0 h1).lt, fun h => absurd (show L 8 = true from h) (by intro hh; have a8 := k8 hh; have a6 := k6 (by simp [a8]); simp [hk] at a6), fun _ h1 => (hA1).farOld ((pa7 (show L 7 = true from h1)).2.2)⟩
                              · rintro L T u hd hk hcl ⟨a9, c9, A, hb, p0, p1, p2, p3, p4, p5, p6, ow, pa7, bz7, bv7, fr7_ow⟩ K hK
                                simp only [fr, Act.put, List.setIfInBounds_toArray, List.set_cons_zero, List.set_cons_succ, updO] at hK ⊢
                                simp [Region.binds] at hd
                                have g2 := p2 (by simp [hd])
                                have g5 := p5 (by simp [hd])
                                rw [if_pos (by rfl)]
                                simp only [Oper.wpv]
                                go_simp
                                exact hK _ _ ⟨a9, c9, A, hb, p0, p1, p2, p3, p4, p5, fun _ => rfl, ow, pa7, bz7, bv7, fr7_ow⟩
                              · rintro L T u hd hk hcl ⟨a9, c9, A, hb, p0, p1, p2, p3, p4, p5, p6, ow, pa7, bz7, bv7, fr7_ow⟩ K hK
                                simp only [fr, Act.put, List.setIfInBounds_toArray, List.set_cons_zero, List.set_cons_succ, updO] at hK ⊢
                                simp [Region.binds] at hd
                                have kst := hcl 8 _ rfl
                                simp [Region.binds] at kst
                                rw [if_pos (by rfl)]
                                simp only [Oper.wpv]
                                go_simp
                                have hg : Below u.heap.size u _ := (Below.refl u.heap.size u).alloc (Nat.le_refl _) (.cells #[.int .i64 0, .int .i64 0, .slice none 0 0, .slice none 0 0, .int .i64 0, .int .i64 0] 64)
                                exact hK _ _ ⟨a9, c9, u.heap.size, nT hb hg, p0, p1, p2, p3, p4, p5, p6, fun h0 => ((ow h0)).below hg, fun _ => ⟨rfl, hb.size, by simp⟩, fun _ _ => boxn_new u #[.int .i64 0, .int .i64 0, .slice none 0 0, .slice none 0 0, .int .i64 0, .int .i64 0] 64 6 rfl, fun h => absurd (show L 8 = true from h) (by intro hh; have := kst hh; simp [hk] at this), fun h0 _ => (ow (show L 5 = true from h0)).farNew⟩
                              · rintro L T u hd hk hcl ⟨a9, c9, A, hb, p0, p1, p2, p3, p4, p5, p6, ow, pa7, bz7, bv7, fr7_ow⟩ K hK
                                simp only [fr, Act.put, List.setIfInBounds_toArray, List.set_cons_zero, List.set_cons_succ, updO] at hK ⊢
                                simp [Region.binds] at hd
                                have g6 := p6 (by simp [hd])
                                have g7 := pa7 (by simp [hd])
                                have HK7 : L 7 = true := by simp [hd]
                                obtain ⟨gA, gB, gC⟩ := pa7 HK7
                                have bz := bz7 HK7 hk
                                have z0 : u.cell? ⟨A, 0, none⟩ = some (.int .i64 0) := (bz.c 0 (by decide)).1
                                have zf0 := (bz.c 0 (by decide)).2
                                have z1 : u.cell? ⟨A, 1, none⟩ = some (.int .i64 0) := (bz.c 1 (by decide)).1
                                have zf1 := (bz.c 1 (by decide)).2
                                have z2 : u.cell? ⟨A, 2, none⟩ = some (.slice none 0 0) := (bz.c 2 (by decide)).1
                                have zf2 := (bz.c 2 (by decide)).2
                                have z3 : u.cell? ⟨A, 3, none⟩ = some (.slice none 0 0) := (bz.c 3 (by decide)).1
                                have zf3 := (bz.c 3 (by decide)).2
                                have z4 : u.cell? ⟨A, 4, none⟩ = some (.int .i64 0) := (bz.c 4 (by decide)).1
                                have zf4 := (bz.c 4 (by decide)).2
                                have z5 : u.cell? ⟨A, 5, none⟩ = some (.int .i64 0) := (bz.c 5 (by decide)).1
                                have zf5 := (bz.c 5 (by decide)).2
                                clear g7
                                rw [if_pos (by rfl)]
                                simp only [Oper.wpv]
                                go_simp
                                exact hK _ _ ⟨a9, c9, A, ((((((hb.setCell (p := ⟨A, 0, none⟩) gB _).setCell (p := ⟨A, 1, none⟩) gB _).setCell (p := ⟨A, 2, none⟩) gB _).setCell (p := ⟨A, 3, none⟩) gB _).setCell (p := ⟨A, 4, none⟩) gB _).setCell (p := ⟨A, 5, none⟩) gB _), p0, p1, p2, p3, p4, p5, p6, fun h0 => OwR.aside6 (ow h0) (fr7_ow h0 HK7) _ _ _ _ _ _, fun h0 => ⟨(pa7 h0).1, (pa7 h0).2.1, by simpa using (pa7 h0).2.2⟩, fun h0 h1 => Bool.noConfusion (show true = false from h1), fun _ => ((((((bz.set 0 (by decide) _).set 1 (by decide) _).set 2 (by decide) _).set 3 (by decide) _).set 4 (by decide) _).set 5 (by decide) _), fr7_ow⟩
                            · rintro L T u hl ⟨a9, c9, A, hb, p0, p1, p2, p3, p4, p5, p6, ow, pa7, bz7, bv7, fr7_ow⟩
                              simp only [fr, Act.put, List.setIfInBounds_toArray, List.set_cons_zero, List.set_cons_succ]
                              have hpa := pa7 (hl 7 (by decide))
                              have hbv := bv7 (hl 8 (by decide))
                              have how := ow (hl 5 (by decide))
                              clear p0 p1 p2 p3 p4 p5 p6 ow pa7 bz7 bv7 fr7_ow hl KR HIC nT
                              rw [hpa.1]
                              have HAlt : Hid (V.heap.size ≤ A) := hpa.2.1
                              clear hpa
                              obtain ⟨x, ex⟩ : ∃ x : JbV, x = ⟨num, 3, none, 0, 0, a9, sl, c9, 0, 0, [], zs⟩ := ⟨_, rfl⟩
                              have HX : Hid (x = ⟨num, 3, none, 0, 0, a9, sl, c9, 0, 0, [], zs⟩) := ex
                              have hxn : x.n = num := by rw [ex]
                              have hxb : x.bare = tellJ ⟨3, site, num, key, value, ask, yes, zs⟩ := by rw [ex]; rfl
                              have HDd : Hid ((next, (insS x js).map JbV.bare) = recDesk site (P.take (q + 1))) := by show _ = _; rw [insS_bare, hxb]; exact HDd0.out
                              have HRA : Hid (RS B u st next ja jc js na nc ns) := HRV.out.below hb
                              have HBA : Hid (Below wo.heap.size wo u) := HBV.out.trans (hb.mono HBV.out.size)
                              have HBpA : Hid (B + 2 ≤ V.heap.size) := by show _ ≤ _; have := HRV.out.bd.lt; omega
                              have HOw : Hid (OwR V.heap.size u a9 sl c9 zs) := how
                              have HBj : Hid (BoxN u A 6 [.int .i64 num, .int .i64 3, .slice none 0 0, .slice a9 sl c9, .int .i64 0, .int .i64 0]) := hbv
                              clear how hbv hb HRV HBV ex hxb HDd0 HBp
                              obtain ⟨iJ, EJ⟩ := jbElem
                              have h00j : abv x js 0 = false := rfl
                              obtain ⟨U0, eU0⟩ : ∃ X : World, X = u := ⟨_, rfl⟩
                              subst eU0
                              go_upto_region 42 with (fail)
                              go_loopw [23, 24, 25] (fun s23 s24 s25 wr => ∃ (k9 : Nat) (a5 : Option Addr) (c5 : Nat), s25 = .int .i64 (k9 : Int) ∧ k9 ≤ js.length ∧ s24 = .bool (abv x js k9) ∧ s23 = .slice a5 (insA x js k9).length c5 ∧ Hid (wr.ownsRow U0.heap.size 64 6 (.slice a5 (insA x js k9).length c5) (insA x js k9).length (flat JbV.cells (insA x js k9))) ∧ Hid (Below U0.heap.size U0 wr)) (fun _ _ s25 _ => js.length - (intOf s25).toNat)
                              case atStart => exact ⟨0, none, 0, rfl, Nat.zero_le _, rfl, rfl, World.ownsRow_nil _ _ _ _, Below.refl _ _⟩
                              case round =>
                                obtain ⟨k9, a5, c5, rfl, hk9, rfl, rfl, HOJ, HBW⟩ := hrel
                                have HRW : Hid (RS B wr st next ja jc js na nc ns) := HRA.out.below HBW.out
                                have HBjW : Hid (BoxN wr A 6 [.int .i64 num, .int .i64 3, .slice none 0 0, .slice a9 sl c9, .int .i64 0, .int .i64 0]) := HBj.out.below HBW.out HBj.out.lt
                                have d0 : wr.cell? ⟨B + 1, 0, none⟩ = some (.int .i64 next) := (HRW.out.bd.c 0 (by decide)).1
                                have d1 : wr.cell? ⟨B + 1, 1, none⟩ = some (.slice ja js.length jc) := (HRW.out.bd.c 1 (by decide)).1
                                have e0 := (HRW.out.bd.c 0 (by decide)).2
                                have e1 := (HRW.out.bd.c 1 (by decide)).2
                                have dz := HRW.out.bd.lt
                                have x0 : wr.cell? ⟨A, 0, none⟩ = some (.int .i64 num) := (HBjW.out.c 0 (by decide)).1
                                have x1 : wr.cell? ⟨A, 1, none⟩ = some (.int .i64 3) := (HBjW.out.c 1 (by decide)).1
                                have x2 : wr.cell? ⟨A, 2, none⟩ = some (.slice none 0 0) := (HBjW.out.c 2 (by decide)).1
                                have x3 : wr.cell? ⟨A, 3, none⟩ = some (.slice a9 sl c9) := (HBjW.out.c 3 (by decide)).1
                                have x4 : wr.cell? ⟨A, 4, none⟩ = some (.int .i64 0) := (HBjW.out.c 4 (by decide)).1
                                have x5 : wr.cell? ⟨A, 5, none⟩ = some (.int .i64 0) := (HBjW.out.c 5 (by decide)).1
                                have xz := HBjW.out.lt
                                have hLl := insA_len (x := x) hk9
                                obtain ⟨AL, eAL⟩ : ∃ AL, AL = insA x js k9 := ⟨_, rfl⟩
                                have HAL : Hid (AL = insA x js k9) := eAL
                                rw [← eAL] at HOJ hLl ⊢
                                obtain ⟨LN, eLN⟩ : ∃ LN, LN = AL.length := ⟨_, rfl⟩
                                have HLN : Hid (LN = AL.length) := eLN
                                rw [← eLN] at HOJ hLl ⊢
                                clear eAL eLN
                                by_cases hlt : k9 < js.length
                                · have hlt' : (k9 : Int) < (js.length : Int) := by omega
                                  have hk1 : IntKind.i64.wrap ((k9 : Int) + 1) = (k9 : Int) + 1 := by rw [IntKind.wrap_i64]; omega
                                  have hrow := HRW.out.jb.row
                                  have hjc : js.length ≤ jc := hrow.2.1
                                  have hjm : jc ≤ maxLen := hrow.2.2.1
                                  unfold maxLen at hjm
                                  obtain ⟨b9, off9, rfl, zb, hcr⟩ := hrow.2.2.2.2 (by omega)
                                  have hcl := hcr k9 hlt
                                  obtain ⟨jx, ejx⟩ : ∃ jx, jx = js.getD k9 default := ⟨_, rfl⟩
                                  have HJx : Hid (jx = js.getD k9 default) := ejx
                                  rw [← ejx] at hcl
                                  clear ejx hcr hrow
                                  obtain ⟨jn, jst, jta, jtl, jtc, jaa, jal, jac, jasks, jage, jtasks, jasked⟩ := jx
                                  have y0 := hcl 0 (by decide)
                                  have y1 := hcl 1 (by decide)
                                  have y2 := hcl 2 (by decide)
                                  have y3 := hcl 3 (by decide)
                                  have y4 := hcl 4 (by decide)
                                  have y5 := hcl 5 (by decide)
                                  simp only [JbV.cells, List.getElem?_cons_zero, List.getElem?_cons_succ, Nat.add_zero] at y0 y1 y2 y3 y4 y5
                                  clear hcl
                                  have HXn : Hid (x.n = num) := hxn
                                  have KZ : Hid (∀ Z, Below wr.heap.size wr Z → RS B Z st next (some ⟨b9, off9, none⟩) jc js na nc ns ∧ BoxN Z A 6 [.int .i64 num, .int .i64 3, .slice none 0 0, .slice a9 sl c9, .int .i64 0, .int .i64 0] ∧ Z.ownsRow U0.heap.size 64 6 (.slice a5 LN c5) LN (flat JbV.cells AL) ∧ Below U0.heap.size U0 Z) := fun Z hZ => ⟨HRW.out.below hZ, HBjW.out.below hZ HBjW.out.lt, own_below HOJ.out hZ, HBW.out.trans (hZ.mono HBW.out.size)⟩
                                  have HPt : Hid (abv x js k9 = false → num < jn → abv x js (k9 + 1) = true ∧ insA x js (k9 + 1) = AL ++ [x] ++ [⟨jn, jst, jta, jtl, jtc, jaa, jal, jac, jasks, jage, jtasks, jasked⟩]) := fun h8 h9 => by
                                    have h7 : x.n < (js.getD k9 default).n := by rw [← HJx.out, HXn.out]; exact h9
                                    have h6 := insA_put hlt h8 h7
                                    refine ⟨by rw [abv_succ hlt, h8]; simpa using h7, ?_⟩
                                    rw [h6, ← HJx.out, ← HAL.out]
                                  have HOn : Hid (abv x js k9 = true ∨ ¬ num < jn → abv x js (k9 + 1) = abv x js k9 ∧ insA x js (k9 + 1) = AL ++ [⟨jn, jst, jta, jtl, jtc, jaa, jal, jac, jasks, jage, jtasks, jasked⟩]) := fun h9 => by
                                    have h8 := insA_on (x := x) hlt (by rw [← HJx.out, HXn.out]; exact h9)
                                    rw [← HJx.out, ← HAL.out] at h8
                                    exact h8
                                  clear HOJ HBW HRW HBjW HAL
                                  obtain ⟨AV, eAV⟩ : ∃ AV, AV = abv x js k9 := ⟨_, rfl⟩
                                  rw [← eAV] at HPt HOn ⊢
                                  clear eAV
                                  by_cases hb1 : num < jn
                                  · cases AV with
                                    | false => as_aux_lemma =>
                                      go_upto_region 44 with (fail)
                                      go_quiet (fail)
                                      have bQ := below_drewN (Below.refl wr.heap.size wr) nq
                                      obtain ⟨Z, eZ⟩ : ∃ Z : World, Z = wr.drewN nq := ⟨_, rfl⟩
                                      rw [← eZ] at bQ ⊢
                                      clear eZ x0 x1 x2 x3 x4 x5 xz d0 d1 e0 e1 dz
                                      obtain ⟨hRZ, hXZ, hownZ, hBZ⟩ := KZ.out Z bQ
                                      have HBZ : Hid (Below U0.heap.size U0 Z) := hBZ
                                      have y0 := (bQ.cell (p := ⟨b9, off9 + k9 * 6, none⟩) zb).trans y0
                                      have y1 := (bQ.cell (p := ⟨b9, off9 + k9 * 6 + 1, none⟩) zb).trans y1
                                      have y2 := (bQ.cell (p := ⟨b9, off9 + k9 * 6 + 2, none⟩) zb).trans y2
                                      have y3 := (bQ.cell (p := ⟨b9, off9 + k9 * 6 + 3, none⟩) zb).trans y3
                                      have y4 := (bQ.cell (p := ⟨b9, off9 + k9 * 6 + 4, none⟩) zb).trans y4
                                      have y5 := (bQ.cell (p := ⟨b9, off9 + k9 * 6 + 5, none⟩) zb).trans y5
                                      have zb : b9 < Z.heap.size := Nat.lt_of_lt_of_le zb bQ.size
                                      have d1 : Z.cell? ⟨B + 1, 1, none⟩ = some (.slice (some ⟨b9, off9, none⟩) js.length jc) := (hRZ.bd.c 1 (by decide)).1
                                      have dz := hRZ.bd.lt
                                      have HRZ : Hid (RS B Z st next (some ⟨b9, off9, none⟩) jc js na nc ns) := hRZ
                                      have HXZ : Hid (BoxN Z A 6 [.int .i64 num, .int .i64 3, .slice none 0 0, .slice a9 sl c9, .int .i64 0, .int .i64 0]) := hXZ
                                      clear KZ hBZ bQ hRZ hXZ
                                      have x0 : Z.cell? ⟨A, 0, none⟩ = some (.int .i64 num) := (HXZ.out.c 0 (by decide)).1
                                      have x1 : Z.cell? ⟨A, 1, none⟩ = some (.int .i64 3) := (HXZ.out.c 1 (by decide)).1
                                      have x2 : Z.cell? ⟨A, 2, none⟩ = some (.slice none 0 0) := (HXZ.out.c 2 (by decide)).1
                                      have x3 : Z.cell? ⟨A, 3, none⟩ = some (.slice a9 sl c9) := (HXZ.out.c 3 (by decide)).1
                                      have x4 : Z.cell? ⟨A, 4, none⟩ = some (.int .i64 0) := (HXZ.out.c 4 (by decide)).1
                                      have x5 : Z.cell? ⟨A, 5, none⟩ = some (.int .i64 0) := (HXZ.out.c 5 (by decide)).1
                                      have xz := HXZ.out.lt
                                      have HOr : Hid (Z.ownsRow U0.heap.size 64 6 (.slice a5 LN c5) LN (flat JbV.cells AL)) := hownZ
                                      have HBo : Hid (Below U0.heap.size U0 Z) := HBZ.out
                                      have HLr : Hid ((LN + 1) * 80 ≤ 140737488355328) := by show (LN + 1) * 80 ≤ _; omega
                                      have nT : ∀ {u v z : World}, Below u.heap.size u v → Below v.heap.size v z → Below u.heap.size u z := fun h k => h.trans (k.mono h.size)
                                      go_upto_region 45 with (fail)
                                      have KY : Hid (∀ Q, Below Z.heap.size Z Q → Q.cell? ⟨A, 0, none⟩ = some (.int .i64 num) ∧ Q.cell? ⟨A, 1, none⟩ = some (.int .i64 3) ∧ Q.cell? ⟨A, 2, none⟩ = some (.slice none 0 0) ∧ Q.cell? ⟨A, 3, none⟩ = some (.slice a9 sl c9) ∧ Q.cell? ⟨A, 4, none⟩ = some (.int .i64 0) ∧ Q.cell? ⟨A, 5, none⟩ = some (.int .i64 0) ∧ A < Q.heap.size) := fun Q hQ => ⟨(hQ.cell (p := ⟨A, 0, none⟩) xz).trans x0, (hQ.cell (p := ⟨A, 1, none⟩) xz).trans x1, (hQ.cell (p := ⟨A, 2, none⟩) xz).trans x2, (hQ.cell (p := ⟨A, 3, none⟩) xz).trans x3, (hQ.cell (p := ⟨A, 4, none⟩) xz).trans x4, (hQ.cell (p := ⟨A, 5, none⟩) xz).trans x5, Nat.lt_of_lt_of_le xz hQ.size⟩
                                      clear x0 x1 x2 x3 x4 x5 xz
                                      refine wp_region_seq [231, 232, 233, 234, 23] (fun L T u => ∃ (aN : Option Addr) (cN : Nat) (bA : Nat), True ∧ (L 0 = true → T 231 = .slice a5 LN c5) ∧ (L 1 = true → T 232 = .agg #[.int .i64 num, .int .i64 3, .slice none 0 0, .slice a9 sl c9, .int .i64 0, .int .i64 0]) ∧ (L 3 = true → T 234 = .slice aN (LN + 1) cN) ∧ (L 4 = true → T 23 = .slice aN (LN + 1) cN) ∧ (L 4 = false → T 23 = .slice a5 LN c5) ∧ (L 3 = false → Below Z.heap.size Z u) ∧ (L 3 = true → (u.ownsRow U0.heap.size 64 6 (.slice aN (LN + 1) cN) (LN + 1) (flat JbV.cells (AL ++ [(⟨num, 3, none, 0, 0, a9, sl, c9, 0, 0, [], zs⟩ : JbV)])) ∧ Below U0.heap.size U0 u)) ∧ (L 2 = true → L 3 = false → (T 233 = .slice (some ⟨bA, 0, none⟩) 1 1 ∧ Z.heap.size ≤ bA ∧ bA < u.heap.size)) ∧ (L 2 = true → L 3 = false → IsRow 6 JbV.cells u (some ⟨bA, 0, none⟩) 1 1 [(⟨num, 3, none, 0, 0, a9, sl, c9, 0, 0, [], zs⟩ : JbV)])) (by decide) (by kernel_rfl) (by kernel_rfl) ?_ ?_ ?_
                                      · exact ⟨none, 0, 0, trivial, nofun, nofun, nofun, nofun, fun _ => rfl, fun _ => (Below.refl _ _), nofun, nofun, nofun⟩
                                      · refine ⟨?_, ?_, ?_, ?_, ?_, trivial⟩
                                        · rintro L T u hd hk hcl ⟨aN, cN, bA, hb, p0, p1, p3, p4, q23, c1, c2, pa2, bv2⟩ K hK
                                          simp only [fr, Act.put, List.setIfInBounds_toArray, List.set_cons_zero, List.set_cons_succ, updO] at hK ⊢
                                          simp [Region.binds] at hd
                                          have k4 := hcl 4 _ rfl
                                          simp [Region.binds] at k4
                                          have k3 := hcl 3 _ rfl
                                          simp [Region.binds] at k3
                                          have hF4 : L 4 = false := by cases h : L 4 with | false => rfl | true => have a4 := k4 h; have a3 := k3 (by simp [a4]); simp [hk] at a3
                                          have gq23 := q23 hF4
                                          rw [if_pos (by rfl)]
                                          simp only [Oper.wpv]
                                          go_simp
                                          exact hK _ _ ⟨aN, cN, bA, hb, fun _ => rfl, p1, p3, p4, q23, c1, c2, pa2, bv2⟩
                                        · rintro L T u hd hk hcl ⟨aN, cN, bA, hb, p0, p1, p3, p4, q23, c1, c2, pa2, bv2⟩ K hK
                                          simp only [fr, Act.put, List.setIfInBounds_toArray, List.set_cons_zero, List.set_cons_succ, updO] at hK ⊢
                                          simp [Region.binds] at hd
                                          have k3 := hcl 3 _ rfl
                                          simp [Region.binds] at k3
                                          have k2 := hcl 2 _ rfl
                                          simp [Region.binds] at k2
                                          have hE : L 3 = false := by cases h : L 3 with | false => rfl | true => have a3 := k3 h; have a2 := k2 (by simp [a3]); simp [hk] at a2
                                          obtain ⟨x0, x1, x2, x3, x4, x5, xz⟩ := KY.out u (c1 hE)
                                          rw [if_pos (by rfl)]
                                          simp only [Oper.wpv]
                                          go_simp
                                          exact hK _ _ ⟨aN, cN, bA, hb, p0, fun _ => rfl, p3, p4, q23, c1, c2, pa2, bv2⟩
                                        · rintro L T u hd hk hcl ⟨aN, cN, bA, hb, p0, p1, p3, p4, q23, c1, c2, pa2, bv2⟩ K hK
                                          simp only [fr, Act.put, List.setIfInBounds_toArray, List.set_cons_zero, List.set_cons_succ, updO] at hK ⊢
                                          simp [Region.binds] at hd
                                          have k3 := hcl 3 _ rfl
                                          simp [Region.binds] at k3
                                          have hE : L 3 = false := by cases h : L 3 with | false => rfl | true => have a3 := k3 h; simp [hk] at a3
                                          have g1 := p1 (by simp [hd])
                                          have k4 := hcl 4 _ rfl
                                          simp [Region.binds] at k4
                                          have hg : Below u.heap.size u (u.alloc (.cells #[.int .i64 num, .int .i64 3, .slice none 0 0, .slice a9 sl c9, .int .i64 0, .int .i64 0] 64)) := (Below.refl _ _).alloc (Nat.le_refl _) _
                                          rw [if_pos (by rfl)]
                                          simp only [Oper.wpv]
                                          refine wpv_job (.tmp 232) (by rfl) g1 ?_
                                          exact hK _ _ ⟨aN, cN, u.heap.size, hb, p0, p1, p3, p4, q23, fun _ => nT (c1 hE) hg, fun h => absurd (show L 3 = true from h) (by simp [hE]), fun _ _ => ⟨rfl, (c1 hE).size, by simp⟩, fun _ _ => jobCell1 u ⟨num, 3, none, 0, 0, a9, sl, c9, 0, 0, [], zs⟩ _ rfl⟩
                                        · rintro L T u hd hk hcl ⟨aN, cN, bA, hb, p0, p1, p3, p4, q23, c1, c2, pa2, bv2⟩ K hK
                                          simp only [fr, Act.put, List.setIfInBounds_toArray, List.set_cons_zero, List.set_cons_succ, updO] at hK ⊢
                                          simp [Region.binds] at hd
                                          have hE : L 3 = false := hk
                                          have g0 := p0 (by simp [hd])
                                          have g2 := pa2 (by simp [hd]) hE
                                          have k4 := hcl 4 _ rfl
                                          simp [Region.binds] at k4
                                          have hrw := bv2 (by simp [hd]) hE
                                          have hOw := own_below HOr.out (c1 hE)
                                          have hBu := HBo.out.trans ((c1 hE).mono HBo.out.size)
                                          rw [if_pos (by rfl)]
                                          simp only [Oper.wpv]
                                          refine St.wpv_append_row EJ (.tmp 231) (.tmp 233) (by rfl) U0.heap.size (.slice a5 LN c5) LN AL g0 hOw (some ⟨bA, 0, none⟩) 1 1 [(⟨num, 3, none, 0, 0, a9, sl, c9, 0, 0, [], zs⟩ : JbV)] (g2.1) hrw (by unfold maxLen; omega) (by exact HLr.out) hBu.size ?_
                                          intro aM cM u6 own6 gr6 at6
                                          have hu6 : Below U0.heap.size U0 u6 := hBu.grown gr6 hBu.size (fun q hq => (hOw.lt q hq).1)
                                          exact hK _ _ ⟨aM, cM, bA, hb, p0, p1, fun _ => rfl, fun h => absurd (show L 4 = true from h) (by intro hh; have a4 := k4 hh; simp [hk] at a4), q23, fun h0 => Bool.noConfusion (show true = false from h0), fun _ => ⟨own6, hu6⟩, fun h0 h1 => Bool.noConfusion (show true = false from h1), fun h0 h1 => Bool.noConfusion (show true = false from h1)⟩
                                        · rintro L T u hd hk hcl ⟨aN, cN, bA, hb, p0, p1, p3, p4, q23, c1, c2, pa2, bv2⟩ K hK
                                          simp only [fr, Act.put, List.setIfInBounds_toArray, List.set_cons_zero, List.set_cons_succ, updO] at hK ⊢
                                          simp [Region.binds] at hd
                                          have g3 := p3 (by simp [hd])
                                          rw [if_pos (by rfl)]
                                          simp only [Oper.wpv]
                                          go_simp
                                          exact hK _ _ ⟨aN, cN, bA, hb, p0, p1, p3, fun _ => rfl, fun h => Bool.noConfusion (show true = false from h), c1, c2, pa2, bv2⟩
                                      · rintro L T u hl ⟨aN, cN, bA, hb, p0, p1, p3, p4, q23, c1, c2, pa2, bv2⟩
                                        simp only [fr, Act.put, List.setIfInBounds_toArray, List.set_cons_zero, List.set_cons_succ]
                                        have h23 := p4 (hl 4 (by decide))
                                        obtain ⟨own6, hb2⟩ := c2 (hl 3 (by decide))
                                        clear p0 p1 p3 p4 q23 c1 c2 pa2 bv2 hl HOr HBo HLr KY nT
                                        rw [h23]
                                        clear h23
                                        obtain ⟨w6, ew6⟩ : ∃ X : World, X = u := ⟨_, rfl⟩
                                        subst ew6
                                        obtain ⟨a6, ea6⟩ : ∃ x : Option Addr, x = aN := ⟨_, rfl⟩
                                        subst ea6
                                        obtain ⟨c6, ec6⟩ : ∃ x : Nat, x = cN := ⟨_, rfl⟩
                                        subst ec6
                                        have HB6 : Hid (Below U0.heap.size U0 w6) := hb2
                                        clear hb2
                                        rw [← HX.out] at own6
                                        have hR6 := HRA.out.below HB6.out
                                        clear d1 dz zb y0 y1 y2 y3 y4 y5
                                        have d1 : w6.cell? ⟨B + 1, 1, none⟩ = some (.slice (some ⟨b9, off9, none⟩) js.length jc) := (hR6.bd.c 1 (by decide)).1
                                        have dz := hR6.bd.lt
                                        obtain ⟨b8, off8, e8, zb, hcr⟩ := hR6.jb.row.2.2.2.2 (by omega)
                                        simp only [Option.some.injEq, Addr.mk.injEq] at e8
                                        obtain ⟨rfl, rfl, -⟩ := e8
                                        have hcl := hcr k9 hlt
                                        rw [← HJx.out] at hcl
                                        have y0 := hcl 0 (by decide)
                                        have y1 := hcl 1 (by decide)
                                        have y2 := hcl 2 (by decide)
                                        have y3 := hcl 3 (by decide)
                                        have y4 := hcl 4 (by decide)
                                        have y5 := hcl 5 (by decide)
                                        simp only [JbV.cells, List.getElem?_cons_zero, List.getElem?_cons_succ, Nat.add_zero] at y0 y1 y2 y3 y4 y5
                                        clear hcl hcr hR6
                                        clear HRZ HXZ hownZ HBZ
                                        have HOr : Hid (w6.ownsRow U0.heap.size 64 6 (.slice a6 (LN + 1) c6) (LN + 1) (flat JbV.cells (AL ++ [x]))) := own6
                                        have HBo : Hid (Below U0.heap.size U0 w6) := HB6.out
                                        have HLr : Hid (((LN + 1) + 1) * 80 ≤ 140737488355328) := by show ((LN + 1) + 1) * 80 ≤ _; omega
                                        have nT : ∀ {u v z : World}, Below u.heap.size u v → Below v.heap.size v z → Below u.heap.size u z := fun h k => h.trans (k.mono h.size)
                                        go_upto_region 47 with (fail)
                                        have KY : Hid (∀ Q, Below w6.heap.size w6 Q → Q.cell? ⟨B + 1, 1, none⟩ = some (.slice (some ⟨b9, off9, none⟩) js.length jc) ∧ Q.cell? ⟨b9, off9 + k9 * 6, none⟩ = some (.int .i64 jn) ∧ Q.cell? ⟨b9, off9 + k9 * 6 + 1, none⟩ = some (.int .i64 jst) ∧ Q.cell? ⟨b9, off9 + k9 * 6 + 2, none⟩ = some (.slice jta jtl jtc) ∧ Q.cell? ⟨b9, off9 + k9 * 6 + 3, none⟩ = some (.slice jaa jal jac) ∧ Q.cell? ⟨b9, off9 + k9 * 6 + 4, none⟩ = some (.int .i64 jasks) ∧ Q.cell? ⟨b9, off9 + k9 * 6 + 5, none⟩ = some (.int .i64 jage) ∧ b9 < Q.heap.size ∧ B + 1 < Q.heap.size) := fun Q hQ => ⟨(hQ.cell (p := ⟨B + 1, 1, none⟩) dz).trans d1, (hQ.cell (p := ⟨b9, off9 + k9 * 6, none⟩) zb).trans y0, (hQ.cell (p := ⟨b9, off9 + k9 * 6 + 1, none⟩) zb).trans y1, (hQ.cell (p := ⟨b9, off9 + k9 * 6 + 2, none⟩) zb).trans y2, (hQ.cell (p := ⟨b9, off9 + k9 * 6 + 3, none⟩) zb).trans y3, (hQ.cell (p := ⟨b9, off9 + k9 * 6 + 4, none⟩) zb).trans y4, (hQ.cell (p := ⟨b9, off9 + k9 * 6 + 5, none⟩) zb).trans y5, Nat.lt_of_lt_of_le zb hQ.size, Nat.lt_of_lt_of_le dz hQ.size⟩
                                        clear d1 dz zb y0 y1 y2 y3 y4 y5
                                        refine wp_region_seq [235, 236, 237, 238, 239, 240, 241, 242, 23] (fun L T u => ∃ (aN : Option Addr) (cN : Nat) (bA : Nat), True ∧ (L 0 = true → T 235 = .slice a6 (LN + 1) c6) ∧ (L 1 = true → T 236 = .pointer (some ⟨B + 1, 1, none⟩)) ∧ (L 2 = true → T 237 = .slice (some ⟨b9, off9, none⟩) js.length jc) ∧ (L 3 = true → T 238 = .int .i64 (k9 : Int)) ∧ (L 4 = true → T 239 = .pointer (some ⟨b9, off9 + k9 * 6, none⟩)) ∧ (L 5 = true → T 240 = .agg #[.int .i64 jn, .int .i64 jst, .slice jta jtl jtc, .slice jaa jal jac, .int .i64 jasks, .int .i64 jage]) ∧ (L 7 = true → T 242 = .slice aN ((LN + 1) + 1) cN) ∧ (L 8 = true → T 23 = .slice aN ((LN + 1) + 1) cN) ∧ (L 8 = false → T 23 = .slice a6 (LN + 1) c6) ∧ (L 7 = false → Below w6.heap.size w6 u) ∧ (L 7 = true → (u.ownsRow U0.heap.size 64 6 (.slice aN ((LN + 1) + 1) cN) ((LN + 1) + 1) (flat JbV.cells ((AL ++ [x]) ++ [(⟨jn, jst, jta, jtl, jtc, jaa, jal, jac, jasks, jage, jtasks, jasked⟩ : JbV)])) ∧ Below U0.heap.size U0 u)) ∧ (L 6 = true → L 7 = false → (T 241 = .slice (some ⟨bA, 0, none⟩) 1 1 ∧ w6.heap.size ≤ bA ∧ bA < u.heap.size)) ∧ (L 6 = true → L 7 = false → IsRow 6 JbV.cells u (some ⟨bA, 0, none⟩) 1 1 [(⟨jn, jst, jta, jtl, jtc, jaa, jal, jac, jasks, jage, jtasks, jasked⟩ : JbV)])) (by decide) (by kernel_rfl) (by kernel_rfl) ?_ ?_ ?_
                                        · exact ⟨none, 0, 0, trivial, nofun, nofun, nofun, nofun, nofun, nofun, nofun, nofun, fun _ => rfl, fun _ => (Below.refl _ _), nofun, nofun, nofun⟩
                                        · refine ⟨?_, ?_, ?_, ?_, ?_, ?_, ?_, ?_, ?_, trivial⟩
                                          · rintro L T u hd hk hcl ⟨aN, cN, bA, hb, p0, p1, p2, p3, p4, p5, p7, p8, q23, c1, c2, pa6, bv6⟩ K hK
                                            simp only [fr, Act.put, List.setIfInBounds_toArray, List.set_cons_zero, List.set_cons_succ, updO] at hK ⊢
                                            simp [Region.binds] at hd
                                            have k8 := hcl 8 _ rfl
                                            simp [Region.binds] at k8
                                            have k7 := hcl 7 _ rfl
                                            simp [Region.binds] at k7
                                            have hF8 : L 8 = false := by cases h : L 8 with | false => rfl | true => have a8 := k8 h; have a7 := k7 (by simp [a8]); simp [hk] at a7
                                            have gq23 := q23 hF8
                                            rw [if_pos (by rfl)]
                                            simp only [Oper.wpv]
                                            go_simp
                                            exact hK _ _ ⟨aN, cN, bA, hb, fun _ => rfl, p1, p2, p3, p4, p5, p7, p8, q23, c1, c2, pa6, bv6⟩
                                          · rintro L T u hd hk hcl ⟨aN, cN, bA, hb, p0, p1, p2, p3, p4, p5, p7, p8, q23, c1, c2, pa6, bv6⟩ K hK
                                            simp only [fr, Act.put, List.setIfInBounds_toArray, List.set_cons_zero, List.set_cons_succ, updO] at hK ⊢
                                            simp [Region.binds] at hd
                                            rw [if_pos (by rfl)]
                                            simp only [Oper.wpv]
                                            go_simp
                                            exact hK _ _ ⟨aN, cN, bA, hb, p0, fun _ => rfl, p2, p3, p4, p5, p7, p8, q23, c1, c2, pa6, bv6⟩
                                          · rintro L T u hd hk hcl ⟨aN, cN, bA, hb, p0, p1, p2, p3, p4, p5, p7, p8, q23, c1, c2, pa6, bv6⟩ K hK
                                            simp only [fr, Act.put, List.setIfInBounds_toArray, List.set_cons_zero, List.set_cons_succ, updO] at hK ⊢
                                            simp [Region.binds] at hd
                                            have g1 := p1 (by simp [hd])
                                            have k7 := hcl 7 _ rfl
                                            simp [Region.binds] at k7
                                            have k6 := hcl 6 _ rfl
                                            simp [Region.binds] at k6
                                            have k5 := hcl 5 _ rfl
                                            simp [Region.binds] at k5
                                            have k4 := hcl 4 _ rfl
                                            simp [Region.binds] at k4
                                            have hE : L 7 = false := by cases h : L 7 with | false => rfl | true => have a7 := k7 h; have a6 := k6 (by simp [a7]); have a5 := k5 (by simp [a6]); have a4 := k4 (by simp [a5]); simp [hk] at a4
                                            obtain ⟨d1, y0, y1, y2, y3, y4, y5, zb, dz⟩ := KY.out u (c1 hE)
                                            rw [if_pos (by rfl)]
                                            simp only [Oper.wpv]
                                            go_simp
                                            exact hK _ _ ⟨aN, cN, bA, hb, p0, p1, fun _ => rfl, p3, p4, p5, p7, p8, q23, c1, c2, pa6, bv6⟩
                                          · rintro L T u hd hk hcl ⟨aN, cN, bA, hb, p0, p1, p2, p3, p4, p5, p7, p8, q23, c1, c2, pa6, bv6⟩ K hK
                                            simp only [fr, Act.put, List.setIfInBounds_toArray, List.set_cons_zero, List.set_cons_succ, updO] at hK ⊢
                                            simp [Region.binds] at hd
                                            rw [if_pos (by rfl)]
                                            simp only [Oper.wpv]
                                            go_simp
                                            exact hK _ _ ⟨aN, cN, bA, hb, p0, p1, p2, fun _ => rfl, p4, p5, p7, p8, q23, c1, c2, pa6, bv6⟩
                                          · rintro L T u hd hk hcl ⟨aN, cN, bA, hb, p0, p1, p2, p3, p4, p5, p7, p8, q23, c1, c2, pa6, bv6⟩ K hK
                                            simp only [fr, Act.put, List.setIfInBounds_toArray, List.set_cons_zero, List.set_cons_succ, updO] at hK ⊢
                                            simp [Region.binds] at hd
                                            have g2 := p2 (by simp [hd])
                                            have g3 := p3 (by simp [hd])
                                            rw [if_pos (by rfl)]
                                            simp only [Oper.wpv]
                                            go_simp
                                            exact hK _ _ ⟨aN, cN, bA, hb, p0, p1, p2, p3, fun _ => rfl, p5, p7, p8, q23, c1, c2, pa6, bv6⟩
                                          · rintro L T u hd hk hcl ⟨aN, cN, bA, hb, p0, p1, p2, p3, p4, p5, p7, p8, q23, c1, c2, pa6, bv6⟩ K hK
                                            simp only [fr, Act.put, List.setIfInBounds_toArray, List.set_cons_zero, List.set_cons_succ, updO] at hK ⊢
                                            simp [Region.binds] at hd
                                            have g4 := p4 (by simp [hd])
                                            have k7 := hcl 7 _ rfl
                                            simp [Region.binds] at k7
                                            have k6 := hcl 6 _ rfl
                                            simp [Region.binds] at k6
                                            have hE : L 7 = false := by cases h : L 7 with | false => rfl | true => have a7 := k7 h; have a6 := k6 (by simp [a7]); simp [hk] at a6
                                            obtain ⟨d1, y0, y1, y2, y3, y4, y5, zb, dz⟩ := KY.out u (c1 hE)
                                            rw [if_pos (by rfl)]
                                            simp only [Oper.wpv]
                                            go_simp
                                            exact hK _ _ ⟨aN, cN, bA, hb, p0, p1, p2, p3, p4, fun _ => rfl, p7, p8, q23, c1, c2, pa6, bv6⟩
                                          · rintro L T u hd hk hcl ⟨aN, cN, bA, hb, p0, p1, p2, p3, p4, p5, p7, p8, q23, c1, c2, pa6, bv6⟩ K hK
                                            simp only [fr, Act.put, List.setIfInBounds_toArray, List.set_cons_zero, List.set_cons_succ, updO] at hK ⊢
                                            simp [Region.binds] at hd
                                            have k7 := hcl 7 _ rfl
                                            simp [Region.binds] at k7
                                            have hE : L 7 = false := by cases h : L 7 with | false => rfl | true => have a7 := k7 h; simp [hk] at a7
                                            have g5 := p5 (by simp [hd])
                                            have k8 := hcl 8 _ rfl
                                            simp [Region.binds] at k8
                                            have hg : Below u.heap.size u (u.alloc (.cells #[.int .i64 jn, .int .i64 jst, .slice jta jtl jtc, .slice jaa jal jac, .int .i64 jasks, .int .i64 jage] 64)) := (Below.refl _ _).alloc (Nat.le_refl _) _
                                            rw [if_pos (by rfl)]
                                            simp only [Oper.wpv]
                                            refine wpv_job (.tmp 240) (by rfl) g5 ?_
                                            exact hK _ _ ⟨aN, cN, u.heap.size, hb, p0, p1, p2, p3, p4, p5, p7, p8, q23, fun _ => nT (c1 hE) hg, fun h => absurd (show L 7 = true from h) (by simp [hE]), fun _ _ => ⟨rfl, (c1 hE).size, by simp⟩, fun _ _ => jobCell1 u ⟨jn, jst, jta, jtl, jtc, jaa, jal, jac, jasks, jage, jtasks, jasked⟩ _ rfl⟩
                                          · rintro L T u hd hk hcl ⟨aN, cN, bA, hb, p0, p1, p2, p3, p4, p5, p7, p8, q23, c1, c2, pa6, bv6⟩ K hK
                                            simp only [fr, Act.put, List.setIfInBounds_toArray, List.set_cons_zero, List.set_cons_succ, updO] at hK ⊢
                                            simp [Region.binds] at hd
                                            have hE : L 7 = false := hk
                                            have g0 := p0 (by simp [hd])
                                            have g6 := pa6 (by simp [hd]) hE
                                            have k8 := hcl 8 _ rfl
                                            simp [Region.binds] at k8
                                            have hrw := bv6 (by simp [hd]) hE
                                            have hOw := own_below HOr.out (c1 hE)
                                            have hBu := HBo.out.trans ((c1 hE).mono HBo.out.size)
                                            rw [if_pos (by rfl)]
                                            simp only [Oper.wpv]
                                            refine St.wpv_append_row EJ (.tmp 235) (.tmp 241) (by rfl) U0.heap.size (.slice a6 (LN + 1) c6) (LN + 1) (AL ++ [x]) g0 hOw (some ⟨bA, 0, none⟩) 1 1 [(⟨jn, jst, jta, jtl, jtc, jaa, jal, jac, jasks, jage, jtasks, jasked⟩ : JbV)] (g6.1) hrw (by unfold maxLen; omega) (by exact HLr.out) hBu.size ?_
                                            intro aM cM u6 own6 gr6 at6
                                            have hu6 : Below U0.heap.size U0 u6 := hBu.grown gr6 hBu.size (fun q hq => (hOw.lt q hq).1)
                                            exact hK _ _ ⟨aM, cM, bA, hb, p0, p1, p2, p3, p4, p5, fun _ => rfl, fun h => absurd (show L 8 = true from h) (by intro hh; have a8 := k8 hh; simp [hk] at a8), q23, fun h0 => Bool.noConfusion (show true = false from h0), fun _ => ⟨own6, hu6⟩, fun h0 h1 => Bool.noConfusion (show true = false from h1), fun h0 h1 => Bool.noConfusion (show true = false from h1)⟩
                                          · rintro L T u hd hk hcl ⟨aN, cN, bA, hb, p0, p1, p2, p3, p4, p5, p7, p8, q23, c1, c2, pa6, bv6⟩ K hK
                                            simp only [fr, Act.put, List.setIfInBounds_toArray, List.set_cons_zero, List.set_cons_succ, updO] at hK ⊢
                                            simp [Region.binds] at hd
                                            have g7 := p7 (by simp [hd])
                                            rw [if_pos (by rfl)]
                                            simp only [Oper.wpv]
                                            go_simp
                                            exact hK _ _ ⟨aN, cN, bA, hb, p0, p1, p2, p3, p4, p5, p7, fun _ => rfl, fun h => Bool.noConfusion (show true = false from h), c1, c2, pa6, bv6⟩
                                        · rintro L T u hl ⟨aN, cN, bA, hb, p0, p1, p2, p3, p4, p5, p7, p8, q23, c1, c2, pa6, bv6⟩
                                          simp only [fr, Act.put, List.setIfInBounds_toArray, List.set_cons_zero, List.set_cons_succ]
                                          have h23 := p8 (hl 8 (by decide))
                                          obtain ⟨own7, hb2⟩ := c2 (hl 7 (by decide))
                                          clear p0 p1 p2 p3 p4 p5 p7 p8 q23 c1 c2 pa6 bv6 hl HOr HBo HLr KY nT
                                          rw [h23]
                                          clear h23
                                          obtain ⟨w7, ew7⟩ : ∃ X : World, X = u := ⟨_, rfl⟩
                                          subst ew7
                                          obtain ⟨a7, ea7⟩ : ∃ x : Option Addr, x = aN := ⟨_, rfl⟩
                                          subst ea7
                                          obtain ⟨c7, ec7⟩ : ∃ x : Nat, x = cN := ⟨_, rfl⟩
                                          subst ec7
                                          have HB7 : Hid (Below U0.heap.size U0 w7) := hb2
                                          clear hb2
                                          have hfin := HPt.out rfl hb1
                                          have HL7 : Hid ((insA x js (k9 + 1)).length = LN + 1 + 1) := by show _ = _; rw [hfin.2, HLN.out]; simp
                                          have HO7 : Hid (w7.ownsRow U0.heap.size 64 6 (.slice a7 (insA x js (k9 + 1)).length c7) (insA x js (k9 + 1)).length (flat JbV.cells (insA x js (k9 + 1)))) := by show World.ownsRow _ _ _ _ _ _ _; rw [HL7.out, hfin.2]; exact own7
                                          have HA7 : Hid (abv x js (k9 + 1) = true) := hfin.1
                                          clear hfin own7 HPt HOn
                                          go_wp2
                                          go_roundw
                                          case rel => exact ⟨k9 + 1, a7, c7, by go_num, by omega, by rw [HA7.out], by rw [HL7.out], HO7, HB7⟩
                                          case measure => simp [intOf]; omega
                                    | true => as_aux_lemma =>
                                      go_upto_region 44 with (fail)
                                      go_quiet (fail)
                                      have bQ := below_drewN (Below.refl wr.heap.size wr) nq
                                      obtain ⟨Z, eZ⟩ : ∃ Z : World, Z = wr.drewN nq := ⟨_, rfl⟩
                                      rw [← eZ] at bQ ⊢
                                      clear eZ x0 x1 x2 x3 x4 x5 xz d0 d1 e0 e1 dz
                                      obtain ⟨hRZ, hXZ, hownZ, hBZ⟩ := KZ.out Z bQ
                                      have HBZ : Hid (Below U0.heap.size U0 Z) := hBZ
                                      have y0 := (bQ.cell (p := ⟨b9, off9 + k9 * 6, none⟩) zb).trans y0
                                      have y1 := (bQ.cell (p := ⟨b9, off9 + k9 * 6 + 1, none⟩) zb).trans y1
                                      have y2 := (bQ.cell (p := ⟨b9, off9 + k9 * 6 + 2, none⟩) zb).trans y2
                                      have y3 := (bQ.cell (p := ⟨b9, off9 + k9 * 6 + 3, none⟩) zb).trans y3
                                      have y4 := (bQ.cell (p := ⟨b9, off9 + k9 * 6 + 4, none⟩) zb).trans y4
                                      have y5 := (bQ.cell (p := ⟨b9, off9 + k9 * 6 + 5, none⟩) zb).trans y5
                                      have zb : b9 < Z.heap.size := Nat.lt_of_lt_of_le zb bQ.size
                                      have d1 : Z.cell? ⟨B + 1, 1, none⟩ = some (.slice (some ⟨b9, off9, none⟩) js.length jc) := (hRZ.bd.c 1 (by decide)).1
                                      have dz := hRZ.bd.lt
                                      have HRZ : Hid (RS B Z st next (some ⟨b9, off9, none⟩) jc js na nc ns) := hRZ
                                      have HXZ : Hid (BoxN Z A 6 [.int .i64 num, .int .i64 3, .slice none 0 0, .slice a9 sl c9, .int .i64 0, .int .i64 0]) := hXZ
                                      clear KZ hBZ bQ hRZ hXZ
                                      have HOr : Hid (Z.ownsRow U0.heap.size 64 6 (.slice a5 LN c5) LN (flat JbV.cells AL)) := hownZ
                                      have HBo : Hid (Below U0.heap.size U0 Z) := HBZ.out
                                      have HLr : Hid ((LN + 1) * 80 ≤ 140737488355328) := by show (LN + 1) * 80 ≤ _; omega
                                      have nT : ∀ {u v z : World}, Below u.heap.size u v → Below v.heap.size v z → Below u.heap.size u z := fun h k => h.trans (k.mono h.size)
                                      go_upto_region 47 with (fail)
                                      have KY : Hid (∀ Q, Below Z.heap.size Z Q → Q.cell? ⟨B + 1, 1, none⟩ = some (.slice (some ⟨b9, off9, none⟩) js.length jc) ∧ Q.cell? ⟨b9, off9 + k9 * 6, none⟩ = some (.int .i64 jn) ∧ Q.cell? ⟨b9, off9 + k9 * 6 + 1, none⟩ = some (.int .i64 jst) ∧ Q.cell? ⟨b9, off9 + k9 * 6 + 2, none⟩ = some (.slice jta jtl jtc) ∧ Q.cell? ⟨b9, off9 + k9 * 6 + 3, none⟩ = some (.slice jaa jal jac) ∧ Q.cell? ⟨b9, off9 + k9 * 6 + 4, none⟩ = some (.int .i64 jasks) ∧ Q.cell? ⟨b9, off9 + k9 * 6 + 5, none⟩ = some (.int .i64 jage) ∧ b9 < Q.heap.size ∧ B + 1 < Q.heap.size) := fun Q hQ => ⟨(hQ.cell (p := ⟨B + 1, 1, none⟩) dz).trans d1, (hQ.cell (p := ⟨b9, off9 + k9 * 6, none⟩) zb).trans y0, (hQ.cell (p := ⟨b9, off9 + k9 * 6 + 1, none⟩) zb).trans y1, (hQ.cell (p := ⟨b9, off9 + k9 * 6 + 2, none⟩) zb).trans y2, (hQ.cell (p := ⟨b9, off9 + k9 * 6 + 3, none⟩) zb).trans y3, (hQ.cell (p := ⟨b9, off9 + k9 * 6 + 4, none⟩) zb).trans y4, (hQ.cell (p := ⟨b9, off9 + k9 * 6 + 5, none⟩) zb).trans y5, Nat.lt_of_lt_of_le zb hQ.size, Nat.lt_of_lt_of_le dz hQ.size⟩
                                      clear d1 dz zb y0 y1 y2 y3 y4 y5
                                      refine wp_region_seq [235, 236, 237, 238, 239, 240, 241, 242, 23] (fun L T u => ∃ (aN : Option Addr) (cN : Nat) (bA : Nat), True ∧ (L 0 = true → T 235 = .slice a5 LN c5) ∧ (L 1 = true → T 236 = .pointer (some ⟨B + 1, 1, none⟩)) ∧ (L 2 = true → T 237 = .slice (some ⟨b9, off9, none⟩) js.length jc) ∧ (L 3 = true → T 238 = .int .i64 (k9 : Int)) ∧ (L 4 = true → T 239 = .pointer (some ⟨b9, off9 + k9 * 6, none⟩)) ∧ (L 5 = true → T 240 = .agg #[.int .i64 jn, .int .i64 jst, .slice jta jtl jtc, .slice jaa jal jac, .int .i64 jasks, .int .i64 jage]) ∧ (L 7 = true → T 242 = .slice aN (LN + 1) cN) ∧ (L 8 = true → T 23 = .slice aN (LN + 1) cN) ∧ (L 8 = false → T 23 = .slice a5 LN c5) ∧ (L 7 = false → Below Z.heap.size Z u) ∧ (L 7 = true → (u.ownsRow U0.heap.size 64 6 (.slice aN (LN + 1) cN) (LN + 1) (flat JbV.cells (AL ++ [(⟨jn, jst, jta, jtl, jtc, jaa, jal, jac, jasks, jage, jtasks, jasked⟩ : JbV)])) ∧ Below U0.heap.size U0 u)) ∧ (L 6 = true → L 7 = false → (T 241 = .slice (some ⟨bA, 0, none⟩) 1 1 ∧ Z.heap.size ≤ bA ∧ bA < u.heap.size)) ∧ (L 6 = true → L 7 = false → IsRow 6 JbV.cells u (some ⟨bA, 0, none⟩) 1 1 [(⟨jn, jst, jta, jtl, jtc, jaa, jal, jac, jasks, jage, jtasks, jasked⟩ : JbV)])) (by decide) (by kernel_rfl) (by kernel_rfl) ?_ ?_ ?_
                                      · exact ⟨none, 0, 0, trivial, nofun, nofun, nofun, nofun, nofun, nofun, nofun, nofun, fun _ => rfl, fun _ => (Below.refl _ _), nofun, nofun, nofun⟩
                                      · refine ⟨?_, ?_, ?_, ?_, ?_, ?_, ?_, ?_, ?_, trivial⟩
                                        · rintro L T u hd hk hcl ⟨aN, cN, bA, hb, p0, p1, p2, p3, p4, p5, p7, p8, q23, c1, c2, pa6, bv6⟩ K hK
                                          simp only [fr, Act.put, List.setIfInBounds_toArray, List.set_cons_zero, List.set_cons_succ, updO] at hK ⊢
                                          simp [Region.binds] at hd
                                          have k8 := hcl 8 _ rfl
                                          simp [Region.binds] at k8
                                          have k7 := hcl 7 _ rfl
                                          simp [Region.binds] at k7
                                          have hF8 : L 8 = false := by cases h : L 8 with | false => rfl | true => have a8 := k8 h; have a7 := k7 (by simp [a8]); simp [hk] at a7
                                          have gq23 := q23 hF8
                                          rw [if_pos (by rfl)]
                                          simp only [Oper.wpv]
                                          go_simp
                                          exact hK _ _ ⟨aN, cN, bA, hb, fun _ => rfl, p1, p2, p3, p4, p5, p7, p8, q23, c1, c2, pa6, bv6⟩
                                        · rintro L T u hd hk hcl ⟨aN, cN, bA, hb, p0, p1, p2, p3, p4, p5, p7, p8, q23, c1, c2, pa6, bv6⟩ K hK
                                          simp only [fr, Act.put, List.setIfInBounds_toArray, List.set_cons_zero, List.set_cons_succ, updO] at hK ⊢
                                          simp [Region.binds] at hd
                                          rw [if_pos (by rfl)]
                                          simp only [Oper.wpv]
                                          go_simp
                                          exact hK _ _ ⟨aN, cN, bA, hb, p0, fun _ => rfl, p2, p3, p4, p5, p7, p8, q23, c1, c2, pa6, bv6⟩
                                        · rintro L T u hd hk hcl ⟨aN, cN, bA, hb, p0, p1, p2, p3, p4, p5, p7, p8, q23, c1, c2, pa6, bv6⟩ K hK
                                          simp only [fr, Act.put, List.setIfInBounds_toArray, List.set_cons_zero, List.set_cons_succ, updO] at hK ⊢
                                          simp [Region.binds] at hd
                                          have g1 := p1 (by simp [hd])
                                          have k7 := hcl 7 _ rfl
                                          simp [Region.binds] at k7
                                          have k6 := hcl 6 _ rfl
                                          simp [Region.binds] at k6
                                          have k5 := hcl 5 _ rfl
                                          simp [Region.binds] at k5
                                          have k4 := hcl 4 _ rfl
                                          simp [Region.binds] at k4
                                          have hE : L 7 = false := by cases h : L 7 with | false => rfl | true => have a7 := k7 h; have a6 := k6 (by simp [a7]); have a5 := k5 (by simp [a6]); have a4 := k4 (by simp [a5]); simp [hk] at a4
                                          obtain ⟨d1, y0, y1, y2, y3, y4, y5, zb, dz⟩ := KY.out u (c1 hE)
                                          rw [if_pos (by rfl)]
                                          simp only [Oper.wpv]
                                          go_simp
                                          exact hK _ _ ⟨aN, cN, bA, hb, p0, p1, fun _ => rfl, p3, p4, p5, p7, p8, q23, c1, c2, pa6, bv6⟩
                                        · rintro L T u hd hk hcl ⟨aN, cN, bA, hb, p0, p1, p2, p3, p4, p5, p7, p8, q23, c1, c2, pa6, bv6⟩ K hK
                                          simp only [fr, Act.put, List.setIfInBounds_toArray, List.set_cons_zero, List.set_cons_succ, updO] at hK ⊢
                                          simp [Region.binds] at hd
                                          rw [if_pos (by rfl)]
                                          simp only [Oper.wpv]
                                          go_simp
                                          exact hK _ _ ⟨aN, cN, bA, hb, p0, p1, p2, fun _ => rfl, p4, p5, p7, p8, q23, c1, c2, pa6, bv6⟩
                                        · rintro L T u hd hk hcl ⟨aN, cN, bA, hb, p0, p1, p2, p3, p4, p5, p7, p8, q23, c1, c2, pa6, bv6⟩ K hK
                                          simp only [fr, Act.put, List.setIfInBounds_toArray, List.set_cons_zero, List.set_cons_succ, updO] at hK ⊢
                                          simp [Region.binds] at hd
                                          have g2 := p2 (by simp [hd])
                                          have g3 := p3 (by simp [hd])
                                          rw [if_pos (by rfl)]
                                          simp only [Oper.wpv]
                                          go_simp
                                          exact hK _ _ ⟨aN, cN, bA, hb, p0, p1, p2, p3, fun _ => rfl, p5, p7, p8, q23, c1, c2, pa6, bv6⟩
                                        · rintro L T u hd hk hcl ⟨aN, cN, bA, hb, p0, p1, p2, p3, p4, p5, p7, p8, q23, c1, c2, pa6, bv6⟩ K hK
                                          simp only [fr, Act.put, List.setIfInBounds_toArray, List.set_cons_zero, List.set_cons_succ, updO] at hK ⊢
                                          simp [Region.binds] at hd
                                          have g4 := p4 (by simp [hd])
                                          have k7 := hcl 7 _ rfl
                                          simp [Region.binds] at k7
                                          have k6 := hcl 6 _ rfl
                                          simp [Region.binds] at k6
                                          have hE : L 7 = false := by cases h : L 7 with | false => rfl | true => have a7 := k7 h; have a6 := k6 (by simp [a7]); simp [hk] at a6
                                          obtain ⟨d1, y0, y1, y2, y3, y4, y5, zb, dz⟩ := KY.out u (c1 hE)
                                          rw [if_pos (by rfl)]
                                          simp only [Oper.wpv]
                                          go_simp
                                          exact hK _ _ ⟨aN, cN, bA, hb, p0, p1, p2, p3, p4, fun _ => rfl, p7, p8, q23, c1, c2, pa6, bv6⟩
                                        · rintro L T u hd hk hcl ⟨aN, cN, bA, hb, p0, p1, p2, p3, p4, p5, p7, p8, q23, c1, c2, pa6, bv6⟩ K hK
                                          simp only [fr, Act.put, List.setIfInBounds_toArray, List.set_cons_zero, List.set_cons_succ, updO] at hK ⊢
                                          simp [Region.binds] at hd
                                          have k7 := hcl 7 _ rfl
                                          simp [Region.binds] at k7
                                          have hE : L 7 = false := by cases h : L 7 with | false => rfl | true => have a7 := k7 h; simp [hk] at a7
                                          have g5 := p5 (by simp [hd])
                                          have k8 := hcl 8 _ rfl
                                          simp [Region.binds] at k8
                                          have hg : Below u.heap.size u (u.alloc (.cells #[.int .i64 jn, .int .i64 jst, .slice jta jtl jtc, .slice jaa jal jac, .int .i64 jasks, .int .i64 jage] 64)) := (Below.refl _ _).alloc (Nat.le_refl _) _
                                          rw [if_pos (by rfl)]
                                          simp only [Oper.wpv]
                                          refine wpv_job (.tmp 240) (by rfl) g5 ?_
                                          exact hK _ _ ⟨aN, cN, u.heap.size, hb, p0, p1, p2, p3, p4, p5, p7, p8, q23, fun _ => nT (c1 hE) hg, fun h => absurd (show L 7 = true from h) (by simp [hE]), fun _ _ => ⟨rfl, (c1 hE).size, by simp⟩, fun _ _ => jobCell1 u ⟨jn, jst, jta, jtl, jtc, jaa, jal, jac, jasks, jage, jtasks, jasked⟩ _ rfl⟩
                                        · rintro L T u hd hk hcl ⟨aN, cN, bA, hb, p0, p1, p2, p3, p4, p5, p7, p8, q23, c1, c2, pa6, bv6⟩ K hK
                                          simp only [fr, Act.put, List.setIfInBounds_toArray, List.set_cons_zero, List.set_cons_succ, updO] at hK ⊢
                                          simp [Region.binds] at hd
                                          have hE : L 7 = false := hk
                                          have g0 := p0 (by simp [hd])
                                          have g6 := pa6 (by simp [hd]) hE
                                          have k8 := hcl 8 _ rfl
                                          simp [Region.binds] at k8
                                          have hrw := bv6 (by simp [hd]) hE
                                          have hOw := own_below HOr.out (c1 hE)
                                          have hBu := HBo.out.trans ((c1 hE).mono HBo.out.size)
                                          rw [if_pos (by rfl)]
                                          simp only [Oper.wpv]
                                          refine St.wpv_append_row EJ (.tmp 235) (.tmp 241) (by rfl) U0.heap.size (.slice a5 LN c5) LN AL g0 hOw (some ⟨bA, 0, none⟩) 1 1 [(⟨jn, jst, jta, jtl, jtc, jaa, jal, jac, jasks, jage, jtasks, jasked⟩ : JbV)] (g6.1) hrw (by unfold maxLen; omega) (by exact HLr.out) hBu.size ?_
                                          intro aM cM u6 own6 gr6 at6
                                          have hu6 : Below U0.heap.size U0 u6 := hBu.grown gr6 hBu.size (fun q hq => (hOw.lt q hq).1)
                                          exact hK _ _ ⟨aM, cM, bA, hb, p0, p1, p2, p3, p4, p5, fun _ => rfl, fun h => absurd (show L 8 = true from h) (by intro hh; have a8 := k8 hh; simp [hk] at a8), q23, fun h0 => Bool.noConfusion (show true = false from h0), fun _ => ⟨own6, hu6⟩, fun h0 h1 => Bool.noConfusion (show true = false from h1), fun h0 h1 => Bool.noConfusion (show true = false from h1)⟩
                                        · rintro L T u hd hk hcl ⟨aN, cN, bA, hb, p0, p1, p2, p3, p4, p5, p7, p8, q23, c1, c2, pa6, bv6⟩ K hK
                                          simp only [fr, Act.put, List.setIfInBounds_toArray, List.set_cons_zero, List.set_cons_succ, updO] at hK ⊢
                                          simp [Region.binds] at hd
                                          have g7 := p7 (by simp [hd])
                                          rw [if_pos (by rfl)]
                                          simp only [Oper.wpv]
                                          go_simp
                                          exact hK _ _ ⟨aN, cN, bA, hb, p0, p1, p2, p3, p4, p5, p7, fun _ => rfl, fun h => Bool.noConfusion (show true = false from h), c1, c2, pa6, bv6⟩
                                      · rintro L T u hl ⟨aN, cN, bA, hb, p0, p1, p2, p3, p4, p5, p7, p8, q23, c1, c2, pa6, bv6⟩
                                        simp only [fr, Act.put, List.setIfInBounds_toArray, List.set_cons_zero, List.set_cons_succ]
                                        have h23 := p8 (hl 8 (by decide))
                                        obtain ⟨own7, hb2⟩ := c2 (hl 7 (by decide))
                                        clear p0 p1 p2 p3 p4 p5 p7 p8 q23 c1 c2 pa6 bv6 hl HOr HBo HLr KY nT
                                        rw [h23]
                                        clear h23
                                        obtain ⟨w7, ew7⟩ : ∃ X : World, X = u := ⟨_, rfl⟩
                                        subst ew7
                                        obtain ⟨a7, ea7⟩ : ∃ x : Option Addr, x = aN := ⟨_, rfl⟩
                                        subst ea7
                                        obtain ⟨c7, ec7⟩ : ∃ x : Nat, x = cN := ⟨_, rfl⟩
                                        subst ec7
                                        have HB7 : Hid (Below U0.heap.size U0 w7) := hb2
                                        clear hb2
                                        clear HRZ HXZ hownZ HBZ
                                        have hfin := HOn.out (Or.inl rfl)
                                        have HL7 : Hid ((insA x js (k9 + 1)).length = LN + 1) := by show _ = _; rw [hfin.2, HLN.out]; simp
                                        have HO7 : Hid (w7.ownsRow U0.heap.size 64 6 (.slice a7 (insA x js (k9 + 1)).length c7) (insA x js (k9 + 1)).length (flat JbV.cells (insA x js (k9 + 1)))) := by show World.ownsRow _ _ _ _ _ _ _; rw [HL7.out, hfin.2]; exact own7
                                        have HA7 : Hid (abv x js (k9 + 1) = _) := hfin.1
                                        clear hfin own7 HPt HOn
                                        go_wp2
                                        go_roundw
                                        case rel => exact ⟨k9 + 1, a7, c7, by go_num, by omega, by rw [HA7.out], by rw [HL7.out], HO7, HB7⟩
                                        case measure => simp [intOf]; omega
                                  · cases AV with
                                    | false => as_aux_lemma =>
                                      go_upto_region 44 with (fail)
                                      go_quiet (fail)
                                      have bQ := below_drewN (Below.refl wr.heap.size wr) nq
                                      obtain ⟨Z, eZ⟩ : ∃ Z : World, Z = wr.drewN nq := ⟨_, rfl⟩
                                      rw [← eZ] at bQ ⊢
                                      clear eZ x0 x1 x2 x3 x4 x5 xz d0 d1 e0 e1 dz
                                      obtain ⟨hRZ, hXZ, hownZ, hBZ⟩ := KZ.out Z bQ
                                      have HBZ : Hid (Below U0.heap.size U0 Z) := hBZ
                                      have y0 := (bQ.cell (p := ⟨b9, off9 + k9 * 6, none⟩) zb).trans y0
                                      have y1 := (bQ.cell (p := ⟨b9, off9 + k9 * 6 + 1, none⟩) zb).trans y1
                                      have y2 := (bQ.cell (p := ⟨b9, off9 + k9 * 6 + 2, none⟩) zb).trans y2
                                      have y3 := (bQ.cell (p := ⟨b9, off9 + k9 * 6 + 3, none⟩) zb).trans y3
                                      have y4 := (bQ.cell (p := ⟨b9, off9 + k9 * 6 + 4, none⟩) zb).trans y4
                                      have y5 := (bQ.cell (p := ⟨b9, off9 + k9 * 6 + 5, none⟩) zb).trans y5
                                      have zb : b9 < Z.heap.size := Nat.lt_of_lt_of_le zb bQ.size
                                      have d1 : Z.cell? ⟨B + 1, 1, none⟩ = some (.slice (some ⟨b9, off9, none⟩) js.length jc) := (hRZ.bd.c 1 (by decide)).1
                                      have dz := hRZ.bd.lt
                                      have HRZ : Hid (RS B Z st next (some ⟨b9, off9, none⟩) jc js na nc ns) := hRZ
                                      have HXZ : Hid (BoxN Z A 6 [.int .i64 num, .int .i64 3, .slice none 0 0, .slice a9 sl c9, .int .i64 0, .int .i64 0]) := hXZ
                                      clear KZ hBZ bQ hRZ hXZ
                                      have HOr : Hid (Z.ownsRow U0.heap.size 64 6 (.slice a5 LN c5) LN (flat JbV.cells AL)) := hownZ
                                      have HBo : Hid (Below U0.heap.size U0 Z) := HBZ.out
                                      have HLr : Hid ((LN + 1) * 80 ≤ 140737488355328) := by show (LN + 1) * 80 ≤ _; omega
                                      have nT : ∀ {u v z : World}, Below u.heap.size u v → Below v.heap.size v z → Below u.heap.size u z := fun h k => h.trans (k.mono h.size)
                                      go_upto_region 47 with (fail)
                                      have KY : Hid (∀ Q, Below Z.heap.size Z Q → Q.cell? ⟨B + 1, 1, none⟩ = some (.slice (some ⟨b9, off9, none⟩) js.length jc) ∧ Q.cell? ⟨b9, off9 + k9 * 6, none⟩ = some (.int .i64 jn) ∧ Q.cell? ⟨b9, off9 + k9 * 6 + 1, none⟩ = some (.int .i64 jst) ∧ Q.cell? ⟨b9, off9 + k9 * 6 + 2, none⟩ = some (.slice jta jtl jtc) ∧ Q.cell? ⟨b9, off9 + k9 * 6 + 3, none⟩ = some (.slice jaa jal jac) ∧ Q.cell? ⟨b9, off9 + k9 * 6 + 4, none⟩ = some (.int .i64 jasks) ∧ Q.cell? ⟨b9, off9 + k9 * 6 + 5, none⟩ = some (.int .i64 jage) ∧ b9 < Q.heap.size ∧ B + 1 < Q.heap.size) := fun Q hQ => ⟨(hQ.cell (p := ⟨B + 1, 1, none⟩) dz).trans d1, (hQ.cell (p := ⟨b9, off9 + k9 * 6, none⟩) zb).trans y0, (hQ.cell (p := ⟨b9, off9 + k9 * 6 + 1, none⟩) zb).trans y1, (hQ.cell (p := ⟨b9, off9 + k9 * 6 + 2, none⟩) zb).trans y2, (hQ.cell (p := ⟨b9, off9 + k9 * 6 + 3, none⟩) zb).trans y3, (hQ.cell (p := ⟨b9, off9 + k9 * 6 + 4, none⟩) zb).trans y4, (hQ.cell (p := ⟨b9, off9 + k9 * 6 + 5, none⟩) zb).trans y5, Nat.lt_of_lt_of_le zb hQ.size, Nat.lt_of_lt_of_le dz hQ.size⟩
                                      clear d1 dz zb y0 y1 y2 y3 y4 y5
                                      refine wp_region_seq [235, 236, 237, 238, 239, 240, 241, 242, 23] (fun L T u => ∃ (aN : Option Addr) (cN : Nat) (bA : Nat), True ∧ (L 0 = true → T 235 = .slice a5 LN c5) ∧ (L 1 = true → T 236 = .pointer (some ⟨B + 1, 1, none⟩)) ∧ (L 2 = true → T 237 = .slice (some ⟨b9, off9, none⟩) js.length jc) ∧ (L 3 = true → T 238 = .int .i64 (k9 : Int)) ∧ (L 4 = true → T 239 = .pointer (some ⟨b9, off9 + k9 * 6, none⟩)) ∧ (L 5 = true → T 240 = .agg #[.int .i64 jn, .int .i64 jst, .slice jta jtl jtc, .slice jaa jal jac, .int .i64 jasks, .int .i64 jage]) ∧ (L 7 = true → T 242 = .slice aN (LN + 1) cN) ∧ (L 8 = true → T 23 = .slice aN (LN + 1) cN) ∧ (L 8 = false → T 23 = .slice a5 LN c5) ∧ (L 7 = false → Below Z.heap.size Z u) ∧ (L 7 = true → (u.ownsRow U0.heap.size 64 6 (.slice aN (LN + 1) cN) (LN + 1) (flat JbV.cells (AL ++ [(⟨jn, jst, jta, jtl, jtc, jaa, jal, jac, jasks, jage, jtasks, jasked⟩ : JbV)])) ∧ Below U0.heap.size U0 u)) ∧ (L 6 = true → L 7 = false → (T 241 = .slice (some ⟨bA, 0, none⟩) 1 1 ∧ Z.heap.size ≤ bA ∧ bA < u.heap.size)) ∧ (L 6 = true → L 7 = false → IsRow 6 JbV.cells u (some ⟨bA, 0, none⟩) 1 1 [(⟨jn, jst, jta, jtl, jtc, jaa, jal, jac, jasks, jage, jtasks, jasked⟩ : JbV)])) (by decide) (by kernel_rfl) (by kernel_rfl) ?_ ?_ ?_
                                      · exact ⟨none, 0, 0, trivial, nofun, nofun, nofun, nofun, nofun, nofun, nofun, nofun, fun _ => rfl, fun _ => (Below.refl _ _), nofun, nofun, nofun⟩
                                      · refine ⟨?_, ?_, ?_, ?_, ?_, ?_, ?_, ?_, ?_, trivial⟩
                                        · rintro L T u hd hk hcl ⟨aN, cN, bA, hb, p0, p1, p2, p3, p4, p5, p7, p8, q23, c1, c2, pa6, bv6⟩ K hK
                                          simp only [fr, Act.put, List.setIfInBounds_toArray, List.set_cons_zero, List.set_cons_succ, updO] at hK ⊢
                                          simp [Region.binds] at hd
                                          have k8 := hcl 8 _ rfl
                                          simp [Region.binds] at k8
                                          have k7 := hcl 7 _ rfl
                                          simp [Region.binds] at k7
                                          have hF8 : L 8 = false := by cases h : L 8 with | false => rfl | true => have a8 := k8 h; have a7 := k7 (by simp [a8]); simp [hk] at a7
                                          have gq23 := q23 hF8
                                          rw [if_pos (by rfl)]
                                          simp only [Oper.wpv]
                                          go_simp
                                          exact hK _ _ ⟨aN, cN, bA, hb, fun _ => rfl, p1, p2, p3, p4, p5, p7, p8, q23, c1, c2, pa6, bv6⟩
                                        · rintro L T u hd hk hcl ⟨aN, cN, bA, hb, p0, p1, p2, p3, p4, p5, p7, p8, q23, c1, c2, pa6, bv6⟩ K hK
                                          simp only [fr, Act.put, List.setIfInBounds_toArray, List.set_cons_zero, List.set_cons_succ, updO] at hK ⊢
                                          simp [Region.binds] at hd
                                          rw [if_pos (by rfl)]
                                          simp only [Oper.wpv]
                                          go_simp
                                          exact hK _ _ ⟨aN, cN, bA, hb, p0, fun _ => rfl, p2, p3, p4, p5, p7, p8, q23, c1, c2, pa6, bv6⟩
                                        · rintro L T u hd hk hcl ⟨aN, cN, bA, hb, p0, p1, p2, p3, p4, p5, p7, p8, q23, c1, c2, pa6, bv6⟩ K hK
                                          simp only [fr, Act.put, List.setIfInBounds_toArray, List.set_cons_zero, List.set_cons_succ, updO] at hK ⊢
                                          simp [Region.binds] at hd
                                          have g1 := p1 (by simp [hd])
                                          have k7 := hcl 7 _ rfl
                                          simp [Region.binds] at k7
                                          have k6 := hcl 6 _ rfl
                                          simp [Region.binds] at k6
                                          have k5 := hcl 5 _ rfl
                                          simp [Region.binds] at k5
                                          have k4 := hcl 4 _ rfl
                                          simp [Region.binds] at k4
                                          have hE : L 7 = false := by cases h : L 7 with | false => rfl | true => have a7 := k7 h; have a6 := k6 (by simp [a7]); have a5 := k5 (by simp [a6]); have a4 := k4 (by simp [a5]); simp [hk] at a4
                                          obtain ⟨d1, y0, y1, y2, y3, y4, y5, zb, dz⟩ := KY.out u (c1 hE)
                                          rw [if_pos (by rfl)]
                                          simp only [Oper.wpv]
                                          go_simp
                                          exact hK _ _ ⟨aN, cN, bA, hb, p0, p1, fun _ => rfl, p3, p4, p5, p7, p8, q23, c1, c2, pa6, bv6⟩
                                        · rintro L T u hd hk hcl ⟨aN, cN, bA, hb, p0, p1, p2, p3, p4, p5, p7, p8, q23, c1, c2, pa6, bv6⟩ K hK
                                          simp only [fr, Act.put, List.setIfInBounds_toArray, List.set_cons_zero, List.set_cons_succ, updO] at hK ⊢
                                          simp [Region.binds] at hd
                                          rw [if_pos (by rfl)]
                                          simp only [Oper.wpv]
                                          go_simp
                                          exact hK _ _ ⟨aN, cN, bA, hb, p0, p1, p2, fun _ => rfl, p4, p5, p7, p8, q23, c1, c2, pa6, bv6⟩
                                        · rintro L T u hd hk hcl ⟨aN, cN, bA, hb, p0, p1, p2, p3, p4, p5, p7, p8, q23, c1, c2, pa6, bv6⟩ K hK
                                          simp only [fr, Act.put, List.setIfInBounds_toArray, List.set_cons_zero, List.set_cons_succ, updO] at hK ⊢
                                          simp [Region.binds] at hd
                                          have g2 := p2 (by simp [hd])
                                          have g3 := p3 (by simp [hd])
                                          rw [if_pos (by rfl)]
                                          simp only [Oper.wpv]
                                          go_simp
                                          exact hK _ _ ⟨aN, cN, bA, hb, p0, p1, p2, p3, fun _ => rfl, p5, p7, p8, q23, c1, c2, pa6, bv6⟩
                                        · rintro L T u hd hk hcl ⟨aN, cN, bA, hb, p0, p1, p2, p3, p4, p5, p7, p8, q23, c1, c2, pa6, bv6⟩ K hK
                                          simp only [fr, Act.put, List.setIfInBounds_toArray, List.set_cons_zero, List.set_cons_succ, updO] at hK ⊢
                                          simp [Region.binds] at hd
                                          have g4 := p4 (by simp [hd])
                                          have k7 := hcl 7 _ rfl
                                          simp [Region.binds] at k7
                                          have k6 := hcl 6 _ rfl
                                          simp [Region.binds] at k6
                                          have hE : L 7 = false := by cases h : L 7 with | false => rfl | true => have a7 := k7 h; have a6 := k6 (by simp [a7]); simp [hk] at a6
                                          obtain ⟨d1, y0, y1, y2, y3, y4, y5, zb, dz⟩ := KY.out u (c1 hE)
                                          rw [if_pos (by rfl)]
                                          simp only [Oper.wpv]
                                          go_simp
                                          exact hK _ _ ⟨aN, cN, bA, hb, p0, p1, p2, p3, p4, fun _ => rfl, p7, p8, q23, c1, c2, pa6, bv6⟩
                                        · rintro L T u hd hk hcl ⟨aN, cN, bA, hb, p0, p1, p2, p3, p4, p5, p7, p8, q23, c1, c2, pa6, bv6⟩ K hK
                                          simp only [fr, Act.put, List.setIfInBounds_toArray, List.set_cons_zero, List.set_cons_succ, updO] at hK ⊢
                                          simp [Region.binds] at hd
                                          have k7 := hcl 7 _ rfl
                                          simp [Region.binds] at k7
                                          have hE : L 7 = false := by cases h : L 7 with | false => rfl | true => have a7 := k7 h; simp [hk] at a7
                                          have g5 := p5 (by simp [hd])
                                          have k8 := hcl 8 _ rfl
                                          simp [Region.binds] at k8
                                          have hg : Below u.heap.size u (u.alloc (.cells #[.int .i64 jn, .int .i64 jst, .slice jta jtl jtc, .slice jaa jal jac, .int .i64 jasks, .int .i64 jage] 64)) := (Below.refl _ _).alloc (Nat.le_refl _) _
                                          rw [if_pos (by rfl)]
                                          simp only [Oper.wpv]
                                          refine wpv_job (.tmp 240) (by rfl) g5 ?_
                                          exact hK _ _ ⟨aN, cN, u.heap.size, hb, p0, p1, p2, p3, p4, p5, p7, p8, q23, fun _ => nT (c1 hE) hg, fun h => absurd (show L 7 = true from h) (by simp [hE]), fun _ _ => ⟨rfl, (c1 hE).size, by simp⟩, fun _ _ => jobCell1 u ⟨jn, jst, jta, jtl, jtc, jaa, jal, jac, jasks, jage, jtasks, jasked⟩ _ rfl⟩
                                        · rintro L T u hd hk hcl ⟨aN, cN, bA, hb, p0, p1, p2, p3, p4, p5, p7, p8, q23, c1, c2, pa6, bv6⟩ K hK
                                          simp only [fr, Act.put, List.setIfInBounds_toArray, List.set_cons_zero, List.set_cons_succ, updO] at hK ⊢
                                          simp [Region.binds] at hd
                                          have hE : L 7 = false := hk
                                          have g0 := p0 (by simp [hd])
                                          have g6 := pa6 (by simp [hd]) hE
                                          have k8 := hcl 8 _ rfl
                                          simp [Region.binds] at k8
                                          have hrw := bv6 (by simp [hd]) hE
                                          have hOw := own_below HOr.out (c1 hE)
                                          have hBu := HBo.out.trans ((c1 hE).mono HBo.out.size)
                                          rw [if_pos (by rfl)]
                                          simp only [Oper.wpv]
                                          refine St.wpv_append_row EJ (.tmp 235) (.tmp 241) (by rfl) U0.heap.size (.slice a5 LN c5) LN AL g0 hOw (some ⟨bA, 0, none⟩) 1 1 [(⟨jn, jst, jta, jtl, jtc, jaa, jal, jac, jasks, jage, jtasks, jasked⟩ : JbV)] (g6.1) hrw (by unfold maxLen; omega) (by exact HLr.out) hBu.size ?_
                                          intro aM cM u6 own6 gr6 at6
                                          have hu6 : Below U0.heap.size U0 u6 := hBu.grown gr6 hBu.size (fun q hq => (hOw.lt q hq).1)
                                          exact hK _ _ ⟨aM, cM, bA, hb, p0, p1, p2, p3, p4, p5, fun _ => rfl, fun h => absurd (show L 8 = true from h) (by intro hh; have a8 := k8 hh; simp [hk] at a8), q23, fun h0 => Bool.noConfusion (show true = false from h0), fun _ => ⟨own6, hu6⟩, fun h0 h1 => Bool.noConfusion (show true = false from h1), fun h0 h1 => Bool.noConfusion (show true = false from h1)⟩
                                        · rintro L T u hd hk hcl ⟨aN, cN, bA, hb, p0, p1, p2, p3, p4, p5, p7, p8, q23, c1, c2, pa6, bv6⟩ K hK
                                          simp only [fr, Act.put, List.setIfInBounds_toArray, List.set_cons_zero, List.set_cons_succ, updO] at hK ⊢
                                          simp [Region.binds] at hd
                                          have g7 := p7 (by simp [hd])
                                          rw [if_pos (by rfl)]
                                          simp only [Oper.wpv]
                                          go_simp
                                          exact hK _ _ ⟨aN, cN, bA, hb, p0, p1, p2, p3, p4, p5, p7, fun _ => rfl, fun h => Bool.noConfusion (show true = false from h), c1, c2, pa6, bv6⟩
                                      · rintro L T u hl ⟨aN, cN, bA, hb, p0, p1, p2, p3, p4, p5, p7, p8, q23, c1, c2, pa6, bv6⟩
                                        simp only [fr, Act.put, List.setIfInBounds_toArray, List.set_cons_zero, List.set_cons_succ]
                                        have h23 := p8 (hl 8 (by decide))
                                        obtain ⟨own7, hb2⟩ := c2 (hl 7 (by decide))
                                        clear p0 p1 p2 p3 p4 p5 p7 p8 q23 c1 c2 pa6 bv6 hl HOr HBo HLr KY nT
                                        rw [h23]
                                        clear h23
                                        obtain ⟨w7, ew7⟩ : ∃ X : World, X = u := ⟨_, rfl⟩
                                        subst ew7
                                        obtain ⟨a7, ea7⟩ : ∃ x : Option Addr, x = aN := ⟨_, rfl⟩
                                        subst ea7
                                        obtain ⟨c7, ec7⟩ : ∃ x : Nat, x = cN := ⟨_, rfl⟩
                                        subst ec7
                                        have HB7 : Hid (Below U0.heap.size U0 w7) := hb2
                                        clear hb2
                                        clear HRZ HXZ hownZ HBZ
                                        have hfin := HOn.out (Or.inr hb1)
                                        have HL7 : Hid ((insA x js (k9 + 1)).length = LN + 1) := by show _ = _; rw [hfin.2, HLN.out]; simp
                                        have HO7 : Hid (w7.ownsRow U0.heap.size 64 6 (.slice a7 (insA x js (k9 + 1)).length c7) (insA x js (k9 + 1)).length (flat JbV.cells (insA x js (k9 + 1)))) := by show World.ownsRow _ _ _ _ _ _ _; rw [HL7.out, hfin.2]; exact own7
                                        have HA7 : Hid (abv x js (k9 + 1) = _) := hfin.1
                                        clear hfin own7 HPt HOn
                                        go_wp2
                                        go_roundw
                                        case rel => exact ⟨k9 + 1, a7, c7, by go_num, by omega, by rw [HA7.out], by rw [HL7.out], HO7, HB7⟩
                                        case measure => simp [intOf]; omega
                                    | true => as_aux_lemma =>
                                      go_upto_region 44 with (fail)
                                      go_quiet (fail)
                                      have bQ := below_drewN (Below.refl wr.heap.size wr) nq
                                      obtain ⟨Z, eZ⟩ : ∃ Z : World, Z = wr.drewN nq := ⟨_, rfl⟩
                                      rw [← eZ] at bQ ⊢
                                      clear eZ x0 x1 x2 x3 x4 x5 xz d0 d1 e0 e1 dz
                                      obtain ⟨hRZ, hXZ, hownZ, hBZ⟩ := KZ.out Z bQ
                                      have HBZ : Hid (Below U0.heap.size U0 Z) := hBZ
                                      have y0 := (bQ.cell (p := ⟨b9, off9 + k9 * 6, none⟩) zb).trans y0
                                      have y1 := (bQ.cell (p := ⟨b9, off9 + k9 * 6 + 1, none⟩) zb).trans y1
                                      have y2 := (bQ.cell (p := ⟨b9, off9 + k9 * 6 + 2, none⟩) zb).trans y2
                                      have y3 := (bQ.cell (p := ⟨b9, off9 + k9 * 6 + 3, none⟩) zb).trans y3
                                      have y4 := (bQ.cell (p := ⟨b9, off9 + k9 * 6 + 4, none⟩) zb).trans y4
                                      have y5 := (bQ.cell (p := ⟨b9, off9 + k9 * 6 + 5, none⟩) zb).trans y5
                                      have zb : b9 < Z.heap.size := Nat.lt_of_lt_of_le zb bQ.size
                                      have d1 : Z.cell? ⟨B + 1, 1, none⟩ = some (.slice (some ⟨b9, off9, none⟩) js.length jc) := (hRZ.bd.c 1 (by decide)).1
                                      have dz := hRZ.bd.lt
                                      have HRZ : Hid (RS B Z st next (some ⟨b9, off9, none⟩) jc js na nc ns) := hRZ
                                      have HXZ : Hid (BoxN Z A 6 [.int .i64 num, .int .i64 3, .slice none 0 0, .slice a9 sl c9, .int .i64 0, .int .i64 0]) := hXZ
                                      clear KZ hBZ bQ hRZ hXZ
                                      have HOr : Hid (Z.ownsRow U0.heap.size 64 6 (.slice a5 LN c5) LN (flat JbV.cells AL)) := hownZ
                                      have HBo : Hid (Below U0.heap.size U0 Z) := HBZ.out
                                      have HLr : Hid ((LN + 1) * 80 ≤ 140737488355328) := by show (LN + 1) * 80 ≤ _; omega
                                      have nT : ∀ {u v z : World}, Below u.heap.size u v → Below v.heap.size v z → Below u.heap.size u z := fun h k => h.trans (k.mono h.size)
                                      go_upto_region 47 with (fail)
                                      have KY : Hid (∀ Q, Below Z.heap.size Z Q → Q.cell? ⟨B + 1, 1, none⟩ = some (.slice (some ⟨b9, off9, none⟩) js.length jc) ∧ Q.cell? ⟨b9, off9 + k9 * 6, none⟩ = some (.int .i64 jn) ∧ Q.cell? ⟨b9, off9 + k9 * 6 + 1, none⟩ = some (.int .i64 jst) ∧ Q.cell? ⟨b9, off9 + k9 * 6 + 2, none⟩ = some (.slice jta jtl jtc) ∧ Q.cell? ⟨b9, off9 + k9 * 6 + 3, none⟩ = some (.slice jaa jal jac) ∧ Q.cell? ⟨b9, off9 + k9 * 6 + 4, none⟩ = some (.int .i64 jasks) ∧ Q.cell? ⟨b9, off9 + k9 * 6 + 5, none⟩ = some (.int .i64 jage) ∧ b9 < Q.heap.size ∧ B + 1 < Q.heap.size) := fun Q hQ => ⟨(hQ.cell (p := ⟨B + 1, 1, none⟩) dz).trans d1, (hQ.cell (p := ⟨b9, off9 + k9 * 6, none⟩) zb).trans y0, (hQ.cell (p := ⟨b9, off9 + k9 * 6 + 1, none⟩) zb).trans y1, (hQ.cell (p := ⟨b9, off9 + k9 * 6 + 2, none⟩) zb).trans y2, (hQ.cell (p := ⟨b9, off9 + k9 * 6 + 3, none⟩) zb).trans y3, (hQ.cell (p := ⟨b9, off9 + k9 * 6 + 4, none⟩) zb).trans y4, (hQ.cell (p := ⟨b9, off9 + k9 * 6 + 5, none⟩) zb).trans y5, Nat.lt_of_lt_of_le zb hQ.size, Nat.lt_of_lt_of_le dz hQ.size⟩
                                      clear d1 dz zb y0 y1 y2 y3 y4 y5
                                      refine wp_region_seq [235, 236, 237, 238, 239, 240, 241, 242, 23] (fun L T u => ∃ (aN : Option Addr) (cN : Nat) (bA : Nat), True ∧ (L 0 = true → T 235 = .slice a5 LN c5) ∧ (L 1 = true → T 236 = .pointer (some ⟨B + 1, 1, none⟩)) ∧ (L 2 = true → T 237 = .slice (some ⟨b9, off9, none⟩) js.length jc) ∧ (L 3 = true → T 238 = .int .i64 (k9 : Int)) ∧ (L 4 = true → T 239 = .pointer (some ⟨b9, off9 + k9 * 6, none⟩)) ∧ (L 5 = true → T 240 = .agg #[.int .i64 jn, .int .i64 jst, .slice jta jtl jtc, .slice jaa jal jac, .int .i64 jasks, .int .i64 jage]) ∧ (L 7 = true → T 242 = .slice aN (LN + 1) cN) ∧ (L 8 = true → T 23 = .slice aN (LN + 1) cN) ∧ (L 8 = false → T 23 = .slice a5 LN c5) ∧ (L 7 = false → Below Z.heap.size Z u) ∧ (L 7 = true → (u.ownsRow U0.heap.size 64 6 (.slice aN (LN + 1) cN) (LN + 1) (flat JbV.cells (AL ++ [(⟨jn, jst, jta, jtl, jtc, jaa, jal, jac, jasks, jage, jtasks, jasked⟩ : JbV)])) ∧ Below U0.heap.size U0 u)) ∧ (L 6 = true → L 7 = false → (T 241 = .slice (some ⟨bA, 0, none⟩) 1 1 ∧ Z.heap.size ≤ bA ∧ bA < u.heap.size)) ∧ (L 6 = true → L 7 = false → IsRow 6 JbV.cells u (some ⟨bA, 0, none⟩) 1 1 [(⟨jn, jst, jta, jtl, jtc, jaa, jal, jac, jasks, jage, jtasks, jasked⟩ : JbV)])) (by decide) (by kernel_rfl) (by kernel_rfl) ?_ ?_ ?_
                                      · exact ⟨none, 0, 0, trivial, nofun, nofun, nofun, nofun, nofun, nofun, nofun, nofun, fun _ => rfl, fun _ => (Below.refl _ _), nofun, nofun, nofun⟩
                                      · refine ⟨?_, ?_, ?_, ?_, ?_, ?_, ?_, ?_, ?_, trivial⟩
                                        · rintro L T u hd hk hcl ⟨aN, cN, bA, hb, p0, p1, p2, p3, p4, p5, p7, p8, q23, c1, c2, pa6, bv6⟩ K hK
                                          simp only [fr, Act.put, List.setIfInBounds_toArray, List.set_cons_zero, List.set_cons_succ, updO] at hK ⊢
                                          simp [Region.binds] at hd
                                          have k8 := hcl 8 _ rfl
                                          simp [Region.binds] at k8
                                          have k7 := hcl 7 _ rfl
                                          simp [Region.binds] at k7
                                          have hF8 : L 8 = false := by cases h : L 8 with | false => rfl | true => have a8 := k8 h; have a7 := k7 (by simp [a8]); simp [hk] at a7
                                          have gq23 := q23 hF8
                                          rw [if_pos (by rfl)]
                                          simp only [Oper.wpv]
                                          go_simp
                                          exact hK _ _ ⟨aN, cN, bA, hb, fun _ => rfl, p1, p2, p3, p4, p5, p7, p8, q23, c1, c2, pa6, bv6⟩
                                        · rintro L T u hd hk hcl ⟨aN, cN, bA, hb, p0, p1, p2, p3, p4, p5, p7, p8, q23, c1, c2, pa6, bv6⟩ K hK
                                          simp only [fr, Act.put, List.setIfInBounds_toArray, List.set_cons_zero, List.set_cons_succ, updO] at hK ⊢
                                          simp [Region.binds] at hd
                                          rw [if_pos (by rfl)]
                                          simp only [Oper.wpv]
                                          go_simp
                                          exact hK _ _ ⟨aN, cN, bA, hb, p0, fun _ => rfl, p2, p3, p4, p5, p7, p8, q23, c1, c2, pa6, bv6⟩
                                        · rintro L T u hd hk hcl ⟨aN, cN, bA, hb, p0, p1, p2, p3, p4, p5, p7, p8, q23, c1, c2, pa6, bv6⟩ K hK
                                          simp only [fr, Act.put, List.setIfInBounds_toArray, List.set_cons_zero, List.set_cons_succ, updO] at hK ⊢
                                          simp [Region.binds] at hd
                                          have g1 := p1 (by simp [hd])
                                          have k7 := hcl 7 _ rfl
                                          simp [Region.binds] at k7
                                          have k6 := hcl 6 _ rfl
                                          simp [Region.binds] at k6
                                          have k5 := hcl 5 _ rfl
                                          simp [Region.binds] at k5
                                          have k4 := hcl 4 _ rfl
                                          simp [Region.binds] at k4
                                          have hE : L 7 = false := by cases h : L 7 with | false => rfl | true => have a7 := k7 h; have a6 := k6 (by simp [a7]); have a5 := k5 (by simp [a6]); have a4 := k4 (by simp [a5]); simp [hk] at a4
                                          obtain ⟨d1, y0, y1, y2, y3, y4, y5, zb, dz⟩ := KY.out u (c1 hE)
                                          rw [if_pos (by rfl)]
                                          simp only [Oper.wpv]
                                          go_simp
                                          exact hK _ _ ⟨aN, cN, bA, hb, p0, p1, fun _ => rfl, p3, p4, p5, p7, p8, q23, c1, c2, pa6, bv6⟩
                                        · rintro L T u hd hk hcl ⟨aN, cN, bA, hb, p0, p1, p2, p3, p4, p5, p7, p8, q23, c1, c2, pa6, bv6⟩ K hK
                                          simp only [fr, Act.put, List.setIfInBounds_toArray, List.set_cons_zero, List.set_cons_succ, updO] at hK ⊢
                                          simp [Region.binds] at hd
                                          rw [if_pos (by rfl)]
                                          simp only [Oper.wpv]
                                          go_simp
                                          exact hK _ _ ⟨aN, cN, bA, hb, p0, p1, p2, fun _ => rfl, p4, p5, p7, p8, q23, c1, c2, pa6, bv6⟩
                                        · rintro L T u hd hk hcl ⟨aN, cN, bA, hb, p0, p1, p2, p3, p4, p5, p7, p8, q23, c1, c2, pa6, bv6⟩ K hK
                                          simp only [fr, Act.put, List.setIfInBounds_toArray, List.set_cons_zero, List.set_cons_succ, updO] at hK ⊢
                                          simp [Region.binds] at hd
                                          have g2 := p2 (by simp [hd])
                                          have g3 := p3 (by simp [hd])
                                          rw [if_pos (by rfl)]
                                          simp only [Oper.wpv]
                                          go_simp
                                          exact hK _ _ ⟨aN, cN, bA, hb, p0, p1, p2, p3, fun _ => rfl, p5, p7, p8, q23, c1, c2, pa6, bv6⟩
                                        · rintro L T u hd hk hcl ⟨aN, cN, bA, hb, p0, p1, p2, p3, p4, p5, p7, p8, q23, c1, c2, pa6, bv6⟩ K hK
                                          simp only [fr, Act.put, List.setIfInBounds_toArray, List.set_cons_zero, List.set_cons_succ, updO] at hK ⊢
                                          simp [Region.binds] at hd
                                          have g4 := p4 (by simp [hd])
                                          have k7 := hcl 7 _ rfl
                                          simp [Region.binds] at k7
                                          have k6 := hcl 6 _ rfl
                                          simp [Region.binds] at k6
                                          have hE : L 7 = false := by cases h : L 7 with | false => rfl | true => have a7 := k7 h; have a6 := k6 (by simp [a7]); simp [hk] at a6
                                          obtain ⟨d1, y0, y1, y2, y3, y4, y5, zb, dz⟩ := KY.out u (c1 hE)
                                          rw [if_pos (by rfl)]
                                          simp only [Oper.wpv]
                                          go_simp
                                          exact hK _ _ ⟨aN, cN, bA, hb, p0, p1, p2, p3, p4, fun _ => rfl, p7, p8, q23, c1, c2, pa6, bv6⟩
                                        · rintro L T u hd hk hcl ⟨aN, cN, bA, hb, p0, p1, p2, p3, p4, p5, p7, p8, q23, c1, c2, pa6, bv6⟩ K hK
                                          simp only [fr, Act.put, List.setIfInBounds_toArray, List.set_cons_zero, List.set_cons_succ, updO] at hK ⊢
                                          simp [Region.binds] at hd
                                          have k7 := hcl 7 _ rfl
                                          simp [Region.binds] at k7
                                          have hE : L 7 = false := by cases h : L 7 with | false => rfl | true => have a7 := k7 h; simp [hk] at a7
                                          have g5 := p5 (by simp [hd])
                                          have k8 := hcl 8 _ rfl
                                          simp [Region.binds] at k8
                                          have hg : Below u.heap.size u (u.alloc (.cells #[.int .i64 jn, .int .i64 jst, .slice jta jtl jtc, .slice jaa jal jac, .int .i64 jasks, .int .i64 jage] 64)) := (Below.refl _ _).alloc (Nat.le_refl _) _
                                          rw [if_pos (by rfl)]
                                          simp only [Oper.wpv]
                                          refine wpv_job (.tmp 240) (by rfl) g5 ?_
                                          exact hK _ _ ⟨aN, cN, u.heap.size, hb, p0, p1, p2, p3, p4, p5, p7, p8, q23, fun _ => nT (c1 hE) hg, fun h => absurd (show L 7 = true from h) (by simp [hE]), fun _ _ => ⟨rfl, (c1 hE).size, by simp⟩, fun _ _ => jobCell1 u ⟨jn, jst, jta, jtl, jtc, jaa, jal, jac, jasks, jage, jtasks, jasked⟩ _ rfl⟩
                                        · rintro L T u hd hk hcl ⟨aN, cN, bA, hb, p0, p1, p2, p3, p4, p5, p7, p8, q23, c1, c2, pa6, bv6⟩ K hK
                                          simp only [fr, Act.put, List.setIfInBounds_toArray, List.set_cons_zero, List.set_cons_succ, updO] at hK ⊢
                                          simp [Region.binds] at hd
                                          have hE : L 7 = false := hk
                                          have g0 := p0 (by simp [hd])
                                          have g6 := pa6 (by simp [hd]) hE
                                          have k8 := hcl 8 _ rfl
                                          simp [Region.binds] at k8
                                          have hrw := bv6 (by simp [hd]) hE
                                          have hOw := own_below HOr.out (c1 hE)
                                          have hBu := HBo.out.trans ((c1 hE).mono HBo.out.size)
                                          rw [if_pos (by rfl)]
                                          simp only [Oper.wpv]
                                          refine St.wpv_append_row EJ (.tmp 235) (.tmp 241) (by rfl) U0.heap.size (.slice a5 LN c5) LN AL g0 hOw (some ⟨bA, 0, none⟩) 1 1 [(⟨jn, jst, jta, jtl, jtc, jaa, jal, jac, jasks, jage, jtasks, jasked⟩ : JbV)] (g6.1) hrw (by unfold maxLen; omega) (by exact HLr.out) hBu.size ?_
                                          intro aM cM u6 own6 gr6 at6
                                          have hu6 : Below U0.heap.size U0 u6 := hBu.grown gr6 hBu.size (fun q hq => (hOw.lt q hq).1)
                                          exact hK _ _ ⟨aM, cM, bA, hb, p0, p1, p2, p3, p4, p5, fun _ => rfl, fun h => absurd (show L 8 = true from h) (by intro hh; have a8 := k8 hh; simp [hk] at a8), q23, fun h0 => Bool.noConfusion (show true = false from h0), fun _ => ⟨own6, hu6⟩, fun h0 h1 => Bool.noConfusion (show true = false from h1), fun h0 h1 => Bool.noConfusion (show true = false from h1)⟩
                                        · rintro L T u hd hk hcl ⟨aN, cN, bA, hb, p0, p1, p2, p3, p4, p5, p7, p8, q23, c1, c2, pa6, bv6⟩ K hK
                                          simp only [fr, Act.put, List.setIfInBounds_toArray, List.set_cons_zero, List.set_cons_succ, updO] at hK ⊢
                                          simp [Region.binds] at hd
                                          have g7 := p7 (by simp [hd])
                                          rw [if_pos (by rfl)]
                                          simp only [Oper.wpv]
                                          go_simp
                                          exact hK _ _ ⟨aN, cN, bA, hb, p0, p1, p2, p3, p4, p5, p7, fun _ => rfl, fun h => Bool.noConfusion (show true = false from h), c1, c2, pa6, bv6⟩
                                      · rintro L T u hl ⟨aN, cN, bA, hb, p0, p1, p2, p3, p4, p5, p7, p8, q23, c1, c2, pa6, bv6⟩
                                        simp only [fr, Act.put, List.setIfInBounds_toArray, List.set_cons_zero, List.set_cons_succ]
                                        have h23 := p8 (hl 8 (by decide))
                                        obtain ⟨own7, hb2⟩ := c2 (hl 7 (by decide))
                                        clear p0 p1 p2 p3 p4 p5 p7 p8 q23 c1 c2 pa6 bv6 hl HOr HBo HLr KY nT
                                        rw [h23]
                                        clear h23
                                        obtain ⟨w7, ew7⟩ : ∃ X : World, X = u := ⟨_, rfl⟩
                                        subst ew7
                                        obtain ⟨a7, ea7⟩ : ∃ x : Option Addr, x = aN := ⟨_, rfl⟩
                                        subst ea7
                                        obtain ⟨c7, ec7⟩ : ∃ x : Nat, x = cN := ⟨_, rfl⟩
                                        subst ec7
                                        have HB7 : Hid (Below U0.heap.size U0 w7) := hb2
                                        clear hb2
                                        clear HRZ HXZ hownZ HBZ
                                        have hfin := HOn.out (Or.inr hb1)
                                        have HL7 : Hid ((insA x js (k9 + 1)).length = LN + 1) := by show _ = _; rw [hfin.2, HLN.out]; simp
                                        have HO7 : Hid (w7.ownsRow U0.heap.size 64 6 (.slice a7 (insA x js (k9 + 1)).length c7) (insA x js (k9 + 1)).length (flat JbV.cells (insA x js (k9 + 1)))) := by show World.ownsRow _ _ _ _ _ _ _; rw [HL7.out, hfin.2]; exact own7
                                        have HA7 : Hid (abv x js (k9 + 1) = _) := hfin.1
                                        clear hfin own7 HPt HOn
                                        go_wp2
                                        go_roundw
                                        case rel => exact ⟨k9 + 1, a7, c7, by go_num, by omega, by rw [HA7.out], by rw [HL7.out], HO7, HB7⟩
                                        case measure => simp [intOf]; omega
                                · obtain rfl : k9 = js.length := by omega
                                  have hnl : ¬ ((js.length : Int) < (js.length : Int)) := by omega
                                  have hEnd := insA_end (x := x) (js := js)
                                  have HPut : Hid (∀ (Z : World) (a6 : Option Addr) (c6 m : Nat), m = (insS x js).length → Z.ownsRow U0.heap.size 64 6 (.slice a6 m c6) m (flat JbV.cells (insS x js)) → Below U0.heap.size U0 Z → RS B (Z.setCell ⟨B + 1, 1, none⟩ (.slice a6 m c6)) st next a6 c6 (insS x js) na nc ns ∧ Below wo.heap.size wo (Z.setCell ⟨B + 1, 1, none⟩ (.slice a6 m c6)) ∧ (Z.cell? ⟨B + 1, 1, none⟩ = some (.slice ja js.length jc) ∧ Z.frozen? ⟨B + 1, 1, none⟩ = false ∧ B + 1 < Z.heap.size)) := fun Z a6 c6 m hm ho hb => by
                                    have hR := HRA.out.below hb
                                    have hBu : B + 2 ≤ U0.heap.size := by have := HRA.out.bd.lt; omega
                                    have hOw := HOw.out.below hb
                                    have hxa : Z.ownsRow (B + 2) 3 1 (.slice x.aa x.al x.ac) x.al (flat inCell x.asked) := by rw [HX.out]; exact Co.own_base hOw HBpA.out
                                    have hxl : x.asked.length = x.al := by rw [HX.out]; exact hzl
                                    have hjm : JobsMem Z (B + 2) a6 m c6 (insS x js) := jobsMem_of (Co.own_base ho hBu) hm.symm (fun j hj => by
                                      rcases insS_mem hj with rfl | hj
                                      · rw [HX.out]; exact ⟨rfl, rfl, rfl, rfl⟩
                                      · exact hR.jb.bare j hj) (fun j hj => by
                                      rcases insS_mem hj with rfl | hj
                                      · exact ⟨hxa, hxl⟩
                                      · exact ⟨(hR.jb.ask j hj).1, (hR.jb.ask j hj).2.1⟩)
                                    refine ⟨hR.putJobs hm hjm, (HBA.out.trans (hb.mono HBA.out.size)).setCell (p := ⟨B + 1, 1, none⟩) (by have := HBw.out; show wo.heap.size ≤ B + 1; omega) _, (hR.bd.c 1 (by decide)).1, (hR.bd.c 1 (by decide)).2, hR.bd.lt⟩
                                  have HEn : Hid ((abv x js js.length = true → AL = insS x js) ∧ (abv x js js.length = false → AL ++ [x] = insS x js)) := by rw [HAL.out]; exact hEnd
                                  obtain ⟨AV, eAV⟩ : ∃ AV, AV = abv x js js.length := ⟨_, rfl⟩
                                  rw [← eAV] at HEn ⊢
                                  clear eAV hEnd HRA HBA HOw HRW HBjW HAL
                                  cases AV with
                                  | false => as_aux_lemma =>
                                    have hfin : AL ++ [x] = insS x js := HEn.out.2 rfl
                                    have hownW := HOJ.out
                                    have HBV2 : Hid (Below U0.heap.size U0 wr) := HBW.out
                                    have HOr : Hid (wr.ownsRow U0.heap.size 64 6 (.slice a5 LN c5) LN (flat JbV.cells AL)) := hownW
                                    have HBo : Hid (Below U0.heap.size U0 wr) := HBV2.out
                                    have HLr : Hid ((LN + 1) * 80 ≤ 140737488355328) := by show (LN + 1) * 80 ≤ _; omega
                                    have nT : ∀ {u v z : World}, Below u.heap.size u v → Below v.heap.size v z → Below u.heap.size u z := fun h k => h.trans (k.mono h.size)
                                    go_upto_region 49 with (fail)
                                    have KY : Hid (∀ Q, Below wr.heap.size wr Q → Q.cell? ⟨A, 0, none⟩ = some (.int .i64 num) ∧ Q.cell? ⟨A, 1, none⟩ = some (.int .i64 3) ∧ Q.cell? ⟨A, 2, none⟩ = some (.slice none 0 0) ∧ Q.cell? ⟨A, 3, none⟩ = some (.slice a9 sl c9) ∧ Q.cell? ⟨A, 4, none⟩ = some (.int .i64 0) ∧ Q.cell? ⟨A, 5, none⟩ = some (.int .i64 0) ∧ A < Q.heap.size) := fun Q hQ => ⟨(hQ.cell (p := ⟨A, 0, none⟩) xz).trans x0, (hQ.cell (p := ⟨A, 1, none⟩) xz).trans x1, (hQ.cell (p := ⟨A, 2, none⟩) xz).trans x2, (hQ.cell (p := ⟨A, 3, none⟩) xz).trans x3, (hQ.cell (p := ⟨A, 4, none⟩) xz).trans x4, (hQ.cell (p := ⟨A, 5, none⟩) xz).trans x5, Nat.lt_of_lt_of_le xz hQ.size⟩
                                    clear x0 x1 x2 x3 x4 x5 xz
                                    refine wp_region_seq [245, 246, 247, 248, 23] (fun L T u => ∃ (aN : Option Addr) (cN : Nat) (bA : Nat), True ∧ (L 0 = true → T 245 = .slice a5 LN c5) ∧ (L 1 = true → T 246 = .agg #[.int .i64 num, .int .i64 3, .slice none 0 0, .slice a9 sl c9, .int .i64 0, .int .i64 0]) ∧ (L 3 = true → T 248 = .slice aN (LN + 1) cN) ∧ (L 4 = true → T 23 = .slice aN (LN + 1) cN) ∧ (L 4 = false → T 23 = .slice a5 LN c5) ∧ (L 3 = false → Below wr.heap.size wr u) ∧ (L 3 = true → (u.ownsRow U0.heap.size 64 6 (.slice aN (LN + 1) cN) (LN + 1) (flat JbV.cells (AL ++ [(⟨num, 3, none, 0, 0, a9, sl, c9, 0, 0, [], zs⟩ : JbV)])) ∧ Below U0.heap.size U0 u)) ∧ (L 2 = true → L 3 = false → (T 247 = .slice (some ⟨bA, 0, none⟩) 1 1 ∧ wr.heap.size ≤ bA ∧ bA < u.heap.size)) ∧ (L 2 = true → L 3 = false → IsRow 6 JbV.cells u (some ⟨bA, 0, none⟩) 1 1 [(⟨num, 3, none, 0, 0, a9, sl, c9, 0, 0, [], zs⟩ : JbV)])) (by decide) (by kernel_rfl) (by kernel_rfl) ?_ ?_ ?_
                                    · exact ⟨none, 0, 0, trivial, nofun, nofun, nofun, nofun, fun _ => rfl, fun _ => (Below.refl _ _), nofun, nofun, nofun⟩
                                    · refine ⟨?_, ?_, ?_, ?_, ?_, trivial⟩
                                      · rintro L T u hd hk hcl ⟨aN, cN, bA, hb, p0, p1, p3, p4, q23, c1, c2, pa2, bv2⟩ K hK
                                        simp only [fr, Act.put, List.setIfInBounds_toArray, List.set_cons_zero, List.set_cons_succ, updO] at hK ⊢
                                        simp [Region.binds] at hd
                                        have k4 := hcl 4 _ rfl
                                        simp [Region.binds] at k4
                                        have k3 := hcl 3 _ rfl
                                        simp [Region.binds] at k3
                                        have hF4 : L 4 = false := by cases h : L 4 with | false => rfl | true => have a4 := k4 h; have a3 := k3 (by simp [a4]); simp [hk] at a3
                                        have gq23 := q23 hF4
                                        rw [if_pos (by rfl)]
                                        simp only [Oper.wpv]
                                        go_simp
                                        exact hK _ _ ⟨aN, cN, bA, hb, fun _ => rfl, p1, p3, p4, q23, c1, c2, pa2, bv2⟩
                                      · rintro L T u hd hk hcl ⟨aN, cN, bA, hb, p0, p1, p3, p4, q23, c1, c2, pa2, bv2⟩ K hK
                                        simp only [fr, Act.put, List.setIfInBounds_toArray, List.set_cons_zero, List.set_cons_succ, updO] at hK ⊢
                                        simp [Region.binds] at hd
                                        have k3 := hcl 3 _ rfl
                                        simp [Region.binds] at k3
                                        have k2 := hcl 2 _ rfl
                                        simp [Region.binds] at k2
                                        have hE : L 3 = false := by cases h : L 3 with | false => rfl | true => have a3 := k3 h; have a2 := k2 (by simp [a3]); simp [hk] at a2
                                        obtain ⟨x0, x1, x2, x3, x4, x5, xz⟩ := KY.out u (c1 hE)
                                        rw [if_pos (by rfl)]
                                        simp only [Oper.wpv]
                                        go_simp
                                        exact hK _ _ ⟨aN, cN, bA, hb, p0, fun _ => rfl, p3, p4, q23, c1, c2, pa2, bv2⟩
                                      · rintro L T u hd hk hcl ⟨aN, cN, bA, hb, p0, p1, p3, p4, q23, c1, c2, pa2, bv2⟩ K hK
                                        simp only [fr, Act.put, List.setIfInBounds_toArray, List.set_cons_zero, List.set_cons_succ, updO] at hK ⊢
                                        simp [Region.binds] at hd
                                        have k3 := hcl 3 _ rfl
                                        simp [Region.binds] at k3
                                        have hE : L 3 = false := by cases h : L 3 with | false => rfl | true => have a3 := k3 h; simp [hk] at a3
                                        have g1 := p1 (by simp [hd])
                                        have k4 := hcl 4 _ rfl
                                        simp [Region.binds] at k4
                                        have hg : Below u.heap.size u (u.alloc (.cells #[.int .i64 num, .int .i64 3, .slice none 0 0, .slice a9 sl c9, .int .i64 0, .int .i64 0] 64)) := (Below.refl _ _).alloc (Nat.le_refl _) _
                                        rw [if_pos (by rfl)]
                                        simp only [Oper.wpv]
                                        refine wpv_job (.tmp 246) (by rfl) g1 ?_
                                        exact hK _ _ ⟨aN, cN, u.heap.size, hb, p0, p1, p3, p4, q23, fun _ => nT (c1 hE) hg, fun h => absurd (show L 3 = true from h) (by simp [hE]), fun _ _ => ⟨rfl, (c1 hE).size, by simp⟩, fun _ _ => jobCell1 u ⟨num, 3, none, 0, 0, a9, sl, c9, 0, 0, [], zs⟩ _ rfl⟩
                                      · rintro L T u hd hk hcl ⟨aN, cN, bA, hb, p0, p1, p3, p4, q23, c1, c2, pa2, bv2⟩ K hK
                                        simp only [fr, Act.put, List.setIfInBounds_toArray, List.set_cons_zero, List.set_cons_succ, updO] at hK ⊢
                                        simp [Region.binds] at hd
                                        have hE : L 3 = false := hk
                                        have g0 := p0 (by simp [hd])
                                        have g2 := pa2 (by simp [hd]) hE
                                        have k4 := hcl 4 _ rfl
                                        simp [Region.binds] at k4
                                        have hrw := bv2 (by simp [hd]) hE
                                        have hOw := own_below HOr.out (c1 hE)
                                        have hBu := HBo.out.trans ((c1 hE).mono HBo.out.size)
                                        rw [if_pos (by rfl)]
                                        simp only [Oper.wpv]
                                        refine St.wpv_append_row EJ (.tmp 245) (.tmp 247) (by rfl) U0.heap.size (.slice a5 LN c5) LN AL g0 hOw (some ⟨bA, 0, none⟩) 1 1 [(⟨num, 3, none, 0, 0, a9, sl, c9, 0, 0, [], zs⟩ : JbV)] (g2.1) hrw (by unfold maxLen; omega) (by exact HLr.out) hBu.size ?_
                                        intro aM cM u6 own6 gr6 at6
                                        have hu6 : Below U0.heap.size U0 u6 := hBu.grown gr6 hBu.size (fun q hq => (hOw.lt q hq).1)
                                        exact hK _ _ ⟨aM, cM, bA, hb, p0, p1, fun _ => rfl, fun h => absurd (show L 4 = true from h) (by intro hh; have a4 := k4 hh; simp [hk] at a4), q23, fun h0 => Bool.noConfusion (show true = false from h0), fun _ => ⟨own6, hu6⟩, fun h0 h1 => Bool.noConfusion (show true = false from h1), fun h0 h1 => Bool.noConfusion (show true = false from h1)⟩
                                      · rintro L T u hd hk hcl ⟨aN, cN, bA, hb, p0, p1, p3, p4, q23, c1, c2, pa2, bv2⟩ K hK
                                        simp only [fr, Act.put, List.setIfInBounds_toArray, List.set_cons_zero, List.set_cons_succ, updO] at hK ⊢
                                        simp [Region.binds] at hd
                                        have g3 := p3 (by simp [hd])
                                        rw [if_pos (by rfl)]
                                        simp only [Oper.wpv]
                                        go_simp
                                        exact hK _ _ ⟨aN, cN, bA, hb, p0, p1, p3, fun _ => rfl, fun h => Bool.noConfusion (show true = false from h), c1, c2, pa2, bv2⟩
                                    · rintro L T u hl ⟨aN, cN, bA, hb, p0, p1, p3, p4, q23, c1, c2, pa2, bv2⟩
                                      simp only [fr, Act.put, List.setIfInBounds_toArray, List.set_cons_zero, List.set_cons_succ]
                                      have h23 := p4 (hl 4 (by decide))
                                      obtain ⟨own6, hb2⟩ := c2 (hl 3 (by decide))
                                      clear p0 p1 p3 p4 q23 c1 c2 pa2 bv2 hl HOr HBo HLr KY nT
                                      rw [h23]
                                      clear h23
                                      obtain ⟨w6, ew6⟩ : ∃ X : World, X = u := ⟨_, rfl⟩
                                      subst ew6
                                      obtain ⟨a6, ea6⟩ : ∃ x : Option Addr, x = aN := ⟨_, rfl⟩
                                      subst ea6
                                      obtain ⟨c6, ec6⟩ : ∃ x : Nat, x = cN := ⟨_, rfl⟩
                                      subst ec6
                                      have HB6 : Hid (Below U0.heap.size U0 w6) := hb2
                                      clear hb2
                                      rw [← HX.out] at own6
                                      clear hownW HBV2 HOJ HBW d0 e0 e1 d1 dz
                                      rw [hfin] at own6
                                      have hl6 : LN + 1 = (insS x js).length := by rw [← hfin, HLN.out]; simp
                                      obtain ⟨HR8, HB8, z1, zf1, zz⟩ := HPut.out w6 a6 c6 (LN + 1) hl6 own6 HB6.out
                                      have HL6 : Hid (LN + 1 = (insS x js).length) := hl6
                                      obtain ⟨F9, hF9⟩ : ∃ F9 : World, F9 = w6.setCell ⟨B + 1, 1, none⟩ (.slice a6 (LN + 1) c6) := ⟨_, rfl⟩
                                      have HR9 : Hid (RS B F9 st next a6 c6 (insS x js) na nc ns) := by rw [hF9]; exact HR8
                                      have HB9 : Hid (Below wo.heap.size wo F9) := by rw [hF9]; exact HB8
                                      clear HR8 HB8 hfin own6 hl6 HPut HEn
                                      go_wp2
                                      rw [← hF9]
                                      clear hF9
                                      go_roundw
                                      case rel => exact ⟨q + 1, st, next, a6, c6, insS x js, na, nc, ns, rfl, by go_num, by omega, HR9, by first | exact HSd | (rw [eP] at HSd; exact HSd), by first | exact HDd | (rw [eP] at HDd; exact HDd), by first | exact HNd | (rw [eP] at HNd; exact HNd), HB9⟩
                                      case measure => simp [intOf]; omega
                                  | true => as_aux_lemma =>
                                    have hfin : AL = insS x js := HEn.out.1 rfl
                                    have own6 := HOJ.out
                                    rw [hfin] at own6
                                    have hl6 : LN = (insS x js).length := by rw [← hfin, HLN.out]
                                    obtain ⟨HR8, HB8, z1, zf1, zz⟩ := HPut.out wr a5 c5 LN hl6 own6 HBW.out
                                    have HL6 : Hid (LN = (insS x js).length) := hl6
                                    obtain ⟨F9, hF9⟩ : ∃ F9 : World, F9 = wr.setCell ⟨B + 1, 1, none⟩ (.slice a5 LN c5) := ⟨_, rfl⟩
                                    have HR9 : Hid (RS B F9 st next a5 c5 (insS x js) na nc ns) := by rw [hF9]; exact HR8
                                    have HB9 : Hid (Below wo.heap.size wo F9) := by rw [hF9]; exact HB8
                                    clear HR8 HB8 hfin own6 hl6 HPut HEn HOJ HBW x0 x1 x2 x3 x4 x5 xz d0 e0 e1 d1 dz
                                    go_wp2
                                    rw [← hF9]
                                    clear hF9
                                    go_roundw
                                    case rel => exact ⟨q + 1, st, next, a5, c5, insS x js, na, nc, ns, rfl, by go_num, by omega, HR9, by first | exact HSd | (rw [eP] at HSd; exact HSd), by first | exact HDd | (rw [eP] at HDd; exact HDd), by first | exact HNd | (rw [eP] at HNd; exact HNd), HB9⟩
                                    case measure => simp [intOf]; omega
                          · have hany : js.any (isNr num) = true := by
                              cases h9 : js.any (isNr num) with
                              | true => rfl
                              | false => exact absurd (HJA.out.trans (Eq.mpr (jbAt_none js 0) h9)) hc5
                            have HDd : Hid ((next, js.map JbV.bare) = recDesk site (P.take (q + 1))) := by show _ = _; rw [HD2.out, if_pos (Or.inr (Or.inr (Or.inr (Or.inr hany))))]
                            have hge : (0 : Int) ≤ JA := by
                              rcases jbAt_no (n := num) js 0 with h9 | ⟨i, h1, h2, h3, -⟩
                              · exact absurd (HJA.out.trans h9) hc5
                              · rw [HJA.out, h2]; omega
                            have HF9 : Hid (∀ V, Below U.heap.size U V → RS B V st next ja jc js na nc ns ∧ Below wo.heap.size wo V) := fun V hV => ⟨HRU.out.below hV, HBU.out.trans (hV.mono HBU.out.size)⟩
                            clear HD2 HJA HBox hany HRU HBU
                            go_wp2_with (go_at_call 18; refine hJ.mono ?_; rintro e V ⟨rfl, hV⟩; obtain ⟨HR8, HB8⟩ := HF9.out V hV)
                            go_roundw
                            case rel => exact ⟨q + 1, st, next, ja, jc, js, na, nc, ns, rfl, by go_num, by omega, HR8, HSd, HDd, HNd, HB8⟩
                            case measure => simp [intOf]; omega
                  · have HDd : Hid ((next, js.map JbV.bare) = recDesk me (P.take (q + 1))) := by show _ = _; rw [HD2.out, if_pos (Or.inl hc1)]
                    have hc1' : (site == me) = false := beq_eq_false_iff_ne.2 hc1
                    have hc1'' : (site != me) = true := by simpa using hc1
                    clear HD2 HJA HBox hJ
                    go_wp2
                    go_roundw
                    case rel => exact ⟨q + 1, st, next, ja, jc, js, na, nc, ns, rfl, by go_num, by omega, HRU, HSd, HDd, HNd, HBU⟩
                    case measure => simp [intOf]; omega
                · as_aux_lemma => -- ended
                  have d0 : U.cell? ⟨B + 1, 0, none⟩ = some (.int .i64 next) := (HRU.out.bd.c 0 (by decide)).1
                  have d1 : U.cell? ⟨B + 1, 1, none⟩ = some (.slice ja js.length jc) := (HRU.out.bd.c 1 (by decide)).1
                  have e0 := (HRU.out.bd.c 0 (by decide)).2
                  have e1 := (HRU.out.bd.c 1 (by decide)).2
                  have dz := HRU.out.bd.lt
                  have hNd : recNotes (P.take (q + 1)) = ns := by rw [HN1.out]; rfl
                  have hSd : recStore (P.take (q + 1)) = st.data := by rw [HS1.out]; rfl
                  have HNd : Hid (ns = recNotes (P.take (q + 1))) := hNd.symm
                  have HSd : Hid (st.data = recStore (P.take (q + 1))) := hSd.symm
                  have HD2 : Hid (recDesk me (P.take (q + 1)) = if site = me then (next, Co.keep (isNr num) (js.map JbV.bare)) else (next, js.map JbV.bare)) := by show _ = _; rw [HD1.out]; rfl
                  have hJ := jobAt_any next ja js.length jc js num U HRU.out.jb.row
                  obtain ⟨JA, eJA⟩ : ∃ JA, JA = jbAt num 0 js := ⟨_, rfl⟩
                  have HJA : Hid (JA = jbAt num 0 js) := eJA
                  rw [← eJA] at hJ
                  clear hNd hSd HD1 HN1 HS1 eJA
                  go_upto_region 53 with (go_at_call 18; refine hJ.mono ?_; rintro e V ⟨rfl, hV⟩)
                  have HRV : Hid (RS B V st next ja jc js na nc ns) := HRU.out.below hV
                  have HBV : Hid (Below wo.heap.size wo V) := HBU.out.trans (hV.mono HBU.out.size)
                  have HBoxV : Hid (BoxN V wp.heap.size 8 [.int .i64 4, .int .i64 site, .int .i64 num, .int .i64 key, .int .i64 value, .int .i64 ask, .bool yes, .slice sa sl sc]) := HBox.out.below hV HBox.out.lt
                  have HBpV : Hid (B + 2 ≤ V.heap.size) := by show _ ≤ _; have := HRV.out.bd.lt; have := hV.size; omega
                  clear u0 u1 u2 u3 u4 u5 u6 u7 uz d0 d1 e0 e1 dz hJ hV HRU HBU HBox
                  have v1 : V.cell? ⟨wp.heap.size, 1, none⟩ = some (.int .i64 site) := (HBoxV.out.c 1 (by decide)).1
                  have vz := HBoxV.out.lt
                  by_cases hc1 : site = me
                  · subst hc1
                    by_cases hc2 : JA = -1
                    · have HDd : Hid ((next, js.map JbV.bare) = recDesk site (P.take (q + 1))) := by
                        show _ = _
                        rw [HD2.out, if_pos rfl]
                        have h8 : js.any (isNr num) = false := by
                          have h9 := HJA.out
                          rw [hc2] at h9
                          have h7 := jbAt_none js 0 (n := num)
                          rw [← h9] at h7
                          exact h7.mp rfl
                        have h6 : Co.keep (isNr num) js = js := by
                          unfold Co.keep
                          rw [List.filter_eq_self]
                          intro x hx
                          have := List.any_eq_false.1 h8 x hx
                          simpa using this
                        rw [← keep_bare (fun _ => rfl), h6]
                      subst hc2
                      clear HD2 HJA HBoxV
                      go_wp2
                      go_roundw
                      case rel => exact ⟨q + 1, st, next, ja, jc, js, na, nc, ns, rfl, by go_num, by omega, HRV, HSd, HDd, HNd, HBV⟩
                      case measure => simp [intOf]; omega
                    · obtain ⟨i, hi, hJi⟩ : ∃ i : Nat, i < js.length ∧ JA = (i : Int) ∧ (js.getD i default).n = num := by
                        rcases jbAt_no (n := num) js 0 with h9 | ⟨i, h1, h2, h3, -⟩
                        · exact absurd (HJA.out.trans h9) hc2
                        · exact ⟨i, h1, by rw [HJA.out, h2]; simp, h3⟩
                      obtain ⟨hJi, hni⟩ := hJi
                      subst hJi
                      have hi0 : (0 : Int) ≤ (i : Int) := by omega
                      have hwk : woAt js i js.length = Co.keep (isNr num) js := by rw [woAt_all js i hi]; exact wo_keep js i hi hni HPw.out
                      have hWo := without_any ja js.length jc js i V HRV.out.jb.row (by omega) hi
                      rw [hwk] at hWo
                      have HDd : Hid ((next, (Co.keep (isNr num) js).map JbV.bare) = recDesk site (P.take (q + 1))) := by
                        show _ = _
                        rw [HD2.out, if_pos rfl, keep_bare (fun _ => rfl)]
                      clear HD2 HJA hc2 hwk hni HPw hi
                      have d1 : V.cell? ⟨B + 1, 1, none⟩ = some (.slice ja js.length jc) := (HRV.out.bd.c 1 (by decide)).1
                      have dz := HRV.out.bd.lt
                      have HPut : Hid (∀ (Z : World) (a5 : Option Addr) (c5 m : Nat), m = (Co.keep (isNr num) js).length → Z.ownsRow V.heap.size 64 6 (.slice a5 m c5) m (flat JbV.cells (Co.keep (isNr num) js)) → Below V.heap.size V Z → RS B (Z.setCell ⟨B + 1, 1, none⟩ (.slice a5 m c5)) st next a5 c5 (Co.keep (isNr num) js) na nc ns ∧ Below wo.heap.size wo (Z.setCell ⟨B + 1, 1, none⟩ (.slice a5 m c5)) ∧ (Z.cell? ⟨B + 1, 1, none⟩ = some (.slice ja js.length jc) ∧ Z.frozen? ⟨B + 1, 1, none⟩ = false ∧ B + 1 < Z.heap.size)) := fun Z a5 c5 m hm ho hb => by
                        have hR := HRV.out.below hb
                        have hsub : ∀ j ∈ Co.keep (isNr num) js, j ∈ js := fun j hj => (List.mem_filter.1 hj).1
                        have hjm : JobsMem Z (B + 2) a5 m c5 (Co.keep (isNr num) js) := jobsMem_of (Co.own_base ho HBpV.out) hm.symm (fun j hj => hR.jb.bare j (hsub j hj)) (fun j hj => ⟨(hR.jb.ask j (hsub j hj)).1, (hR.jb.ask j (hsub j hj)).2.1⟩)
                        refine ⟨hR.putJobs hm hjm, (HBV.out.trans (hb.mono HBV.out.size)).setCell (p := ⟨B + 1, 1, none⟩) (by have := HBw.out; show wo.heap.size ≤ B + 1; omega) _, (hR.bd.c 1 (by decide)).1, (hR.bd.c 1 (by decide)).2, hR.bd.lt⟩
                      clear HRV HBV HBpV HBoxV
                      go_wp2_with (go_at_call 20; refine hWo.mono ?_; rintro e Z ⟨a5, c5, m, rfl, hm, ho, hZ⟩; obtain ⟨HR8, HB9, z1, zf1, zz⟩ := HPut.out Z a5 c5 m hm ho hZ)
                      rw [hm] at HR8 HB9
                      go_roundw
                      case rel => exact ⟨q + 1, st, next, a5, c5, (Co.keep (isNr num) js), na, nc, ns, rfl, by go_num, by omega, HR8, HSd, HDd, HNd, HB9⟩
                      case measure => simp [intOf]; omega
                  · have HDd : Hid ((next, js.map JbV.bare) = recDesk me (P.take (q + 1))) := by show _ = _; rw [HD2.out, if_neg hc1]
                    have hc1' : (site == me) = false := beq_eq_false_iff_ne.2 hc1
                    clear HD2 HJA HBoxV
                    go_wp2
                    go_roundw
                    case rel => exact ⟨q + 1, st, next, ja, jc, js, na, nc, ns, rfl, by go_num, by omega, HRV, HSd, HDd, HNd, HBV⟩
                    case measure => simp [intOf]; omega
                · as_aux_lemma => -- begun
                  have d0 : U.cell? ⟨B + 1, 0, none⟩ = some (.int .i64 next) := (HRU.out.bd.c 0 (by decide)).1
                  have d1 : U.cell? ⟨B + 1, 1, none⟩ = some (.slice ja js.length jc) := (HRU.out.bd.c 1 (by decide)).1
                  have e0 := (HRU.out.bd.c 0 (by decide)).2
                  have e1 := (HRU.out.bd.c 1 (by decide)).2
                  have dz := HRU.out.bd.lt
                  have hNd : recNotes (P.take (q + 1)) = ns := by rw [HN1.out]; rfl
                  have hSd : recStore (P.take (q + 1)) = st.data := by rw [HS1.out]; rfl
                  have HNd : Hid (ns = recNotes (P.take (q + 1))) := hNd.symm
                  have HSd : Hid (st.data = recStore (P.take (q + 1))) := hSd.symm
                  have HD2 : Hid (recDesk me (P.take (q + 1)) = if site = me ∧ next ≤ num then (num + 1, js.map JbV.bare) else (next, js.map JbV.bare)) := by show _ = _; rw [HD1.out]; rfl
                  have hn1 : IntKind.i64.wrap (num + 1) = num + 1 := by rw [IntKind.wrap_i64]; omega
                  clear hNd hSd HD1 HN1 HS1
                  by_cases hc : site = me ∧ next ≤ num
                  · have HDd : Hid ((num + 1, js.map JbV.bare) = recDesk me (P.take (q + 1))) := by show _ = _; rw [HD2.out, if_pos hc]
                    obtain ⟨hc1, hc2⟩ := hc
                    subst hc1
                    have HR9 := HRU.out.putNext (num + 1)
                    obtain ⟨F9, hF9⟩ : ∃ F9 : World, F9 = U.setCell ⟨B + 1, 0, none⟩ (.int .i64 (num + 1)) := ⟨_, rfl⟩
                    have HR8 : Hid (RS B F9 st (num + 1) ja jc js na nc ns) := by rw [hF9]; exact HR9
                    have HB9 : Hid (Below wo.heap.size wo F9) := by
                      show Below _ _ _
                      rw [hF9]
                      exact HBU.out.setCell (p := ⟨B + 1, 0, none⟩) (by have := HBw.out; show wo.heap.size ≤ B + 1; omega) _
                    clear HR9 HD2 HRU HBU HBox
                    go_wp2
                    rw [← hF9]
                    clear hF9
                    go_roundw
                    case rel => exact ⟨q + 1, st, (num + 1), ja, jc, js, na, nc, ns, rfl, by go_num, by omega, HR8, HSd, HDd, HNd, HB9⟩
                    case measure => simp [intOf]; omega
                  · have HDd : Hid ((next, js.map JbV.bare) = recDesk me (P.take (q + 1))) := by show _ = _; rw [HD2.out, if_neg hc]
                    clear HD2 HBox
                    by_cases hc1 : site = me
                    · have hc2 : ¬ next ≤ num := fun h9 => hc ⟨hc1, h9⟩
                      subst hc1
                      clear hc
                      go_wp2
                      go_roundw
                      case rel => exact ⟨q + 1, st, next, ja, jc, js, na, nc, ns, rfl, by go_num, by omega, HRU, HSd, HDd, HNd, HBU⟩
                      case measure => simp [intOf]; omega
                    · have hc1' : (site == me) = false := beq_eq_false_iff_ne.2 hc1
                      clear hc
                      go_wp2
                      go_roundw
                      case rel => exact ⟨q + 1, st, next, ja, jc, js, na, nc, ns, rfl, by go_num, by omega, HRU, HSd, HDd, HNd, HBU⟩
                      case measure => simp [intOf]; omega
                · as_aux_lemma => -- forced
                  have s0 : U.cell? ⟨B, 0, none⟩ = some (.slice st.ia st.il st.ic) := (HRU.out.bs.c 0 (by decide)).1
                  have s1 : U.cell? ⟨B, 1, none⟩ = some (.slice st.la st.ll st.lc) := (HRU.out.bs.c 1 (by decide)).1
                  have s2 : U.cell? ⟨B, 2, none⟩ = some (.slice st.da st.dl st.dc) := (HRU.out.bs.c 2 (by decide)).1
                  have s3 : U.cell? ⟨B, 3, none⟩ = some (.slice st.oa st.ol st.oc) := (HRU.out.bs.c 3 (by decide)).1
                  have g0 := (HRU.out.bs.c 0 (by decide)).2
                  have g1 := (HRU.out.bs.c 1 (by decide)).2
                  have g2 := (HRU.out.bs.c 2 (by decide)).2
                  have g3 := (HRU.out.bs.c 3 (by decide)).2
                  have sz := HRU.out.bs.lt
                  have hNd : recNotes (P.take (q + 1)) = ns ++ [⟨site, num, yes, false⟩] := by rw [HN1.out]; rfl
                  have HNd : Hid (ns ++ [⟨site, num, yes, false⟩] = recNotes (P.take (q + 1))) := hNd.symm
                  have hnl : ns.length ≤ q := by
                    have h8 := notesGo_len (P.take q) (P.take q) 0
                    have h9 : (P.take q).length ≤ q := by simp; omega
                    have h7 : ns = notesGo (P.take q) 0 (P.take q) := HNs.out
                    rw [← h7] at h8
                    omega
                  have hIs := HRU.out.st.isStore
                  have hsz := ok_sizes HStO.out.1 hIs
                  have hol : st.ol ≤ 1759218604441 := by have h8 := hIs.over.1; have := HStO.out.2; omega
                  have hW := endRef_own st (site, num) yes U hIs (by omega) (by omega) (by omega) (by omega)
                  have hDd : recDesk me (P.take (q + 1)) = (next, js.map JbV.bare) := by rw [HD1.out]; rfl
                  have HDd : Hid ((next, js.map JbV.bare) = recDesk me (P.take (q + 1))) := hDd.symm
                  have hE0 : endErr st (site, num) yes = 0 := by
                    unfold endErr
                    have h8 : txOK (site, num) = true := by
                      show (inR site 0 3 && inR num 1 1048576) = true
                      rw [Bool.and_eq_true]
                      constructor <;> (unfold inR; simp; omega)
                    rw [if_pos HStO.out.1, if_pos h8]
                  have HSd0 : Hid (recStore (P.take (q + 1)) = endData st (site, num) yes) := by
                    show _ = _
                    rw [HS1.out, eData_sv st]
                    show (if endErr st (site, num) yes = 0 then _ else _) = _
                    rw [if_pos hE0]
                    rfl
                  rw [hE0] at hW
                  simp only [SV.val] at hW
                  clear hDd hNd HD1 HN1 HS1 hIs hsz hol hE0
                  go_upto_region 27 with (go_at_call 17; refine hW.mono ?_; rintro e V ⟨r1, rfl, hO1, hd1, hV⟩)
                  obtain ⟨ia1, il1, ic1, la1, ll1, lc1, da1, dl1, dc1, oa1, ol1, oc1, it1, lk1, db1, ov1⟩ := r1
                  obtain ⟨X1, hX1⟩ : ∃ X1 : World, X1 = V.alloc (.cells #[.slice ia1 il1 ic1, .slice la1 ll1 lc1, .slice da1 dl1 dc1, .slice oa1 ol1 oc1] 31) := ⟨_, rfl⟩
                  have bX1 : Below V.heap.size V X1 := by rw [hX1]; exact (Below.refl _ _).alloc (Nat.le_refl _) _
                  have xb : BoxN X1 V.heap.size 4 [.slice ia1 il1 ic1, .slice la1 ll1 lc1, .slice da1 dl1 dc1, .slice oa1 ol1 oc1] := by rw [hX1]; exact boxn_new V #[.slice ia1 il1 ic1, .slice la1 ll1 lc1, .slice da1 dl1 dc1, .slice oa1 ol1 oc1] 31 4 rfl
                  rw [← hX1]
                  have bUX : Below U.heap.size U X1 := hV.trans (bX1.mono hV.size)
                  have HRX : Hid (RS B X1 st next ja jc js na nc ns) := HRU.out.below bUX
                  have HBX : Hid (Below wo.heap.size wo X1) := HBU.out.trans (bUX.mono HBU.out.size)
                  have HBoxX : Hid (BoxN X1 wp.heap.size 8 [.int .i64 6, .int .i64 site, .int .i64 num, .int .i64 key, .int .i64 value, .int .i64 ask, .bool yes, .slice sa sl sc]) := HBox.out.below bUX HBox.out.lt
                  have HO1 : Hid (OwnStore X1 (B + 2) ⟨ia1, il1, ic1, la1, ll1, lc1, da1, dl1, dc1, oa1, ol1, oc1, it1, lk1, db1, ov1⟩) := (hO1.below bX1).base (by have := HBp.out; omega)
                  have HXb : Hid (BoxN X1 V.heap.size 4 [.slice ia1 il1 ic1, .slice la1 ll1 lc1, .slice da1 dl1 dc1, .slice oa1 ol1 oc1]) := xb
                  have HSd : Hid (SV.data ⟨ia1, il1, ic1, la1, ll1, lc1, da1, dl1, dc1, oa1, ol1, oc1, it1, lk1, db1, ov1⟩ = recStore (P.take (q + 1))) := by show _ = _; rw [HSd0.out, hd1]
                  clear hX1 hO1 hV bX1 xb bUX hW s0 s1 s2 s3 g0 g1 g2 g3 sz u0 u1 u2 u3 u4 u5 u6 u7 uz HSd0 HRU HBU HBox hd1
                  have x0 : X1.cell? ⟨V.heap.size, 0, none⟩ = some (.slice ia1 il1 ic1) := (HXb.out.c 0 (by decide)).1
                  have x1 : X1.cell? ⟨V.heap.size, 1, none⟩ = some (.slice la1 ll1 lc1) := (HXb.out.c 1 (by decide)).1
                  have x2 : X1.cell? ⟨V.heap.size, 2, none⟩ = some (.slice da1 dl1 dc1) := (HXb.out.c 2 (by decide)).1
                  have x3 : X1.cell? ⟨V.heap.size, 3, none⟩ = some (.slice oa1 ol1 oc1) := (HXb.out.c 3 (by decide)).1
                  have xz := HXb.out.lt
                  have s0 : X1.cell? ⟨B, 0, none⟩ = some (.slice st.ia st.il st.ic) := (HRX.out.bs.c 0 (by decide)).1
                  have s1 : X1.cell? ⟨B, 1, none⟩ = some (.slice st.la st.ll st.lc) := (HRX.out.bs.c 1 (by decide)).1
                  have s2 : X1.cell? ⟨B, 2, none⟩ = some (.slice st.da st.dl st.dc) := (HRX.out.bs.c 2 (by decide)).1
                  have s3 : X1.cell? ⟨B, 3, none⟩ = some (.slice st.oa st.ol st.oc) := (HRX.out.bs.c 3 (by decide)).1
                  have g0 := (HRX.out.bs.c 0 (by decide)).2
                  have g1 := (HRX.out.bs.c 1 (by decide)).2
                  have g2 := (HRX.out.bs.c 2 (by decide)).2
                  have g3 := (HRX.out.bs.c 3 (by decide)).2
                  have sz := HRX.out.bs.lt
                  have HR9 := HRX.out.putS HO1.out
                  obtain ⟨F9, hF9⟩ : ∃ F9 : World, F9 = ((((X1.setCell ⟨B, 0, none⟩ (.slice ia1 il1 ic1)).setCell ⟨B, 1, none⟩ (.slice la1 ll1 lc1)).setCell ⟨B, 2, none⟩ (.slice da1 dl1 dc1)).setCell ⟨B, 3, none⟩ (.slice oa1 ol1 oc1)) := ⟨_, rfl⟩
                  have HR8 : Hid (RS B F9 ⟨ia1, il1, ic1, la1, ll1, lc1, da1, dl1, dc1, oa1, ol1, oc1, it1, lk1, db1, ov1⟩ next ja jc js na nc ns) := by rw [hF9]; exact HR9
                  have HB9 : Hid (Below wo.heap.size wo F9) := by
                    show Below _ _ _
                    rw [hF9]
                    have hBB : wo.heap.size ≤ B := Nat.le_of_eq HBw.out.symm
                    exact (((HBX.out.setCell (p := ⟨B, 0, none⟩) hBB _).setCell (p := ⟨B, 1, none⟩) hBB _).setCell (p := ⟨B, 2, none⟩) hBB _).setCell (p := ⟨B, 3, none⟩) hBB _
                  have HBox9 : Hid (BoxN F9 wp.heap.size 8 [.int .i64 6, .int .i64 site, .int .i64 num, .int .i64 key, .int .i64 value, .int .i64 ask, .bool yes, .slice sa sl sc]) := by
                    show BoxN _ _ _ _
                    have := HBp.out
                    rw [hF9]
                    exact (((HBoxX.out.far (by omega)).far (by omega)).far (by omega)).far (by omega)
                  clear HR9 HRX HO1 HBX HXb HBoxX
                  go_upto_region 30 with (fail)
                  rw [← hF9]
                  clear hF9 x0 x1 x2 x3 xz s0 s1 s2 s3 g0 g1 g2 g3 sz
                  go_loopw [21] (fun s21 wr => s21 = .int .i64 0 ∧ Hid (RS B wr ⟨ia1, il1, ic1, la1, ll1, lc1, da1, dl1, dc1, oa1, ol1, oc1, it1, lk1, db1, ov1⟩ next ja jc js na nc ns) ∧ Hid (BoxN wr wp.heap.size 8 [.int .i64 6, .int .i64 site, .int .i64 num, .int .i64 key, .int .i64 value, .int .i64 ask, .bool yes, .slice sa sl sc]) ∧ Hid (Below wo.heap.size wo wr)) (fun s21 _ => 0)
                  case atStart => exact ⟨rfl, HR8, HBox9, HB9⟩
                  case round =>
                    clear HR8 HBox9 HB9
                    obtain ⟨rfl, HRW, HBoxW, HBW⟩ := hrel
                    have u0 : wr.cell? ⟨wp.heap.size, 0, none⟩ = some (.int .i64 6) := (HBoxW.out.c 0 (by decide)).1
                    have u1 : wr.cell? ⟨wp.heap.size, 1, none⟩ = some (.int .i64 site) := (HBoxW.out.c 1 (by decide)).1
                    have u2 : wr.cell? ⟨wp.heap.size, 2, none⟩ = some (.int .i64 num) := (HBoxW.out.c 2 (by decide)).1
                    have u6 : wr.cell? ⟨wp.heap.size, 5, none⟩ = some (.int .i64 ask) := (HBoxW.out.c 5 (by decide)).1
                    have u7 : wr.cell? ⟨wp.heap.size, 6, none⟩ = some (.bool yes) := (HBoxW.out.c 6 (by decide)).1
                    have uz := HBoxW.out.lt
                    obtain ⟨X, eX⟩ : ∃ X : World, X = (wr.alloc (.cells #[.int .i64 site, .int .i64 num, .bool yes, .bool false] 59)) := ⟨_, rfl⟩
                    have bX : Below wr.heap.size wr X := by rw [eX]; exact ((Below.refl _ _).alloc (Nat.le_refl _) _)
                    have hone : IsRow 4 NV.cells X (some ⟨wr.heap.size, 0, none⟩) 1 1 [(⟨site, num, yes, false⟩ : NV)] := by rw [eX]; exact isOne _ _ _ _ rfl rfl
                    have HRX : Hid (RS B X ⟨ia1, il1, ic1, la1, ll1, lc1, da1, dl1, dc1, oa1, ol1, oc1, it1, lk1, db1, ov1⟩ next ja jc js na nc ns) := HRW.out.below bX
                    have hownX := HRX.out.nt
                    have HBX : Hid (Below wo.heap.size wo X) := HBW.out.trans (bX.mono HBW.out.size)
                    have hBX : B + 2 ≤ X.heap.size := by have := HRX.out.bd.lt; omega
                    have HLB : Hid ((ns.length + 1) * 24 ≤ 140737488355328) := by show (ns.length + 1) * 24 ≤ _; omega
                    obtain ⟨i4, E4⟩ := ntElemR
                    clear HRW HBoxW HBW
                    obtain ⟨LN, eLN⟩ : ∃ LN, LN = ns.length := ⟨_, rfl⟩
                    rw [← eLN] at hownX HLB hnl ⊢
                    have HLN : Hid (LN = ns.length) := eLN
                    clear eLN
                    by_cases hl0 : 0 < LN
                    · have hlt : (0 : Int) < (LN : Int) := by omega
                      clear hl0
                      go_upto_region 36 with (rw [← eX]; refine wpList_append_row E4 (by rfl) (.tmp 161) (.tmp 167) (by rfl) (B + 2) (.slice na LN nc) LN ns (by rfl) hownX _ 1 1 [(⟨site, num, yes, false⟩ : NV)] (by rfl) hone (by unfold maxLen; omega) (by exact HLB.out) hBX ?_; intro a5 c5 w5 own5 gr5 at5)
                      have hl1 : (ns ++ [(⟨site, num, yes, false⟩ : NV)]).length = LN + 1 := by rw [HLN.out]; simp
                      have HR9 : Hid (RS B w5 ⟨ia1, il1, ic1, la1, ll1, lc1, da1, dl1, dc1, oa1, ol1, oc1, it1, lk1, db1, ov1⟩ next ja jc js a5 c5 (ns ++ [⟨site, num, yes, false⟩])) := HRX.out.notes (na' := a5) (nc' := c5) (by rw [← HLN.out]; exact gr5) (by rw [hl1]; exact own5)
                      have HB5 : Hid (Below wo.heap.size wo w5) := HBX.out.trans ⟨gr5.os, gr5.tape, gr5.output, gr5.size, fun i hi => gr5.block i (by have := HBX.out.size; omega) (fun e => by have := (hownX.lt i e.symm).1; have := HBw.out; omega)⟩
                      have HL1 : Hid ((ns ++ [(⟨site, num, yes, false⟩ : NV)]).length = LN + 1) := hl1
                      clear hownX hone gr5 own5 at5 hl1 HRX HBX bX eX hlt u0 u1 u2 u6 uz
                      go_wp2
                      go_roundw
                      case rel => exact ⟨q + 1, ⟨ia1, il1, ic1, la1, ll1, lc1, da1, dl1, dc1, oa1, ol1, oc1, it1, lk1, db1, ov1⟩, next, ja, jc, js, a5, c5, ns ++ [⟨site, num, yes, false⟩], by first | (rw [HL1.out]; done) | (rw [HL1.out]; exact ⟨rfl, rfl, rfl⟩), by go_num, by omega, HR9, by first | exact HSd | (rw [eP] at HSd; exact HSd), by first | exact HDd | (rw [eP] at HDd; exact HDd), by first | exact HNd | (rw [eP] at HNd; exact HNd), HB5⟩
                      case measure => simp [intOf]; omega
                    · have hlt : ¬ (0 : Int) < (LN : Int) := by omega
                      clear hl0
                      go_upto_region 36 with (rw [← eX]; refine wpList_append_row E4 (by rfl) (.tmp 161) (.tmp 167) (by rfl) (B + 2) (.slice na LN nc) LN ns (by rfl) hownX _ 1 1 [(⟨site, num, yes, false⟩ : NV)] (by rfl) hone (by unfold maxLen; omega) (by exact HLB.out) hBX ?_; intro a5 c5 w5 own5 gr5 at5)
                      have hl1 : (ns ++ [(⟨site, num, yes, false⟩ : NV)]).length = LN + 1 := by rw [HLN.out]; simp
                      have HR9 : Hid (RS B w5 ⟨ia1, il1, ic1, la1, ll1, lc1, da1, dl1, dc1, oa1, ol1, oc1, it1, lk1, db1, ov1⟩ next ja jc js a5 c5 (ns ++ [⟨site, num, yes, false⟩])) := HRX.out.notes (na' := a5) (nc' := c5) (by rw [← HLN.out]; exact gr5) (by rw [hl1]; exact own5)
                      have HB5 : Hid (Below wo.heap.size wo w5) := HBX.out.trans ⟨gr5.os, gr5.tape, gr5.output, gr5.size, fun i hi => gr5.block i (by have := HBX.out.size; omega) (fun e => by have := (hownX.lt i e.symm).1; have := HBw.out; omega)⟩
                      have HL1 : Hid ((ns ++ [(⟨site, num, yes, false⟩ : NV)]).length = LN + 1) := hl1
                      clear hownX hone gr5 own5 at5 hl1 HRX HBX bX eX hlt u0 u1 u2 u6 uz
                      go_wp2
                      go_roundw
                      case rel => exact ⟨q + 1, ⟨ia1, il1, ic1, la1, ll1, lc1, da1, dl1, dc1, oa1, ol1, oc1, it1, lk1, db1, ov1⟩, next, ja, jc, js, a5, c5, ns ++ [⟨site, num, yes, false⟩], by first | (rw [HL1.out]; done) | (rw [HL1.out]; exact ⟨rfl, rfl, rfl⟩), by go_num, by omega, HR9, by first | exact HSd | (rw [eP] at HSd; exact HSd), by first | exact HDd | (rw [eP] at HDd; exact HDd), by first | exact HNd | (rw [eP] at HNd; exact HNd), HB5⟩
                      case measure => simp [intOf]; omega
              · obtain rfl : q = k := by omega
                have hnl : ¬ ((q : Int) < (q : Int)) := by omega
                obtain ⟨q1, q2⟩ := HRes.out wp (HB.out.trans (HBr.out.mono HB.out.size))
                have hbw : Below w.heap.size w wp := (HRow.out wp HBr.out).2.1
                have hPt : P.take q = P := List.take_of_length_le (by omega)
                have hzB : w.heap.size + 1 + 1 < B := by
                  have h8 := (HRes.out wo HB.out).2.lt
                  have := HBw.out
                  omega
                rw [hPt] at HSt HDk HNt
                have s0 : wp.cell? ⟨B, 0, none⟩ = some (.slice st.ia st.il st.ic) := (HRS.out.bs.c 0 (by decide)).1
                have s1 : wp.cell? ⟨B, 1, none⟩ = some (.slice st.la st.ll st.lc) := (HRS.out.bs.c 1 (by decide)).1
                have s2 : wp.cell? ⟨B, 2, none⟩ = some (.slice st.da st.dl st.dc) := (HRS.out.bs.c 2 (by decide)).1
                have s3 : wp.cell? ⟨B, 3, none⟩ = some (.slice st.oa st.ol st.oc) := (HRS.out.bs.c 3 (by decide)).1
                have g0 := (HRS.out.bs.c 0 (by decide)).2
                have g1 := (HRS.out.bs.c 1 (by decide)).2
                have g2 := (HRS.out.bs.c 2 (by decide)).2
                have g3 := (HRS.out.bs.c 3 (by decide)).2
                have sz := HRS.out.bs.lt
                have d0 : wp.cell? ⟨B + 1, 0, none⟩ = some (.int .i64 next) := (HRS.out.bd.c 0 (by decide)).1
                have d1 : wp.cell? ⟨B + 1, 1, none⟩ = some (.slice ja js.length jc) := (HRS.out.bd.c 1 (by decide)).1
                have e0 := (HRS.out.bd.c 0 (by decide)).2
                have e1 := (HRS.out.bd.c 1 (by decide)).2
                have dz := HRS.out.bd.lt
                have b0 := (q1.c 0 (by decide)).1
                have b1 := (q1.c 1 (by decide)).1
                have b2 := (q1.c 2 (by decide)).1
                have b3 := (q1.c 3 (by decide)).1
                have f0 := (q1.c 0 (by decide)).2
                have f1 := (q1.c 1 (by decide)).2
                have f2 := (q1.c 2 (by decide)).2
                have f3 := (q1.c 3 (by decide)).2
                have h0 := (q2.c 0 (by decide)).1
                have h1 := (q2.c 1 (by decide)).1
                have i0 := (q2.c 0 (by decide)).2
                have i1 := (q2.c 1 (by decide)).2
                have z1 := q1.lt
                have z2 := q2.lt
                simp only [List.getD_cons_zero, List.getD_cons_succ] at b0 b1 b2 b3 h0 h1
                obtain ⟨F9, hF9⟩ : ∃ F9 : World, F9 = (((((wp.setCell ⟨w.heap.size + 1, 0, none⟩ (.slice st.ia st.il st.ic)).setCell ⟨w.heap.size + 1, 1, none⟩ (.slice st.la st.ll st.lc)).setCell ⟨w.heap.size + 1, 2, none⟩ (.slice st.da st.dl st.dc)).setCell ⟨w.heap.size + 1, 3, none⟩ (.slice st.oa st.ol st.oc)).setCell ⟨w.heap.size + 1 + 1, 0, none⟩ (.int .i64 next)).setCell ⟨w.heap.size + 1 + 1, 1, none⟩ (.slice ja js.length jc) := ⟨_, rfl⟩
                have k0 : F9.cell? ⟨w.heap.size + 1, 0, none⟩ = some (.slice st.ia st.il st.ic) := by rw [hF9]; go_simp
                have k1 : F9.cell? ⟨w.heap.size + 1, 1, none⟩ = some (.slice st.la st.ll st.lc) := by rw [hF9]; go_simp
                have k2 : F9.cell? ⟨w.heap.size + 1, 2, none⟩ = some (.slice st.da st.dl st.dc) := by rw [hF9]; go_simp
                have k3 : F9.cell? ⟨w.heap.size + 1, 3, none⟩ = some (.slice st.oa st.ol st.oc) := by rw [hF9]; go_simp
                have m0 : F9.cell? ⟨w.heap.size + 1 + 1, 0, none⟩ = some (.int .i64 next) := by rw [hF9]; go_simp
                have m1 : F9.cell? ⟨w.heap.size + 1 + 1, 1, none⟩ = some (.slice ja js.length jc) := by rw [hF9]; go_simp
                have HFin : Hid (∀ Z9, Below F9.heap.size F9 Z9 → RebIs w Z9 (.returned (.tuple #[.agg #[.slice st.ia st.il st.ic, .slice st.la st.ll st.lc, .slice st.da st.dl st.dc, .slice st.oa st.ol st.oc], .agg #[.int .i64 next, .slice ja js.length jc], .slice na ns.length nc, .int .i64 0])) E me (rs.map RcM.p)) := by
                  intro Z9 bD
                  rw [← eP]
                  have hR := HRS.out
                  have hX : next = (recDesk me P).1 ∧ js.map JbV.bare = (recDesk me P).2 := by rw [← HDk.out]; exact ⟨rfl, rfl⟩
                  refine Or.inr ⟨HE0.out, st, ja, jc, js, na, nc, ?_, ?_, HSt.out, ?_, hX.2, ?_, ?_⟩
                  · rw [hX.1, ← HNt.out]; rfl
                  · have h9 : OwnStore F9 (B + 2) st := by
                      rw [hF9]
                      exact (((((hR.st.asideS (by omega) _ _).asideS (by omega) _ _).asideS (by omega) _ _).asideS (by omega) _ _).asideS (by omega) _ _).asideS (by omega) _ _
                    exact (h9.below bD).base (by omega)
                  · have h9 : JobsMem F9 (B + 2) ja js.length jc js := by
                      rw [hF9]
                      exact (((((hR.jb.aside (by omega) _ _).aside (by omega) _ _).aside (by omega) _ _).aside (by omega) _ _).aside (by omega) _ _).aside (by omega) _ _
                    exact (h9.below bD).base (by omega)
                  · have h9 : F9.ownsRow (B + 2) 59 4 (.slice na ns.length nc) ns.length (flat NV.cells ns) := by
                      rw [hF9]
                      exact own_aside (own_aside (own_aside (own_aside (own_aside (own_aside hR.nt (by omega)) (by omega)) (by omega)) (by omega)) (by omega)) (by omega)
                    rw [← HNt.out]
                    exact Co.own_base (own_below h9 bD) (by omega)
                  · have h9 : Below w.heap.size w F9 := by
                      rw [hF9]
                      exact (((((hbw.setCell (p := ⟨w.heap.size + 1, 0, none⟩) (Nat.le_succ _) _).setCell (p := ⟨w.heap.size + 1, 1, none⟩) (Nat.le_succ _) _).setCell (p := ⟨w.heap.size + 1, 2, none⟩) (Nat.le_succ _) _).setCell (p := ⟨w.heap.size + 1, 3, none⟩) (Nat.le_succ _) _).setCell (p := ⟨w.heap.size + 1 + 1, 0, none⟩) (by show w.heap.size ≤ w.heap.size + 1 + 1; omega) _).setCell (p := ⟨w.heap.size + 1 + 1, 1, none⟩) (by show w.heap.size ≤ w.heap.size + 1 + 1; omega) _
                    exact h9.trans (bD.mono h9.size)
                clear HRS HSt HDk HNt HBr HStep HRow HRes HC HB hbw hPt q1 q2
                go_upto_region 55 with (fail)
                go_region
                go_wp2
                all_goals
                  rw [← hF9]
                  refine bodyPost_ret (v := .tuple #[.agg #[.slice st.ia st.il st.ic, .slice st.la st.ll st.lc, .slice st.da st.dl st.dc, .slice st.oa st.ol st.oc], .agg #[.int .i64 next, .slice ja js.length jc], .slice na ns.length nc, .int .i64 0]) (by simp [results, Tryz.results5, go_sem, k0, k1, k2, k3, m0, m1]) rfl (HFin.out _ (by first | exact (Below.refl _ _).drew | exact Below.refl _ _))
        · have hE : E = e := H1.out he
          have he' : (e != 0) = true := by simpa using he
          have he'' : (e == 0) = false := beq_eq_false_iff_ne.2 he
          have HEV : Hid (E = e) := hE
          have HNE : Hid (¬ E = 0) := by show ¬ _; rw [hE]; exact he
          obtain ⟨q1, q2⟩ := HRes.out wo HB.out
          have hbw := (HC.out wo HB.out).2
          clear H0 H1 hE he
          have b0 := (q1.c 0 (by decide)).1
          have b1 := (q1.c 1 (by decide)).1
          have b2 := (q1.c 2 (by decide)).1
          have b3 := (q1.c 3 (by decide)).1
          have f0 := (q1.c 0 (by decide)).2
          have f1 := (q1.c 1 (by decide)).2
          have f2 := (q1.c 2 (by decide)).2
          have f3 := (q1.c 3 (by decide)).2
          have d0 := (q2.c 0 (by decide)).1
          have d1 := (q2.c 1 (by decide)).1
          have g0 := (q2.c 0 (by decide)).2
          have g1 := (q2.c 1 (by decide)).2
          have z1 := q1.lt
          have z2 := q2.lt
          simp only [List.getD_cons_zero, List.getD_cons_succ] at b0 b1 b2 b3 d0 d1
          obtain ⟨F9, hF9⟩ : ∃ F9 : World, F9 = (((((wo.setCell ⟨w.heap.size + 1, 0, none⟩ (.slice none 0 0)).setCell ⟨w.heap.size + 1, 1, none⟩ (.slice none 0 0)).setCell ⟨w.heap.size + 1, 2, none⟩ (.slice none 0 0)).setCell ⟨w.heap.size + 1, 3, none⟩ (.slice none 0 0)).setCell ⟨w.heap.size + 1 + 1, 0, none⟩ (.int .i64 0)).setCell ⟨w.heap.size + 1 + 1, 1, none⟩ (.slice none 0 0) := ⟨_, rfl⟩
          have k0 : F9.cell? ⟨w.heap.size + 1, 0, none⟩ = some (.slice none 0 0) := by rw [hF9]; go_simp
          have k1 : F9.cell? ⟨w.heap.size + 1, 1, none⟩ = some (.slice none 0 0) := by rw [hF9]; go_simp
          have k2 : F9.cell? ⟨w.heap.size + 1, 2, none⟩ = some (.slice none 0 0) := by rw [hF9]; go_simp
          have k3 : F9.cell? ⟨w.heap.size + 1, 3, none⟩ = some (.slice none 0 0) := by rw [hF9]; go_simp
          have m0 : F9.cell? ⟨w.heap.size + 1 + 1, 0, none⟩ = some (.int .i64 0) := by rw [hF9]; go_simp
          have m1 : F9.cell? ⟨w.heap.size + 1 + 1, 1, none⟩ = some (.slice none 0 0) := by rw [hF9]; go_simp
          have HF9 : Hid (Below w.heap.size w F9) := by
            show Below _ _ _
            rw [hF9]
            exact (((((hbw.setCell (p := ⟨w.heap.size + 1, 0, none⟩) (Nat.le_succ _) _).setCell (p := ⟨w.heap.size + 1, 1, none⟩) (Nat.le_succ _) _).setCell (p := ⟨w.heap.size + 1, 2, none⟩) (Nat.le_succ _) _).setCell (p := ⟨w.heap.size + 1, 3, none⟩) (Nat.le_succ _) _).setCell (p := ⟨w.heap.size + 1 + 1, 0, none⟩) (by show w.heap.size ≤ w.heap.size + 1 + 1; omega) _).setCell (p := ⟨w.heap.size + 1 + 1, 1, none⟩) (by show w.heap.size ≤ w.heap.size + 1 + 1; omega) _
          clear q1 q2 HRes HC
          go_wp2
          all_goals
            rw [← hF9]
            refine bodyPost_ret (v := .tuple #[.agg #[.slice none 0 0, .slice none 0 0, .slice none 0 0, .slice none 0 0], .agg #[.int .i64 0, .slice none 0 0], .slice none 0 0, .int .i64 e]) (by simp [results, Tryz.results5, go_sem, k0, k1, k2, k3, m0, m1]) rfl ?_
            exact Or.inl ⟨HNE.out, by rw [HEV.out], HF9.out⟩
    · have hme' : inR me 0 (s - 1) = false := by simpa using hme
      have HEV : Hid (E = 2) := by show _ = _; rw [HE.out, if_pos rfl, if_neg hme]
      have HNE : Hid (¬ E = 0) := by show ¬ _; rw [HEV.out]; decide
      rw [hme'] at hin
      clear HE hs14 hme hme' cbu
      go_upto_region 5 with (go_at_call 14; refine hin.mono ?_; rintro e v ⟨rfl, hv⟩; rw [hv]; clear hv)
      clear c0 cz hin hw1
      go_loopw [10, 11] (fun s10 s11 wr => s10 = .int .i64 2 ∧ s11 = .int .i64 0 ∧ Hid (Below W.heap.size W wr)) (fun _ _ _ => 0)
      case atStart => exact ⟨rfl, rfl, HU0⟩
      case round =>
        obtain ⟨rfl, rfl, HB⟩ := hrel
        obtain ⟨q1, q2⟩ := HRes.out wr HB.out
        have hbw := (HC.out wr HB.out).2
        have b0 := (q1.c 0 (by decide)).1
        have b1 := (q1.c 1 (by decide)).1
        have b2 := (q1.c 2 (by decide)).1
        have b3 := (q1.c 3 (by decide)).1
        have f0 := (q1.c 0 (by decide)).2
        have f1 := (q1.c 1 (by decide)).2
        have f2 := (q1.c 2 (by decide)).2
        have f3 := (q1.c 3 (by decide)).2
        have d0 := (q2.c 0 (by decide)).1
        have d1 := (q2.c 1 (by decide)).1
        have g0 := (q2.c 0 (by decide)).2
        have g1 := (q2.c 1 (by decide)).2
        have z1 := q1.lt
        have z2 := q2.lt
        simp only [List.getD_cons_zero, List.getD_cons_succ] at b0 b1 b2 b3 d0 d1
        obtain ⟨F9, hF9⟩ : ∃ F9 : World, F9 = (((((wr.setCell ⟨w.heap.size + 1, 0, none⟩ (.slice none 0 0)).setCell ⟨w.heap.size + 1, 1, none⟩ (.slice none 0 0)).setCell ⟨w.heap.size + 1, 2, none⟩ (.slice none 0 0)).setCell ⟨w.heap.size + 1, 3, none⟩ (.slice none 0 0)).setCell ⟨w.heap.size + 1 + 1, 0, none⟩ (.int .i64 0)).setCell ⟨w.heap.size + 1 + 1, 1, none⟩ (.slice none 0 0) := ⟨_, rfl⟩
        have k0 : F9.cell? ⟨w.heap.size + 1, 0, none⟩ = some (.slice none 0 0) := by rw [hF9]; go_simp
        have k1 : F9.cell? ⟨w.heap.size + 1, 1, none⟩ = some (.slice none 0 0) := by rw [hF9]; go_simp
        have k2 : F9.cell? ⟨w.heap.size + 1, 2, none⟩ = some (.slice none 0 0) := by rw [hF9]; go_simp
        have k3 : F9.cell? ⟨w.heap.size + 1, 3, none⟩ = some (.slice none 0 0) := by rw [hF9]; go_simp
        have m0 : F9.cell? ⟨w.heap.size + 1 + 1, 0, none⟩ = some (.int .i64 0) := by rw [hF9]; go_simp
        have m1 : F9.cell? ⟨w.heap.size + 1 + 1, 1, none⟩ = some (.slice none 0 0) := by rw [hF9]; go_simp
        have HF9 : Hid (Below w.heap.size w F9) := by
          show Below _ _ _
          rw [hF9]
          exact (((((hbw.setCell (p := ⟨w.heap.size + 1, 0, none⟩) (Nat.le_succ _) _).setCell (p := ⟨w.heap.size + 1, 1, none⟩) (Nat.le_succ _) _).setCell (p := ⟨w.heap.size + 1, 2, none⟩) (Nat.le_succ _) _).setCell (p := ⟨w.heap.size + 1, 3, none⟩) (Nat.le_succ _) _).setCell (p := ⟨w.heap.size + 1 + 1, 0, none⟩) (by show w.heap.size ≤ w.heap.size + 1 + 1; omega) _).setCell (p := ⟨w.heap.size + 1 + 1, 1, none⟩) (by show w.heap.size ≤ w.heap.size + 1 + 1; omega) _
        clear q1 q2 HRes HC
        go_wp2
        all_goals
          rw [← hF9]
          refine bodyPost_ret (v := .tuple #[.agg #[.slice none 0 0, .slice none 0 0, .slice none 0 0, .slice none 0 0], .agg #[.int .i64 0, .slice none 0 0], .slice none 0 0, .int .i64 2]) (by simp [results, Tryz.results5, go_sem, k0, k1, k2, k3, m0, m1]) rfl ?_
          exact Or.inl ⟨HNE.out, by rw [HEV.out], HF9.out⟩
  · have hF' : (F == 0) = false := beq_eq_false_iff_ne.2 hF
    have hF'' : (F != 0) = true := by simpa using hF
    have HEV : Hid (E = F) := by show _ = _; rw [HE.out, if_neg hF]
    have HNE : Hid (¬ E = 0) := by show ¬ _; rw [HEV.out]; exact hF
    clear HE hs14 cbu
    go_upto_region 5 with (fail)
    clear c0 cz
    go_loopw [10, 11] (fun s10 s11 wr => s10 = .int .i64 F ∧ s11 = .int .i64 0 ∧ Hid (Below W.heap.size W wr)) (fun _ _ _ => 0)
    case atStart => exact ⟨rfl, rfl, HU0⟩
    case round =>
      obtain ⟨rfl, rfl, HB⟩ := hrel
      obtain ⟨q1, q2⟩ := HRes.out wr HB.out
      have hbw := (HC.out wr HB.out).2
      have b0 := (q1.c 0 (by decide)).1
      have b1 := (q1.c 1 (by decide)).1
      have b2 := (q1.c 2 (by decide)).1
      have b3 := (q1.c 3 (by decide)).1
      have f0 := (q1.c 0 (by decide)).2
      have f1 := (q1.c 1 (by decide)).2
      have f2 := (q1.c 2 (by decide)).2
      have f3 := (q1.c 3 (by decide)).2
      have d0 := (q2.c 0 (by decide)).1
      have d1 := (q2.c 1 (by decide)).1
      have g0 := (q2.c 0 (by decide)).2
      have g1 := (q2.c 1 (by decide)).2
      have z1 := q1.lt
      have z2 := q2.lt
      simp only [List.getD_cons_zero, List.getD_cons_succ] at b0 b1 b2 b3 d0 d1
      obtain ⟨F9, hF9⟩ : ∃ F9 : World, F9 = (((((wr.setCell ⟨w.heap.size + 1, 0, none⟩ (.slice none 0 0)).setCell ⟨w.heap.size + 1, 1, none⟩ (.slice none 0 0)).setCell ⟨w.heap.size + 1, 2, none⟩ (.slice none 0 0)).setCell ⟨w.heap.size + 1, 3, none⟩ (.slice none 0 0)).setCell ⟨w.heap.size + 1 + 1, 0, none⟩ (.int .i64 0)).setCell ⟨w.heap.size + 1 + 1, 1, none⟩ (.slice none 0 0) := ⟨_, rfl⟩
      have k0 : F9.cell? ⟨w.heap.size + 1, 0, none⟩ = some (.slice none 0 0) := by rw [hF9]; go_simp
      have k1 : F9.cell? ⟨w.heap.size + 1, 1, none⟩ = some (.slice none 0 0) := by rw [hF9]; go_simp
      have k2 : F9.cell? ⟨w.heap.size + 1, 2, none⟩ = some (.slice none 0 0) := by rw [hF9]; go_simp
      have k3 : F9.cell? ⟨w.heap.size + 1, 3, none⟩ = some (.slice none 0 0) := by rw [hF9]; go_simp
      have m0 : F9.cell? ⟨w.heap.size + 1 + 1, 0, none⟩ = some (.int .i64 0) := by rw [hF9]; go_simp
      have m1 : F9.cell? ⟨w.heap.size + 1 + 1, 1, none⟩ = some (.slice none 0 0) := by rw [hF9]; go_simp
      have HF9 : Hid (Below w.heap.size w F9) := by
        show Below _ _ _
        rw [hF9]
        exact (((((hbw.setCell (p := ⟨w.heap.size + 1, 0, none⟩) (Nat.le_succ _) _).setCell (p := ⟨w.heap.size + 1, 1, none⟩) (Nat.le_succ _) _).setCell (p := ⟨w.heap.size + 1, 2, none⟩) (Nat.le_succ _) _).setCell (p := ⟨w.heap.size + 1, 3, none⟩) (Nat.le_succ _) _).setCell (p := ⟨w.heap.size + 1 + 1, 0, none⟩) (by show w.heap.size ≤ w.heap.size + 1 + 1; omega) _).setCell (p := ⟨w.heap.size + 1 + 1, 1, none⟩) (by show w.heap.size ≤ w.heap.size + 1 + 1; omega) _
      clear q1 q2 HRes HC
      go_wp2
      all_goals
        rw [← hF9]
        refine bodyPost_ret (v := .tuple #[.agg #[.slice none 0 0, .slice none 0 0, .slice none 0 0, .slice none 0 0], .agg #[.int .i64 0, .slice none 0 0], .slice none 0 0, .int .i64 F]) (by simp [results, Tryz.results5, go_sem, k0, k1, k2, k3, m0, m1]) rfl ?_
        exact Or.inl ⟨HNE.out, by rw [HEV.out], HF9.out⟩
end Go.Proofs.YtekglahigjblkaaGreatDoor.Rb
