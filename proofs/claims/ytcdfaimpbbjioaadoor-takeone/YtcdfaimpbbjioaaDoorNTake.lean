/- Contracts of net.refuseTake and net.Take. -/
import Derived.Test.YtcdfaimpbbjioaaDoorNSend
import Derived.Test.YtcdfaimpbbjioaaDoorNDelete
import Derived.Test.YtcdfaimpbbjioaaDoorNBox
namespace Go.Proofs.YtcdfaimpbbjioaaDoor.Nt
open Go.ChangeShapes Go.WideShapes Go.ChangeAt Go.RowKit
set_option linter.unusedVariables false

/-- How many messages are on their way from a site to another one. -/
def atWay (s : Int) (ll : List (List MV)) (f t : Int) : List MV := ll.getD (f * s + t).toNat []
def takeErr (s : Int) (ls : List (Int × Int)) (p : Int) (fs : List FL) (f t pick kind : Int) : Int :=
  if flyFault s ls p fs ≠ 0 then flyFault s ls p fs else if kind ≠ 2 ∧ kind ≠ 3 ∧ kind ≠ 4 then 3 else if inR f 0 (s - 1) = false ∨ inR t 0 (s - 1) = false ∨ pick < 0 then 2 else if (atWay s (mss fs) f t).length = 0 then 6 else if kind = 4 ∧ 30 ≤ (atWay s (mss fs) f t).length then 8 else 0
theorem te_fly {s : Int} {ls : List (Int × Int)} {p : Int} {fs : List FL} {f t pick kind : Int} (h : flyFault s ls p fs ≠ 0) : takeErr s ls p fs f t pick kind = flyFault s ls p fs := by simp [takeErr, h]
theorem te_kind {s : Int} {ls : List (Int × Int)} {p : Int} {fs : List FL} {f t pick kind : Int} (h : flyFault s ls p fs = 0) (hk : kind ≠ 2 ∧ kind ≠ 3 ∧ kind ≠ 4) : takeErr s ls p fs f t pick kind = 3 := by simp [takeErr, h, hk]
theorem te_range {s : Int} {ls : List (Int × Int)} {p : Int} {fs : List FL} {f t pick kind : Int} (h : flyFault s ls p fs = 0) (hk : kind = 2 ∨ kind = 3 ∨ kind = 4) (hr : inR f 0 (s - 1) = false ∨ inR t 0 (s - 1) = false ∨ pick < 0) : takeErr s ls p fs f t pick kind = 2 := by
  unfold takeErr
  rw [if_neg (by simpa using h), if_neg (by omega), if_pos hr]
theorem te_rest {s : Int} {ls : List (Int × Int)} {p : Int} {fs : List FL} {f t pick kind : Int} (h : flyFault s ls p fs = 0) (hk : kind = 2 ∨ kind = 3 ∨ kind = 4) (hf : inR f 0 (s - 1) = true) (ht : inR t 0 (s - 1) = true) (hp : 0 ≤ pick) : takeErr s ls p fs f t pick kind = if (atWay s (mss fs) f t).length = 0 then 6 else if kind = 4 ∧ 30 ≤ (atWay s (mss fs) f t).length then 8 else 0 := by
  unfold takeErr
  rw [if_neg (by simpa using h), if_neg (by omega), if_neg (by rw [hf, ht]; simp; omega)]
theorem te_zero {s : Int} {ls : List (Int × Int)} {p : Int} {fs : List FL} {f t pick kind : Int} (h : takeErr s ls p fs f t pick kind = 0) : flyFault s ls p fs = 0 ∧ (kind = 2 ∨ kind = 3 ∨ kind = 4) ∧ (0 ≤ f ∧ f ≤ s - 1) ∧ (0 ≤ t ∧ t ≤ s - 1) ∧ 0 ≤ pick ∧ 0 < (atWay s (mss fs) f t).length ∧ (kind = 4 → (atWay s (mss fs) f t).length < 30) := by
  unfold takeErr at h
  split at h
  · contradiction
  · rename_i h1
    split at h
    · simp at h
    · rename_i h2
      split at h
      · simp at h
      · rename_i h3
        split at h
        · simp at h
        · rename_i h4
          split at h
          · simp at h
          · rename_i h5
            have h3' : inR f 0 (s - 1) = true ∧ inR t 0 (s - 1) = true ∧ 0 ≤ pick := by
              refine ⟨?_, ?_, ?_⟩
              · cases e : inR f 0 (s - 1) with
                | true => rfl
                | false => exact absurd (.inl e) h3
              · cases e : inR t 0 (s - 1) with
                | true => rfl
                | false => exact absurd (.inr (.inl e)) h3
              · rcases Int.lt_or_le pick 0 with e | e
                · exact absurd (.inr (.inr e)) h3
                · exact e
            exact ⟨by simpa using h1, by omega, inR_of h3'.1, inR_of h3'.2.1, h3'.2.2, by omega, fun e => by omega⟩

set_option maxRecDepth 100000 in
set_option maxHeartbeats 4000000 in
theorem refuseTake_any (s p : Int) (a : Option Addr) (len cap : Nat) (ls : List (Int × Int)) (fa : Option Addr) (fl fc : Nat) (fs : List FL) (f t pick kind : Int) (w : World) (h : IsLabs w a len cap ls) (hL : IsFly w fa fl fc fs) (hm : HasAt w 0 mHas) (ht : TopsAt w) :
    Calls Tryd.prog 22 #[.agg #[.int .i64 s, .slice a len cap, .int .i64 p], .slice fa fl fc, .int .i64 f, .int .i64 t, .int .i64 pick, .int .i64 kind] w fun e w' => e = .returned (.int .i64 (takeErr s ls p fs f t pick kind)) ∧ Below w.heap.size w w' := by
  have hgT : 1 < w.heap.size := World.block_lt_of_cell? w _ ht.1
  have hgM : 0 < w.heap.size := hm.lt (by decide)
  have HN : Hid (fs.length = fl) := hL.row.1
  have HLen : Hid (∀ i, i < fl → (fs.getD i default).ms.length = (fs.getD i default).len) := fun i hi => (hL.each _ (getD_mem (by rw [HN.out]; exact hi))).1
  have hCk := fun w' h1 h2 h3 h4 => netCheck_any s p a len cap ls fa fl fc fs w' h1 h2 h3 h4
  obtain ⟨W, hW⟩ : ∃ W : World, W = w.alloc (.cells #[.int .i64 s, .slice a len cap, .int .i64 p] 26) := ⟨_, rfl⟩
  have hB : Below w.heap.size w W := by rw [hW]; exact (Below.refl _ _).alloc (Nat.le_refl _) _
  have z0 : w.heap.size < W.heap.size := by rw [hW]; simp
  have c0 : W.cell? ⟨w.heap.size, 0, none⟩ = some (.int .i64 s) := by rw [hW]; go_simp
  have c1 : W.cell? ⟨w.heap.size, 1, none⟩ = some (.slice a len cap) := by rw [hW]; go_simp
  have c2 : W.cell? ⟨w.heap.size, 2, none⟩ = some (.int .i64 p) := by rw [hW]; go_simp
  have KA : Hid (∀ U : World, Below W.heap.size W U → U.cell? ⟨w.heap.size, 0, none⟩ = some (.int .i64 s) ∧ U.cell? ⟨w.heap.size, 1, none⟩ = some (.slice a len cap) ∧ U.cell? ⟨w.heap.size, 2, none⟩ = some (.int .i64 p)) := fun U hU =>
    ⟨(hU.cell (p := ⟨w.heap.size, 0, none⟩) z0).trans c0, (hU.cell (p := ⟨w.heap.size, 1, none⟩) z0).trans c1, (hU.cell (p := ⟨w.heap.size, 2, none⟩) z0).trans c2⟩
  have HS : Hid (∀ U : World, Below W.heap.size W U → IsFly U fa fl fc fs) := fun U hU => hL.below (hB.trans (hU.mono hB.size))
  have hlW := h.below hB
  have hfW := hL.below hB
  have mW := hm.below hB hgM
  have tW := ht.below hB hgT
  obtain ⟨R, eR⟩ : ∃ R : Int, R = takeErr s ls p fs f t pick kind := ⟨_, rfl⟩
  have HR : Hid (R = takeErr s ls p fs f t pick kind) := eR
  rw [← eR]
  clear eR h hL hm ht
  go_enter Tryd.func22, Tryd.ntmps22
  go_upto_region 1 with (fail)
  rw [← hW]
  clear hW
  by_cases hf0 : flyFault s ls p fs = 0
  · obtain ⟨hcf, hsq, hfl⟩ := flyFault_of hf0
    obtain ⟨s1, s4, _⟩ := cfg_zero hcf
    obtain ⟨q1, q2, q3⟩ := sq_bd s1 s4
    rw [HN.out] at hsq
    have HSQ : Hid ((fl : Int) = s * s) := hsq
    have HF : Hid (flyFault s ls p fs = 0) := hf0
    have h16 : fl ≤ 16 := by omega
    have H30 : Hid (∀ i, i < fl → (fs.getD i default).len ≤ 30) := fun i hi => by rw [← HLen.out i hi]; exact (hfl i (by rw [HN.out]; exact hi)).1
    rw [hf0] at hCk
    clear hfl hsq hf0
    go_upto_region 4 with (go_at_call 11; refine (hCk _ hlW hfW mW tW).mono ?_; rintro e w1 ⟨rfl, hb1⟩)
    clear c0 c1 c2
    obtain ⟨c0, c1, c2⟩ := KA.out _ hb1
    by_cases hk : kind = 2 ∨ kind = 3 ∨ kind = 4
    · have HK : Hid (kind = 2 ∨ kind = 3 ∨ kind = 4) := hk
      have e4 : ∀ A B : Bool, inR f 0 (s - 1) = A → inR t 0 (s - 1) = B → A = false ∨ B = false ∨ pick < 0 → R = 2 := fun A B h1 h2 h3 => by
        rw [HR.out]
        refine te_range HF.out HK.out ?_
        rw [h1, h2]
        exact h3
      have E4 : Hid (∀ A B : Bool, inR f 0 (s - 1) = A → inR t 0 (s - 1) = B → A = false ∨ B = false ∨ pick < 0 → R = 2) := e4
      clear e4
      have E5 : Hid (inR f 0 (s - 1) = true → inR t 0 (s - 1) = true → 0 ≤ pick → R = if (atWay s (mss fs) f t).length = 0 then 6 else if kind = 4 ∧ 30 ≤ (atWay s (mss fs) f t).length then 8 else 0) := fun h1 h2 h3 => by
        rw [HR.out]
        exact te_rest HF.out HK.out h1 h2 h3
      have hS1 := fun w' => site_any s p a len cap f w' ⟨s1, s4⟩
      have hS2 := fun w' => site_any s p a len cap t w' ⟨s1, s4⟩
      obtain ⟨A, eA⟩ : ∃ A, inR f 0 (s - 1) = A := ⟨_, rfl⟩
      obtain ⟨Bb, eB⟩ : ∃ B, inR t 0 (s - 1) = B := ⟨_, rfl⟩
      rw [eA] at hS1
      rw [eB] at hS2
      have EA : Hid (inR f 0 (s - 1) = A) := eA
      have EB : Hid (inR t 0 (s - 1) = Bb) := eB
      clear eA eB
      have hkk : (kind = 2 ∨ kind = 3) ∨ kind = 4 := by omega
      have hn234 : ¬ (¬ kind = 2 ∧ ¬ kind = 3 ∧ ¬ kind = 4) := by omega
      rcases hk with hk | hk | hk
      all_goals
        subst hk
        go_upto_region 6 with (fail)
        cases A with
        | false =>
          go_wp2_with (go_at_call 28; refine (hS1 _).mono ?_; rintro e u1 ⟨rfl, hu1⟩)
          go_ret
          exact ⟨ret_int (E4.out _ _ EA.out EB.out (.inl rfl)).symm, hB.trans ((hb1.trans (hu1.mono hb1.size)).mono hB.size)⟩
        | true =>
          cases Bb with
          | false =>
            go_wp2_with (first | (go_at_call 28; refine (hS1 _).mono ?_; rintro e u1 ⟨rfl, hu1⟩; clear hS1; have hv1 := hb1.trans (hu1.mono hb1.size); obtain ⟨c0', c1', c2'⟩ := KA.out _ hv1) | (go_at_call 28; refine (hS2 _).mono ?_; rintro e u2 ⟨rfl, hu2⟩))
            go_ret
            exact ⟨ret_int (E4.out _ _ EA.out EB.out (.inr (.inl rfl))).symm, hB.trans ((hv1.trans (hu2.mono hv1.size)).mono hB.size)⟩
          | true =>
            by_cases hp : pick < 0
            · go_wp2_with (first | (go_at_call 28; refine (hS1 _).mono ?_; rintro e u1 ⟨rfl, hu1⟩; clear hS1; have hv1 := hb1.trans (hu1.mono hb1.size); obtain ⟨c0', c1', c2'⟩ := KA.out _ hv1) | (go_at_call 28; refine (hS2 _).mono ?_; rintro e u2 ⟨rfl, hu2⟩))
              go_ret
              exact ⟨ret_int (E4.out _ _ EA.out EB.out (.inr (.inr hp))).symm, hB.trans ((hv1.trans (hu2.mono hv1.size)).mono hB.size)⟩
            · have sf := inR_of EA.out
              have sd := inR_of EB.out
              obtain ⟨u1', u2', u3'⟩ := mul_bd s1 s4 sf.1 sf.2
              have hpl := fun w' => place_any s p a len cap f t w' s1 s4 sf sd
              have hq0 : 0 ≤ f * s + t ∧ f * s + t < (fl : Int) := by rw [HSQ.out]; omega
              obtain ⟨q, eq⟩ : ∃ q : Nat, (q : Int) = f * s + t := ⟨(f * s + t).toNat, by omega⟩
              rw [← eq] at hpl hq0
              have HQ : Hid ((q : Int) = f * s + t) := eq
              clear eq u1' u2' u3'
              have hqf : q < fl := by omega
              have hE5 := E5.out EA.out EB.out (by omega)
              have hat : atWay s (mss fs) f t = (fs.getD q default).ms := by
                unfold atWay
                rw [← HQ.out, Int.toNat_natCast, mss_at]
              rw [hat, HLen.out q hqf] at hE5
              have HE5 := hE5
              have hx30 := H30.out q hqf
              clear hE5 hat
              go_upto_region 8 with (first | (go_at_call 28; refine (hS1 _).mono ?_; rintro e u1 ⟨rfl, hu1⟩; clear hS1; have hv1 := hb1.trans (hu1.mono hb1.size); obtain ⟨c0', c1', c2'⟩ := KA.out _ hv1) | (go_at_call 28; refine (hS2 _).mono ?_; rintro e u2 ⟨rfl, hu2⟩; have hv2 := hv1.trans (hu2.mono hv1.size)))
              clear c0 c1 c2 c0' c1' c2'
              obtain ⟨c0, c1, c2⟩ := KA.out _ hv2
              obtain ⟨b, off, rfl, hbl, hcell, _⟩ := (HS.out _ hv2).at hqf
              have KC : Hid (∀ U : World, Below u2.heap.size u2 U → U.cell? ⟨b, off + q, none⟩ = some (.slice (fs.getD q default).a (fs.getD q default).len (fs.getD q default).cap)) := fun U hU => (hU.cell (p := ⟨b, off + q, none⟩) hbl).trans hcell
              obtain ⟨x, ex⟩ : ∃ x, x = fs.getD q default := ⟨_, rfl⟩
              rw [← ex] at KC HE5 hx30
              clear ex hcell
              obtain ⟨xa, xl, xc, xs⟩ := x
              simp only [] at KC HE5 hx30
              have HEE : Hid (R = _) := HE5
              clear HE5
              go_upto_region 9 with (go_at_call 19; refine (hpl _).mono ?_; rintro e w3 ⟨rfl, hb3⟩; have hcx := KC.out _ hb3)
              have hw3 := hv2.trans (hb3.mono hv2.size)
              by_cases hn0 : xl = 0
              · subst hn0
                go_wp2
                go_ret
                exact ⟨ret_int (by rw [HEE.out]; simp), hB.trans (hw3.mono hB.size)⟩
              · have hn0' : ¬ (xl : Int) = 0 := by omega
                by_cases h30 : 30 ≤ xl
                · have h30' : (30 : Int) ≤ (xl : Int) := by omega
                  go_wp2
                  go_ret
                  exact ⟨ret_int (by rw [HEE.out]; simp [hn0, h30]), hB.trans (hw3.mono hB.size)⟩
                · have h30' : ¬ (30 : Int) ≤ (xl : Int) := by omega
                  go_wp2
                  go_ret
                  exact ⟨ret_int (by rw [HEE.out]; simp [hn0, h30]), hB.trans (hw3.mono hB.size)⟩
    · have k2 : ¬ kind = 2 := by omega
      have k3 : ¬ kind = 3 := by omega
      have k4 : ¬ kind = 4 := by omega
      clear hk
      have b2 : (kind != 2) = true := by simpa using k2
      have b3 : (kind != 3) = true := by simpa using k3
      have b4 : (kind != 4) = true := by simpa using k4
      go_wp2
      go_ret
      exact ⟨ret_int (by rw [HR.out]; exact (te_kind HF.out ⟨k2, k3, k4⟩).symm), hB.trans (hb1.mono hB.size)⟩
  · have HC : Hid (R = flyFault s ls p fs) := by show _ = _; rw [HR.out]; exact te_fly hf0
    obtain ⟨C, eC⟩ : ∃ C, C = flyFault s ls p fs := ⟨_, rfl⟩
    rw [← eC] at hCk hf0 HC
    clear eC
    go_wp2_with (go_at_call 11; refine (hCk _ hlW hfW mW tW).mono ?_; rintro e w1 ⟨rfl, hb1⟩)
    go_ret
    exact ⟨ret_int HC.out.symm, hB.trans (hb1.mono hB.size)⟩


theorem OwnFly.foreign {w : World} {B b : Nat} {v : Value} {fs : List FL} (h : OwnFly w B v fs) (hb : b < B) (o : Nat) (u : Value) : OwnFly (w.setCell ⟨b, o, none⟩ u) B v fs := by
  have gs := grown_setCell w ⟨b, o, none⟩ u
  have k : ∀ (vv : Value) (e : TypeId) (size n : Nat) (xs : List Value), w.ownsRow B e size vv n xs → vv.ownBlock = none ∨ vv.ownBlock ≠ some b := fun vv _ _ _ _ hh => by
    by_cases e : vv.ownBlock = some b
    · have := (hh.lt b e).1
      omega
    · exact .inr e
  exact ⟨h.row.kept gs (k _ _ _ _ _ h.row), fun i hi => ⟨(h.each i hi).1.kept gs (k _ _ _ _ _ (h.each i hi).1), (h.each i hi).2⟩, h.apart⟩
/-- What is on its way when one was taken. -/
def takenL (s : Int) (ll : List (List MV)) (f t kind : Int) (i : Nat) : List (List MV) :=
  ll.set (f * s + t).toNat (if kind = 4 then atWay s ll f t ++ [(atWay s ll f t).getD i default] else (atWay s ll f t).eraseIdx i)
/-- What Take answers. -/
def TakeAns (s : Int) (ls : List (Int × Int)) (p : Int) (fl : Nat) (fs : List FL) (f t pick kind : Int) (w w' : World) (e : Ending) : Prop :=
  if takeErr s ls p fs f t pick kind = 0 then ∃ g gs, e = .returned (.tuple #[.slice (some ⟨g, 0, none⟩) fl fl, ((atWay s (mss fs) f t).getD (pick.toNat % (atWay s (mss fs) f t).length) default).val, .int .i64 0]) ∧ OwnFly w' w.heap.size (.slice (some ⟨g, 0, none⟩) fl fl) gs ∧ mss gs = takenL s (mss fs) f t kind (pick.toNat % (atWay s (mss fs) f t).length)
  else e = .returned (.tuple #[.slice none 0 0, .agg #[.int .i64 0, .int .i64 0, .int .i64 0, .int .i64 0, .int .i64 0, .int .i64 0, .int .i64 0, .int .i64 0, .int .i64 0, .int .i64 0, .bool false, .int .i64 0], .int .i64 (takeErr s ls p fs f t pick kind)])

set_option maxRecDepth 100000 in
set_option maxHeartbeats 4000000 in
theorem take_any (s p : Int) (a : Option Addr) (len cap : Nat) (ls : List (Int × Int)) (fa : Option Addr) (fl fc : Nat) (fs : List FL) (f t pick kind : Int) (w : World) (hpk : pick ≤ 9223372036854775807) (h : IsLabs w a len cap ls) (hL : IsFly w fa fl fc fs) (hm : HasAt w 0 mHas) (ht : TopsAt w) :
    Calls Tryd.prog 14 #[.agg #[.int .i64 s, .slice a len cap, .int .i64 p], .slice fa fl fc, .int .i64 f, .int .i64 t, .int .i64 pick, .int .i64 kind] w fun e w' => TakeAns s ls p fl fs f t pick kind w w' e ∧ Below w.heap.size w w' := by
  have hgT : 1 < w.heap.size := World.block_lt_of_cell? w _ ht.1
  have hgM : 0 < w.heap.size := hm.lt (by decide)
  have HN : Hid (fs.length = fl) := hL.row.1
  have HLen : Hid (∀ i, i < fl → (fs.getD i default).ms.length = (fs.getD i default).len) := fun i hi => (hL.each _ (getD_mem (by rw [HN.out]; exact hi))).1
  have hRf := fun w' h1 h2 h3 h4 => refuseTake_any s p a len cap ls fa fl fc fs f t pick kind w' h1 h2 h3 h4
  obtain ⟨W, hW⟩ : ∃ W : World, W = (w.alloc (.cells #[.int .i64 s, .slice a len cap, .int .i64 p] 26)).alloc (.cells #[.int .i64 0, .int .i64 0, .int .i64 0, .int .i64 0, .int .i64 0, .int .i64 0, .int .i64 0, .int .i64 0, .int .i64 0, .int .i64 0, .bool false, .int .i64 0] 40) := ⟨_, rfl⟩
  have hB : Below w.heap.size w W := by rw [hW]; exact ((Below.refl _ _).alloc (Nat.le_refl _) _).alloc (by simp) _
  have z0 : w.heap.size < W.heap.size := by rw [hW]; simp; omega
  have z1 : w.heap.size + 1 < W.heap.size := by rw [hW]; simp
  have c0 : W.cell? ⟨w.heap.size, 0, none⟩ = some (.int .i64 s) := by rw [hW]; go_simp
  have c1 : W.cell? ⟨w.heap.size, 1, none⟩ = some (.slice a len cap) := by rw [hW]; go_simp
  have c2 : W.cell? ⟨w.heap.size, 2, none⟩ = some (.int .i64 p) := by rw [hW]; go_simp
  have bxR : BoxN W (w.heap.size + 1) 12 [.int .i64 0, .int .i64 0, .int .i64 0, .int .i64 0, .int .i64 0, .int .i64 0, .int .i64 0, .int .i64 0, .int .i64 0, .int .i64 0, .bool false, .int .i64 0] := by
    rw [hW]
    simpa using boxn_new (w.alloc (.cells #[.int .i64 s, .slice a len cap, .int .i64 p] 26)) #[.int .i64 0, .int .i64 0, .int .i64 0, .int .i64 0, .int .i64 0, .int .i64 0, .int .i64 0, .int .i64 0, .int .i64 0, .int .i64 0, .bool false, .int .i64 0] 40 12 rfl
  have KA : Hid (∀ U : World, Below W.heap.size W U → (U.cell? ⟨w.heap.size, 0, none⟩ = some (.int .i64 s) ∧ U.cell? ⟨w.heap.size, 1, none⟩ = some (.slice a len cap) ∧ U.cell? ⟨w.heap.size, 2, none⟩ = some (.int .i64 p)) ∧ BoxN U (w.heap.size + 1) 12 [.int .i64 0, .int .i64 0, .int .i64 0, .int .i64 0, .int .i64 0, .int .i64 0, .int .i64 0, .int .i64 0, .int .i64 0, .int .i64 0, .bool false, .int .i64 0]) := fun U hU =>
    ⟨⟨(hU.cell (p := ⟨w.heap.size, 0, none⟩) z0).trans c0, (hU.cell (p := ⟨w.heap.size, 1, none⟩) z0).trans c1, (hU.cell (p := ⟨w.heap.size, 2, none⟩) z0).trans c2⟩, bxR.below hU z1⟩
  have HS : Hid (∀ U : World, Below W.heap.size W U → IsFly U fa fl fc fs) := fun U hU => hL.below (hB.trans (hU.mono hB.size))
  have hlW := h.below hB
  have hfW := hL.below hB
  have mW := hm.below hB hgM
  have tW := ht.below hB hgT
  clear h hL hm ht
  go_enter Tryd.func14, Tryd.ntmps14
  go_upto_region 1 with (fail)
  rw [← hW]
  clear hW
  by_cases hte : takeErr s ls p fs f t pick kind = 0
  · obtain ⟨hf0, hk, sf, sd, hp0, hn0, hn30⟩ := te_zero hte
    have HTE : Hid (takeErr s ls p fs f t pick kind = 0) := hte
    obtain ⟨hcf, hsq, hfl⟩ := flyFault_of hf0
    obtain ⟨s1, s4, _⟩ := cfg_zero hcf
    obtain ⟨q1, q2, q3⟩ := sq_bd s1 s4
    rw [HN.out] at hsq
    obtain ⟨u1', u2', u3'⟩ := mul_bd s1 s4 sf.1 sf.2
    have hpl := fun w' => place_any s p a len cap f t w' s1 s4 sf sd
    have hq0 : 0 ≤ f * s + t ∧ f * s + t < (fl : Int) := by rw [hsq]; omega
    have h16 : fl ≤ 16 := by omega
    obtain ⟨q, eq⟩ : ∃ q : Nat, (q : Int) = f * s + t := ⟨(f * s + t).toNat, by omega⟩
    rw [← eq] at hpl hq0
    have hat : atWay s (mss fs) f t = (fs.getD q default).ms := by
      unfold atWay
      rw [← eq, Int.toNat_natCast, mss_at]
    have HAT : Hid (atWay s (mss fs) f t = (fs.getD q default).ms) := hat
    have HQ : Hid ((q : Int) = f * s + t) := eq
    have hqf : q < fl := by omega
    obtain ⟨P, eP⟩ : ∃ P : Nat, (P : Int) = pick := ⟨pick.toNat, by omega⟩
    have HP : Hid (pick.toNat = P) := by show _ = _; omega
    have HLL : Hid (∀ i, i < fl → (fs.getD i default).ms.length ≤ 30) := fun i hi => (hfl i (by rw [HN.out]; exact hi)).1
    have hOw := fun w' h1 => own_any fa fl fc fs w' h1 h16 (fun i hi => by rw [← HLen.out i hi]; exact HLL.out i hi)
    rw [hat] at hn0 hn30
    rw [hte] at hRf
    clear hfl hsq eq u1' u2' u3' hat hf0 hte q1 q2 q3
    go_upto_region 4 with (go_at_call 22; refine (hRf _ hlW hfW mW tW).mono ?_; rintro e w1 ⟨rfl, hb1⟩)
    have hf1 := hfW.below hb1
    go_upto_region 5 with (go_at_call 17; refine (hOw _ hf1).mono ?_; rintro e w2 ⟨g, gs, rfl, hO0, hsame, hb2'⟩)
    have hb2 : Below W.heap.size W w2 := hb1.trans (hb2'.mono hb1.size)
    have HGL : Hid (gs.length = fl) := by show _ = _; rw [hsame.1, HN.out]
    have HMS : Hid (mss gs = mss fs) := mss_same hsame
    have hsq' : (gs.getD q default).ms = (fs.getD q default).ms := hsame.2 q (by rw [HN.out]; exact hqf)
    have hO : OwnFly w2 W.heap.size (.slice (some ⟨g, 0, none⟩) fl fl) gs := hO0.base hb1.size
    rw [← hsq'] at hn0 hn30
    have HAT2 : Hid (atWay s (mss fs) f t = (gs.getD q default).ms) := by show _ = _; rw [HAT.out, hsq']
    clear hO0 hf1 hb2' hsame hsq' c0 c1 c2
    obtain ⟨⟨c0, c1, c2⟩, _⟩ := KA.out _ hb2
    go_upto_region 6 with (go_at_call 19; refine (hpl _).mono ?_; rintro e w3 ⟨rfl, hb3⟩)
    have hOw3 := hO.below hb3
    have hw3 : Below W.heap.size W w3 := hb2.trans (hb3.mono hb2.size)
    have hgl : W.heap.size ≤ g ∧ g < w3.heap.size := hOw3.row.lt g rfl
    obtain ⟨b', off', e', _, hcell, hMq⟩ := hOw3.isFly.2.1.at hqf
    simp only [Option.some.injEq, Addr.mk.injEq, and_true] at e'
    obtain ⟨rfl, rfl⟩ := e'
    simp only [Nat.zero_add] at hcell
    have hEl := (hOw3.each q (by rw [HGL.out]; exact hqf))
    have HPUT : Hid (∀ (V2 w5 : World) (x : FL), Below w3.heap.size w3 V2 → V2.grownBy w5 (gs.getD q default).val.ownBlock → w5.ownsRow W.heap.size 40 12 x.val x.len (flat mcells x.ms) → x.ms.length = x.len → (x.val.ownBlock = (gs.getD q default).val.ownBlock ∨ ∀ m, x.val.ownBlock = some m → V2.heap.size ≤ m) → OwnFly (w5.setCell ⟨g, q, none⟩ x.val) W.heap.size (.slice (some ⟨g, 0, none⟩) fl fl) (gs.set q x) ∧ w5.frozen? ⟨g, q, none⟩ = false ∧ (∃ v, w5.cell? ⟨g, q, none⟩ = some v) ∧ W.heap.size ≤ g ∧ g < V2.heap.size) := fun V2 w5 x hV2 hgr hown hln hnew =>
      (hOw3.below hV2).put (by rw [HGL.out]; exact hqf) hgr hown hln hnew
    have HML : Hid ((gs.getD q default).ms.length = (gs.getD q default).len) := hMq.1
    rw [HML.out] at hn0 hn30
    have hx30 : (gs.getD q default).len ≤ 30 := by rw [← HML.out, ← mss_at, HMS.out, mss_at]; exact HLL.out q hqf
    obtain ⟨x, ex⟩ : ∃ x, x = gs.getD q default := ⟨_, rfl⟩
    rw [← ex] at hcell hMq hEl HPUT HML hn0 hn30 hx30 HAT2
    clear ex
    obtain ⟨xa, xl, xc, xs⟩ := x
    obtain ⟨hEl1, _⟩ := hEl
    simp only [FL.val] at hcell hMq hEl1 HPUT HML hn0 hn30 hx30 HAT2
    obtain ⟨gx, rfl⟩ : ∃ gx, xa = some ⟨gx, 0, none⟩ := by
      rcases hEl1.2 with ⟨hv, hn⟩ | ⟨g', cap2, cur, hv, _⟩
      · omega
      · simp at hv; exact ⟨g', hv.1⟩
    have hgx : W.heap.size ≤ gx ∧ gx < w3.heap.size := hEl1.lt gx rfl
    obtain ⟨I, eI⟩ : ∃ I : Nat, I = P % xl := ⟨_, rfl⟩
    have hI : I < xl := by rw [eI]; exact Nat.mod_lt _ hn0
    have hmod : (P : Int).tmod (xl : Int) = (I : Int) := by rw [eI, Int.tmod_eq_emod_of_nonneg (by omega)]; first | exact (Int.natCast_mod P xl).symm | exact (Int.natCast_emod P xl).symm | simp
    have HI : Hid (pick.toNat % (atWay s (mss fs) f t).length = I) := by show _ = _; rw [HP.out, HAT2.out, HML.out, eI]
    have hI' : (I : Int) < (xl : Int) := by omega
    have hnz : ¬ (xl : Int) = 0 := by omega
    have wI : IntKind.i64.wrap (I : Int) = (I : Int) := wrapI (by omega)
    have wI1 : IntKind.i64.wrap ((I : Int) + 1) = (I : Int) + 1 := wrapI (by omega)
    clear eI
    obtain ⟨bb, offb, eb, hlb, hc⟩ := hMq.2.2.2.2 hn0
    simp only [Option.some.injEq, Addr.mk.injEq, and_true] at eb
    obtain ⟨rfl, rfl⟩ := eb
    have hcells := hc I hI
    have HMV : Hid ((atWay s (mss fs) f t).getD I default = xs.getD I default) := by show _ = _; rw [HAT2.out]
    obtain ⟨m, em⟩ : ∃ m, m = xs.getD I default := ⟨_, rfl⟩
    rw [← em] at hcells HMV
    clear em hc
    obtain ⟨kd, frm, dst, site, num, label, key, value, version, ask, yes, code⟩ := m

    have a0 := hcells 0 (by decide)
    have a1 := hcells 1 (by decide)
    have a2 := hcells 2 (by decide)
    have a3 := hcells 3 (by decide)
    have a4 := hcells 4 (by decide)
    have a5 := hcells 5 (by decide)
    have a6 := hcells 6 (by decide)
    have a7 := hcells 7 (by decide)
    have a8 := hcells 8 (by decide)
    have a9 := hcells 9 (by decide)
    have a10 := hcells 10 (by decide)
    have a11 := hcells 11 (by decide)
    simp only [mcells, List.getElem?_cons_zero, List.getElem?_cons_succ, Nat.add_zero, Nat.zero_add] at a0 a1 a2 a3 a4 a5 a6 a7 a8 a9 a10 a11
    clear hcells
    subst eP
    go_upto_region 8 with (fail)
    obtain ⟨V, hV⟩ : ∃ V : World, V = w3.alloc (.cells #[.int .i64 kd, .int .i64 frm, .int .i64 dst, .int .i64 site, .int .i64 num, .int .i64 label, .int .i64 key, .int .i64 value, .int .i64 version, .int .i64 ask, .bool yes, .int .i64 code] 40) := ⟨_, rfl⟩
    have hbV : Below w3.heap.size w3 V := by rw [hV]; exact (Below.refl _ _).alloc (Nat.le_refl _) _
    have bxM : BoxN V w3.heap.size 12 [.int .i64 kd, .int .i64 frm, .int .i64 dst, .int .i64 site, .int .i64 num, .int .i64 label, .int .i64 key, .int .i64 value, .int .i64 version, .int .i64 ask, .bool yes, .int .i64 code] := by rw [hV]; exact boxn_new w3 #[.int .i64 kd, .int .i64 frm, .int .i64 dst, .int .i64 site, .int .i64 num, .int .i64 label, .int .i64 key, .int .i64 value, .int .i64 version, .int .i64 ask, .bool yes, .int .i64 code] 40 12 rfl
    rw [← hV]
    clear hV a0 a1 a2 a3 a4 a5 a6 a7 a8 a9 a10 a11
    have zM := bxM.lt
    have m0 : V.cell? ⟨w3.heap.size, 0, none⟩ = some (.int .i64 kd) := (bxM.c 0 (by omega)).1
    have m1 : V.cell? ⟨w3.heap.size, 1, none⟩ = some (.int .i64 frm) := (bxM.c 1 (by omega)).1
    have m2 : V.cell? ⟨w3.heap.size, 2, none⟩ = some (.int .i64 dst) := (bxM.c 2 (by omega)).1
    have m3 : V.cell? ⟨w3.heap.size, 3, none⟩ = some (.int .i64 site) := (bxM.c 3 (by omega)).1
    have m4 : V.cell? ⟨w3.heap.size, 4, none⟩ = some (.int .i64 num) := (bxM.c 4 (by omega)).1
    have m5 : V.cell? ⟨w3.heap.size, 5, none⟩ = some (.int .i64 label) := (bxM.c 5 (by omega)).1
    have m6 : V.cell? ⟨w3.heap.size, 6, none⟩ = some (.int .i64 key) := (bxM.c 6 (by omega)).1
    have m7 : V.cell? ⟨w3.heap.size, 7, none⟩ = some (.int .i64 value) := (bxM.c 7 (by omega)).1
    have m8 : V.cell? ⟨w3.heap.size, 8, none⟩ = some (.int .i64 version) := (bxM.c 8 (by omega)).1
    have m9 : V.cell? ⟨w3.heap.size, 9, none⟩ = some (.int .i64 ask) := (bxM.c 9 (by omega)).1
    have m10 : V.cell? ⟨w3.heap.size, 10, none⟩ = some (.bool yes) := (bxM.c 10 (by omega)).1
    have m11 : V.cell? ⟨w3.heap.size, 11, none⟩ = some (.int .i64 code) := (bxM.c 11 (by omega)).1
    have hcV : V.cell? ⟨g, q, none⟩ = some (.slice (some ⟨gx, 0, none⟩) xl xc) := (hbV.cell (p := ⟨g, q, none⟩) hgl.2).trans hcell
    have hWV : Below W.heap.size W V := hw3.trans (hbV.mono hw3.size)
    have bxR' := (KA.out _ hWV).2
    have own4 : V.ownsRow W.heap.size 40 12 (.slice (some ⟨gx, 0, none⟩) xl xc) xl (flat mcells xs) := own_below hEl1 hbV
    have hzw := hw3.size
    have hgV : g < V.heap.size := Nat.lt_of_lt_of_le hgl.2 hbV.size
    have hq1 : ((q : Int)) < (fl : Int) := hq0.2
    obtain ⟨j0, E⟩ := msElem
    clear hcell
    rcases hk with hk | hk | hk
    · subst hk
      have hDel := delete_any W.heap.size gx xl xc I xs V own4 HML.out hI
      go_upto_region 10 with (fail)
      go_upto_region 11 with (go_at_call 23; refine hDel.mono ?_; rintro e w5 ⟨rfl, own5, gr5⟩; obtain ⟨hO5, fz5, ⟨y5, cl5⟩, hgW, _⟩ := HPUT.out V w5 ⟨some ⟨gx, 0, none⟩, xl - 1, xc, xs.eraseIdx I⟩ hbV gr5 own5 (by rw [List.length_eraseIdx_of_lt (by rw [HML.out]; exact hI), HML.out]) (.inl rfl); simp only [] at hO5)
      have hW5 : Below W.heap.size W w5 := Below.grown hWV gr5 hWV.size (fun m hm => by simp at hm; omega)
      have bM5 : BoxN w5 w3.heap.size 12 [.int .i64 kd, .int .i64 frm, .int .i64 dst, .int .i64 site, .int .i64 num, .int .i64 label, .int .i64 key, .int .i64 value, .int .i64 version, .int .i64 ask, .bool yes, .int .i64 code] := bxM.grown gr5 (by simp; omega)
      have bR5 : BoxN w5 (w.heap.size + 1) 12 [.int .i64 0, .int .i64 0, .int .i64 0, .int .i64 0, .int .i64 0, .int .i64 0, .int .i64 0, .int .i64 0, .int .i64 0, .int .i64 0, .bool false, .int .i64 0] := bxR.below hW5 z1
      have hOX := hO5
      have hXW : Below W.heap.size W (w5.setCell ⟨g, q, none⟩ (.slice (some ⟨gx, 0, none⟩) (xl - 1) xc)) := hW5.setCell hgW _
      have bM : BoxN (w5.setCell ⟨g, q, none⟩ (.slice (some ⟨gx, 0, none⟩) (xl - 1) xc)) w3.heap.size 12 [.int .i64 kd, .int .i64 frm, .int .i64 dst, .int .i64 site, .int .i64 num, .int .i64 label, .int .i64 key, .int .i64 value, .int .i64 version, .int .i64 ask, .bool yes, .int .i64 code] := bM5.far (by omega)
      have bR : BoxN (w5.setCell ⟨g, q, none⟩ (.slice (some ⟨gx, 0, none⟩) (xl - 1) xc)) (w.heap.size + 1) 12 [.int .i64 0, .int .i64 0, .int .i64 0, .int .i64 0, .int .i64 0, .int .i64 0, .int .i64 0, .int .i64 0, .int .i64 0, .int .i64 0, .bool false, .int .i64 0] := bR5.far (by omega)
      have HTK : Hid (mss (gs.set q ⟨some ⟨gx, 0, none⟩, xl - 1, xc, xs.eraseIdx I⟩) = takenL s (mss fs) f t 2 I) := by
        show _ = _
        rw [mss_set, HMS.out]
        unfold takenL
        rw [if_neg (by decide), HAT2.out, ← HQ.out, Int.toNat_natCast]
      obtain ⟨gs', egs⟩ : ∃ gs', gs' = gs.set q ⟨some ⟨gx, 0, none⟩, xl - 1, xc, xs.eraseIdx I⟩ := ⟨_, rfl⟩
      rw [← egs] at hOX HTK
      clear egs hO5 bM5 bR5
      obtain ⟨X, eX⟩ : ∃ X, X = w5.setCell ⟨g, q, none⟩ (.slice (some ⟨gx, 0, none⟩) (xl - 1) xc) := ⟨_, rfl⟩
      rw [← eX] at hOX hXW bM bR ⊢
      clear eX
      have y0 : _ = some (Value.int .i64 kd) := (bM.c 0 (by omega)).1
      have r0 : _ = some (Value.int .i64 0) := (bR.c 0 (by omega)).1
      have f0 := (bR.c 0 (by omega)).2
      have y1 : _ = some (Value.int .i64 frm) := (bM.c 1 (by omega)).1
      have r1 : _ = some (Value.int .i64 0) := (bR.c 1 (by omega)).1
      have f1 := (bR.c 1 (by omega)).2
      have y2 : _ = some (Value.int .i64 dst) := (bM.c 2 (by omega)).1
      have r2 : _ = some (Value.int .i64 0) := (bR.c 2 (by omega)).1
      have f2 := (bR.c 2 (by omega)).2
      have y3 : _ = some (Value.int .i64 site) := (bM.c 3 (by omega)).1
      have r3 : _ = some (Value.int .i64 0) := (bR.c 3 (by omega)).1
      have f3 := (bR.c 3 (by omega)).2
      have y4 : _ = some (Value.int .i64 num) := (bM.c 4 (by omega)).1
      have r4 : _ = some (Value.int .i64 0) := (bR.c 4 (by omega)).1
      have f4 := (bR.c 4 (by omega)).2
      have y5 : _ = some (Value.int .i64 label) := (bM.c 5 (by omega)).1
      have r5 : _ = some (Value.int .i64 0) := (bR.c 5 (by omega)).1
      have f5 := (bR.c 5 (by omega)).2
      have y6 : _ = some (Value.int .i64 key) := (bM.c 6 (by omega)).1
      have r6 : _ = some (Value.int .i64 0) := (bR.c 6 (by omega)).1
      have f6 := (bR.c 6 (by omega)).2
      have y7 : _ = some (Value.int .i64 value) := (bM.c 7 (by omega)).1
      have r7 : _ = some (Value.int .i64 0) := (bR.c 7 (by omega)).1
      have f7 := (bR.c 7 (by omega)).2
      have y8 : _ = some (Value.int .i64 version) := (bM.c 8 (by omega)).1
      have r8 : _ = some (Value.int .i64 0) := (bR.c 8 (by omega)).1
      have f8 := (bR.c 8 (by omega)).2
      have y9 : _ = some (Value.int .i64 ask) := (bM.c 9 (by omega)).1
      have r9 : _ = some (Value.int .i64 0) := (bR.c 9 (by omega)).1
      have f9 := (bR.c 9 (by omega)).2
      have y10 : _ = some (Value.bool yes) := (bM.c 10 (by omega)).1
      have r10 : _ = some (Value.bool false) := (bR.c 10 (by omega)).1
      have f10 := (bR.c 10 (by omega)).2
      have y11 : _ = some (Value.int .i64 code) := (bM.c 11 (by omega)).1
      have r11 : _ = some (Value.int .i64 0) := (bR.c 11 (by omega)).1
      have f11 := (bR.c 11 (by omega)).2
      go_upto_region 11 with (fail)
      go_region
      all_goals
        clear y0 r0 f0 y1 r1 f1 y2 r2 f2 y3 r3 f3 y4 r4 f4 y5 r5 f5 y6 r6 f6 y7 r7 f7 y8 r8 f8 y9 r9 f9 y10 r10 f10 y11 r11 f11 bM
        have bF := BoxN.below ((((((((((((bR.set 0 (by omega) (.int .i64 kd)).set 1 (by omega) (.int .i64 frm)).set 2 (by omega) (.int .i64 dst)).set 3 (by omega) (.int .i64 site)).set 4 (by omega) (.int .i64 num)).set 5 (by omega) (.int .i64 label)).set 6 (by omega) (.int .i64 key)).set 7 (by omega) (.int .i64 value)).set 8 (by omega) (.int .i64 version)).set 9 (by omega) (.int .i64 ask)).set 10 (by omega) (.bool yes)).set 11 (by omega) (.int .i64 code)) (Below.drew (Below.refl _ _)) (by simpa using bR.lt)
        have oF := OwnFly.below (OwnFly.foreign (OwnFly.foreign (OwnFly.foreign (OwnFly.foreign (OwnFly.foreign (OwnFly.foreign (OwnFly.foreign (OwnFly.foreign (OwnFly.foreign (OwnFly.foreign (OwnFly.foreign (OwnFly.foreign hOX z1 0 (.int .i64 kd)) z1 1 (.int .i64 frm)) z1 2 (.int .i64 dst)) z1 3 (.int .i64 site)) z1 4 (.int .i64 num)) z1 5 (.int .i64 label)) z1 6 (.int .i64 key)) z1 7 (.int .i64 value)) z1 8 (.int .i64 version)) z1 9 (.int .i64 ask)) z1 10 (.bool yes)) z1 11 (.int .i64 code)) (nD (Below.refl _ _))
        have wF := ((Below.setCell (Below.setCell (Below.setCell (Below.setCell (Below.setCell (Below.setCell (Below.setCell (Below.setCell (Below.setCell (Below.setCell (Below.setCell (Below.setCell (hB.trans (hXW.mono hB.size)) (p := ⟨w.heap.size + 1, 0, none⟩) (by show w.heap.size ≤ w.heap.size + 1; omega) (.int .i64 kd)) (p := ⟨w.heap.size + 1, 1, none⟩) (by show w.heap.size ≤ w.heap.size + 1; omega) (.int .i64 frm)) (p := ⟨w.heap.size + 1, 2, none⟩) (by show w.heap.size ≤ w.heap.size + 1; omega) (.int .i64 dst)) (p := ⟨w.heap.size + 1, 3, none⟩) (by show w.heap.size ≤ w.heap.size + 1; omega) (.int .i64 site)) (p := ⟨w.heap.size + 1, 4, none⟩) (by show w.heap.size ≤ w.heap.size + 1; omega) (.int .i64 num)) (p := ⟨w.heap.size + 1, 5, none⟩) (by show w.heap.size ≤ w.heap.size + 1; omega) (.int .i64 label)) (p := ⟨w.heap.size + 1, 6, none⟩) (by show w.heap.size ≤ w.heap.size + 1; omega) (.int .i64 key)) (p := ⟨w.heap.size + 1, 7, none⟩) (by show w.heap.size ≤ w.heap.size + 1; omega) (.int .i64 value)) (p := ⟨w.heap.size + 1, 8, none⟩) (by show w.heap.size ≤ w.heap.size + 1; omega) (.int .i64 version)) (p := ⟨w.heap.size + 1, 9, none⟩) (by show w.heap.size ≤ w.heap.size + 1; omega) (.int .i64 ask)) (p := ⟨w.heap.size + 1, 10, none⟩) (by show w.heap.size ≤ w.heap.size + 1; omega) (.bool yes)) (p := ⟨w.heap.size + 1, 11, none⟩) (by show w.heap.size ≤ w.heap.size + 1; omega) (.int .i64 code))).drew
        obtain ⟨Y, eY⟩ : ∃ Y : World, Y = ((((((((((((X.setCell ⟨w.heap.size + 1, 0, none⟩ (.int .i64 kd)).setCell ⟨w.heap.size + 1, 1, none⟩ (.int .i64 frm)).setCell ⟨w.heap.size + 1, 2, none⟩ (.int .i64 dst)).setCell ⟨w.heap.size + 1, 3, none⟩ (.int .i64 site)).setCell ⟨w.heap.size + 1, 4, none⟩ (.int .i64 num)).setCell ⟨w.heap.size + 1, 5, none⟩ (.int .i64 label)).setCell ⟨w.heap.size + 1, 6, none⟩ (.int .i64 key)).setCell ⟨w.heap.size + 1, 7, none⟩ (.int .i64 value)).setCell ⟨w.heap.size + 1, 8, none⟩ (.int .i64 version)).setCell ⟨w.heap.size + 1, 9, none⟩ (.int .i64 ask)).setCell ⟨w.heap.size + 1, 10, none⟩ (.bool yes)).setCell ⟨w.heap.size + 1, 11, none⟩ (.int .i64 code)).drew := ⟨_, rfl⟩
        rw [← eY] at bF oF wF ⊢
        clear eY bR
        have k0 : Y.cell? ⟨w.heap.size + 1, 0, none⟩ = some (Value.int .i64 kd) := (bF.c 0 (by omega)).1
        have k1 : Y.cell? ⟨w.heap.size + 1, 1, none⟩ = some (Value.int .i64 frm) := (bF.c 1 (by omega)).1
        have k2 : Y.cell? ⟨w.heap.size + 1, 2, none⟩ = some (Value.int .i64 dst) := (bF.c 2 (by omega)).1
        have k3 : Y.cell? ⟨w.heap.size + 1, 3, none⟩ = some (Value.int .i64 site) := (bF.c 3 (by omega)).1
        have k4 : Y.cell? ⟨w.heap.size + 1, 4, none⟩ = some (Value.int .i64 num) := (bF.c 4 (by omega)).1
        have k5 : Y.cell? ⟨w.heap.size + 1, 5, none⟩ = some (Value.int .i64 label) := (bF.c 5 (by omega)).1
        have k6 : Y.cell? ⟨w.heap.size + 1, 6, none⟩ = some (Value.int .i64 key) := (bF.c 6 (by omega)).1
        have k7 : Y.cell? ⟨w.heap.size + 1, 7, none⟩ = some (Value.int .i64 value) := (bF.c 7 (by omega)).1
        have k8 : Y.cell? ⟨w.heap.size + 1, 8, none⟩ = some (Value.int .i64 version) := (bF.c 8 (by omega)).1
        have k9 : Y.cell? ⟨w.heap.size + 1, 9, none⟩ = some (Value.int .i64 ask) := (bF.c 9 (by omega)).1
        have k10 : Y.cell? ⟨w.heap.size + 1, 10, none⟩ = some (Value.bool yes) := (bF.c 10 (by omega)).1
        have k11 : Y.cell? ⟨w.heap.size + 1, 11, none⟩ = some (Value.int .i64 code) := (bF.c 11 (by omega)).1
        go_wp2
        refine bodyPost_ret (v := .tuple #[.slice (some ⟨g, 0, none⟩) fl fl, .agg #[.int .i64 kd, .int .i64 frm, .int .i64 dst, .int .i64 site, .int .i64 num, .int .i64 label, .int .i64 key, .int .i64 value, .int .i64 version, .int .i64 ask, .bool yes, .int .i64 code], .int .i64 0]) (by simp [results, Tryd.results14, go_sem, k0, k1, k2, k3, k4, k5, k6, k7, k8, k9, k10, k11]) rfl ⟨?_, wF⟩
        unfold TakeAns
        rw [if_pos HTE.out, HI.out]
        exact ⟨g, _, by rw [HMV.out]; rfl, oF.base (Nat.le_of_lt z0), HTK.out⟩
    · subst hk
      have hDel := delete_any W.heap.size gx xl xc I xs V own4 HML.out hI
      go_upto_region 10 with (fail)
      go_upto_region 11 with (go_at_call 23; refine hDel.mono ?_; rintro e w5 ⟨rfl, own5, gr5⟩; obtain ⟨hO5, fz5, ⟨y5, cl5⟩, hgW, _⟩ := HPUT.out V w5 ⟨some ⟨gx, 0, none⟩, xl - 1, xc, xs.eraseIdx I⟩ hbV gr5 own5 (by rw [List.length_eraseIdx_of_lt (by rw [HML.out]; exact hI), HML.out]) (.inl rfl); simp only [] at hO5)
      have hW5 : Below W.heap.size W w5 := Below.grown hWV gr5 hWV.size (fun m hm => by simp at hm; omega)
      have bM5 : BoxN w5 w3.heap.size 12 [.int .i64 kd, .int .i64 frm, .int .i64 dst, .int .i64 site, .int .i64 num, .int .i64 label, .int .i64 key, .int .i64 value, .int .i64 version, .int .i64 ask, .bool yes, .int .i64 code] := bxM.grown gr5 (by simp; omega)
      have bR5 : BoxN w5 (w.heap.size + 1) 12 [.int .i64 0, .int .i64 0, .int .i64 0, .int .i64 0, .int .i64 0, .int .i64 0, .int .i64 0, .int .i64 0, .int .i64 0, .int .i64 0, .bool false, .int .i64 0] := bxR.below hW5 z1
      have hOX := hO5
      have hXW : Below W.heap.size W (w5.setCell ⟨g, q, none⟩ (.slice (some ⟨gx, 0, none⟩) (xl - 1) xc)) := hW5.setCell hgW _
      have bM : BoxN (w5.setCell ⟨g, q, none⟩ (.slice (some ⟨gx, 0, none⟩) (xl - 1) xc)) w3.heap.size 12 [.int .i64 kd, .int .i64 frm, .int .i64 dst, .int .i64 site, .int .i64 num, .int .i64 label, .int .i64 key, .int .i64 value, .int .i64 version, .int .i64 ask, .bool yes, .int .i64 code] := bM5.far (by omega)
      have bR : BoxN (w5.setCell ⟨g, q, none⟩ (.slice (some ⟨gx, 0, none⟩) (xl - 1) xc)) (w.heap.size + 1) 12 [.int .i64 0, .int .i64 0, .int .i64 0, .int .i64 0, .int .i64 0, .int .i64 0, .int .i64 0, .int .i64 0, .int .i64 0, .int .i64 0, .bool false, .int .i64 0] := bR5.far (by omega)
      have HTK : Hid (mss (gs.set q ⟨some ⟨gx, 0, none⟩, xl - 1, xc, xs.eraseIdx I⟩) = takenL s (mss fs) f t 3 I) := by
        show _ = _
        rw [mss_set, HMS.out]
        unfold takenL
        rw [if_neg (by decide), HAT2.out, ← HQ.out, Int.toNat_natCast]
      obtain ⟨gs', egs⟩ : ∃ gs', gs' = gs.set q ⟨some ⟨gx, 0, none⟩, xl - 1, xc, xs.eraseIdx I⟩ := ⟨_, rfl⟩
      rw [← egs] at hOX HTK
      clear egs hO5 bM5 bR5
      obtain ⟨X, eX⟩ : ∃ X, X = w5.setCell ⟨g, q, none⟩ (.slice (some ⟨gx, 0, none⟩) (xl - 1) xc) := ⟨_, rfl⟩
      rw [← eX] at hOX hXW bM bR ⊢
      clear eX
      have y0 : _ = some (Value.int .i64 kd) := (bM.c 0 (by omega)).1
      have r0 : _ = some (Value.int .i64 0) := (bR.c 0 (by omega)).1
      have f0 := (bR.c 0 (by omega)).2
      have y1 : _ = some (Value.int .i64 frm) := (bM.c 1 (by omega)).1
      have r1 : _ = some (Value.int .i64 0) := (bR.c 1 (by omega)).1
      have f1 := (bR.c 1 (by omega)).2
      have y2 : _ = some (Value.int .i64 dst) := (bM.c 2 (by omega)).1
      have r2 : _ = some (Value.int .i64 0) := (bR.c 2 (by omega)).1
      have f2 := (bR.c 2 (by omega)).2
      have y3 : _ = some (Value.int .i64 site) := (bM.c 3 (by omega)).1
      have r3 : _ = some (Value.int .i64 0) := (bR.c 3 (by omega)).1
      have f3 := (bR.c 3 (by omega)).2
      have y4 : _ = some (Value.int .i64 num) := (bM.c 4 (by omega)).1
      have r4 : _ = some (Value.int .i64 0) := (bR.c 4 (by omega)).1
      have f4 := (bR.c 4 (by omega)).2
      have y5 : _ = some (Value.int .i64 label) := (bM.c 5 (by omega)).1
      have r5 : _ = some (Value.int .i64 0) := (bR.c 5 (by omega)).1
      have f5 := (bR.c 5 (by omega)).2
      have y6 : _ = some (Value.int .i64 key) := (bM.c 6 (by omega)).1
      have r6 : _ = some (Value.int .i64 0) := (bR.c 6 (by omega)).1
      have f6 := (bR.c 6 (by omega)).2
      have y7 : _ = some (Value.int .i64 value) := (bM.c 7 (by omega)).1
      have r7 : _ = some (Value.int .i64 0) := (bR.c 7 (by omega)).1
      have f7 := (bR.c 7 (by omega)).2
      have y8 : _ = some (Value.int .i64 version) := (bM.c 8 (by omega)).1
      have r8 : _ = some (Value.int .i64 0) := (bR.c 8 (by omega)).1
      have f8 := (bR.c 8 (by omega)).2
      have y9 : _ = some (Value.int .i64 ask) := (bM.c 9 (by omega)).1
      have r9 : _ = some (Value.int .i64 0) := (bR.c 9 (by omega)).1
      have f9 := (bR.c 9 (by omega)).2
      have y10 : _ = some (Value.bool yes) := (bM.c 10 (by omega)).1
      have r10 : _ = some (Value.bool false) := (bR.c 10 (by omega)).1
      have f10 := (bR.c 10 (by omega)).2
      have y11 : _ = some (Value.int .i64 code) := (bM.c 11 (by omega)).1
      have r11 : _ = some (Value.int .i64 0) := (bR.c 11 (by omega)).1
      have f11 := (bR.c 11 (by omega)).2
      go_upto_region 11 with (fail)
      go_region
      all_goals
        clear y0 r0 f0 y1 r1 f1 y2 r2 f2 y3 r3 f3 y4 r4 f4 y5 r5 f5 y6 r6 f6 y7 r7 f7 y8 r8 f8 y9 r9 f9 y10 r10 f10 y11 r11 f11 bM
        have bF := BoxN.below ((((((((((((bR.set 0 (by omega) (.int .i64 kd)).set 1 (by omega) (.int .i64 frm)).set 2 (by omega) (.int .i64 dst)).set 3 (by omega) (.int .i64 site)).set 4 (by omega) (.int .i64 num)).set 5 (by omega) (.int .i64 label)).set 6 (by omega) (.int .i64 key)).set 7 (by omega) (.int .i64 value)).set 8 (by omega) (.int .i64 version)).set 9 (by omega) (.int .i64 ask)).set 10 (by omega) (.bool yes)).set 11 (by omega) (.int .i64 code)) (Below.drew (Below.refl _ _)) (by simpa using bR.lt)
        have oF := OwnFly.below (OwnFly.foreign (OwnFly.foreign (OwnFly.foreign (OwnFly.foreign (OwnFly.foreign (OwnFly.foreign (OwnFly.foreign (OwnFly.foreign (OwnFly.foreign (OwnFly.foreign (OwnFly.foreign (OwnFly.foreign hOX z1 0 (.int .i64 kd)) z1 1 (.int .i64 frm)) z1 2 (.int .i64 dst)) z1 3 (.int .i64 site)) z1 4 (.int .i64 num)) z1 5 (.int .i64 label)) z1 6 (.int .i64 key)) z1 7 (.int .i64 value)) z1 8 (.int .i64 version)) z1 9 (.int .i64 ask)) z1 10 (.bool yes)) z1 11 (.int .i64 code)) (nD (Below.refl _ _))
        have wF := ((Below.setCell (Below.setCell (Below.setCell (Below.setCell (Below.setCell (Below.setCell (Below.setCell (Below.setCell (Below.setCell (Below.setCell (Below.setCell (Below.setCell (hB.trans (hXW.mono hB.size)) (p := ⟨w.heap.size + 1, 0, none⟩) (by show w.heap.size ≤ w.heap.size + 1; omega) (.int .i64 kd)) (p := ⟨w.heap.size + 1, 1, none⟩) (by show w.heap.size ≤ w.heap.size + 1; omega) (.int .i64 frm)) (p := ⟨w.heap.size + 1, 2, none⟩) (by show w.heap.size ≤ w.heap.size + 1; omega) (.int .i64 dst)) (p := ⟨w.heap.size + 1, 3, none⟩) (by show w.heap.size ≤ w.heap.size + 1; omega) (.int .i64 site)) (p := ⟨w.heap.size + 1, 4, none⟩) (by show w.heap.size ≤ w.heap.size + 1; omega) (.int .i64 num)) (p := ⟨w.heap.size + 1, 5, none⟩) (by show w.heap.size ≤ w.heap.size + 1; omega) (.int .i64 label)) (p := ⟨w.heap.size + 1, 6, none⟩) (by show w.heap.size ≤ w.heap.size + 1; omega) (.int .i64 key)) (p := ⟨w.heap.size + 1, 7, none⟩) (by show w.heap.size ≤ w.heap.size + 1; omega) (.int .i64 value)) (p := ⟨w.heap.size + 1, 8, none⟩) (by show w.heap.size ≤ w.heap.size + 1; omega) (.int .i64 version)) (p := ⟨w.heap.size + 1, 9, none⟩) (by show w.heap.size ≤ w.heap.size + 1; omega) (.int .i64 ask)) (p := ⟨w.heap.size + 1, 10, none⟩) (by show w.heap.size ≤ w.heap.size + 1; omega) (.bool yes)) (p := ⟨w.heap.size + 1, 11, none⟩) (by show w.heap.size ≤ w.heap.size + 1; omega) (.int .i64 code))).drew
        obtain ⟨Y, eY⟩ : ∃ Y : World, Y = ((((((((((((X.setCell ⟨w.heap.size + 1, 0, none⟩ (.int .i64 kd)).setCell ⟨w.heap.size + 1, 1, none⟩ (.int .i64 frm)).setCell ⟨w.heap.size + 1, 2, none⟩ (.int .i64 dst)).setCell ⟨w.heap.size + 1, 3, none⟩ (.int .i64 site)).setCell ⟨w.heap.size + 1, 4, none⟩ (.int .i64 num)).setCell ⟨w.heap.size + 1, 5, none⟩ (.int .i64 label)).setCell ⟨w.heap.size + 1, 6, none⟩ (.int .i64 key)).setCell ⟨w.heap.size + 1, 7, none⟩ (.int .i64 value)).setCell ⟨w.heap.size + 1, 8, none⟩ (.int .i64 version)).setCell ⟨w.heap.size + 1, 9, none⟩ (.int .i64 ask)).setCell ⟨w.heap.size + 1, 10, none⟩ (.bool yes)).setCell ⟨w.heap.size + 1, 11, none⟩ (.int .i64 code)).drew := ⟨_, rfl⟩
        rw [← eY] at bF oF wF ⊢
        clear eY bR
        have k0 : Y.cell? ⟨w.heap.size + 1, 0, none⟩ = some (Value.int .i64 kd) := (bF.c 0 (by omega)).1
        have k1 : Y.cell? ⟨w.heap.size + 1, 1, none⟩ = some (Value.int .i64 frm) := (bF.c 1 (by omega)).1
        have k2 : Y.cell? ⟨w.heap.size + 1, 2, none⟩ = some (Value.int .i64 dst) := (bF.c 2 (by omega)).1
        have k3 : Y.cell? ⟨w.heap.size + 1, 3, none⟩ = some (Value.int .i64 site) := (bF.c 3 (by omega)).1
        have k4 : Y.cell? ⟨w.heap.size + 1, 4, none⟩ = some (Value.int .i64 num) := (bF.c 4 (by omega)).1
        have k5 : Y.cell? ⟨w.heap.size + 1, 5, none⟩ = some (Value.int .i64 label) := (bF.c 5 (by omega)).1
        have k6 : Y.cell? ⟨w.heap.size + 1, 6, none⟩ = some (Value.int .i64 key) := (bF.c 6 (by omega)).1
        have k7 : Y.cell? ⟨w.heap.size + 1, 7, none⟩ = some (Value.int .i64 value) := (bF.c 7 (by omega)).1
        have k8 : Y.cell? ⟨w.heap.size + 1, 8, none⟩ = some (Value.int .i64 version) := (bF.c 8 (by omega)).1
        have k9 : Y.cell? ⟨w.heap.size + 1, 9, none⟩ = some (Value.int .i64 ask) := (bF.c 9 (by omega)).1
        have k10 : Y.cell? ⟨w.heap.size + 1, 10, none⟩ = some (Value.bool yes) := (bF.c 10 (by omega)).1
        have k11 : Y.cell? ⟨w.heap.size + 1, 11, none⟩ = some (Value.int .i64 code) := (bF.c 11 (by omega)).1
        go_wp2
        refine bodyPost_ret (v := .tuple #[.slice (some ⟨g, 0, none⟩) fl fl, .agg #[.int .i64 kd, .int .i64 frm, .int .i64 dst, .int .i64 site, .int .i64 num, .int .i64 label, .int .i64 key, .int .i64 value, .int .i64 version, .int .i64 ask, .bool yes, .int .i64 code], .int .i64 0]) (by simp [results, Tryd.results14, go_sem, k0, k1, k2, k3, k4, k5, k6, k7, k8, k9, k10, k11]) rfl ⟨?_, wF⟩
        unfold TakeAns
        rw [if_pos HTE.out, HI.out]
        exact ⟨g, _, by rw [HMV.out]; rfl, oF.base (Nat.le_of_lt z0), HTK.out⟩
    · subst hk
      have hx29 := hn30 rfl
      go_upto_region 9 with (fail)
      go_region_law (first
        | (refine step_append_row E (by rfl) (.tmp 58) (.tmp 60) (by rfl) W.heap.size (.slice (some ⟨gx, 0, none⟩) xl xc) xl xs (by rfl) (own_below own4 (by (with_reducible repeat (first | exact Below.refl _ _ | refine nD ?_ | refine nA ?_ _)); done)) _ 1 1 [⟨kd, frm, dst, site, num, label, key, value, version, ask, yes, code⟩] (by rfl) (isMs_one _ _ _ _ _ _ _ _ _ _ _ _ _) (by unfold maxLen; omega) (by omega) (by simp; have := hWV.size; omega) ?_; intro a5 c5 w5 own5 gr5 at5; obtain ⟨hO5, fz5, ⟨y5, cl5⟩, hgW, _⟩ := HPUT.out _ w5 ⟨a5, xl + 1, c5, xs ++ [⟨kd, frm, dst, site, num, label, key, value, version, ask, yes, code⟩]⟩ (by (with_reducible repeat (first | exact hbV | refine nD ?_ | refine nA ?_ _)); done) gr5 own5 (by rw [List.length_append, HML.out]; rfl) (at5.imp id (fun e m hm => Nat.le_of_eq (Option.some.inj (e.symm.trans hm)))); simp only [] at hO5; have hW5 : Below W.heap.size W w5 := Below.grown (by (with_reducible repeat (first | exact hWV | refine nD ?_ | refine nA ?_ _)); done) gr5 (by simp; have := hWV.size; omega) (fun m hm => (hEl1.lt m hm).1); have bM5 : BoxN w5 w3.heap.size 12 [.int .i64 kd, .int .i64 frm, .int .i64 dst, .int .i64 site, .int .i64 num, .int .i64 label, .int .i64 key, .int .i64 value, .int .i64 version, .int .i64 ask, .bool yes, .int .i64 code] := (BoxN.below bxM (by (with_reducible repeat (first | exact Below.refl _ _ | refine nD ?_ | refine nA ?_ _)); done) zM).grown gr5 (by simp [Value.ownBlock]; omega); have bR5 : BoxN w5 (w.heap.size + 1) 12 [.int .i64 0, .int .i64 0, .int .i64 0, .int .i64 0, .int .i64 0, .int .i64 0, .int .i64 0, .int .i64 0, .int .i64 0, .int .i64 0, .bool false, .int .i64 0] := bxR.below hW5 z1))
      all_goals
        have hOX := hO5
        have hXW : Below W.heap.size W (w5.setCell ⟨g, q, none⟩ (.slice a5 (xl + 1) c5)) := hW5.setCell hgW _
        have bM : BoxN (w5.setCell ⟨g, q, none⟩ (.slice a5 (xl + 1) c5)) w3.heap.size 12 [.int .i64 kd, .int .i64 frm, .int .i64 dst, .int .i64 site, .int .i64 num, .int .i64 label, .int .i64 key, .int .i64 value, .int .i64 version, .int .i64 ask, .bool yes, .int .i64 code] := bM5.far (by omega)
        have bR : BoxN (w5.setCell ⟨g, q, none⟩ (.slice a5 (xl + 1) c5)) (w.heap.size + 1) 12 [.int .i64 0, .int .i64 0, .int .i64 0, .int .i64 0, .int .i64 0, .int .i64 0, .int .i64 0, .int .i64 0, .int .i64 0, .int .i64 0, .bool false, .int .i64 0] := bR5.far (by omega)
        have HTK : Hid (mss (gs.set q ⟨a5, xl + 1, c5, xs ++ [⟨kd, frm, dst, site, num, label, key, value, version, ask, yes, code⟩]⟩) = takenL s (mss fs) f t 4 I) := by
          show _ = _
          rw [mss_set, HMS.out]
          unfold takenL
          rw [if_pos rfl, HMV.out, HAT2.out, ← HQ.out, Int.toNat_natCast]
        obtain ⟨gs', egs⟩ : ∃ gs', gs' = gs.set q ⟨a5, xl + 1, c5, xs ++ [⟨kd, frm, dst, site, num, label, key, value, version, ask, yes, code⟩]⟩ := ⟨_, rfl⟩
        rw [← egs] at hOX HTK
        clear egs hO5 bM5 bR5
        obtain ⟨X, eX⟩ : ∃ X, X = w5.setCell ⟨g, q, none⟩ (.slice a5 (xl + 1) c5) := ⟨_, rfl⟩
        rw [← eX] at hOX hXW bM bR ⊢
        clear eX
        have y0 : _ = some (Value.int .i64 kd) := (bM.c 0 (by omega)).1
        have r0 : _ = some (Value.int .i64 0) := (bR.c 0 (by omega)).1
        have f0 := (bR.c 0 (by omega)).2
        have y1 : _ = some (Value.int .i64 frm) := (bM.c 1 (by omega)).1
        have r1 : _ = some (Value.int .i64 0) := (bR.c 1 (by omega)).1
        have f1 := (bR.c 1 (by omega)).2
        have y2 : _ = some (Value.int .i64 dst) := (bM.c 2 (by omega)).1
        have r2 : _ = some (Value.int .i64 0) := (bR.c 2 (by omega)).1
        have f2 := (bR.c 2 (by omega)).2
        have y3 : _ = some (Value.int .i64 site) := (bM.c 3 (by omega)).1
        have r3 : _ = some (Value.int .i64 0) := (bR.c 3 (by omega)).1
        have f3 := (bR.c 3 (by omega)).2
        have y4 : _ = some (Value.int .i64 num) := (bM.c 4 (by omega)).1
        have r4 : _ = some (Value.int .i64 0) := (bR.c 4 (by omega)).1
        have f4 := (bR.c 4 (by omega)).2
        have y5 : _ = some (Value.int .i64 label) := (bM.c 5 (by omega)).1
        have r5 : _ = some (Value.int .i64 0) := (bR.c 5 (by omega)).1
        have f5 := (bR.c 5 (by omega)).2
        have y6 : _ = some (Value.int .i64 key) := (bM.c 6 (by omega)).1
        have r6 : _ = some (Value.int .i64 0) := (bR.c 6 (by omega)).1
        have f6 := (bR.c 6 (by omega)).2
        have y7 : _ = some (Value.int .i64 value) := (bM.c 7 (by omega)).1
        have r7 : _ = some (Value.int .i64 0) := (bR.c 7 (by omega)).1
        have f7 := (bR.c 7 (by omega)).2
        have y8 : _ = some (Value.int .i64 version) := (bM.c 8 (by omega)).1
        have r8 : _ = some (Value.int .i64 0) := (bR.c 8 (by omega)).1
        have f8 := (bR.c 8 (by omega)).2
        have y9 : _ = some (Value.int .i64 ask) := (bM.c 9 (by omega)).1
        have r9 : _ = some (Value.int .i64 0) := (bR.c 9 (by omega)).1
        have f9 := (bR.c 9 (by omega)).2
        have y10 : _ = some (Value.bool yes) := (bM.c 10 (by omega)).1
        have r10 : _ = some (Value.bool false) := (bR.c 10 (by omega)).1
        have f10 := (bR.c 10 (by omega)).2
        have y11 : _ = some (Value.int .i64 code) := (bM.c 11 (by omega)).1
        have r11 : _ = some (Value.int .i64 0) := (bR.c 11 (by omega)).1
        have f11 := (bR.c 11 (by omega)).2
        go_upto_region 11 with (fail)
        go_region
        all_goals
          clear y0 r0 f0 y1 r1 f1 y2 r2 f2 y3 r3 f3 y4 r4 f4 y5 r5 f5 y6 r6 f6 y7 r7 f7 y8 r8 f8 y9 r9 f9 y10 r10 f10 y11 r11 f11 bM
          have bF := BoxN.below ((((((((((((bR.set 0 (by omega) (.int .i64 kd)).set 1 (by omega) (.int .i64 frm)).set 2 (by omega) (.int .i64 dst)).set 3 (by omega) (.int .i64 site)).set 4 (by omega) (.int .i64 num)).set 5 (by omega) (.int .i64 label)).set 6 (by omega) (.int .i64 key)).set 7 (by omega) (.int .i64 value)).set 8 (by omega) (.int .i64 version)).set 9 (by omega) (.int .i64 ask)).set 10 (by omega) (.bool yes)).set 11 (by omega) (.int .i64 code)) (Below.drew (Below.refl _ _)) (by simpa using bR.lt)
          have oF := OwnFly.below (OwnFly.foreign (OwnFly.foreign (OwnFly.foreign (OwnFly.foreign (OwnFly.foreign (OwnFly.foreign (OwnFly.foreign (OwnFly.foreign (OwnFly.foreign (OwnFly.foreign (OwnFly.foreign (OwnFly.foreign hOX z1 0 (.int .i64 kd)) z1 1 (.int .i64 frm)) z1 2 (.int .i64 dst)) z1 3 (.int .i64 site)) z1 4 (.int .i64 num)) z1 5 (.int .i64 label)) z1 6 (.int .i64 key)) z1 7 (.int .i64 value)) z1 8 (.int .i64 version)) z1 9 (.int .i64 ask)) z1 10 (.bool yes)) z1 11 (.int .i64 code)) (nD (Below.refl _ _))
          have wF := ((Below.setCell (Below.setCell (Below.setCell (Below.setCell (Below.setCell (Below.setCell (Below.setCell (Below.setCell (Below.setCell (Below.setCell (Below.setCell (Below.setCell (hB.trans (hXW.mono hB.size)) (p := ⟨w.heap.size + 1, 0, none⟩) (by show w.heap.size ≤ w.heap.size + 1; omega) (.int .i64 kd)) (p := ⟨w.heap.size + 1, 1, none⟩) (by show w.heap.size ≤ w.heap.size + 1; omega) (.int .i64 frm)) (p := ⟨w.heap.size + 1, 2, none⟩) (by show w.heap.size ≤ w.heap.size + 1; omega) (.int .i64 dst)) (p := ⟨w.heap.size + 1, 3, none⟩) (by show w.heap.size ≤ w.heap.size + 1; omega) (.int .i64 site)) (p := ⟨w.heap.size + 1, 4, none⟩) (by show w.heap.size ≤ w.heap.size + 1; omega) (.int .i64 num)) (p := ⟨w.heap.size + 1, 5, none⟩) (by show w.heap.size ≤ w.heap.size + 1; omega) (.int .i64 label)) (p := ⟨w.heap.size + 1, 6, none⟩) (by show w.heap.size ≤ w.heap.size + 1; omega) (.int .i64 key)) (p := ⟨w.heap.size + 1, 7, none⟩) (by show w.heap.size ≤ w.heap.size + 1; omega) (.int .i64 value)) (p := ⟨w.heap.size + 1, 8, none⟩) (by show w.heap.size ≤ w.heap.size + 1; omega) (.int .i64 version)) (p := ⟨w.heap.size + 1, 9, none⟩) (by show w.heap.size ≤ w.heap.size + 1; omega) (.int .i64 ask)) (p := ⟨w.heap.size + 1, 10, none⟩) (by show w.heap.size ≤ w.heap.size + 1; omega) (.bool yes)) (p := ⟨w.heap.size + 1, 11, none⟩) (by show w.heap.size ≤ w.heap.size + 1; omega) (.int .i64 code))).drew
          obtain ⟨Y, eY⟩ : ∃ Y : World, Y = ((((((((((((X.setCell ⟨w.heap.size + 1, 0, none⟩ (.int .i64 kd)).setCell ⟨w.heap.size + 1, 1, none⟩ (.int .i64 frm)).setCell ⟨w.heap.size + 1, 2, none⟩ (.int .i64 dst)).setCell ⟨w.heap.size + 1, 3, none⟩ (.int .i64 site)).setCell ⟨w.heap.size + 1, 4, none⟩ (.int .i64 num)).setCell ⟨w.heap.size + 1, 5, none⟩ (.int .i64 label)).setCell ⟨w.heap.size + 1, 6, none⟩ (.int .i64 key)).setCell ⟨w.heap.size + 1, 7, none⟩ (.int .i64 value)).setCell ⟨w.heap.size + 1, 8, none⟩ (.int .i64 version)).setCell ⟨w.heap.size + 1, 9, none⟩ (.int .i64 ask)).setCell ⟨w.heap.size + 1, 10, none⟩ (.bool yes)).setCell ⟨w.heap.size + 1, 11, none⟩ (.int .i64 code)).drew := ⟨_, rfl⟩
          rw [← eY] at bF oF wF ⊢
          clear eY bR
          have k0 : Y.cell? ⟨w.heap.size + 1, 0, none⟩ = some (Value.int .i64 kd) := (bF.c 0 (by omega)).1
          have k1 : Y.cell? ⟨w.heap.size + 1, 1, none⟩ = some (Value.int .i64 frm) := (bF.c 1 (by omega)).1
          have k2 : Y.cell? ⟨w.heap.size + 1, 2, none⟩ = some (Value.int .i64 dst) := (bF.c 2 (by omega)).1
          have k3 : Y.cell? ⟨w.heap.size + 1, 3, none⟩ = some (Value.int .i64 site) := (bF.c 3 (by omega)).1
          have k4 : Y.cell? ⟨w.heap.size + 1, 4, none⟩ = some (Value.int .i64 num) := (bF.c 4 (by omega)).1
          have k5 : Y.cell? ⟨w.heap.size + 1, 5, none⟩ = some (Value.int .i64 label) := (bF.c 5 (by omega)).1
          have k6 : Y.cell? ⟨w.heap.size + 1, 6, none⟩ = some (Value.int .i64 key) := (bF.c 6 (by omega)).1
          have k7 : Y.cell? ⟨w.heap.size + 1, 7, none⟩ = some (Value.int .i64 value) := (bF.c 7 (by omega)).1
          have k8 : Y.cell? ⟨w.heap.size + 1, 8, none⟩ = some (Value.int .i64 version) := (bF.c 8 (by omega)).1
          have k9 : Y.cell? ⟨w.heap.size + 1, 9, none⟩ = some (Value.int .i64 ask) := (bF.c 9 (by omega)).1
          have k10 : Y.cell? ⟨w.heap.size + 1, 10, none⟩ = some (Value.bool yes) := (bF.c 10 (by omega)).1
          have k11 : Y.cell? ⟨w.heap.size + 1, 11, none⟩ = some (Value.int .i64 code) := (bF.c 11 (by omega)).1
          go_wp2
          refine bodyPost_ret (v := .tuple #[.slice (some ⟨g, 0, none⟩) fl fl, .agg #[.int .i64 kd, .int .i64 frm, .int .i64 dst, .int .i64 site, .int .i64 num, .int .i64 label, .int .i64 key, .int .i64 value, .int .i64 version, .int .i64 ask, .bool yes, .int .i64 code], .int .i64 0]) (by simp [results, Tryd.results14, go_sem, k0, k1, k2, k3, k4, k5, k6, k7, k8, k9, k10, k11]) rfl ⟨?_, wF⟩
          unfold TakeAns
          rw [if_pos HTE.out, HI.out]
          exact ⟨g, _, by rw [HMV.out]; rfl, oF.base (Nat.le_of_lt z0), HTK.out⟩
  · have HTE : Hid (takeErr s ls p fs f t pick kind ≠ 0) := hte
    obtain ⟨C, eC⟩ : ∃ C, C = takeErr s ls p fs f t pick kind := ⟨_, rfl⟩
    rw [← eC] at hRf hte
    have HCC : Hid (takeErr s ls p fs f t pick kind = C) := eC.symm
    clear eC
    go_upto_region 3 with (go_at_call 22; refine (hRf _ hlW hfW mW tW).mono ?_; rintro e w1 ⟨rfl, hb1⟩)
    have bR := bxR.below hb1 z1
    have r0 : _ = some (Value.int .i64 0) := (bR.c 0 (by omega)).1
    have f0 := (bR.c 0 (by omega)).2
    have r1 : _ = some (Value.int .i64 0) := (bR.c 1 (by omega)).1
    have f1 := (bR.c 1 (by omega)).2
    have r2 : _ = some (Value.int .i64 0) := (bR.c 2 (by omega)).1
    have f2 := (bR.c 2 (by omega)).2
    have r3 : _ = some (Value.int .i64 0) := (bR.c 3 (by omega)).1
    have f3 := (bR.c 3 (by omega)).2
    have r4 : _ = some (Value.int .i64 0) := (bR.c 4 (by omega)).1
    have f4 := (bR.c 4 (by omega)).2
    have r5 : _ = some (Value.int .i64 0) := (bR.c 5 (by omega)).1
    have f5 := (bR.c 5 (by omega)).2
    have r6 : _ = some (Value.int .i64 0) := (bR.c 6 (by omega)).1
    have f6 := (bR.c 6 (by omega)).2
    have r7 : _ = some (Value.int .i64 0) := (bR.c 7 (by omega)).1
    have f7 := (bR.c 7 (by omega)).2
    have r8 : _ = some (Value.int .i64 0) := (bR.c 8 (by omega)).1
    have f8 := (bR.c 8 (by omega)).2
    have r9 : _ = some (Value.int .i64 0) := (bR.c 9 (by omega)).1
    have f9 := (bR.c 9 (by omega)).2
    have r10 : _ = some (Value.bool false) := (bR.c 10 (by omega)).1
    have f10 := (bR.c 10 (by omega)).2
    have r11 : _ = some (Value.int .i64 0) := (bR.c 11 (by omega)).1
    have f11 := (bR.c 11 (by omega)).2
    go_wp2
    clear r0 f0 r1 f1 r2 f2 r3 f3 r4 f4 r5 f5 r6 f6 r7 f7 r8 f8 r9 f9 r10 f10 r11 f11
    have bF := ((((((((((((bR.set 0 (by omega) (.int .i64 0)).set 1 (by omega) (.int .i64 0)).set 2 (by omega) (.int .i64 0)).set 3 (by omega) (.int .i64 0)).set 4 (by omega) (.int .i64 0)).set 5 (by omega) (.int .i64 0)).set 6 (by omega) (.int .i64 0)).set 7 (by omega) (.int .i64 0)).set 8 (by omega) (.int .i64 0)).set 9 (by omega) (.int .i64 0)).set 10 (by omega) (.bool false)).set 11 (by omega) (.int .i64 0))
    have wF := (Below.setCell (Below.setCell (Below.setCell (Below.setCell (Below.setCell (Below.setCell (Below.setCell (Below.setCell (Below.setCell (Below.setCell (Below.setCell (Below.setCell (hB.trans (hb1.mono hB.size)) (p := ⟨w.heap.size + 1, 0, none⟩) (by show w.heap.size ≤ w.heap.size + 1; omega) (.int .i64 0)) (p := ⟨w.heap.size + 1, 1, none⟩) (by show w.heap.size ≤ w.heap.size + 1; omega) (.int .i64 0)) (p := ⟨w.heap.size + 1, 2, none⟩) (by show w.heap.size ≤ w.heap.size + 1; omega) (.int .i64 0)) (p := ⟨w.heap.size + 1, 3, none⟩) (by show w.heap.size ≤ w.heap.size + 1; omega) (.int .i64 0)) (p := ⟨w.heap.size + 1, 4, none⟩) (by show w.heap.size ≤ w.heap.size + 1; omega) (.int .i64 0)) (p := ⟨w.heap.size + 1, 5, none⟩) (by show w.heap.size ≤ w.heap.size + 1; omega) (.int .i64 0)) (p := ⟨w.heap.size + 1, 6, none⟩) (by show w.heap.size ≤ w.heap.size + 1; omega) (.int .i64 0)) (p := ⟨w.heap.size + 1, 7, none⟩) (by show w.heap.size ≤ w.heap.size + 1; omega) (.int .i64 0)) (p := ⟨w.heap.size + 1, 8, none⟩) (by show w.heap.size ≤ w.heap.size + 1; omega) (.int .i64 0)) (p := ⟨w.heap.size + 1, 9, none⟩) (by show w.heap.size ≤ w.heap.size + 1; omega) (.int .i64 0)) (p := ⟨w.heap.size + 1, 10, none⟩) (by show w.heap.size ≤ w.heap.size + 1; omega) (.bool false)) (p := ⟨w.heap.size + 1, 11, none⟩) (by show w.heap.size ≤ w.heap.size + 1; omega) (.int .i64 0))
    obtain ⟨Y, eY⟩ : ∃ Y : World, Y = ((((((((((((w1.setCell ⟨w.heap.size + 1, 0, none⟩ (.int .i64 0)).setCell ⟨w.heap.size + 1, 1, none⟩ (.int .i64 0)).setCell ⟨w.heap.size + 1, 2, none⟩ (.int .i64 0)).setCell ⟨w.heap.size + 1, 3, none⟩ (.int .i64 0)).setCell ⟨w.heap.size + 1, 4, none⟩ (.int .i64 0)).setCell ⟨w.heap.size + 1, 5, none⟩ (.int .i64 0)).setCell ⟨w.heap.size + 1, 6, none⟩ (.int .i64 0)).setCell ⟨w.heap.size + 1, 7, none⟩ (.int .i64 0)).setCell ⟨w.heap.size + 1, 8, none⟩ (.int .i64 0)).setCell ⟨w.heap.size + 1, 9, none⟩ (.int .i64 0)).setCell ⟨w.heap.size + 1, 10, none⟩ (.bool false)).setCell ⟨w.heap.size + 1, 11, none⟩ (.int .i64 0)) := ⟨_, rfl⟩
    rw [← eY] at bF wF ⊢
    clear eY bR
    have k0 : Y.cell? ⟨w.heap.size + 1, 0, none⟩ = some (Value.int .i64 0) := (bF.c 0 (by omega)).1
    have k1 : Y.cell? ⟨w.heap.size + 1, 1, none⟩ = some (Value.int .i64 0) := (bF.c 1 (by omega)).1
    have k2 : Y.cell? ⟨w.heap.size + 1, 2, none⟩ = some (Value.int .i64 0) := (bF.c 2 (by omega)).1
    have k3 : Y.cell? ⟨w.heap.size + 1, 3, none⟩ = some (Value.int .i64 0) := (bF.c 3 (by omega)).1
    have k4 : Y.cell? ⟨w.heap.size + 1, 4, none⟩ = some (Value.int .i64 0) := (bF.c 4 (by omega)).1
    have k5 : Y.cell? ⟨w.heap.size + 1, 5, none⟩ = some (Value.int .i64 0) := (bF.c 5 (by omega)).1
    have k6 : Y.cell? ⟨w.heap.size + 1, 6, none⟩ = some (Value.int .i64 0) := (bF.c 6 (by omega)).1
    have k7 : Y.cell? ⟨w.heap.size + 1, 7, none⟩ = some (Value.int .i64 0) := (bF.c 7 (by omega)).1
    have k8 : Y.cell? ⟨w.heap.size + 1, 8, none⟩ = some (Value.int .i64 0) := (bF.c 8 (by omega)).1
    have k9 : Y.cell? ⟨w.heap.size + 1, 9, none⟩ = some (Value.int .i64 0) := (bF.c 9 (by omega)).1
    have k10 : Y.cell? ⟨w.heap.size + 1, 10, none⟩ = some (Value.bool false) := (bF.c 10 (by omega)).1
    have k11 : Y.cell? ⟨w.heap.size + 1, 11, none⟩ = some (Value.int .i64 0) := (bF.c 11 (by omega)).1
    refine bodyPost_ret (v := .tuple #[.slice none 0 0, .agg #[.int .i64 0, .int .i64 0, .int .i64 0, .int .i64 0, .int .i64 0, .int .i64 0, .int .i64 0, .int .i64 0, .int .i64 0, .int .i64 0, .bool false, .int .i64 0], .int .i64 C]) (by simp [results, Tryd.results14, go_sem, k0, k1, k2, k3, k4, k5, k6, k7, k8, k9, k10, k11]) rfl ⟨?_, wF⟩
    unfold TakeAns
    rw [if_neg HTE.out, HCC.out]

end Go.Proofs.YtcdfaimpbbjioaaDoor.Nt
