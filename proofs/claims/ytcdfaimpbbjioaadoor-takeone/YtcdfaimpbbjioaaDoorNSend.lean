/- The contract of net.Send: messages behind those that are on their way; those without room are lost; the first that may not be is told. -/
import Derived.Test.YtcdfaimpbbjioaaDoorNOwn
import Derived.Deep.RegionLaw
import Derived.Deep.CutBlock
namespace Go.Proofs.YtcdfaimpbbjioaaDoor.Nt
open Go.ChangeShapes Go.WideShapes Go.ChangeAt Go.RowKit
set_option linter.unusedVariables false

def mss (fs : List FL) : List (List MV) := fs.map FL.ms
theorem mss_len (fs : List FL) : (mss fs).length = fs.length := by simp [mss]
theorem mss_at (fs : List FL) (k : Nat) : (mss fs).getD k [] = (fs.getD k default).ms := by
  by_cases h : k < fs.length
  · simp [mss, List.getD, h]
  · simp [mss, List.getD, h, default, Inhabited.default]
theorem mss_same {fs gs : List FL} (h : SameFl fs gs) : mss gs = mss fs := by
  refine List.ext_getElem (by simp [mss, h.1]) fun i h1 h2 => ?_
  have hi : i < fs.length := by simpa [mss] using h2
  have hg : i < gs.length := by simpa [mss] using h1
  have := h.2 i hi
  simpa [mss, List.getD, hi, hg] using this
theorem mss_set (fs : List FL) (k : Nat) (f : FL) : mss (fs.set k f) = (mss fs).set k f.ms := by simp [mss, List.map_set]
/-- One message sent. -/
def sendTo (s : Int) (ll : List (List MV)) (m : MV) : List (List MV) :=
  if (ll.getD (m.frm * s + m.dst).toNat []).length < 30 then ll.set (m.frm * s + m.dst).toNat (ll.getD (m.frm * s + m.dst).toNat [] ++ [m]) else ll
def sent (s : Int) (ll : List (List MV)) (l : List MV) : List (List MV) := l.foldl (sendTo s) ll
theorem sent_snoc (s : Int) (ll : List (List MV)) (l : List MV) (m : MV) : sent s ll (l ++ [m]) = sendTo s (sent s ll l) m := by simp [sent]
theorem sendTo_len (s : Int) (ll : List (List MV)) (m : MV) : (sendTo s ll m).length = ll.length := by
  unfold sendTo
  split <;> simp
theorem sent_len (s : Int) (l : List MV) : ∀ (ll : List (List MV)), (sent s ll l).length = ll.length := by
  induction l with
  | nil => intro ll; rfl
  | cons m r ih => intro ll; show (sent s (sendTo s ll m) r).length = _; rw [ih, sendTo_len]
def msgsFault (s : Int) (ls : List (Int × Int)) (p : Int) : List MV → Int
  | [] => 0
  | m :: r => if msgFault s ls p m ≠ 0 then msgFault s ls p m else msgsFault s ls p r
theorem msgsFault_ok {s : Int} {ls : List (Int × Int)} {p : Int} : ∀ {l : List MV}, (∀ k, k < l.length → msgFault s ls p (l.getD k default) = 0) → msgsFault s ls p l = 0 := by
  intro l
  induction l with
  | nil => intro _; rfl
  | cons m r ih =>
    intro h
    have h0 := h 0 (by simp)
    simp at h0
    rw [msgsFault, if_neg (by simpa using h0)]
    exact ih fun k hk => by simpa using h (k + 1) (by simpa using hk)
theorem msgsFault_at {s : Int} {ls : List (Int × Int)} {p : Int} : ∀ {l : List MV} {k : Nat}, k < l.length → (∀ j, j < k → msgFault s ls p (l.getD j default) = 0) → msgFault s ls p (l.getD k default) ≠ 0 → msgsFault s ls p l = msgFault s ls p (l.getD k default) := by
  intro l
  induction l with
  | nil => intro k hk; simp at hk
  | cons m r ih =>
    intro k hk h hne
    cases k with
    | zero => simp at hne ⊢; rw [msgsFault, if_pos hne]
    | succ k =>
      have h0 := h 0 (by omega)
      simp at h0
      rw [msgsFault, if_neg (by simpa using h0)]
      simpa using ih (k := k) (by simpa using hk) (fun j hj => by simpa using h (j + 1) (by omega)) (by simpa using hne)
theorem msgsFault_of {s : Int} {ls : List (Int × Int)} {p : Int} : ∀ {l : List MV}, msgsFault s ls p l = 0 → ∀ m ∈ l, msgFault s ls p m = 0 := by
  intro l
  induction l with
  | nil => intro _ m hm; simp at hm
  | cons m r ih =>
    intro h x hx
    unfold msgsFault at h
    split at h
    · contradiction
    · rename_i h0
      rcases List.mem_cons.1 hx with rfl | hx
      · simpa using h0
      · exact ih h x hx
def sendErr (s : Int) (ls : List (Int × Int)) (p : Int) (fs : List FL) (l : List MV) : Int := if flyFault s ls p fs ≠ 0 then flyFault s ls p fs else msgsFault s ls p l
/-- What Send answers. -/
def SendAns (s : Int) (ls : List (Int × Int)) (p : Int) (fl : Nat) (fs : List FL) (l : List MV) (w w' : World) (e : Ending) : Prop :=
  if sendErr s ls p fs l = 0 then ∃ g gs, e = .returned (.tuple #[.slice (some ⟨g, 0, none⟩) fl fl, .int .i64 0]) ∧ OwnFly w' w.heap.size (.slice (some ⟨g, 0, none⟩) fl fl) gs ∧ mss gs = sent s (mss fs) l
  else e = .returned (.tuple #[.slice none 0 0, .int .i64 (sendErr s ls p fs l)])
theorem send_ok {s : Int} {ls : List (Int × Int)} {p : Int} {fl : Nat} {fs : List FL} {l : List MV} {w w' : World} {e : Ending} (h : sendErr s ls p fs l = 0) {g : Nat} {gs : List FL} (he : e = .returned (.tuple #[.slice (some ⟨g, 0, none⟩) fl fl, .int .i64 0])) (ho : OwnFly w' w.heap.size (.slice (some ⟨g, 0, none⟩) fl fl) gs) (hs : mss gs = sent s (mss fs) l) : SendAns s ls p fl fs l w w' e := by
  unfold SendAns
  rw [if_pos h]
  exact ⟨g, gs, he, ho, hs⟩
theorem send_no {s : Int} {ls : List (Int × Int)} {p : Int} {fl : Nat} {fs : List FL} {l : List MV} {w w' : World} {e : Ending} {E : Int} (h : sendErr s ls p fs l = E) (h0 : E ≠ 0) (he : e = .returned (.tuple #[.slice none 0 0, .int .i64 E])) : SendAns s ls p fl fs l w w' e := by
  unfold SendAns
  rw [if_neg (by rw [h]; exact h0), h]
  exact he
theorem take_here' {xs : List MV} {k : Nat} (hk : k < xs.length) : xs.take (k + 1) = xs.take k ++ [xs.getD k default] := by
  rw [List.take_succ_eq_append_getElem hk]; simp [List.getD, hk]

theorem nA {W V : World} (h : Below W.heap.size W V) (ob : Obj) : Below W.heap.size W (V.alloc ob) := h.alloc h.size ob
theorem nD {W V : World} (h : Below W.heap.size W V) : Below W.heap.size W V.drew := h.drew
theorem isMs_one (u : World) (kind frm dst site num label key value version ask code : Int) (yes : Bool) : IsMsgs (u.alloc (.cells #[.int .i64 kind, .int .i64 frm, .int .i64 dst, .int .i64 site, .int .i64 num, .int .i64 label, .int .i64 key, .int .i64 value, .int .i64 version, .int .i64 ask, .bool yes, .int .i64 code] 40)) (some ⟨u.heap.size, 0, none⟩) 1 1 [⟨kind, frm, dst, site, num, label, key, value, version, ask, yes, code⟩] := by
  refine ⟨rfl, Nat.le_refl _, by unfold maxLen; omega, fun e => by simp at e, fun _ => ⟨u.heap.size, 0, rfl, by simp, fun i hi j hj => ?_⟩⟩
  obtain rfl : i = 0 := by omega
  rcases (by omega : j = 0 ∨ j = 1 ∨ j = 2 ∨ j = 3 ∨ j = 4 ∨ j = 5 ∨ j = 6 ∨ j = 7 ∨ j = 8 ∨ j = 9 ∨ j = 10 ∨ j = 11) with rfl | rfl | rfl | rfl | rfl | rfl | rfl | rfl | rfl | rfl | rfl | rfl <;> (go_simp; rfl)

set_option maxRecDepth 100000 in
set_option maxHeartbeats 4000000 in
theorem send_any (s p : Int) (a : Option Addr) (len cap : Nat) (ls : List (Int × Int)) (fa : Option Addr) (fl fc : Nat) (fs : List FL) (la : Option Addr) (ll lc : Nat) (ms : List MV) (w : World) (h : IsLabs w a len cap ls) (hL : IsFly w fa fl fc fs) (hM : IsMsgs w la ll lc ms) (hm : HasAt w 0 mHas) (ht : TopsAt w) :
    Calls Tryd.prog 9 #[.agg #[.int .i64 s, .slice a len cap, .int .i64 p], .slice fa fl fc, .slice la ll lc] w fun e w' => SendAns s ls p fl fs ms w w' e ∧ Below w.heap.size w w' := by
  have hgT : 1 < w.heap.size := World.block_lt_of_cell? w _ ht.1
  have hgM : 0 < w.heap.size := hm.lt (by decide)
  have hCk := fun w' h1 h2 h3 h4 => netCheck_any s p a len cap ls fa fl fc fs w' h1 h2 h3 h4
  have hmx : ll ≤ maxLen := Nat.le_trans hM.2.1 hM.2.2.1
  unfold maxLen at hmx
  have HN : Hid (fs.length = fl) := hL.row.1
  have HM : Hid (ms.length = ll) := hM.1
  have HLen : Hid (∀ i, i < fl → (fs.getD i default).ms.length = (fs.getD i default).len) := fun i hi => (hL.each _ (getD_mem (by rw [HN.out]; exact hi))).1
  obtain ⟨W, hW⟩ : ∃ W : World, W = w.alloc (.cells #[.int .i64 s, .slice a len cap, .int .i64 p] 26) := ⟨_, rfl⟩
  have hB : Below w.heap.size w W := by rw [hW]; exact (Below.refl _ _).alloc (Nat.le_refl _) _
  have z0 : w.heap.size < W.heap.size := by rw [hW]; simp
  have c0 : W.cell? ⟨w.heap.size, 0, none⟩ = some (.int .i64 s) := by rw [hW]; go_simp
  have c1 : W.cell? ⟨w.heap.size, 1, none⟩ = some (.slice a len cap) := by rw [hW]; go_simp
  have c2 : W.cell? ⟨w.heap.size, 2, none⟩ = some (.int .i64 p) := by rw [hW]; go_simp
  have KA : Hid (∀ U : World, Below W.heap.size W U → U.cell? ⟨w.heap.size, 0, none⟩ = some (.int .i64 s) ∧ U.cell? ⟨w.heap.size, 1, none⟩ = some (.slice a len cap) ∧ U.cell? ⟨w.heap.size, 2, none⟩ = some (.int .i64 p)) := fun U hU =>
    ⟨(hU.cell (p := ⟨w.heap.size, 0, none⟩) z0).trans c0, (hU.cell (p := ⟨w.heap.size, 1, none⟩) z0).trans c1, (hU.cell (p := ⟨w.heap.size, 2, none⟩) z0).trans c2⟩
  have HS : Hid (∀ U : World, Below W.heap.size W U → IsLabs U a len cap ls ∧ HasAt U 0 mHas ∧ TopsAt U ∧ IsFly U fa fl fc fs ∧ IsMsgs U la ll lc ms) := fun U hU => by
    have hv := hB.trans (hU.mono hB.size)
    exact ⟨h.below hv, hm.below hv hgM, ht.below hv hgT, hL.below hv, hM.below hv⟩
  obtain ⟨hlW, hmW, htW, hfW, hMW⟩ := HS.out W (Below.refl _ _)
  clear hm ht h hL hM hMW
  go_enter Tryd.func9, Tryd.ntmps9
  go_upto_region 1 with (fail)
  rw [← hW]
  clear hW
  by_cases hf0 : flyFault s ls p fs = 0
  · obtain ⟨hcf, hsq, hfl⟩ := flyFault_of hf0
    obtain ⟨s1, s4, _⟩ := cfg_zero hcf
    obtain ⟨q1, q2, q3⟩ := sq_bd s1 s4
    rw [HN.out] at hsq
    have h16 : fl ≤ 16 := by omega
    have HERR : Hid (sendErr s ls p fs ms = msgsFault s ls p ms) := by show _ = _; simp [sendErr, hf0]
    have HLL : Hid (∀ i, i < fl → (fs.getD i default).ms.length ≤ 30) := fun i hi => (hfl i (by rw [HN.out]; exact hi)).1
    have hOw := fun w' h1 => own_any fa fl fc fs w' h1 h16 (fun i hi => by rw [← HLen.out i hi]; exact HLL.out i hi)
    have HSQ : Hid ((fl : Int) = s * s) := hsq
    rw [hf0] at hCk
    clear hfl hsq hf0
    go_upto_region 4 with (go_at_call 11; refine (hCk _ hlW hfW hmW htW).mono ?_; rintro e w1 ⟨rfl, hb1⟩)
    have hf1 := hfW.below hb1
    go_upto_region 5 with (go_at_call 17; refine (hOw _ hf1).mono ?_; rintro e w2 ⟨g, gs0, rfl, hO0, hsame, hb2'⟩)
    have hO1 : OwnFly w2 W.heap.size (.slice (some ⟨g, 0, none⟩) fl fl) gs0 := hO0.base hb1.size
    have hb2 : Below W.heap.size W w2 := hb1.trans (hb2'.mono hb1.size)
    have HS0 : Hid (mss gs0 = mss fs) := mss_same hsame
    have HL0 : Hid (gs0.length = fl) := by show _ = _; rw [hsame.1, HN.out]
    clear hO0 hsame hf1 hb2'
    go_wp2
    go_loopw [24] (fun i wr => ∃ (k : Nat) (gs : List FL), k ≤ ll ∧ i = .int .i64 k ∧ OwnFly wr W.heap.size (.slice (some ⟨g, 0, none⟩) fl fl) gs ∧ Hid (gs.length = fl ∧ mss gs = sent s (mss fs) (ms.take k) ∧ ∀ j, j < k → msgFault s ls p (ms.getD j default) = 0) ∧ Below W.heap.size W wr) (fun i _ => ll - (intOf i).toNat)
    case atStart => exact ⟨0, gs0, Nat.zero_le _, rfl, hO1, ⟨HL0.out, by rw [HS0.out]; rfl, fun j hj => absurd hj (Nat.not_lt_zero j)⟩, hb2⟩
    case round =>
      obtain ⟨k, gs, hk, rfl, hO, hgs, hb⟩ := hrel
      by_cases hlt : k < ll
      · have hlt' : (k : Int) < (ll : Int) := by omega
        obtain ⟨hl1, hm1, ht1, _, hM1⟩ := HS.out _ hb
        obtain ⟨c0, c1, c2⟩ := KA.out _ hb
        obtain ⟨b, off, rfl, hlb, hc⟩ := hM1.2.2.2.2 (by omega)
        have hck := fun w' h' hm' ht' => checkMessage_any s p a len cap ls (ms.getD k default) w' h' hm' ht'
        have hcells := hc k hlt
        have hsit : msgFault s ls p (ms.getD k default) = 0 → _ := fun h => may_sites h
        have HBAD : Hid (msgFault s ls p (ms.getD k default) ≠ 0 → sendErr s ls p fs ms = msgFault s ls p (ms.getD k default)) := fun hh => by
          rw [HERR.out]
          exact msgsFault_at (by rw [HM.out]; exact hlt) hgs.out.2.2 hh
        have HSUC : Hid (msgFault s ls p (ms.getD k default) = 0 → ∀ j, j < k + 1 → msgFault s ls p (ms.getD j default) = 0) := fun h1 j hj => by
          by_cases e : j = k
          · subst e; exact h1
          · exact hgs.out.2.2 j (by omega)
        have HTK : Hid (sent s (mss fs) (ms.take (k + 1)) = sendTo s (mss gs) (ms.getD k default)) := by
          show _ = _
          rw [take_here' (by rw [HM.out]; exact hlt), sent_snoc, hgs.out.2.1]
        obtain ⟨m, em⟩ : ∃ m, m = ms.getD k default := ⟨_, rfl⟩
        rw [← em] at hck hcells hsit HBAD HSUC HTK
        clear em hc hM1
        obtain ⟨kind, frm, dst, site, num, label, key, value, version, ask, yes, code⟩ := m
        obtain ⟨MM, eMM⟩ : ∃ MM : MV, MM = ⟨kind, frm, dst, site, num, label, key, value, version, ask, yes, code⟩ := ⟨_, rfl⟩
        rw [← eMM] at HTK
        have EM : Hid (MM = ⟨kind, frm, dst, site, num, label, key, value, version, ask, yes, code⟩) := eMM
        clear eMM
        have a0 := hcells 0 (by decide)
        have a1 := hcells 1 (by decide)
        have a2 := hcells 2 (by decide)
        have a3 := hcells 3 (by decide)
        have a4 := hcells 4 (by decide)
        have a5 := hcells 5 (by decide)
        have a6 := hcells 6 (by decide)
        have a7 := hcells 7 (by decide)
        have a8 := hcells 8 (by decide)
        have a9 := hcells 9 (by decide)
        have a10 := hcells 10 (by decide)
        have a11 := hcells 11 (by decide)
        simp only [mcells, List.getElem?_cons_zero, List.getElem?_cons_succ, Nat.add_zero] at a0 a1 a2 a3 a4 a5 a6 a7 a8 a9 a10 a11
        clear hcells
        simp only [MV.val] at hck
        simp only [] at hsit HBAD HSUC
        obtain ⟨FV, eF⟩ : ∃ FV, FV = msgFault s ls p ⟨kind, frm, dst, site, num, label, key, value, version, ask, yes, code⟩ := ⟨_, rfl⟩
        rw [← eF] at hck hsit HBAD HSUC
        clear eF
        go_upto_region 8 with (fail)
        obtain ⟨V, hV⟩ : ∃ V : World, V = wr.alloc (.cells #[.int .i64 kind, .int .i64 frm, .int .i64 dst, .int .i64 site, .int .i64 num, .int .i64 label, .int .i64 key, .int .i64 value, .int .i64 version, .int .i64 ask, .bool yes, .int .i64 code] 40) := ⟨_, rfl⟩
        have hbV : Below wr.heap.size wr V := by rw [hV]; exact (Below.refl _ _).alloc (Nat.le_refl _) _
        have zV : wr.heap.size < V.heap.size := by rw [hV]; simp
        have m0 : V.cell? ⟨wr.heap.size, 0, none⟩ = some (.int .i64 kind) := by rw [hV]; go_simp
        have m1 : V.cell? ⟨wr.heap.size, 1, none⟩ = some (.int .i64 frm) := by rw [hV]; go_simp
        have m2 : V.cell? ⟨wr.heap.size, 2, none⟩ = some (.int .i64 dst) := by rw [hV]; go_simp
        have m3 : V.cell? ⟨wr.heap.size, 3, none⟩ = some (.int .i64 site) := by rw [hV]; go_simp
        have m4 : V.cell? ⟨wr.heap.size, 4, none⟩ = some (.int .i64 num) := by rw [hV]; go_simp
        have m5 : V.cell? ⟨wr.heap.size, 5, none⟩ = some (.int .i64 label) := by rw [hV]; go_simp
        have m6 : V.cell? ⟨wr.heap.size, 6, none⟩ = some (.int .i64 key) := by rw [hV]; go_simp
        have m7 : V.cell? ⟨wr.heap.size, 7, none⟩ = some (.int .i64 value) := by rw [hV]; go_simp
        have m8 : V.cell? ⟨wr.heap.size, 8, none⟩ = some (.int .i64 version) := by rw [hV]; go_simp
        have m9 : V.cell? ⟨wr.heap.size, 9, none⟩ = some (.int .i64 ask) := by rw [hV]; go_simp
        have m10 : V.cell? ⟨wr.heap.size, 10, none⟩ = some (.bool yes) := by rw [hV]; go_simp
        have m11 : V.cell? ⟨wr.heap.size, 11, none⟩ = some (.int .i64 code) := by rw [hV]; go_simp
        rw [← hV]
        clear hV
        have hbW : Below W.heap.size W V := hb.trans (hbV.mono hb.size)
        obtain ⟨n0, n1, n2⟩ := KA.out _ hbW
        obtain ⟨hl2, hm2, ht2, _, _⟩ := HS.out _ hbW
        clear c0 c1 c2 a0 a1 a2 a3 a4 a5 a6 a7 a8 a9 a10 a11 hl1 hm1 ht1
        have KM : Hid (∀ U : World, Below V.heap.size V U → (U.cell? ⟨w.heap.size, 0, none⟩ = some (.int .i64 s) ∧ U.cell? ⟨w.heap.size, 1, none⟩ = some (.slice a len cap) ∧ U.cell? ⟨w.heap.size, 2, none⟩ = some (.int .i64 p)) ∧ U.cell? ⟨wr.heap.size, 0, none⟩ = some (.int .i64 kind) ∧ U.cell? ⟨wr.heap.size, 1, none⟩ = some (.int .i64 frm) ∧ U.cell? ⟨wr.heap.size, 2, none⟩ = some (.int .i64 dst) ∧ U.cell? ⟨wr.heap.size, 3, none⟩ = some (.int .i64 site) ∧ U.cell? ⟨wr.heap.size, 4, none⟩ = some (.int .i64 num) ∧ U.cell? ⟨wr.heap.size, 5, none⟩ = some (.int .i64 label) ∧ U.cell? ⟨wr.heap.size, 6, none⟩ = some (.int .i64 key) ∧ U.cell? ⟨wr.heap.size, 7, none⟩ = some (.int .i64 value) ∧ U.cell? ⟨wr.heap.size, 8, none⟩ = some (.int .i64 version) ∧ U.cell? ⟨wr.heap.size, 9, none⟩ = some (.int .i64 ask) ∧ U.cell? ⟨wr.heap.size, 10, none⟩ = some (.bool yes) ∧ U.cell? ⟨wr.heap.size, 11, none⟩ = some (.int .i64 code)) := fun U hU =>
          ⟨KA.out _ (hbW.trans (hU.mono hbW.size)), (hU.cell (p := ⟨wr.heap.size, 0, none⟩) zV).trans m0, (hU.cell (p := ⟨wr.heap.size, 1, none⟩) zV).trans m1, (hU.cell (p := ⟨wr.heap.size, 2, none⟩) zV).trans m2, (hU.cell (p := ⟨wr.heap.size, 3, none⟩) zV).trans m3, (hU.cell (p := ⟨wr.heap.size, 4, none⟩) zV).trans m4, (hU.cell (p := ⟨wr.heap.size, 5, none⟩) zV).trans m5, (hU.cell (p := ⟨wr.heap.size, 6, none⟩) zV).trans m6, (hU.cell (p := ⟨wr.heap.size, 7, none⟩) zV).trans m7, (hU.cell (p := ⟨wr.heap.size, 8, none⟩) zV).trans m8, (hU.cell (p := ⟨wr.heap.size, 9, none⟩) zV).trans m9, (hU.cell (p := ⟨wr.heap.size, 10, none⟩) zV).trans m10, (hU.cell (p := ⟨wr.heap.size, 11, none⟩) zV).trans m11⟩
        by_cases hF0 : FV = 0
        · obtain ⟨sf, sd⟩ := hsit hF0
          obtain ⟨u1, u2, u3⟩ := mul_bd s1 s4 sf.1 sf.2
          have hpl := fun w' => place_any s p a len cap frm dst w' s1 s4 sf sd
          have hq0 : 0 ≤ frm * s + dst ∧ frm * s + dst < (fl : Int) := by rw [HSQ.out]; omega
          obtain ⟨q, eq⟩ : ∃ q : Nat, (q : Int) = frm * s + dst := ⟨(frm * s + dst).toNat, by omega⟩
          rw [← eq] at hpl hq0
          have HQ : Hid ((q : Int) = frm * s + dst) := eq
          clear eq u1 u2 u3
          have hqf : q < fl := by omega
          have HTO : Hid (sendTo s (mss gs) MM = if (gs.getD q default).ms.length < 30 then (mss gs).set q ((gs.getD q default).ms ++ [MM]) else mss gs) := by
            show _ = _
            have e : (MM.frm * s + MM.dst).toNat = q := by rw [EM.out]; show (frm * s + dst).toNat = q; rw [← HQ.out]; simp
            unfold sendTo
            rw [e, mss_at]
          have HBU : Hid (∀ U : World, Below wr.heap.size wr U → U.cell? ⟨g, q, none⟩ = some (.slice (gs.getD q default).a (gs.getD q default).len (gs.getD q default).cap)) := fun U hU => by
            obtain ⟨b', off', e, _, hcl, _⟩ := (hO.below hU).isFly.2.1.at (by exact hqf)
            simp at e
            obtain ⟨rfl, rfl⟩ := e
            simpa using hcl
          have HGL : Hid (gs.length = fl) := hgs.out.1
          have hEl := (hO.each q (by rw [HGL.out]; exact hqf))
          have HPUT : Hid (∀ (V2 w5 : World) (f : FL), Below wr.heap.size wr V2 → V2.grownBy w5 (gs.getD q default).val.ownBlock → w5.ownsRow W.heap.size 40 12 f.val f.len (flat mcells f.ms) → f.ms.length = f.len → (f.val.ownBlock = (gs.getD q default).val.ownBlock ∨ ∀ m, f.val.ownBlock = some m → V2.heap.size ≤ m) → OwnFly (w5.setCell ⟨g, q, none⟩ f.val) W.heap.size (.slice (some ⟨g, 0, none⟩) fl fl) (gs.set q f) ∧ w5.frozen? ⟨g, q, none⟩ = false ∧ (∃ v, w5.cell? ⟨g, q, none⟩ = some v) ∧ W.heap.size ≤ g ∧ g < V2.heap.size) := fun V2 w5 f hV2 hgr hown hln hnew =>
            (hO.below hV2).put (by rw [HGL.out]; exact hqf) hgr hown hln hnew
          obtain ⟨f, ef⟩ : ∃ f, f = gs.getD q default := ⟨_, rfl⟩
          rw [← ef] at HTO HBU HPUT hEl
          clear ef
          obtain ⟨xa, xl, xc, xs⟩ := f
          obtain ⟨hEl1, hEl2⟩ := hEl
          simp only [FL.val] at hEl1 hEl2 HBU HTO HPUT
          have HX : Hid (xs.length = xl) := hEl2
          clear hEl2
          obtain ⟨j0, E⟩ := msElem
          go_upto_region 11 with (go_at_call 18; refine (hck _ hl2 hm2 ht2).mono ?_; rintro e w3 ⟨rfl, hb3⟩; rw [hF0])
          obtain ⟨⟨n0', n1', n2'⟩, r0, r1, r2, r3, r4, r5, r6, r7, r8, r9, r10, r11⟩ := KM.out _ hb3
          clear n0 n1 n2 m0 m1 m2 m3 m4 m5 m6 m7 m8 m9 m10 m11
          go_upto_region 12 with (go_at_call 19; refine (hpl _).mono ?_; rintro e w4 ⟨rfl, hb4'⟩; have hb4 : Below V.heap.size V w4 := hb3.trans (hb4'.mono hb3.size))
          clear n0' n1' n2' r0 r1 r2 r3 r4 r5 r6 r7 r8 r9 r10 r11
          obtain ⟨_, r0, r1, r2, r3, r4, r5, r6, r7, r8, r9, r10, r11⟩ := KM.out _ hb4
          have hbr4 : Below wr.heap.size wr w4 := hbV.trans (hb4.mono hbV.size)
          have hg4 := HBU.out _ hbr4
          have hgl : g < w4.heap.size := Nat.lt_of_lt_of_le (hO.row.lt g rfl).2 hbr4.size
          have hwl : wr.heap.size < w4.heap.size := Nat.lt_of_lt_of_le zV hb4.size
          have hq1 : ((q : Int)) < (fl : Int) := hq0.2
          have hW4 : Below W.heap.size W w4 := hb.trans (hbr4.mono hb.size)
          by_cases h30 : xl < 30
          · have h30' : (xl : Int) < 30 := by omega
            have own4 : w4.ownsRow W.heap.size 40 12 (.slice xa xl xc) xl (flat mcells xs) := own_below hEl1 hbr4
            go_upto_region 13 with (fail)
            go_region_law (first
              | (refine step_append_row E (by rfl) (.tmp 51) (.tmp 53) (by rfl) W.heap.size (.slice xa xl xc) xl xs (by rfl) (own_below own4 (by (with_reducible repeat (first | exact Below.refl _ _ | refine nD ?_ | refine nA ?_ _)); done)) _ 1 1 [⟨kind, frm, dst, site, num, label, key, value, version, ask, yes, code⟩] (by rfl) (isMs_one _ _ _ _ _ _ _ _ _ _ _ _ _) (by unfold maxLen; omega) (by omega) (by simp; have := hW4.size; omega) ?_; intro a5 c5 w5 own5 gr5 at5; obtain ⟨hO5, fz5, ⟨y5, cl5⟩, hgW, _⟩ := HPUT.out _ w5 ⟨a5, xl + 1, c5, xs ++ [⟨kind, frm, dst, site, num, label, key, value, version, ask, yes, code⟩]⟩ (by (with_reducible repeat (first | exact hbr4 | refine nD ?_ | refine nA ?_ _)); done) gr5 own5 (by rw [List.length_append, HX.out]; rfl) (at5.imp id (fun e m hm => Nat.le_of_eq (Option.some.inj (e.symm.trans hm)))); simp only [] at hO5; have hW5 : Below W.heap.size W w5 := Below.grown (by (with_reducible repeat (first | exact hW4 | refine nD ?_ | refine nA ?_ _)); done) gr5 (by simp; have := hW4.size; omega) (fun m hm => (hEl1.lt m hm).1)))
            all_goals
              go_wp2
              go_roundw
              case rel =>
                refine ⟨k + 1, _, by omega, by go_num, hO5, ⟨by simpa using HGL.out, ?_, HSUC.out hF0⟩, hW5.setCell hgW _⟩
                rw [HTK.out, HTO.out, if_pos (by rw [HX.out]; exact h30), mss_set, EM.out]
              case measure => simp [intOf]; omega
          · have h30' : ¬ (xl : Int) < 30 := by omega
            go_wp2
            go_roundw
            case rel => exact ⟨k + 1, gs, by omega, by go_num, hO.below hbr4, ⟨HGL.out, by rw [HTK.out, HTO.out, if_neg (by rw [HX.out]; exact h30)], HSUC.out hF0⟩, hW4⟩
            case measure => simp [intOf]; omega
        · go_wp2_with (go_at_call 18; refine (hck _ hl2 hm2 ht2).mono ?_; rintro e w3 ⟨rfl, hb3⟩)
          go_ret2
          exact ⟨send_no (HBAD.out hF0) hF0 rfl, hB.trans ((hbW.trans (hb3.mono hbW.size)).mono hB.size)⟩
      · go_wp2
        go_ret2
        obtain ⟨g1, g2, g3⟩ := hgs.out
        refine ⟨send_ok (by rw [HERR.out]; exact msgsFault_ok (fun j hj => g3 j (by rw [HM.out] at hj; omega))) rfl (hO.base (Nat.le_of_lt z0)) ?_, hB.trans (hb.mono hB.size)⟩
        rw [g2, List.take_of_length_le (by rw [HM.out]; omega)]
  · have HERR : Hid (sendErr s ls p fs ms = flyFault s ls p fs) := by show _ = _; simp [sendErr, hf0]
    obtain ⟨C, eC⟩ : ∃ C, C = flyFault s ls p fs := ⟨_, rfl⟩
    rw [← eC] at hCk hf0 HERR
    clear eC
    go_wp2_with (go_at_call 11; refine (hCk _ hlW hfW hmW htW).mono ?_; rintro e w1 ⟨rfl, hb1⟩)
    go_ret2
    exact ⟨send_no HERR.out hf0 rfl, hB.trans (hb1.mono hB.size)⟩
end Go.Proofs.YtcdfaimpbbjioaaDoor.Nt
