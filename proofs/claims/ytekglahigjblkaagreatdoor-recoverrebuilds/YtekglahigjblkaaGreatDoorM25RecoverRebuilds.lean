/- Texts of this claim, one behind the other. -/
import Derived.Test.YtekglahigjblkaaGreatDoorM13RecoverRebuilds
import Derived.Deep.Cut
import Derived.Test.YtekglahigjblkaaGreatDoorM14RecoverRebuilds
import Derived.Test.YtekglahigjblkaaGreatDoorM12RecoverRebuilds
import Derived.Test.YtekglahigjblkaaGreatDoorM10RecoverRebuilds
import Derived.Lib.QuietBelow
import Derived.LoopTactic
import Derived.Deep.QuietTactic
import Derived.BigQuiet
import Derived.Test.YtekglahigjblkaaGreatDoorM24RecoverRebuilds
/- Contracts of sameTxns and sameStore: at the same data they return true, and leave what was in memory. -/
namespace Go.Proofs.YtekglahigjblkaaGreatDoor.St
open Go.ChangeShapes Go.WideShapes Go.ChangeAt Go.RowKit
set_option linter.unusedVariables false

set_option maxRecDepth 100000 in
set_option maxHeartbeats 2000000 in
theorem sameTxns_any (a b : Option Addr) (n cap cap' : Nat) (xs : List (Int × Int)) (w : World) (h : IsTxns w a n cap xs) (h' : IsTxns w b n cap' xs) :
    Calls Tryz.prog 21 #[.slice a n cap, .slice b n cap'] w fun e w' => e = .returned (.bool true) ∧ Below w.heap.size w w' := by
  have hmx : n ≤ maxLen := Nat.le_trans h.2.1 h.2.2.1
  unfold maxLen at hmx
  go_enter Tryz.func21, Tryz.ntmps21
  go_wp2
  go_loopw [5] (fun i wr => ∃ k : Nat, k ≤ n ∧ i = .int .i64 k ∧ Below w.heap.size w wr) (fun i _ => n - (intOf i).toNat)
  case atStart => exact ⟨0, Nat.zero_le _, rfl, Below.refl _ _⟩
  case round =>
    obtain ⟨k, hk, rfl, hb⟩ := hrel
    by_cases hlt : k < n
    · have hlt' : (k : Int) < (n : Int) := by omega
      obtain ⟨b1, o1, rfl, _, c1⟩ := (h.below hb).2.2.2.2 (by omega)
      obtain ⟨b2, o2, rfl, _, c2⟩ := (h'.below hb).2.2.2.2 (by omega)
      have e1 := c1 k hlt
      have e2 := c2 k hlt
      obtain ⟨z, hz⟩ : ∃ z, z = xs.getD k default := ⟨_, rfl⟩
      rw [← hz] at e1 e2
      clear hz c1 c2
      obtain ⟨q0, q1⟩ := z
      have x0 := e1 0 (by decide)
      have x1 := e1 1 (by decide)
      have y0 := e2 0 (by decide)
      have y1 := e2 1 (by decide)
      simp only [txCells, List.getElem?_cons_zero, List.getElem?_cons_succ, Nat.add_zero] at x0 x1 y0 y1
      clear e1 e2
      go_wp2
      go_quiet (fail)
      go_wp2
      go_roundw
      case rel => exact ⟨k + 1, by omega, by go_num, below_drewN hb nq⟩
      case measure => simp [intOf]; omega
    · go_wp2
      go_ret
      exact ⟨rfl, hb⟩

set_option maxRecDepth 100000 in
set_option maxHeartbeats 8000000 in
theorem sameStore_any (x y : SV) (w : World) (h : IsStore w x) (h' : IsStore w y) (hd : x.data = y.data) :
    Calls Tryz.prog 6 #[x.val, y.val] w fun e w' => e = .returned (.bool true) ∧ Below w.heap.size w w' := by
  obtain ⟨ia, il, ic, la, ll, lc, da, dl, dc, oa, ol, oc, items, locks, doubts, over⟩ := x
  obtain ⟨ja, jl, jc, ma, ml, mc, ea, el, ec, pa, pl, pc, items', locks', doubts', over'⟩ := y
  simp only [SV.data, PS.mk.injEq] at hd
  obtain ⟨rfl, rfl, rfl, rfl⟩ := hd
  obtain rfl : il = jl := h.items.1.symm.trans h'.items.1
  obtain rfl : ll = ml := h.locks.1.symm.trans h'.locks.1
  obtain rfl : dl = el := h.doubts.1.symm.trans h'.doubts.1
  obtain rfl : ol = pl := h.over.1.symm.trans h'.over.1
  simp only [SV.val]
  have m1 : il ≤ maxLen := Nat.le_trans h.items.2.1 h.items.2.2.1
  have m2 : ll ≤ maxLen := Nat.le_trans h.locks.2.1 h.locks.2.2.1
  have m3 : dl ≤ maxLen := Nat.le_trans h.doubts.2.1 h.doubts.2.2.1
  unfold maxLen at m1 m2 m3
  have hT := fun w' k k' => sameTxns_any oa pa ol oc pc over w' k k'
  obtain ⟨W, hW⟩ : ∃ W : World, W = (w.alloc (.cells #[.slice ia il ic, .slice la ll lc, .slice da dl dc, .slice oa ol oc] 31)).alloc (.cells #[.slice ja il jc, .slice ma ll mc, .slice ea dl ec, .slice pa ol pc] 31) := ⟨_, rfl⟩
  have hB : Below w.heap.size w W := by rw [hW]; exact ((Below.refl _ _).alloc (Nat.le_refl _) _).alloc (by simp) _
  have zW : W.heap.size = w.heap.size + 2 := by rw [hW]; simp
  have z0 : w.heap.size < W.heap.size := by omega
  have z1 : w.heap.size + 1 < W.heap.size := by omega
  clear zW
  have c0 : W.cell? ⟨w.heap.size, 0, none⟩ = some (.slice ia il ic) := by rw [hW]; go_simp
  have d0 : W.cell? ⟨w.heap.size + 1, 0, none⟩ = some (.slice ja il jc) := by rw [hW]; go_simp
  have c1 : W.cell? ⟨w.heap.size, 1, none⟩ = some (.slice la ll lc) := by rw [hW]; go_simp
  have d1 : W.cell? ⟨w.heap.size + 1, 1, none⟩ = some (.slice ma ll mc) := by rw [hW]; go_simp
  have c2 : W.cell? ⟨w.heap.size, 2, none⟩ = some (.slice da dl dc) := by rw [hW]; go_simp
  have d2 : W.cell? ⟨w.heap.size + 1, 2, none⟩ = some (.slice ea dl ec) := by rw [hW]; go_simp
  have c3 : W.cell? ⟨w.heap.size, 3, none⟩ = some (.slice oa ol oc) := by rw [hW]; go_simp
  have d3 : W.cell? ⟨w.heap.size + 1, 3, none⟩ = some (.slice pa ol pc) := by rw [hW]; go_simp
  have KA : Hid (∀ U : World, Below W.heap.size W U → U.cell? ⟨w.heap.size, 0, none⟩ = some (.slice ia il ic) ∧ U.cell? ⟨w.heap.size + 1, 0, none⟩ = some (.slice ja il jc) ∧ U.cell? ⟨w.heap.size, 1, none⟩ = some (.slice la ll lc) ∧ U.cell? ⟨w.heap.size + 1, 1, none⟩ = some (.slice ma ll mc) ∧ U.cell? ⟨w.heap.size, 2, none⟩ = some (.slice da dl dc) ∧ U.cell? ⟨w.heap.size + 1, 2, none⟩ = some (.slice ea dl ec) ∧ U.cell? ⟨w.heap.size, 3, none⟩ = some (.slice oa ol oc) ∧ U.cell? ⟨w.heap.size + 1, 3, none⟩ = some (.slice pa ol pc)) := fun U hU => ⟨(hU.cell (p := ⟨w.heap.size, 0, none⟩) z0).trans c0, (hU.cell (p := ⟨w.heap.size + 1, 0, none⟩) z1).trans d0, (hU.cell (p := ⟨w.heap.size, 1, none⟩) z0).trans c1, (hU.cell (p := ⟨w.heap.size + 1, 1, none⟩) z1).trans d1, (hU.cell (p := ⟨w.heap.size, 2, none⟩) z0).trans c2, (hU.cell (p := ⟨w.heap.size + 1, 2, none⟩) z1).trans d2, (hU.cell (p := ⟨w.heap.size, 3, none⟩) z0).trans c3, (hU.cell (p := ⟨w.heap.size + 1, 3, none⟩) z1).trans d3⟩
  have HS : Hid (∀ U, Below W.heap.size W U → IsStore U ⟨ia, il, ic, la, ll, lc, da, dl, dc, oa, ol, oc, items, locks, doubts, over⟩) := fun U hU => (h.below hB).below hU
  have HS' : Hid (∀ U, Below W.heap.size W U → IsStore U ⟨ja, il, jc, ma, ll, mc, ea, dl, ec, pa, ol, pc, items, locks, doubts, over⟩) := fun U hU => (h'.below hB).below hU
  have ho := (h.below hB).over
  have ho' := (h'.below hB).over
  simp only [] at ho ho'
  clear h h'
  go_enter Tryz.func6, Tryz.ntmps6
  go_upto_region 1 with (fail)
  rw [← hW]
  clear hW
  go_upto_region 3 with (go_at_call 21; refine (hT _ ho ho').mono ?_; rintro e w1 ⟨rfl, hb0⟩)
  go_wp2
  clear c0 c1 c2 c3 d0 d1 d2 d3 ho ho' hT
  go_loopw [5] (fun i wr => ∃ k : Nat, k ≤ il ∧ i = .int .i64 k ∧ Below W.heap.size W wr) (fun i _ => il - (intOf i).toNat)
  case atStart => exact ⟨0, Nat.zero_le _, rfl, hb0⟩
  case round =>
    obtain ⟨k, hk, rfl, hb⟩ := hrel
    obtain ⟨c0, d0, c1, d1, c2, d2, c3, d3⟩ := KA.out _ hb
    by_cases hlt : k < il
    · have hlt' : (k : Int) < (il : Int) := by omega
      obtain ⟨b1, o1, rfl, _, k1⟩ := (HS.out _ hb).items.2.2.2.2 (by show 0 < il; omega)
      obtain ⟨b2, o2, rfl, _, k2⟩ := (HS'.out _ hb).items.2.2.2.2 (by show 0 < il; omega)
      have e1 := k1 k hlt
      have e2 := k2 k hlt
      simp only [] at e1 e2
      obtain ⟨z, hz⟩ : ∃ z, z = items.getD k default := ⟨_, rfl⟩
      rw [← hz] at e1 e2
      clear hz k1 k2
      obtain ⟨q0, q1, q2⟩ := z
      have x0 := e1 0 (by decide)
      have y0 := e2 0 (by decide)
      have x1 := e1 1 (by decide)
      have y1 := e2 1 (by decide)
      have x2 := e1 2 (by decide)
      have y2 := e2 2 (by decide)
      simp only [ItV.cells, List.getElem?_cons_zero, List.getElem?_cons_succ, Nat.add_zero] at x0 y0 x1 y1 x2 y2
      clear e1 e2
      go_wp2
      go_quiet (fail)
      go_wp2
      go_roundw
      case rel => exact ⟨k + 1, by omega, by go_num, below_drewN hb nq⟩
      case measure => simp [intOf]; omega
    · have hb1 := hb
      go_wp2
      clear c0 c1 c2 c3 d0 d1 d2 d3 hlt hb hk
      go_loopw [6] (fun i wr => ∃ k : Nat, k ≤ ll ∧ i = .int .i64 k ∧ Below W.heap.size W wr) (fun i _ => ll - (intOf i).toNat)
      case atStart => exact ⟨0, Nat.zero_le _, rfl, hb1⟩
      case round =>
        obtain ⟨k, hk, rfl, hb⟩ := hrel
        obtain ⟨c0, d0, c1, d1, c2, d2, c3, d3⟩ := KA.out _ hb
        by_cases hlt : k < ll
        · have hlt' : (k : Int) < (ll : Int) := by omega
          obtain ⟨b1, o1, rfl, _, k1⟩ := (HS.out _ hb).locks.2.2.2.2 (by show 0 < ll; omega)
          obtain ⟨b2, o2, rfl, _, k2⟩ := (HS'.out _ hb).locks.2.2.2.2 (by show 0 < ll; omega)
          have e1 := k1 k hlt
          have e2 := k2 k hlt
          simp only [] at e1 e2
          obtain ⟨z, hz⟩ : ∃ z, z = locks.getD k default := ⟨_, rfl⟩
          rw [← hz] at e1 e2
          clear hz k1 k2
          obtain ⟨⟨q0, q1⟩, q2, q3, q4, q5⟩ := z
          have x0 := e1 0 (by decide)
          have y0 := e2 0 (by decide)
          have x1 := e1 1 (by decide)
          have y1 := e2 1 (by decide)
          have x2 := e1 2 (by decide)
          have y2 := e2 2 (by decide)
          have x3 := e1 3 (by decide)
          have y3 := e2 3 (by decide)
          have x4 := e1 4 (by decide)
          have y4 := e2 4 (by decide)
          have x5 := e1 5 (by decide)
          have y5 := e2 5 (by decide)
          simp only [LkV.cells, List.getElem?_cons_zero, List.getElem?_cons_succ, Nat.add_zero] at x0 y0 x1 y1 x2 y2 x3 y3 x4 y4 x5 y5
          clear e1 e2
          go_wp2
          go_quiet (fail)
          go_wp2
          go_roundw
          case rel => exact ⟨k + 1, by omega, by go_num, below_drewN hb nq⟩
          case measure => simp [intOf]; omega
        · have hb2 := hb
          go_wp2
          clear c0 c1 c2 c3 d0 d1 d2 d3 hlt hb hk
          go_loopw [7] (fun i wr => ∃ k : Nat, k ≤ dl ∧ i = .int .i64 k ∧ Below W.heap.size W wr) (fun i _ => dl - (intOf i).toNat)
          case atStart => exact ⟨0, Nat.zero_le _, rfl, hb2⟩
          case round =>
            obtain ⟨k, hk, rfl, hb⟩ := hrel
            obtain ⟨c0, d0, c1, d1, c2, d2, c3, d3⟩ := KA.out _ hb
            by_cases hlt : k < dl
            · have hlt' : (k : Int) < (dl : Int) := by omega
              obtain ⟨b1, o1, rfl, _, k1⟩ := (HS.out _ hb).doubts.2.2.2.2 (by show 0 < dl; omega)
              obtain ⟨b2, o2, rfl, _, k2⟩ := (HS'.out _ hb).doubts.2.2.2.2 (by show 0 < dl; omega)
              have e1 := k1 k hlt
              have e2 := k2 k hlt
              simp only [] at e1 e2
              obtain ⟨z, hz⟩ : ∃ z, z = doubts.getD k default := ⟨_, rfl⟩
              rw [← hz] at e1 e2
              clear hz k1 k2
              obtain ⟨⟨q0, q1⟩, q2⟩ := z
              have x0 := e1 0 (by decide)
              have y0 := e2 0 (by decide)
              have x1 := e1 1 (by decide)
              have y1 := e2 1 (by decide)
              have x2 := e1 2 (by decide)
              have y2 := e2 2 (by decide)
              simp only [DbV.cells, List.getElem?_cons_zero, List.getElem?_cons_succ, Nat.add_zero] at x0 y0 x1 y1 x2 y2
              clear e1 e2
              go_wp2
              go_quiet (fail)
              go_wp2
              go_roundw
              case rel => exact ⟨k + 1, by omega, by go_num, below_drewN hb nq⟩
              case measure => simp [intOf]; omega
            · go_wp2
              go_ret
              exact ⟨rfl, hB.trans (hb.mono hB.size)⟩
end Go.Proofs.YtekglahigjblkaaGreatDoor.St
/- Answers of part: a store, messages, records without sites, notes; and the contract of sameAnswer: at the same answers it returns true. -/
namespace Go.Proofs.YtekglahigjblkaaGreatDoor.Pt
open Go.ChangeShapes Go.WideShapes Go.ChangeAt Go.RowKit
open Go.Proofs.YtekglahigjblkaaGreatDoor.St (SV PS IsStore IsRow BoxN boxn_new)
set_option linter.unusedVariables false

instance : Inhabited MV := ⟨⟨0, 0, 0, 0, 0, 0, 0, 0, 0, 0, false, 0⟩⟩
def mcells (m : MV) : List Value := [.int .i64 m.kind, .int .i64 m.frm, .int .i64 m.dst, .int .i64 m.site, .int .i64 m.num, .int .i64 m.label, .int .i64 m.key, .int .i64 m.value, .int .i64 m.version, .int .i64 m.ask, .bool m.yes, .int .i64 m.code]
theorem mcells_len (m : MV) : (mcells m).length = 12 := rfl
theorem mcells_one (y : MV) : ∀ u ∈ mcells y, u.oneCell' = true := by
  intro u hu
  simp only [mcells, List.mem_cons, List.not_mem_nil, or_false] at hu
  rcases hu with rfl | rfl | rfl | rfl | rfl | rfl | rfl | rfl | rfl | rfl | rfl | rfl <;> rfl
/-- A record without sites. -/
structure RV where
  kind : Int
  site : Int
  num : Int
  key : Int
  value : Int
  ask : Int
  yes : Bool
instance : Inhabited RV := ⟨⟨0, 0, 0, 0, 0, 0, false⟩⟩
def RV.cells (r : RV) : List Value := [.int .i64 r.kind, .int .i64 r.site, .int .i64 r.num, .int .i64 r.key, .int .i64 r.value, .int .i64 r.ask, .bool r.yes, .slice none 0 0]
theorem rcells_len (m : RV) : (RV.cells m).length = 8 := rfl
theorem rcells_one (y : RV) : ∀ u ∈ y.cells, u.oneCell' = true := by
  intro u hu
  simp only [RV.cells, List.mem_cons, List.not_mem_nil, or_false] at hu
  rcases hu with rfl | rfl | rfl | rfl | rfl | rfl | rfl | rfl <;> rfl
/-- A note. -/
structure NV where
  site : Int
  num : Int
  yes : Bool
  dmg : Bool
instance : Inhabited NV := ⟨⟨0, 0, false, false⟩⟩
def NV.cells (r : NV) : List Value := [.int .i64 r.site, .int .i64 r.num, .bool r.yes, .bool r.dmg]
theorem ncells_len (m : NV) : (NV.cells m).length = 4 := rfl
theorem ncells_one (y : NV) : ∀ u ∈ y.cells, u.oneCell' = true := by
  intro u hu
  simp only [NV.cells, List.mem_cons, List.not_mem_nil, or_false] at hu
  rcases hu with rfl | rfl | rfl | rfl <;> rfl
def IsMsgs (w : World) (a : Option Addr) (n cap : Nat) (ms : List MV) : Prop := IsRow 12 mcells w a n cap ms
def IsRcs (w : World) (a : Option Addr) (n cap : Nat) (rs : List RV) : Prop := IsRow 8 RV.cells w a n cap rs
def IsNotes (w : World) (a : Option Addr) (n cap : Nat) (ns : List NV) : Prop := IsRow 4 NV.cells w a n cap ns
/-- An answer. -/
structure AnsV where
  st : SV
  ma : Option Addr
  ml : Nat
  mc : Nat
  ra : Option Addr
  rl : Nat
  rc : Nat
  na : Option Addr
  nl : Nat
  nc : Nat
  ms : List MV
  rs : List RV
  ns : List NV
def AnsV.cells (v : AnsV) : List Value := [.slice v.st.ia v.st.il v.st.ic, .slice v.st.la v.st.ll v.st.lc, .slice v.st.da v.st.dl v.st.dc, .slice v.st.oa v.st.ol v.st.oc, .slice v.ma v.ml v.mc, .slice v.ra v.rl v.rc, .slice v.na v.nl v.nc]
def AnsV.val (v : AnsV) : Value := .agg #[.slice v.st.ia v.st.il v.st.ic, .slice v.st.la v.st.ll v.st.lc, .slice v.st.da v.st.dl v.st.dc, .slice v.st.oa v.st.ol v.st.oc, .slice v.ma v.ml v.mc, .slice v.ra v.rl v.rc, .slice v.na v.nl v.nc]
/-- What an answer says. -/
structure AD where
  st : PS
  ms : List MV
  rs : List RV
  ns : List NV
def AnsV.data (v : AnsV) : AD := ⟨v.st.data, v.ms, v.rs, v.ns⟩
def AD.nil : AD := ⟨PS.nil, [], [], []⟩
def AnsV.nil : AnsV := ⟨SV.nil, none, 0, 0, none, 0, 0, none, 0, 0, [], [], []⟩
structure IsAns (w : World) (v : AnsV) : Prop where
  st : IsStore w v.st
  ms : IsMsgs w v.ma v.ml v.mc v.ms
  rs : IsRcs w v.ra v.rl v.rc v.rs
  ns : IsNotes w v.na v.nl v.nc v.ns
theorem IsAns.below {w w' : World} {v : AnsV} (h : IsAns w v) (hb : Below w.heap.size w w') : IsAns w' v := ⟨h.st.below hb, St.IsRow.below h.ms hb, St.IsRow.below h.rs hb, St.IsRow.below h.ns hb⟩
theorem row_grown {α : Type} [Inhabited α] {k : Nat} {cells : α → List Value} {w w' : World} {r : Option Nat} {a : Option Addr} {len cap : Nat} {xs : List α} (h : IsRow k cells w a len cap xs) (hg : w.grownBy w' r) (hn : ∀ b off, a = some ⟨b, off, none⟩ → some b ≠ r) : IsRow k cells w' a len cap xs := by
  obtain ⟨h1, h2, h3, h4, h5⟩ := h
  refine ⟨h1, h2, h3, h4, fun hp => ?_⟩
  obtain ⟨b, off, e, hl, hc⟩ := h5 hp
  refine ⟨b, off, e, Nat.lt_of_lt_of_le hl hg.size, fun i hi j hj => ?_⟩
  rw [World.cell?_of_block (a := ⟨b, off + i * k + j, none⟩) (hg.block b hl (hn b off e))]
  exact hc i hi j hj
/-- All lists of an answer lie at B or above. -/
structure AnsV.far (v : AnsV) (B : Nat) : Prop where
  ia : ∀ b off, v.st.ia = some ⟨b, off, none⟩ → B ≤ b
  la : ∀ b off, v.st.la = some ⟨b, off, none⟩ → B ≤ b
  da : ∀ b off, v.st.da = some ⟨b, off, none⟩ → B ≤ b
  oa : ∀ b off, v.st.oa = some ⟨b, off, none⟩ → B ≤ b
  ma : ∀ b off, v.ma = some ⟨b, off, none⟩ → B ≤ b
  ra : ∀ b off, v.ra = some ⟨b, off, none⟩ → B ≤ b
  na : ∀ b off, v.na = some ⟨b, off, none⟩ → B ≤ b
theorem AnsV.far.mono {v : AnsV} {B C : Nat} (h : v.far B) (hc : C ≤ B) : v.far C :=
  ⟨fun b o e => Nat.le_trans hc (h.ia b o e), fun b o e => Nat.le_trans hc (h.la b o e), fun b o e => Nat.le_trans hc (h.da b o e), fun b o e => Nat.le_trans hc (h.oa b o e), fun b o e => Nat.le_trans hc (h.ma b o e), fun b o e => Nat.le_trans hc (h.ra b o e), fun b o e => Nat.le_trans hc (h.na b o e)⟩
theorem AnsV.far_nil (B : Nat) : AnsV.nil.far B := ⟨(fun b o e => by cases e), (fun b o e => by cases e), (fun b o e => by cases e), (fun b o e => by cases e), (fun b o e => by cases e), (fun b o e => by cases e), (fun b o e => by cases e)⟩
theorem IsAns.grown {w w' : World} {v : AnsV} {g B : Nat} (h : IsAns w v) (hg : w.grownBy w' (some g)) (hf : v.far B) (hB : g < B) : IsAns w' v := by
  have ne : ∀ b, B ≤ b → some b ≠ some g := fun b hb e => by simp at e; omega
  exact ⟨⟨row_grown h.st.items hg (fun b o e => ne b (hf.ia b o e)), row_grown h.st.locks hg (fun b o e => ne b (hf.la b o e)), row_grown h.st.doubts hg (fun b o e => ne b (hf.da b o e)), row_grown h.st.over hg (fun b o e => ne b (hf.oa b o e))⟩, row_grown h.ms hg (fun b o e => ne b (hf.ma b o e)), row_grown h.rs hg (fun b o e => ne b (hf.ra b o e)), row_grown h.ns hg (fun b o e => ne b (hf.na b o e))⟩
theorem isAns_nil (w : World) : IsAns w AnsV.nil := ⟨St.isStore_nil w, St.isRow_nil _ _ _, St.isRow_nil _ _ _, St.isRow_nil _ _ _⟩

set_option maxRecDepth 100000 in
set_option maxHeartbeats 2000000 in
theorem sameNotes_any (a b : Option Addr) (n cap cap' : Nat) (ms : List NV) (w : World) (h : IsNotes w a n cap ms) (h' : IsNotes w b n cap' ms) :
    Calls Tryz.prog 8 #[.slice a n cap, .slice b n cap'] w fun e w' => e = .returned (.bool true) ∧ Below w.heap.size w w' := by
  have hmx : n ≤ maxLen := Nat.le_trans h.2.1 h.2.2.1
  unfold maxLen at hmx
  go_enter Tryz.func8, Tryz.ntmps8
  go_wp2
  go_loopw [5] (fun i wr => ∃ k : Nat, k ≤ n ∧ i = .int .i64 k ∧ Below w.heap.size w wr) (fun i _ => n - (intOf i).toNat)
  case atStart => exact ⟨0, Nat.zero_le _, rfl, Below.refl _ _⟩
  case round =>
    obtain ⟨k, hk, rfl, hb⟩ := hrel
    by_cases hlt : k < n
    · have hlt' : (k : Int) < (n : Int) := by omega
      obtain ⟨b1, o1, rfl, _, c1⟩ := (St.IsRow.below h hb).2.2.2.2 (by omega)
      obtain ⟨b2, o2, rfl, _, c2⟩ := (St.IsRow.below h' hb).2.2.2.2 (by omega)
      have e1 := c1 k hlt
      have e2 := c2 k hlt
      obtain ⟨z, hz⟩ : ∃ z, z = ms.getD k default := ⟨_, rfl⟩
      rw [← hz] at e1 e2
      clear hz c1 c2
      obtain ⟨site, num, yes, dmg⟩ := z
      have x0 := e1 0 (by decide)
      have y0 := e2 0 (by decide)
      have x1 := e1 1 (by decide)
      have y1 := e2 1 (by decide)
      have x2 := e1 2 (by decide)
      have y2 := e2 2 (by decide)
      have x3 := e1 3 (by decide)
      have y3 := e2 3 (by decide)
      simp only [NV.cells, List.getElem?_cons_zero, List.getElem?_cons_succ, Nat.add_zero] at x0 x1 x2 x3 y0 y1 y2 y3
      clear e1 e2
      go_wp2
      go_quiet (fail)
      go_wp2
      go_roundw
      case rel => exact ⟨k + 1, by omega, by go_num, below_drewN hb nq⟩
      case measure => simp [intOf]; omega
    · go_wp2
      go_ret
      exact ⟨rfl, hb⟩

set_option maxHeartbeats 1000000 in
theorem sameInts_nil (w : World) : Calls Tryz.prog 23 #[.slice none 0 0, .slice none 0 0] w fun e w' => e = .returned (.bool true) ∧ Below w.heap.size w w' := by
  go_enter Tryz.func23, Tryz.ntmps23
  go_wp2
  go_loopw [5] (fun i wr => i = .int .i64 0 ∧ Below w.heap.size w wr) (fun i _ => 0)
  case atStart => exact ⟨rfl, Below.refl _ _⟩
  case round =>
    obtain ⟨rfl, hb⟩ := hrel
    go_wp2
    go_ret
    exact ⟨rfl, hb⟩
end Go.Proofs.YtekglahigjblkaaGreatDoor.Pt
/- recover.notesOf: what was forced; there is damage, if the other word was applied later. -/
namespace Go.Proofs.YtekglahigjblkaaGreatDoor.Pt
open Go.ChangeShapes Go.WideShapes Go.ChangeAt Go.RowKit Go.Maps
open Go.Proofs.YtekglahigjblkaaGreatDoor.St
set_option linter.unusedVariables false

/-- The place of the last record that applied that word; 0 if there is none. -/
def lastGo (t : Int × Int) (y : Bool) : Nat → Int → List RcP → Int
  | _, v, [] => v
  | i, v, r :: l => lastGo t y (i + 1) (if r.kind = 2 ∧ r.tx = t ∧ r.yes = y then (i : Int) else v) l
def lastOf (t : Int × Int) (y : Bool) (rs : List RcP) : Int := lastGo t y 0 0 rs
theorem lastGo_snoc (t : Int × Int) (y : Bool) (r : RcP) : ∀ (rs : List RcP) (i : Nat) (v : Int), lastGo t y i v (rs ++ [r]) = if r.kind = 2 ∧ r.tx = t ∧ r.yes = y then ((i + rs.length : Nat) : Int) else lastGo t y i v rs := by
  intro rs
  induction rs with
  | nil => intro i v; simp [lastGo]
  | cons a l ih => intro i v; simp only [List.cons_append, lastGo]; rw [ih, List.length_cons]; congr 2; omega
theorem lastOf_snoc (t : Int × Int) (y : Bool) (r : RcP) (rs : List RcP) : lastOf t y (rs ++ [r]) = if r.kind = 2 ∧ r.tx = t ∧ r.yes = y then (rs.length : Int) else lastOf t y rs := by
  unfold lastOf
  rw [lastGo_snoc, Nat.zero_add]
def noteOf (all : List RcP) (i : Nat) (r : RcP) : NV := ⟨r.site, r.num, r.yes, decide ((i : Int) < lastOf r.tx (!r.yes) all)⟩
def notesGo (all : List RcP) : Nat → List RcP → List NV
  | _, [] => []
  | i, r :: l => (if r.kind = 6 then [noteOf all i r] else []) ++ notesGo all (i + 1) l
def recNotes (rs : List RcP) : List NV := notesGo rs 0 rs
theorem notesGo_snoc (all : List RcP) (r : RcP) : ∀ (rs : List RcP) (i : Nat), notesGo all i (rs ++ [r]) = notesGo all i rs ++ (if r.kind = 6 then [noteOf all (i + rs.length) r] else []) := by
  intro rs
  induction rs with
  | nil => intro i; simp [notesGo]
  | cons a l ih => intro i; simp only [List.cons_append, notesGo]; rw [ih, List.append_assoc, List.length_cons, show i + 1 + l.length = i + (l.length + 1) by omega]
theorem notesGo_len (all : List RcP) : ∀ (rs : List RcP) (i : Nat), (notesGo all i rs).length ≤ rs.length := by
  intro rs
  induction rs with
  | nil => intro i; simp [notesGo]
  | cons a l ih =>
    intro i
    have := ih (i + 1)
    simp only [notesGo, List.length_append, List.length_cons]
    split <;> simp <;> omega
theorem word_row : (85 : TypeId) < Tryz.prog.types.size := of_decide_eq_true (by kernel_rfl)
theorem word_wide : (match Tryz.prog.underlying 85 with | some (.array _ _) | some (.struct _) => true | _ => false) = true := by rw [Tryz.underlying85]
set_option maxRecDepth 100000 in
theorem word_keyed : Keyed Tryz.prog 85 := Keyed.of_law (deep_law_laid txn_laid (m := 4) (by omega) word_row (by kernel_rfl) word_wide)
theorem word_cells : Tryz.prog.cellsOf 85 = 3 := by kernel_rfl
theorem bool_cells : Tryz.prog.cellsOf 4 = 1 := by kernel_rfl
theorem word_key : Tryz.prog.keyType 85 = true := by kernel_rfl
theorem key_word {t : Int × Int} (y : Bool) (h : TxWf t) : ∃ l, keyOf Tryz.prog 85 (.agg #[.int .i64 t.1, .int .i64 t.2, .bool y]) = some l := by
  obtain ⟨h1, h2⟩ := h
  obtain ⟨n, hn⟩ : ∃ n, Tryz.prog.types.size = n + 1 + 1 := ⟨Tryz.prog.types.size - 2, by have h : (85 : Nat) < Tryz.prog.types.size := word_row; omega⟩
  have hT : Tryz.prog.keyLits (n + 1 + 1) 51 [.int .i64 t.1, .int .i64 t.2] = some [.int .i64 t.1, .int .i64 t.2] := by
    unfold Program.keyLits
    rw [Tryz.underlying51]
    simp [txn_cells, Program.keyLits, Tryz.underlying3, int_cells, h1, h2]
  have hB : Tryz.prog.keyLits (n + 1 + 1) 4 [.bool y] = some [.bool y] := by
    unfold Program.keyLits
    rw [Tryz.underlying4]
  have e : Tryz.prog.keyLits (n + 1 + 1 + 1) 85 [.int .i64 t.1, .int .i64 t.2, .bool y] = some [.int .i64 t.1, .int .i64 t.2, .bool y] := by
    unfold Program.keyLits
    rw [Tryz.underlying85]
    simp [txn_cells, word_cells, bool_cells, hT, hB]
  refine ⟨.string (keyBytes [.int .i64 t.1, .int .i64 t.2, .bool y]), ?_⟩
  unfold keyOf
  simp only [Tryz.underlying85, word_key, hn]
  have hf : (Value.agg #[.int .i64 t.1, .int .i64 t.2, .bool y]).formed Tryz.prog 85 = true := by simp [Value.formed, Tryz.underlying85, word_cells]
  rw [hf]
  simp [Value.cells, e]
theorem key_word_inj {t u : Int × Int} {y z : Bool} {l : Lit} (h : keyOf Tryz.prog 85 (.agg #[.int .i64 t.1, .int .i64 t.2, .bool y]) = some l) (k : keyOf Tryz.prog 85 (.agg #[.int .i64 u.1, .int .i64 u.2, .bool z]) = some l) : t = u ∧ y = z := by
  have := word_keyed.inj h k
  simp at this
  exact ⟨Prod.ext this.1 this.2.1, this.2.2⟩
/-- The map has the place of each word's last record so far. -/
def KeepsW (D : DataW Unit) (rs : List RcP) : Prop := IsMap D ∧ ∀ t y l, keyOf Tryz.prog 85 (.agg #[.int .i64 t.1, .int .i64 t.2, .bool y]) = some l → D.atKey l (.lit (.int .i64 0)) = .lit (.int .i64 (lastOf t y rs))
theorem keepsW_nil : KeepsW (.map []) [] := ⟨isMap_empty, fun t y l h => rfl⟩
theorem KeepsW.push {D : DataW Unit} {rs : List RcP} (h : KeepsW D rs) {r : RcP} (hk : r.kind = 2) {l : Lit} (hl : keyOf Tryz.prog 85 (.agg #[.int .i64 r.site, .int .i64 r.num, .bool r.yes]) = some l) : KeepsW (D.put l (.lit (.int .i64 (rs.length : Int)))) (rs ++ [r]) := by
  refine ⟨h.1.put l _, fun u z m hm => ?_⟩
  rw [lastOf_snoc]
  by_cases e : r.tx = u ∧ r.yes = z
  · obtain ⟨rfl, rfl⟩ := e
    have hm2 : keyOf Tryz.prog 85 (.agg #[.int .i64 r.site, .int .i64 r.num, .bool r.yes]) = some m := hm
    rw [hl] at hm2
    cases hm2
    rw [atKey_put_same h.1 (word_keyed.key hl)]
    simp [hk]
  · have hne : m ≠ l := fun e' => by
      subst e'
      have := key_word_inj (t := r.tx) (y := r.yes) hl hm
      exact e this
    rw [atKey_put_other hne, h.2 u z m hm, if_neg (fun h8 => e h8.2)]
theorem KeepsW.pass {D : DataW Unit} {rs : List RcP} (h : KeepsW D rs) {r : RcP} (hk : ¬ r.kind = 2) : KeepsW D (rs ++ [r]) := by
  refine ⟨h.1, fun u z m hm => ?_⟩
  rw [lastOf_snoc, if_neg (fun h8 => hk h8.1)]
  exact h.2 u z m hm
theorem ownsMap_more {H : Type} {w : World} {k : TypeId} {R : Value → Option (DataW H × List MemPlace)} {b n m : Nat} {D : DataW H} (h : w.ownsMap Tryz.prog k R b n D) (hm : n ≤ m) : w.ownsMap Tryz.prog k R b m D := by
  obtain ⟨es, clock, h1, h2, h3, h4⟩ := h
  exact ⟨es, clock, h1, h2, Nat.le_trans h3 hm, h4⟩
theorem ntInfoR : (Tryz.prog.info? 59).map (fun i => (i.zero, i.size, i.bytes)) = some (some (.agg #[.int .i64 0, .int .i64 0, .bool false, .bool false]), 4, 24) := by kernel_rfl
theorem ntElemR : ∃ i, Elem 4 NV.cells 59 35 i (.agg #[.int .i64 0, .int .i64 0, .bool false, .bool false]) 24 := by
  obtain ⟨j0, hj, lj0, lj1, lj2⟩ := info_parts ntInfoR
  exact ⟨j0, ncells_len, by decide, ncells_one, Tryz.underlying35, hj, lj0, lj1, lj2, rfl⟩
/-- What notesOf tells. -/
def NotesOf (w w' : World) (e : Ending) (ns : List NV) : Prop :=
  ∃ (a : Option Addr) (c : Nat), e = .returned (.slice a ns.length c) ∧ w'.ownsRow w.heap.size 59 4 (.slice a ns.length c) ns.length (flat NV.cells ns) ∧ Below w.heap.size w w'
/-- The map of words lies at w.heap.size. -/
structure WdIn (w wr : World) (n : Nat) (D : DataW Unit) : Prop where
  map : wr.ownsMap Tryz.prog 85 (plainElem Tryz.prog 3) w.heap.size n D
  bel : Below w.heap.size w wr
theorem WdIn.below {w wr u : World} {n : Nat} {D : DataW Unit} (h : WdIn w wr n D) (hb : Below wr.heap.size wr u) : WdIn w u n D := ⟨ownsMap_bel h.map hb, h.bel.trans (hb.mono h.bel.size)⟩
set_option maxRecDepth 100000 in
set_option maxHeartbeats 8000000 in
theorem notesOf_any (ao : Option Addr) (n cp : Nat) (rs : List RcM) (w : World) (h : IsRow 8 RcM.cells w ao n cp rs) (hwf : ∀ r ∈ rs, TxWf r.p.tx) (hn : n ≤ 1759218604441) :
    Calls Tryz.prog 12 #[.slice ao n cp] w fun e w' => NotesOf w w' e (recNotes (rs.map RcM.p)) := by
  obtain ⟨i4, E4⟩ := ntElemR
  have hmm := @run_makeMap Tryz.prog
  have hlen := h.1
  have HL : Hid (rs.length = n) := hlen
  have hcap : n ≤ cp := h.2.1
  have hcpm : cp ≤ maxLen := h.2.2.1
  unfold maxLen at hcpm
  have HR : Hid (∀ U, Below w.heap.size w U → IsRow 8 RcM.cells U ao n cp rs) := fun U hU => h.below hU
  have HWf : Hid (∀ r ∈ rs, TxWf r.p.tx) := hwf
  clear hlen h hwf
  obtain ⟨RS, eRS⟩ : ∃ RS, RS = rs.map RcM.p := ⟨_, rfl⟩
  have HRS : Hid (∀ k, k < n → RS.take (k + 1) = RS.take k ++ [(rs.getD k default).p] ∧ (RS.take k).length = k) := fun k hk => by
    have h9 : k < rs.length := by rw [HL.out]; exact hk
    rw [eRS]
    exact ⟨take_map_succ h9, by simp; omega⟩
  have HRL : Hid (RS.length = n) := by show _ = _; rw [eRS, List.length_map]; exact HL.out
  rw [← eRS]
  clear eRS
  go_enter Tryz.func12, Tryz.ntmps12
  go_upto_region 3 with (fail)
  go_loopw [4, 5, 13] (fun _ _ s13 wr => ∃ (k : Nat) (D : DataW Unit), s13 = .int .i64 (k : Int) ∧ k ≤ n ∧ Hid (WdIn w wr k D ∧ KeepsW D (RS.take k))) (fun _ _ s13 _ => n - (intOf s13).toNat)
  case atStart => exact ⟨0, .map [], rfl, Nat.zero_le _, ⟨World.ownsMap_made _ _ _ _, (Below.refl _ _).alloc (Nat.le_refl _) _⟩, keepsW_nil⟩
  case round =>
    clear hmm
    obtain ⟨k, D, rfl, hk, hI⟩ := hrel
    have hww := hI.out.1.bel
    by_cases hlt : k < n
    · have hlt' : (k : Int) < (n : Int) := by omega
      have hrow := HR.out wr hww
      obtain ⟨b, off, rfl, zb, hcr⟩ := hrow.2.2.2.2 (by omega)
      have hcl := hcr k hlt
      have hkc : k < cp := by omega
      have HTk := HRS.out k hlt
      have hTx := HWf.out (rs.getD k default) (by simp [List.getD, show k < rs.length by rw [HL.out]; exact hlt])
      obtain ⟨v, ev⟩ : ∃ v, v = rs.getD k default := ⟨_, rfl⟩
      rw [← ev] at hcl HTk hTx
      clear ev hcr hrow
      obtain ⟨⟨kind, site, num, key, value, ask, yes, zs⟩, sa, sl, sc⟩ := v
      have HT : Hid (RS.take (k + 1) = RS.take k ++ [⟨kind, site, num, key, value, ask, yes, zs⟩] ∧ (RS.take k).length = k) := HTk
      obtain ⟨l, hkey⟩ := key_word (t := (site, num)) yes hTx
      simp only at hkey
      clear hTx HTk
      have a0 := hcl 0 (by decide)
      have a1 := hcl 1 (by decide)
      have a2 := hcl 2 (by decide)
      have a3 := hcl 3 (by decide)
      have a4 := hcl 4 (by decide)
      have a5 := hcl 5 (by decide)
      have a6 := hcl 6 (by decide)
      have a7 := hcl 7 (by decide)
      simp only [RcM.cells, List.getElem?_cons_zero, List.getElem?_cons_succ, Nat.add_zero] at a0 a1 a2 a3 a4 a5 a6 a7
      clear hcl
      obtain ⟨U, hU⟩ : ∃ U : World, U = wr.alloc (.cells #[.int .i64 kind, .int .i64 site, .int .i64 num, .int .i64 key, .int .i64 value, .int .i64 ask, .bool yes, .slice sa sl sc] 54) := ⟨_, rfl⟩
      have bU : Below wr.heap.size wr U := by rw [hU]; exact (Below.refl _ _).alloc (Nat.le_refl _) _
      have ub : BoxN U wr.heap.size 8 [.int .i64 kind, .int .i64 site, .int .i64 num, .int .i64 key, .int .i64 value, .int .i64 ask, .bool yes, .slice sa sl sc] := by rw [hU]; exact boxn_new wr #[.int .i64 kind, .int .i64 site, .int .i64 num, .int .i64 key, .int .i64 value, .int .i64 ask, .bool yes, .slice sa sl sc] 54 8 rfl
      have HIU : Hid (WdIn w U k D ∧ KeepsW D (RS.take k)) := ⟨hI.out.1.below bU, hI.out.2⟩
      go_upto_region 5 with (fail)
      rw [← hU]
      clear hU a0 a1 a2 a3 a4 a5 a6 a7 hI bU zb
      have u0 : U.cell? ⟨wr.heap.size, 0, none⟩ = some (.int .i64 kind) := (ub.c 0 (by decide)).1
      have u1 : U.cell? ⟨wr.heap.size, 1, none⟩ = some (.int .i64 site) := (ub.c 1 (by decide)).1
      have u2 : U.cell? ⟨wr.heap.size, 2, none⟩ = some (.int .i64 num) := (ub.c 2 (by decide)).1
      have u6 : U.cell? ⟨wr.heap.size, 6, none⟩ = some (.bool yes) := (ub.c 6 (by decide)).1
      have uz := ub.lt
      clear ub
      by_cases hk2 : kind = 2
      · subst hk2
        have hmU := HIU.out.1.map
        have hwk : (Lit.int .i64 (k : Int)).wf = true := WalkArith.wf_i64 (by omega)
        have hkm : k < maxLen := by unfold maxLen; omega
        go_upto_region 7 with (at_mapUpdate; refine wpList_mapUpdate_own _ rfl _ _ _ 83 rfl 85 3 word_keyed Tryz.underlying83 _ w.heap.size k _ rfl hmU hkm _ _ _ rfl rfl hkey _ [] (plainElem_int Tryz.underlying3 hwk) ?_; intro T hmT hgT)
        have HS : Hid (WdIn w T (k + 1) (D.put l (DataW.lit (Lit.int IntKind.i64 (k : Int)))) ∧ KeepsW (D.put l (DataW.lit (Lit.int IntKind.i64 (k : Int)))) (RS.take (k + 1))) := by
          have hb : Below w.heap.size U T := ⟨hgT.os, hgT.tape, hgT.output, hgT.size, fun j hj => hgT.block j (by have := HIU.out.1.bel.size; omega) (fun e => by cases e; omega)⟩
          refine ⟨⟨hmT, HIU.out.1.bel.trans hb⟩, ?_⟩
          rw [HT.out.1]
          have h8 := HIU.out.2.push (r := ⟨2, site, num, key, value, ask, yes, zs⟩) rfl hkey
          rw [HT.out.2] at h8
          exact h8
        clear HIU HT hmT hgT hmU
        go_wp2
        go_roundw
        case rel => exact ⟨k + 1, D.put l (DataW.lit (Lit.int IntKind.i64 (k : Int))), by go_num, by omega, HS.out⟩
        case measure => simp [intOf]; omega
      · have e2 : (kind == 2) = false := by simpa using hk2
        have HS : Hid (WdIn w U (k + 1) D ∧ KeepsW D (RS.take (k + 1))) := by
          refine ⟨⟨ownsMap_more HIU.out.1.map (by omega), HIU.out.1.bel⟩, ?_⟩
          rw [HT.out.1]
          exact HIU.out.2.pass hk2
        clear HIU HT hk2 hww
        go_wp2
        go_roundw
        case rel => exact ⟨k + 1, D, by go_num, by omega, HS.out⟩
        case measure => simp [intOf]; omega
    · obtain rfl : k = n := by omega
      have HM : Hid (WdIn w wr k D ∧ KeepsW D RS) := by
        have h8 := hI.out
        rw [List.take_of_length_le (by rw [HRL.out]; exact Nat.le_refl _)] at h8
        exact h8
      have HN0 : Hid (WdIn w wr k D ∧ wr.ownsRow w.heap.size 59 4 (.slice none (notesGo RS 0 (RS.take 0)).length 0) (notesGo RS 0 (RS.take 0)).length (flat NV.cells (notesGo RS 0 (RS.take 0))) ∧ (Value.slice none (notesGo RS 0 (RS.take 0)).length 0).ownBlock ≠ some w.heap.size) := ⟨HM.out.1, World.ownsRow_nil _ _ _ _, by simp [Value.ownBlock]⟩
      have HKW : Hid (KeepsW D RS) := HM.out.2
      clear HM hI hww
      go_upto_region 10 with (fail)
      rename World => wo
      go_loopw [6, 7, 8, 9, 31] (fun s6 _ _ _ s31 wr => ∃ (j : Nat) (a : Option Addr) (c : Nat), s31 = .int .i64 (j : Int) ∧ j ≤ k ∧ s6 = .slice a (notesGo RS 0 (RS.take j)).length c ∧ Hid (WdIn w wr k D ∧ wr.ownsRow w.heap.size 59 4 (.slice a (notesGo RS 0 (RS.take j)).length c) (notesGo RS 0 (RS.take j)).length (flat NV.cells (notesGo RS 0 (RS.take j))) ∧ (Value.slice a (notesGo RS 0 (RS.take j)).length c).ownBlock ≠ some w.heap.size)) (fun _ _ _ _ s31 _ => k - (intOf s31).toNat)
      case atStart => exact ⟨0, none, 0, rfl, Nat.zero_le _, rfl, HN0.out⟩
      case round =>
        obtain ⟨j, a, c, rfl, hj, rfl, hI⟩ := hrel
        have hww := hI.out.1.bel
        have hNl : (notesGo RS 0 (RS.take j)).length ≤ 1759218604441 := by
          have h8 := notesGo_len RS (RS.take j) 0
          have h9 : (RS.take j).length ≤ j := by simp; omega
          omega
        obtain ⟨NS, eNS⟩ : ∃ NS, NS = notesGo RS 0 (RS.take j) := ⟨_, rfl⟩
        rw [← eNS] at hI hNl ⊢
        have HNS : Hid (NS = notesGo RS 0 (RS.take j)) := eNS
        clear eNS
        obtain ⟨LN, eLN⟩ : ∃ LN, LN = NS.length := ⟨_, rfl⟩
        rw [← eLN] at hI hNl ⊢
        have HLN : Hid (LN = NS.length) := eLN
        clear eLN
        by_cases hlt : j < k
        · have hlt' : (j : Int) < (k : Int) := by omega
          have hrow := HR.out wr hww
          obtain ⟨b, off, rfl, zb, hcr⟩ := hrow.2.2.2.2 (by omega)
          have hcl := hcr j hlt
          have hkc : j < cp := by omega
          have HTk := HRS.out j hlt
          have hTx := HWf.out (rs.getD j default) (by simp [List.getD, show j < rs.length by rw [HL.out]; exact hlt])
          obtain ⟨v, ev⟩ : ∃ v, v = rs.getD j default := ⟨_, rfl⟩
          rw [← ev] at hcl HTk hTx
          clear ev hcr hrow
          obtain ⟨⟨kind, site, num, key, value, ask, yes, zs⟩, sa, sl, sc⟩ := v
          have HT : Hid (notesGo RS 0 (RS.take (j + 1)) = NS ++ if kind = 6 then [noteOf RS j ⟨kind, site, num, key, value, ask, yes, zs⟩] else []) := by
            show _ = _
            rw [HTk.1, notesGo_snoc, HTk.2, Nat.zero_add, ← HNS.out]
          obtain ⟨l, hkey⟩ := key_word (t := (site, num)) (!yes) hTx
          have HLa : Hid (D.atKey l (.lit (.int .i64 0)) = .lit (.int .i64 (lastOf (site, num) (!yes) RS))) := HKW.out.2 (site, num) (!yes) l hkey
          simp only at hkey
          clear hTx HTk
          have a0 := hcl 0 (by decide)
          have a1 := hcl 1 (by decide)
          have a2 := hcl 2 (by decide)
          have a3 := hcl 3 (by decide)
          have a4 := hcl 4 (by decide)
          have a5 := hcl 5 (by decide)
          have a6 := hcl 6 (by decide)
          have a7 := hcl 7 (by decide)
          simp only [RcM.cells, List.getElem?_cons_zero, List.getElem?_cons_succ, Nat.add_zero] at a0 a1 a2 a3 a4 a5 a6 a7
          clear hcl
          obtain ⟨U, hU⟩ : ∃ U : World, U = wr.alloc (.cells #[.int .i64 kind, .int .i64 site, .int .i64 num, .int .i64 key, .int .i64 value, .int .i64 ask, .bool yes, .slice sa sl sc] 54) := ⟨_, rfl⟩
          have bU : Below wr.heap.size wr U := by rw [hU]; exact (Below.refl _ _).alloc (Nat.le_refl _) _
          have ub : BoxN U wr.heap.size 8 [.int .i64 kind, .int .i64 site, .int .i64 num, .int .i64 key, .int .i64 value, .int .i64 ask, .bool yes, .slice sa sl sc] := by rw [hU]; exact boxn_new wr #[.int .i64 kind, .int .i64 site, .int .i64 num, .int .i64 key, .int .i64 value, .int .i64 ask, .bool yes, .slice sa sl sc] 54 8 rfl
          have HIU : Hid (WdIn w U k D ∧ U.ownsRow w.heap.size 59 4 (.slice a LN c) LN (flat NV.cells NS) ∧ (Value.slice a LN c).ownBlock ≠ some w.heap.size) := ⟨hI.out.1.below bU, own_below hI.out.2.1 bU, hI.out.2.2⟩
          go_upto_region 12 with (fail)
          rw [← hU]
          clear hU a0 a1 a2 a3 a4 a5 a6 a7 hI bU zb HKW HNS
          have u0 : U.cell? ⟨wr.heap.size, 0, none⟩ = some (.int .i64 kind) := (ub.c 0 (by decide)).1
          have u1 : U.cell? ⟨wr.heap.size, 1, none⟩ = some (.int .i64 site) := (ub.c 1 (by decide)).1
          have u2 : U.cell? ⟨wr.heap.size, 2, none⟩ = some (.int .i64 num) := (ub.c 2 (by decide)).1
          have u6 : U.cell? ⟨wr.heap.size, 6, none⟩ = some (.bool yes) := (ub.c 6 (by decide)).1
          have uz := ub.lt
          clear ub
          by_cases hk6 : kind = 6
          · subst hk6
            have hmU := HIU.out.1.map
            obtain ⟨LL, eLL⟩ : ∃ LL, LL = lastOf (site, num) (!yes) RS := ⟨_, rfl⟩
            have HNt : Hid (noteOf RS j ⟨6, site, num, key, value, ask, yes, zs⟩ = ⟨site, num, yes, decide ((j : Int) < LL)⟩) := by show _ = _; rw [eLL]; rfl
            rw [← eLL] at HLa
            clear eLL
            go_upto_region 14 with (at_lookup; refine wpList_lookup_own_int _ rfl _ _ 83 rfl 85 3 .i64 word_keyed Tryz.underlying83 Tryz.underlying3 (int_zero _) w.heap.size k _ rfl hmU _ _ rfl hkey ?_; intro cc hcat hwc; obtain rfl : LL = cc := by (have h8 := HLa.out.symm.trans hcat; simpa using h8))
            obtain ⟨X, eX⟩ : ∃ X : World, X = (U.alloc (.cells #[.int .i64 site, .int .i64 num, .bool yes, .bool (decide ((j : Int) < LL))] 59)) := ⟨_, rfl⟩
            have bX : Below U.heap.size U X := by rw [eX]; exact ((Below.refl _ _).alloc (Nat.le_refl _) _)
            have hone : IsRow 4 NV.cells X (some ⟨U.heap.size, 0, none⟩) 1 1 [(⟨site, num, yes, decide ((j : Int) < LL)⟩ : NV)] := by rw [eX]; exact isOne _ _ _ _ rfl rfl
            have hownX := own_below HIU.out.2.1 bX
            have hBX : w.heap.size ≤ X.heap.size := Nat.le_trans HIU.out.1.bel.size bX.size
            have HLB : Hid ((LN + 1) * 24 ≤ 140737488355328) := by show (LN + 1) * 24 ≤ _; omega
            clear hmU hcat hwc HLa
            go_upto_region 15 with (rw [← eX]; refine wpList_append_row E4 (by rfl) (.tmp 49) (.tmp 56) (by rfl) w.heap.size (.slice a LN c) LN NS (by rfl) hownX _ 1 1 [(⟨site, num, yes, decide ((j : Int) < LL)⟩ : NV)] (by rfl) hone (by unfold maxLen; omega) (by exact HLB.out) hBX ?_; intro a5 c5 w5 own5 gr5 at5)
            have HS : Hid (WdIn w w5 k D ∧ w5.ownsRow w.heap.size 59 4 (.slice a5 (notesGo RS 0 (RS.take (j + 1))).length c5) (notesGo RS 0 (RS.take (j + 1))).length (flat NV.cells (notesGo RS 0 (RS.take (j + 1)))) ∧ (Value.slice a5 (notesGo RS 0 (RS.take (j + 1))).length c5).ownBlock ≠ some w.heap.size) := by
              have h7 := HT.out
              rw [if_pos rfl, HNt.out] at h7
              have h6 : (notesGo RS 0 (RS.take (j + 1))).length = LN + 1 := by rw [h7, HLN.out]; simp
              rw [h6, h7]
              have hX : WdIn w X k D := HIU.out.1.below bX
              have hne := HIU.out.2.2
              refine ⟨⟨ownsMap_grown hX.map gr5 hne, hX.bel.trans ⟨gr5.os, gr5.tape, gr5.output, gr5.size, fun i hi => gr5.block i (by omega) (fun e => by have := (hownX.lt i e.symm).1; omega)⟩⟩, own5, ?_⟩
              rcases at5 with e | e
              · rw [e]; exact hne
              · rw [e]
                intro h8
                have h9 := Option.some.inj h8
                have hm : w.heap.size < X.heap.size := Nat.lt_of_le_of_lt HIU.out.1.bel.size (by rw [eX]; simp)
                omega
            have HS2 : Hid (LN + 1 = (notesGo RS 0 (RS.take (j + 1))).length) := by
              show _ = _
              rw [HT.out, HLN.out, if_pos rfl]
              simp
            clear HIU HT own5 gr5 at5 hownX hone bX HNt eX
            go_wp2
            go_roundw
            case rel => exact ⟨j + 1, a5, c5, by go_num, by omega, by rw [← HS2.out], HS.out⟩
            case measure => simp [intOf]; omega
          · have e6 : (kind == 6) = false := by simpa using hk6
            have HS : Hid (NS = notesGo RS 0 (RS.take (j + 1))) := by show _ = _; rw [HT.out, if_neg hk6, List.append_nil]
            have HS2 : Hid (WdIn w U k D ∧ U.ownsRow w.heap.size 59 4 (.slice a (notesGo RS 0 (RS.take (j + 1))).length c) (notesGo RS 0 (RS.take (j + 1))).length (flat NV.cells (notesGo RS 0 (RS.take (j + 1)))) ∧ (Value.slice a (notesGo RS 0 (RS.take (j + 1))).length c).ownBlock ≠ some w.heap.size) := by
              rw [← HS.out, ← HLN.out]
              exact HIU.out
            clear HIU HT hk6 hww HLa
            go_wp2
            go_roundw
            case rel => exact ⟨j + 1, a, c, by go_num, by omega, by rw [← HS.out, ← HLN.out], HS2.out⟩
            case measure => simp [intOf]; omega
        · obtain rfl : j = k := by omega
          have HF : Hid (NotesOf w wr (.returned (.slice a LN c)) (recNotes RS)) := by
            have h8 : recNotes RS = NS := by
              rw [HNS.out, List.take_of_length_le (by rw [HRL.out]; exact Nat.le_refl _)]
              rfl
            rw [h8]
            exact ⟨a, c, by rw [← HLN.out], by rw [← HLN.out]; exact hI.out.2.1, hww⟩
          clear hI hww HR HWf HRS
          go_wp2
          go_ret
          exact HF.out
end Go.Proofs.YtekglahigjblkaaGreatDoor.Pt
