/- Texts of this claim, one behind the other. -/
import Derived.Test.YtlaagfnoepcnlaaDoorM14LinesBad
import Derived.Test.YtlaagfnoepcnlaaDoorM16LinesBad
import Derived.Test.YtlaagfnoepcnlaaDoorM13LinesBad
import Derived.Laws.IdiomStrings
import Derived.Laws.BitsAllLaws
import Derived.Deep.Cut
import Derived.Deep.DeepCutAuto
import Derived.LoopTactic
import Derived.OwnWalk
import Derived.Test.YtlaagfnoepcnlaaDoorM11LinesBad
import Derived.Test.YtlaagfnoepcnlaaDoorShelf
import Derived.Lib.ItoaLen
/- An append of a row as an operation of a drawn region that goes by an invariant. -/
namespace Go.Proofs.YtlaagfnoepcnlaaDoor.St
open Go.ChangeShapes Go.WideShapes Go.ChangeAt Go.RowKit
set_option linter.unusedVariables false

theorem wpv_append_row {α : Type} [Inhabited α] {k : Nat} {cells : α → List Value} {te tsl : TypeId} {i : TypeInfo} {z : Value} {bytes : Nat} (E : Elem k cells te tsl i z bytes) {w : World} {o : Oper} {A : Act} {K : Value → World → Prop} {Q : Exit → Act → World → Prop} (s x : Operand)
    (ho : o.op = .call { callee := .builtin .append, args := #[s, x], argTypes := #[tsl, tsl] })
    (B : Nat) (v : Value) (n : Nat) (xs : List α) (hs : A.eval s = v) (hown : w.ownsRow B te k v n (flat cells xs))
    (a : Option Addr) (len cap : Nat) (bs : List α) (hx : A.eval x = .slice a len cap) (hb : IsRow k cells w a len cap bs) (h63 : n + len ≤ maxLen) (hby : (n + len) * bytes ≤ 140737488355328) (hbase : B ≤ w.heap.size)
    (h : ∀ a' cap' w', w'.ownsRow B te k (.slice a' (n + len) cap') (n + len) (flat cells (xs ++ bs)) → w.grownBy w' v.ownBlock → ((Value.slice a' (n + len) cap').ownBlock = v.ownBlock ∨ (Value.slice a' (n + len) cap').ownBlock = some w.heap.size) → K (.slice a' (n + len) cap') w') :
    Oper.wpv Tryd.prog o A w K Q := by
  obtain ⟨a', cap', w', hr, h2, h3, h4⟩ := run_append_row E (w := w) o.type B v n xs hown a len cap bs hb h63 hby hbase
  unfold Oper.wpv execOp
  simp only [ho, resolve, invoke, builtin, Sem.run_bind, Sem.run_pure, Result.andThen_ok, List.map_toArray, List.map_cons, List.map_nil, hs, hx, hr]
  exact h a' cap' w' h2 h3 h4
end Go.Proofs.YtlaagfnoepcnlaaDoor.St
/- lines.textAsWord: a text as a word, by the digits of its bytes. -/
namespace Go.Proofs.YtlaagfnoepcnlaaDoor.Ln
open Go.ChangeShapes Go.WideShapes Go.ChangeAt Go.RowKit
open Go.Proofs.YtlaagfnoepcnlaaDoor.St (BoxN boxn_new own_below IsRow Elem flat flat_append own_isRow)
set_option linter.unusedVariables false

theorem sT {u v z : World} (h : Below u.heap.size u v) (k : Below v.heap.size v z) : Below u.heap.size u z := h.trans (k.mono h.size)
def u8C (c : UInt8) : List Value := [.int .u8 (c.toNat : Int)]
theorem u8_len (x : UInt8) : (u8C x).length = 1 := rfl
theorem u8_one (y : UInt8) : ∀ u ∈ u8C y, u.oneCell' = true := by
  intro u hu
  simp only [u8C, List.mem_cons, List.not_mem_nil, or_false] at hu
  rcases hu with rfl
  rfl
theorem u8Info : (Tryd.prog.info? 5).map (fun i => (i.zero, i.size, i.bytes)) = some (some (.int .u8 0), 1, 1) := by kernel_rfl
theorem u8Elem : ∃ i, Elem 1 u8C 5 52 i (.int .u8 0) 1 := by
  obtain ⟨j0, hj, lj0, lj1, lj2⟩ := info_parts u8Info
  exact ⟨j0, u8_len, by decide, u8_one, Tryd.underlying52, hj, lj0, lj1, lj2, rfl⟩
theorem flat_u8 : ∀ (vs : List UInt8), (flat u8C vs).length = vs.length
  | [] => rfl
  | x :: r => by
    have := flat_u8 r
    simp only [flat, List.flatMap_cons, List.length_append, List.length_cons] at *
    rw [this]
    simp [u8C, Nat.add_comm]
theorem u8_new (X : World) (vs : List UInt8) (cs : Array Value) (n : Nat) (hn : vs.length = n) (hc : cs.toList = flat u8C vs) (hm : n ≤ maxLen) (h0 : 0 < n) : (X.alloc (.cells cs 5)).ownsRow X.heap.size 5 1 (.slice (some ⟨X.heap.size, 0, none⟩) n n) n (flat u8C vs) := by
  have hl : (flat u8C vs).length = n := by rw [← hn]; exact flat_u8 vs
  have hs : cs.size = n := by rw [← Array.length_toList, hc, hl]
  refine ⟨by rw [hl]; omega, Or.inr ⟨X.heap.size, n, cs, rfl, Nat.le_refl _, heap_alloc_new X _, Nat.le_refl _, hm, by omega, ?_⟩⟩
  rw [Nat.mul_one, ← hc, List.take_of_length_le (by simp [hs])]
theorem ownB8 {w : World} {B C : Nat} {te : TypeId} {k : Nat} {v : Value} {n : Nat} {xs : List Value} (h : w.ownsRow C te k v n xs) (hB : B ≤ C) : w.ownsRow B te k v n xs := by
  obtain ⟨h1, h2⟩ := h
  refine ⟨h1, ?_⟩
  rcases h2 with h2 | ⟨g, cap, cur, e, hb, r⟩
  · exact .inl h2
  · exact .inr ⟨g, cap, cur, e, Nat.le_trans hB hb, r⟩
/-- The digit of a number below sixteen. -/
def hexD (n : Nat) : UInt8 := if n < 10 then UInt8.ofNat (48 + n) else UInt8.ofNat (87 + n)
def hexes : List UInt8 → List UInt8
  | [] => []
  | c :: r => hexD (c.toNat / 16) :: hexD (c.toNat % 16) :: hexes r
def txtL (l : List UInt8) : List UInt8 := 46 :: hexes l
def txtW (s : ByteArray) : ByteArray := ⟨(txtL s.data.toList).toArray⟩
theorem hexes_snoc (l : List UInt8) (c : UInt8) : hexes (l ++ [c]) = hexes l ++ [hexD (c.toNat / 16), hexD (c.toNat % 16)] := by
  induction l with
  | nil => rfl
  | cons x r ih => simp [hexes, ih]
theorem hexes_len (l : List UInt8) : (hexes l).length = 2 * l.length := by
  induction l with
  | nil => rfl
  | cons x r ih => simp [hexes, ih]; omega
theorem dig_at (q : Nat) (hq : q < 16) (U : World) : (Instr.index 9 (.string ⟨#[48, 49, 50, 51, 52, 53, 54, 55, 56, 57, 97, 98, 99, 100, 101, 102]⟩) (.int .u8 (q : Int))).run Tryd.prog U = .ok (.int .u8 ((hexD q).toNat : Int)) U := by
  rw [run_index_string (P := Tryd.prog) U 9 ⟨#[48, 49, 50, 51, 52, 53, 54, 55, 56, 57, 97, 98, 99, 100, 101, 102]⟩ .u8 (q : Int) (by kernel_rfl), dif_pos ⟨by omega, by show (q : Int) < 16; omega⟩]
  rcases (by omega : q = 0 ∨ q = 1 ∨ q = 2 ∨ q = 3 ∨ q = 4 ∨ q = 5 ∨ q = 6 ∨ q = 7 ∨ q = 8 ∨ q = 9 ∨ q = 10 ∨ q = 11 ∨ q = 12 ∨ q = 13 ∨ q = 14 ∨ q = 15) with rfl | rfl | rfl | rfl | rfl | rfl | rfl | rfl | rfl | rfl | rfl | rfl | rfl | rfl | rfl | rfl <;> rfl
theorem ch_at (s : ByteArray) (k : Nat) (hk : k < s.size) : ∃ c : UInt8, (∀ U : World, (Instr.index 9 (.string s) (.int .i64 (k : Int))).run Tryd.prog U = .ok (.int .u8 (c.toNat : Int)) U) ∧ s.data.toList.drop k = c :: s.data.toList.drop (k + 1) ∧ s.data.toList.take (k + 1) = s.data.toList.take k ++ [c] := by
  have hl : k < s.data.toList.length := hk
  refine ⟨s.data.toList[k], fun U => ?_, List.drop_eq_getElem_cons hl, List.take_succ_eq_append_getElem hl⟩
  rw [run_index_string (P := Tryd.prog) U 9 s .i64 (k : Int) (by kernel_rfl), dif_pos ⟨by omega, by omega⟩]
  rfl
set_option maxRecDepth 100000 in
set_option maxHeartbeats 4000000 in
theorem textAsWord_any (s : ByteArray) (w : World) (hs : s.size ≤ 1000000) :
    Calls Tryd.prog 48 #[.string s] w fun e w' => e = .returned (.string (txtW s)) ∧ Below w.heap.size w w' := by
  obtain ⟨iE, EU⟩ := u8Elem
  have HF : Hid (∀ (bs : List UInt8) (a : Option Addr) (n c : Nat) (U : World), bs = txtL s.data.toList → bs.length = n → 0 < n → IsRow 1 u8C U a n c bs → (convert 52 9 (.slice a n c)).run Tryd.prog U = .ok (.string (txtW s)) U) := fun bs a n c U hb hn h0 hr => by
    obtain ⟨_, _, _, _, h5⟩ := hr
    obtain ⟨b, off, rfl, _, hc⟩ := h5 h0
    subst hn
    have := run_convert_bytes_back (P := Tryd.prog) U 52 9 5 ⟨b, off, none⟩ c bs Tryd.underlying52 Tryd.underlying5 Tryd.underlying9 (fun j hj => by
      have h8 := hc j hj 0 (by decide)
      rw [Nat.mul_one, Nat.add_zero] at h8
      have e1 : ((⟨b, off, none⟩ : Addr).add j) = ⟨b, off + j, none⟩ := by unfold Addr.add; by_cases h : j = 0 <;> simp [h]
      rw [e1, h8]
      simp [u8C, List.getD, hj])
    rw [this, hb]
    rfl
  obtain ⟨V, eV⟩ : ∃ V : World, V = w.alloc (.cells #[.int .u8 46] 5) := ⟨_, rfl⟩
  have bV : Below w.heap.size w V := by rw [eV]; exact (Below.refl _ _).alloc (Nat.le_refl _) _
  have oV : V.ownsRow w.heap.size 5 1 (.slice (some ⟨w.heap.size, 0, none⟩) 1 1) 1 (flat u8C [46]) := by rw [eV]; exact u8_new w [46] #[.int .u8 46] 1 rfl rfl (by unfold maxLen; omega) (by decide)
  have HT0 : Hid ([46] = txtL (s.data.toList.take 0)) := by show _ = _; rfl
  go_enter Tryd.func48, Tryd.ntmps48
  go_upto_region 2 with (fail)
  rw [← eV]
  clear eV
  go_wp2
  go_loopw [3, 8] (fun s3 s8 wr => ∃ (k c : Nat) (a : Option Addr) (bs : List UInt8), s3 = .slice a (1 + 2 * k) c ∧ s8 = .int .i64 (k : Int) ∧ k ≤ s.size ∧ bs.length = 1 + 2 * k ∧ wr.ownsRow w.heap.size 5 1 (.slice a (1 + 2 * k) c) (1 + 2 * k) (flat u8C bs) ∧ Hid (bs = txtL (s.data.toList.take k)) ∧ Below w.heap.size w wr) (fun _ s8 _ => s.size - (intOf s8).toNat)
  case atStart => exact ⟨0, 1, some ⟨w.heap.size, 0, none⟩, [46], rfl, rfl, by omega, rfl, oV, HT0, bV⟩
  case round =>
    obtain ⟨k, c, a, bs, rfl, rfl, hk, hbl, hO, hT, hb0⟩ := hrel
    clear HT0 oV bV
    obtain ⟨wo, ewo⟩ : ∃ X : World, X = wr := ⟨_, rfl⟩
    subst ewo
    by_cases hlt : k < s.size
    · have hlt' : (k : Int) < (s.size : Int) := by omega
      have HJ : Hid (k + 1 ≤ s.size) := hlt
      obtain ⟨ch, hx, -, htk⟩ := ch_at s k hlt
      have hch : ch.toNat < 256 := ch.toNat_lt
      have HX : Hid (∀ U : World, (Instr.index 9 (.string s) (.int .i64 (k : Int))).run Tryd.prog U = .ok (.int .u8 (ch.toNat : Int)) U) := hx
      have HQ : Hid ((ch.toNat : Int) / 16 = ((ch.toNat / 16 : Nat) : Int)) := rfl
      have HR : Hid (bits .and .u8 (ch.toNat : Int) 15 = ((ch.toNat % 16 : Nat) : Int)) := by
        show _ = _
        have := u8_and_nat ch.toNat 15 (by omega) (by omega)
        rw [show ((15 : Nat) : Int) = 15 from rfl] at this
        rw [this, show (15 : Nat) = 2 ^ 4 - 1 from rfl, Nat.and_two_pow_sub_one_eq_mod]
      have HD1 : Hid (∀ U : World, (Instr.index 9 (.string ⟨#[48, 49, 50, 51, 52, 53, 54, 55, 56, 57, 97, 98, 99, 100, 101, 102]⟩) (.int .u8 ((ch.toNat / 16 : Nat) : Int))).run Tryd.prog U = .ok (.int .u8 ((hexD (ch.toNat / 16)).toNat : Int)) U) := fun U => dig_at _ (by omega) U
      have HD2 : Hid (∀ U : World, (Instr.index 9 (.string ⟨#[48, 49, 50, 51, 52, 53, 54, 55, 56, 57, 97, 98, 99, 100, 101, 102]⟩) (.int .u8 ((ch.toNat % 16 : Nat) : Int))).run Tryd.prog U = .ok (.int .u8 ((hexD (ch.toNat % 16)).toNat : Int)) U) := fun U => dig_at _ (by omega) U
      have HT2 : Hid (bs ++ [hexD (ch.toNat / 16), hexD (ch.toNat % 16)] = txtL (s.data.toList.take (k + 1))) := by show _ = _; rw [hT.out, htk, txtL, txtL, hexes_snoc]; rfl
      obtain ⟨A1, eA1⟩ : ∃ x : Nat, x = ch.toNat / 16 := ⟨_, rfl⟩
      obtain ⟨A2, eA2⟩ : ∃ x : Nat, x = ch.toNat % 16 := ⟨_, rfl⟩
      rw [← eA1] at HQ HD1 HT2
      rw [← eA2] at HR HD2 HT2
      obtain ⟨C, eC⟩ : ∃ x : Nat, x = ch.toNat := ⟨_, rfl⟩
      rw [← eC] at HX HQ HR
      obtain ⟨G1, eG1⟩ : ∃ x, x = hexD A1 := ⟨_, rfl⟩
      obtain ⟨G2, eG2⟩ : ∃ x, x = hexD A2 := ⟨_, rfl⟩
      rw [← eG1] at HD1 HT2
      rw [← eG2] at HD2 HT2
      have HOw : Hid (∀ U, Below wo.heap.size wo U → U.ownsRow w.heap.size 5 1 (.slice a (1 + 2 * k) c) (1 + 2 * k) (flat u8C bs)) := fun U hU => own_below hO hU
      have HBw : Hid (∀ U, Below wo.heap.size wo U → Below w.heap.size w U) := fun U hU => hb0.trans (hU.mono hb0.size)
      have HLt : Hid (∀ g, (Value.slice a (1 + 2 * k) c).ownBlock = some g → w.heap.size ≤ g) := fun g hg => (hO.lt g hg).1
      clear hx htk hch eA1 eA2 eC eG1 eG2 hT hO hb0
      go_upto_region 5 with (fail)
      refine wp_region_inv (by kernel_rfl) [11, 12, 13, 14, 15, 16, 17, 18, 19, 20, 21, 22, 23, 3] (fun L T u => ∃ (a6 : Option Addr) (c6 : Nat) (bA : Nat), True ∧ (L 0 = true → T 11 = .slice a (1 + 2 * k) c) ∧ (L 1 = true → T 12 = .string s) ∧ (L 2 = true → T 13 = .int .i64 (k : Int)) ∧ (L 3 = true → T 14 = .int .u8 (C : Int)) ∧ (L 4 = true → T 15 = .int .u8 (A1 : Int)) ∧ (L 5 = true → T 16 = .int .u8 (G1.toNat : Int)) ∧ (L 6 = true → T 17 = .string s) ∧ (L 7 = true → T 18 = .int .i64 (k : Int)) ∧ (L 8 = true → T 19 = .int .u8 (C : Int)) ∧ (L 9 = true → T 20 = .int .u8 (A2 : Int)) ∧ (L 10 = true → T 21 = .int .u8 (G2.toNat : Int)) ∧ (L 12 = true → T 23 = .slice a6 (1 + 2 * k + 2) c6) ∧ (L 13 = true → T 3 = .slice a6 (1 + 2 * k + 2) c6) ∧ (L 13 = false → T 3 = .slice a (1 + 2 * k) c) ∧ (L 12 = false → Below wo.heap.size wo u) ∧ (L 12 = true → (u.ownsRow w.heap.size 5 1 (.slice a6 (1 + 2 * k + 2) c6) (1 + 2 * k + 2) (flat u8C (bs ++ [G1, G2])) ∧ Below w.heap.size w u)) ∧ (L 11 = true → L 12 = false → (T 22 = .slice (some ⟨bA, 0, none⟩) 2 2 ∧ wo.heap.size ≤ bA ∧ bA < u.heap.size)) ∧ (L 11 = true → L 12 = false → IsRow 1 u8C u (some ⟨bA, 0, none⟩) 2 2 [G1, G2])) (by decide) (by kernel_rfl) (by kernel_rfl) ?_ ?_ ?_
      · exact ⟨none, 0, 0, trivial, nofun, nofun, nofun, nofun, nofun, nofun, nofun, nofun, nofun, nofun, nofun, nofun, nofun, fun _ => rfl, fun _ => (Below.refl _ _).drew, nofun, nofun, nofun⟩
      · refine ⟨?_, ?_, ?_, ?_, ?_, ?_, ?_, ?_, ?_, ?_, ?_, ?_, ?_, ?_, trivial⟩
        · rintro L T u hd hk hcl ⟨a6, c6, bA, hb, p0, p1, p2, p3, p4, p5, p6, p7, p8, p9, p10, p12, p13, q3, c1, c2, pa11, bv11⟩ K hK
          simp only [fr, Act.put, List.setIfInBounds_toArray, List.set_cons_zero, List.set_cons_succ, updO] at hK ⊢
          simp [Region.binds] at hd
          have k13 := hcl 13 _ rfl
          simp [Region.binds] at k13
          have k12 := hcl 12 _ rfl
          simp [Region.binds] at k12
          have hF13 : L 13 = false := by cases h : L 13 with | false => rfl | true => have a13 := k13 h; have a12 := k12 (by simp [a13]); simp [hk] at a12
          have gq3 := q3 hF13
          rw [if_pos (by rfl)]
          simp only [Oper.wpv]
          go_simp
          exact hK _ _ ⟨a6, c6, bA, hb, fun _ => rfl, p1, p2, p3, p4, p5, p6, p7, p8, p9, p10, p12, p13, q3, c1, c2, pa11, bv11⟩
        · rintro L T u hd hk hcl ⟨a6, c6, bA, hb, p0, p1, p2, p3, p4, p5, p6, p7, p8, p9, p10, p12, p13, q3, c1, c2, pa11, bv11⟩ K hK
          simp only [fr, Act.put, List.setIfInBounds_toArray, List.set_cons_zero, List.set_cons_succ, updO] at hK ⊢
          simp [Region.binds] at hd
          rw [if_pos (by rfl)]
          simp only [Oper.wpv]
          go_simp
          exact hK _ _ ⟨a6, c6, bA, hb, p0, fun _ => rfl, p2, p3, p4, p5, p6, p7, p8, p9, p10, p12, p13, q3, c1, c2, pa11, bv11⟩
        · rintro L T u hd hk hcl ⟨a6, c6, bA, hb, p0, p1, p2, p3, p4, p5, p6, p7, p8, p9, p10, p12, p13, q3, c1, c2, pa11, bv11⟩ K hK
          simp only [fr, Act.put, List.setIfInBounds_toArray, List.set_cons_zero, List.set_cons_succ, updO] at hK ⊢
          simp [Region.binds] at hd
          rw [if_pos (by rfl)]
          simp only [Oper.wpv]
          go_simp
          exact hK _ _ ⟨a6, c6, bA, hb, p0, p1, fun _ => rfl, p3, p4, p5, p6, p7, p8, p9, p10, p12, p13, q3, c1, c2, pa11, bv11⟩
        · rintro L T u hd hk hcl ⟨a6, c6, bA, hb, p0, p1, p2, p3, p4, p5, p6, p7, p8, p9, p10, p12, p13, q3, c1, c2, pa11, bv11⟩ K hK
          simp only [fr, Act.put, List.setIfInBounds_toArray, List.set_cons_zero, List.set_cons_succ, updO] at hK ⊢
          simp [Region.binds] at hd
          have g1 := p1 (by simp [hd])
          have g2 := p2 (by simp [hd])
          have hq := HX.out u
          rw [if_pos (by rfl)]
          simp only [Oper.wpv]
          go_simp
          exact hK _ _ ⟨a6, c6, bA, hb, p0, p1, p2, fun _ => rfl, p4, p5, p6, p7, p8, p9, p10, p12, p13, q3, c1, c2, pa11, bv11⟩
        · rintro L T u hd hk hcl ⟨a6, c6, bA, hb, p0, p1, p2, p3, p4, p5, p6, p7, p8, p9, p10, p12, p13, q3, c1, c2, pa11, bv11⟩ K hK
          simp only [fr, Act.put, List.setIfInBounds_toArray, List.set_cons_zero, List.set_cons_succ, updO] at hK ⊢
          simp [Region.binds] at hd
          have g3 := p3 (by simp [hd])
          have hq := HQ.out
          rw [if_pos (by rfl)]
          simp only [Oper.wpv]
          go_simp
          exact hK _ _ ⟨a6, c6, bA, hb, p0, p1, p2, p3, fun _ => rfl, p5, p6, p7, p8, p9, p10, p12, p13, q3, c1, c2, pa11, bv11⟩
        · rintro L T u hd hk hcl ⟨a6, c6, bA, hb, p0, p1, p2, p3, p4, p5, p6, p7, p8, p9, p10, p12, p13, q3, c1, c2, pa11, bv11⟩ K hK
          simp only [fr, Act.put, List.setIfInBounds_toArray, List.set_cons_zero, List.set_cons_succ, updO] at hK ⊢
          simp [Region.binds] at hd
          have g4 := p4 (by simp [hd])
          have hq := HD1.out u
          rw [if_pos (by rfl)]
          simp only [Oper.wpv]
          go_simp
          exact hK _ _ ⟨a6, c6, bA, hb, p0, p1, p2, p3, p4, fun _ => rfl, p6, p7, p8, p9, p10, p12, p13, q3, c1, c2, pa11, bv11⟩
        · rintro L T u hd hk hcl ⟨a6, c6, bA, hb, p0, p1, p2, p3, p4, p5, p6, p7, p8, p9, p10, p12, p13, q3, c1, c2, pa11, bv11⟩ K hK
          simp only [fr, Act.put, List.setIfInBounds_toArray, List.set_cons_zero, List.set_cons_succ, updO] at hK ⊢
          simp [Region.binds] at hd
          rw [if_pos (by rfl)]
          simp only [Oper.wpv]
          go_simp
          exact hK _ _ ⟨a6, c6, bA, hb, p0, p1, p2, p3, p4, p5, fun _ => rfl, p7, p8, p9, p10, p12, p13, q3, c1, c2, pa11, bv11⟩
        · rintro L T u hd hk hcl ⟨a6, c6, bA, hb, p0, p1, p2, p3, p4, p5, p6, p7, p8, p9, p10, p12, p13, q3, c1, c2, pa11, bv11⟩ K hK
          simp only [fr, Act.put, List.setIfInBounds_toArray, List.set_cons_zero, List.set_cons_succ, updO] at hK ⊢
          simp [Region.binds] at hd
          rw [if_pos (by rfl)]
          simp only [Oper.wpv]
          go_simp
          exact hK _ _ ⟨a6, c6, bA, hb, p0, p1, p2, p3, p4, p5, p6, fun _ => rfl, p8, p9, p10, p12, p13, q3, c1, c2, pa11, bv11⟩
        · rintro L T u hd hk hcl ⟨a6, c6, bA, hb, p0, p1, p2, p3, p4, p5, p6, p7, p8, p9, p10, p12, p13, q3, c1, c2, pa11, bv11⟩ K hK
          simp only [fr, Act.put, List.setIfInBounds_toArray, List.set_cons_zero, List.set_cons_succ, updO] at hK ⊢
          simp [Region.binds] at hd
          have g6 := p6 (by simp [hd])
          have g7 := p7 (by simp [hd])
          have hq := HX.out u
          rw [if_pos (by rfl)]
          simp only [Oper.wpv]
          go_simp
          exact hK _ _ ⟨a6, c6, bA, hb, p0, p1, p2, p3, p4, p5, p6, p7, fun _ => rfl, p9, p10, p12, p13, q3, c1, c2, pa11, bv11⟩
        · rintro L T u hd hk hcl ⟨a6, c6, bA, hb, p0, p1, p2, p3, p4, p5, p6, p7, p8, p9, p10, p12, p13, q3, c1, c2, pa11, bv11⟩ K hK
          simp only [fr, Act.put, List.setIfInBounds_toArray, List.set_cons_zero, List.set_cons_succ, updO] at hK ⊢
          simp [Region.binds] at hd
          have g8 := p8 (by simp [hd])
          have hq := HR.out
          rw [if_pos (by rfl)]
          simp only [Oper.wpv]
          go_simp
          exact hK _ _ ⟨a6, c6, bA, hb, p0, p1, p2, p3, p4, p5, p6, p7, p8, fun _ => rfl, p10, p12, p13, q3, c1, c2, pa11, bv11⟩
        · rintro L T u hd hk hcl ⟨a6, c6, bA, hb, p0, p1, p2, p3, p4, p5, p6, p7, p8, p9, p10, p12, p13, q3, c1, c2, pa11, bv11⟩ K hK
          simp only [fr, Act.put, List.setIfInBounds_toArray, List.set_cons_zero, List.set_cons_succ, updO] at hK ⊢
          simp [Region.binds] at hd
          have g9 := p9 (by simp [hd])
          have hq := HD2.out u
          rw [if_pos (by rfl)]
          simp only [Oper.wpv]
          go_simp
          exact hK _ _ ⟨a6, c6, bA, hb, p0, p1, p2, p3, p4, p5, p6, p7, p8, p9, fun _ => rfl, p12, p13, q3, c1, c2, pa11, bv11⟩
        · rintro L T u hd hk hcl ⟨a6, c6, bA, hb, p0, p1, p2, p3, p4, p5, p6, p7, p8, p9, p10, p12, p13, q3, c1, c2, pa11, bv11⟩ K hK
          simp only [fr, Act.put, List.setIfInBounds_toArray, List.set_cons_zero, List.set_cons_succ, updO] at hK ⊢
          simp [Region.binds] at hd
          have k12 := hcl 12 _ rfl
          simp [Region.binds] at k12
          have hE : L 12 = false := by cases h : L 12 with | false => rfl | true => have a12 := k12 h; simp [hk] at a12
          have g5 := p5 (by simp [hd])
          have g10 := p10 (by simp [hd])
          have k13 := hcl 13 _ rfl
          simp [Region.binds] at k13
          have hg : Below u.heap.size u (u.alloc (.cells #[.int .u8 (G1.toNat : Int), .int .u8 (G2.toNat : Int)] 5)) := (Below.refl _ _).alloc (Nat.le_refl _) _
          rw [if_pos (by rfl)]
          simp only [Oper.wpv]
          go_simp
          exact hK _ _ ⟨a6, c6, u.heap.size, hb, p0, p1, p2, p3, p4, p5, p6, p7, p8, p9, p10, p12, p13, q3, fun _ => sT (c1 hE) hg, fun h => absurd (show L 12 = true from h) (by simp [hE]), fun _ _ => ⟨rfl, (c1 hE).size, by simp⟩, fun _ _ => (own_isRow u8_len (u8_new u [G1, G2] #[.int .u8 (G1.toNat : Int), .int .u8 (G2.toNat : Int)] 2 rfl rfl (by unfold maxLen; omega) (by decide)) rfl).1⟩
        · rintro L T u hd hk hcl ⟨a6, c6, bA, hb, p0, p1, p2, p3, p4, p5, p6, p7, p8, p9, p10, p12, p13, q3, c1, c2, pa11, bv11⟩ K hK
          simp only [fr, Act.put, List.setIfInBounds_toArray, List.set_cons_zero, List.set_cons_succ, updO] at hK ⊢
          simp [Region.binds] at hd
          have hE : L 12 = false := hk
          have g0 := p0 (by simp [hd])
          have g11 := pa11 (by simp [hd]) hE
          have k13 := hcl 13 _ rfl
          simp [Region.binds] at k13
          have hrw := bv11 (by simp [hd]) hE
          rw [if_pos (by rfl)]
          simp only [Oper.wpv]
          refine St.wpv_append_row EU (.tmp 11) (.tmp 22) (by rfl) w.heap.size (.slice a (1 + 2 * k) c) (1 + 2 * k) bs g0 (HOw.out u (c1 hE)) (some ⟨bA, 0, none⟩) 2 2 [G1, G2] (g11.1) hrw (by unfold maxLen; omega) (by omega) (Nat.le_trans (HBw.out u (c1 hE)).size (Nat.le_refl _)) ?_
          intro a6 c6 u6 own6 gr6 at6
          have hu6 : Below w.heap.size w u6 := (HBw.out u (c1 hE)).grown gr6 (HBw.out u (c1 hE)).size (fun q hq => HLt.out q hq)
          exact hK _ _ ⟨a6, c6, bA, hb, p0, p1, p2, p3, p4, p5, p6, p7, p8, p9, p10, fun _ => rfl, fun h => absurd (show L 13 = true from h) (by intro hh; have a13 := k13 hh; simp [hk] at a13), q3, fun h0 => Bool.noConfusion (show true = false from h0), fun _ => ⟨own6, hu6⟩, fun h0 h1 => Bool.noConfusion (show true = false from h1), fun h0 h1 => Bool.noConfusion (show true = false from h1)⟩
        · rintro L T u hd hk hcl ⟨a6, c6, bA, hb, p0, p1, p2, p3, p4, p5, p6, p7, p8, p9, p10, p12, p13, q3, c1, c2, pa11, bv11⟩ K hK
          simp only [fr, Act.put, List.setIfInBounds_toArray, List.set_cons_zero, List.set_cons_succ, updO] at hK ⊢
          simp [Region.binds] at hd
          have g12 := p12 (by simp [hd])
          rw [if_pos (by rfl)]
          simp only [Oper.wpv]
          go_simp
          exact hK _ _ ⟨a6, c6, bA, hb, p0, p1, p2, p3, p4, p5, p6, p7, p8, p9, p10, p12, fun _ => rfl, fun h => Bool.noConfusion (show true = false from h), c1, c2, pa11, bv11⟩
      · rintro L T u hl ⟨a6, c6, bA, hb, p0, p1, p2, p3, p4, p5, p6, p7, p8, p9, p10, p12, p13, q3, c1, c2, pa11, bv11⟩
        simp only [fr, Act.put, List.setIfInBounds_toArray, List.set_cons_zero, List.set_cons_succ]
        have h3 := p13 (hl 13 (by decide))
        obtain ⟨hO2, hb2⟩ := c2 (hl 12 (by decide))
        clear p0 p1 p2 p3 p4 p5 p6 p7 p8 p9 p10 p12 p13 q3 c1 c2 pa11 bv11 HX HQ HR HD1 HD2 HOw HBw HLt
        rw [h3]
        clear h3
        go_wp2
        go_roundw
        case rel => exact ⟨k + 1, c6, a6, bs ++ [G1, G2], by rw [show 1 + 2 * (k + 1) = 1 + 2 * k + 2 by omega], by go_num, HJ.out, by simp; omega, by rw [show 1 + 2 * (k + 1) = 1 + 2 * k + 2 by omega]; exact hO2, HT2, hb2⟩
        case measure => have := HJ.out; simp [intOf]; omega
    · obtain rfl : k = s.size := by omega
      have hnl : ¬ ((s.size : Int) < (s.size : Int)) := by omega
      have hcv := HF.out bs a (1 + 2 * s.size) c wo (by rw [hT.out, List.take_of_length_le (show s.data.toList.length ≤ s.size from Nat.le_refl _)]) hbl (by omega) (own_isRow u8_len hO hbl).1
      clear hT HF
      go_wp2
      go_ret
      exact ⟨rfl, hb0⟩
end Go.Proofs.YtlaagfnoepcnlaaDoor.Ln
/- Words in a row of the call's own; lines.appendNumbers. -/
namespace Go.Proofs.YtlaagfnoepcnlaaDoor.Ln
open Go.ChangeShapes Go.WideShapes Go.ChangeAt Go.RowKit
open Go.Proofs.YtlaagfnoepcnlaaDoor.St (BoxN boxn_new own_below IsRow Elem flat flat_append own_isRow)
set_option linter.unusedVariables false

def stC (s : ByteArray) : List Value := [.string s]
theorem st_len (x : ByteArray) : (stC x).length = 1 := rfl
theorem st_one (y : ByteArray) : ∀ u ∈ stC y, u.oneCell' = true := by
  intro u hu
  simp only [stC, List.mem_cons, List.not_mem_nil, or_false] at hu
  rcases hu with rfl
  rfl
theorem stInfo : (Tryd.prog.info? 9).map (fun i => (i.zero, i.size, i.bytes)) = some (some (.string ⟨#[]⟩), 1, 16) := by kernel_rfl
theorem stElem : ∃ i, Elem 1 stC 9 45 i (.string ⟨#[]⟩) 16 := by
  obtain ⟨j0, hj, lj0, lj1, lj2⟩ := info_parts stInfo
  exact ⟨j0, st_len, by decide, st_one, Tryd.underlying45, hj, lj0, lj1, lj2, rfl⟩
theorem flat_st : ∀ (vs : List ByteArray), (flat stC vs).length = vs.length
  | [] => rfl
  | x :: r => by
    have := flat_st r
    simp only [flat, List.flatMap_cons, List.length_append, List.length_cons] at *
    rw [this]
    simp [stC, Nat.add_comm]
theorem row_new (X : World) (t : TypeId) (vs : List ByteArray) (cs : Array Value) (n : Nat) (hn : vs.length = n) (hc : cs.toList = flat stC vs) (hm : n ≤ maxLen) (h0 : 0 < n) : (X.alloc (.cells cs t)).ownsRow X.heap.size t 1 (.slice (some ⟨X.heap.size, 0, none⟩) n n) n (flat stC vs) := by
  have hl : (flat stC vs).length = n := by rw [← hn]; exact flat_st vs
  have hs : cs.size = n := by rw [← Array.length_toList, hc, hl]
  refine ⟨by rw [hl]; omega, Or.inr ⟨X.heap.size, n, cs, rfl, Nat.le_refl _, heap_alloc_new X _, Nat.le_refl _, hm, by omega, ?_⟩⟩
  rw [Nat.mul_one, ← hc, List.take_of_length_le (by simp [hs])]
theorem ownB {w : World} {B C : Nat} {te : TypeId} {k : Nat} {v : Value} {n : Nat} {xs : List Value} (h : w.ownsRow C te k v n xs) (hB : B ≤ C) : w.ownsRow B te k v n xs := by
  obtain ⟨h1, h2⟩ := h
  refine ⟨h1, ?_⟩
  rcases h2 with h2 | ⟨g, cap, cur, e, hb, r⟩
  · exact .inl h2
  · exact .inr ⟨g, cap, cur, e, Nat.le_trans hB hb, r⟩
theorem words1 (X : World) (a : ByteArray) (q : Nat) (hq : q = X.heap.size) : IsRow 1 stC (X.alloc (.cells #[.string a] 9)) (some ⟨q, 0, none⟩) 1 1 [a] := hq ▸ (own_isRow st_len (row_new X 9 [a] #[.string a] 1 rfl rfl (by unfold maxLen; omega) (by decide)) rfl).1
/-- What a call does to memory that appends to a row v of its caller's: v' is the row behind it. -/
structure Gr (w w' : World) (v v' : Value) : Prop where
  size : w.heap.size ≤ w'.heap.size
  bel : ∀ B, B ≤ w.heap.size → (∀ g, v.ownBlock = some g → B ≤ g) → Below B w w'
  keep : ∀ b, b < w.heap.size → v.ownBlock ≠ some b → w'.heap[b]? = w.heap[b]?
  own : v'.ownBlock = v.ownBlock ∨ ∃ g, v'.ownBlock = some g ∧ w.heap.size ≤ g
theorem Gr.refl (w : World) (v : Value) : Gr w w v v := ⟨Nat.le_refl _, fun _ _ _ => Below.refl _ _, fun _ _ _ => rfl, Or.inl rfl⟩
theorem Gr.below {w w' : World} {v : Value} (h : Below w.heap.size w w') : Gr w w' v v := ⟨h.size, fun B hB _ => h.mono hB, fun b hb _ => h.block b hb, Or.inl rfl⟩
theorem Gr.grown {w w' : World} {v v' : Value} (h : w.grownBy w' v.ownBlock) (ho : v'.ownBlock = v.ownBlock ∨ v'.ownBlock = some w.heap.size) : Gr w w' v v' :=
  ⟨h.size, fun B hB hg => (Below.refl B w).grown h hB hg, fun b hb hne => h.block b hb (fun e => hne e.symm), ho.elim Or.inl (fun e => Or.inr ⟨_, e, Nat.le_refl _⟩)⟩
theorem Gr.trans {w u z : World} {v1 v2 v3 : Value} (h : Gr w u v1 v2) (k : Gr u z v2 v3) : Gr w z v1 v3 := by
  refine ⟨Nat.le_trans h.size k.size, fun B hB hg => (h.bel B hB hg).trans (k.bel B (Nat.le_trans hB h.size) (fun g e => ?_)), fun b hb hne => (k.keep b (Nat.lt_of_lt_of_le hb h.size) (fun e => ?_)).trans (h.keep b hb hne), ?_⟩
  · rcases h.own with e2 | ⟨g2, e2, h2⟩
    · exact hg g (e2 ▸ e)
    · rw [e2] at e
      cases e
      omega
  · rcases h.own with e2 | ⟨g2, e2, h2⟩
    · exact hne (e2 ▸ e)
    · rw [e2] at e
      cases e
      omega
  · rcases k.own with e2 | ⟨g2, e2, h2⟩
    · rcases h.own with e3 | ⟨g3, e3, h3⟩
      · exact Or.inl (e2.trans e3)
      · exact Or.inr ⟨g3, e2.trans e3, h3⟩
    · exact Or.inr ⟨g2, e2, Nat.le_trans h.size h2⟩
theorem Gr.cell {w w' : World} {v v' : Value} (h : Gr w w' v v') {p : Addr} (hp : p.block < w.heap.size) (hne : v.ownBlock ≠ some p.block) : w'.cell? p = w.cell? p := World.cell?_of_block (h.keep p.block hp hne)
def wNum (n : Int) : ByteArray := ⟨(Lib.itoa n).toArray⟩
def numsW : List Bool → List Int → List ByteArray
  | h :: hs, p :: ps => (if h then [wNum p] else []) ++ numsW hs ps
  | _, _ => []
theorem numsW_at {hs : List Bool} {ps : List Int} {k : Nat} (h1 : k < hs.length) (h2 : k < ps.length) : numsW (hs.drop k) (ps.drop k) = (if hs.getD k false then [wNum (ps.getD k 0)] else []) ++ numsW (hs.drop (k + 1)) (ps.drop (k + 1)) := by
  rw [List.drop_eq_getElem_cons h1, List.drop_eq_getElem_cons h2, numsW]
  simp [List.getD, h1, h2]
theorem numsW_end {hs : List Bool} {ps : List Int} {k : Nat} (h2 : ps.length ≤ k) : numsW (hs.drop k) (ps.drop k) = [] := by
  rw [List.drop_of_length_le h2]
  cases hs.drop k <;> rfl
def i64n (n : Int) : Prop := -9223372036854775808 ≤ n ∧ n ≤ 9223372036854775807
theorem itoa_gr {n : Int} (hn : i64n n) (U : World) (hT : Lib.TabIs Tryd.prog U "internal/strconv.uint64pow10" .u64 Lib.pow10Tab) : Calls Tryd.prog 46 #[.int .i64 n] U fun e w' => e = .returned (.string (wNum n)) ∧ Below U.heap.size U w' := by
  refine (Tryd.strconv_Itoa n hn.1 hn.2 U hT).mono ?_
  rintro e w' ⟨rfl, kk, os, rfl⟩
  refine ⟨rfl, ⟨rfl, rfl, rfl, by simp [Go.Sort.grow, World.drewN], fun j hj => ?_⟩⟩
  simp only [Go.Sort.grow, World.drewN]
  rw [Array.getElem?_append_left hj]
/-- Words of the call's own, with so many more. -/
def WordsTo (B : Nat) (w w' : World) (e : Ending) (v : Value) (ws : List ByteArray) : Prop := ∃ a c, e = .returned (.slice a ws.length c) ∧ w'.ownsRow B 9 1 (.slice a ws.length c) ws.length (flat stC ws) ∧ Gr w w' v (.slice a ws.length c)
set_option maxRecDepth 100000 in
set_option maxHeartbeats 4000000 in
theorem appendNumbers_any (B : Nat) (a : Option Addr) (c : Nat) (ws : List ByteArray) (bh oh hn hc bp op pn pc : Nat) (hs : List Bool) (ps : List Int) (w : World) (hB : B ≤ w.heap.size)
    (hO : w.ownsRow B 9 1 (.slice a ws.length c) ws.length (flat stC ws)) (hw : ws.length ≤ 1000) (hp7 : pn ≤ 7) (hph : pn ≤ hn) (h1 : hs.length = hn) (h2 : ps.length = pn) (hi : ∀ i, i < pn → i64n (ps.getD i 0))
    (zh : bh < w.heap.size) (zp : bp < w.heap.size) (ah : (Value.slice a ws.length c).ownBlock ≠ some bh) (ap : (Value.slice a ws.length c).ownBlock ≠ some bp)
    (ch : ∀ i, i < hn → w.cell? ⟨bh, oh + i, none⟩ = some (.bool (hs.getD i false))) (cp : ∀ i, i < pn → w.cell? ⟨bp, op + i, none⟩ = some (.int .i64 (ps.getD i 0)))
    (hT : ∀ U, Below B w U → Lib.TabIs Tryd.prog U "internal/strconv.uint64pow10" .u64 Lib.pow10Tab) :
    Calls Tryd.prog 45 #[.slice a ws.length c, .slice (some ⟨bh, oh, none⟩) hn hc, .slice (some ⟨bp, op, none⟩) pn pc] w fun e w' => WordsTo B w w' e (.slice a ws.length c) (ws ++ numsW hs ps) := by
  obtain ⟨iE, ES⟩ := stElem
  obtain ⟨R, eR⟩ : ∃ R, R = ws ++ numsW hs ps := ⟨_, rfl⟩
  have HR0 : Hid (R = ws ++ numsW (hs.drop 0) (ps.drop 0)) := eR
  obtain ⟨v0, ev0⟩ : ∃ v, v = Value.slice a ws.length c := ⟨_, rfl⟩
  have HG : Hid (∀ U v, Gr w U v0 v → (∀ i, i < hn → U.cell? ⟨bh, oh + i, none⟩ = some (.bool (hs.getD i false))) ∧ (∀ i, i < pn → U.cell? ⟨bp, op + i, none⟩ = some (.int .i64 (ps.getD i 0))) ∧ bh < U.heap.size ∧ bp < U.heap.size ∧ Below B w U ∧ B ≤ U.heap.size) := fun U v hU => by
    have hb := hU.bel B hB (fun g e => (hO.lt g (by rw [← ev0]; exact e)).1)
    exact ⟨fun i hi => (hU.cell zh (by rw [ev0]; exact ah)).trans (ch i hi), fun i hi => (hU.cell zp (by rw [ev0]; exact ap)).trans (cp i hi), Nat.lt_of_lt_of_le zh hU.size, Nat.lt_of_lt_of_le zp hU.size, hb, Nat.le_trans hB hU.size⟩
  have HIt : Hid (∀ U v i, Gr w U v0 v → i < pn → Calls Tryd.prog 46 #[.int .i64 (ps.getD i 0)] U fun e w' => e = .returned (.string (wNum (ps.getD i 0))) ∧ Below U.heap.size U w') := fun U v i hU hlt => itoa_gr (hi i hlt) U (hT U (HG.out U v hU).2.2.2.2.1)
  have HOwn : Hid (∀ U v, Gr w U v0 v → U.heap.size ≥ w.heap.size) := fun U v h => h.size
  rw [← eR]
  have g0 : Gr w w v0 (.slice a ws.length c) := ev0 ▸ Gr.refl w _
  rw [← ev0]
  have EV : Hid (v0 = Value.slice a ws.length c) := ev0
  clear eR ev0 hT ch cp ah ap zh zp hi
  go_enter Tryd.func45, Tryd.ntmps45
  go_wp2
  go_loopw [0, 11] (fun s0 s11 wr => ∃ (k : Nat) (a : Option Addr) (c : Nat) (us : List ByteArray), s0 = .slice a us.length c ∧ s11 = .int .i64 (k : Int) ∧ k ≤ pn ∧ us.length ≤ 1000 + k ∧ wr.ownsRow B 9 1 (.slice a us.length c) us.length (flat stC us) ∧ Gr w wr v0 (.slice a us.length c) ∧ Hid (R = us ++ numsW (hs.drop k) (ps.drop k))) (fun _ s11 _ => pn - (intOf s11).toNat)
  case atStart => exact ⟨0, a, c, ws, EV.out, rfl, by omega, by omega, hO, g0, HR0⟩
  case round =>
    clear hO g0 HR0 hw EV
    obtain ⟨k, a, c, us, rfl, rfl, hk, hul, hO, hG, hT⟩ := hrel
    obtain ⟨wo, ewo⟩ : ∃ X : World, X = wr := ⟨_, rfl⟩
    subst ewo
    by_cases hlt : k < pn
    · have hlt' : (k : Int) < (pn : Int) := by omega
      have hlh : (k : Int) < (hn : Int) := by omega
      have HJ : Hid (k + 1 ≤ pn) := hlt
      obtain ⟨ch, cp, zh, zp, hbB, hBo⟩ := HG.out wo _ hG
      have c1 := ch k (by omega)
      have c2 := cp k hlt
      have hT2 : Hid (R = us ++ ((if hs.getD k false then [wNum (ps.getD k 0)] else []) ++ numsW (hs.drop (k + 1)) (ps.drop (k + 1)))) := by show _ = _; rw [← numsW_at (by omega) (by omega)]; exact hT.out
      have hIt := HIt.out wo _ k hG hlt
      obtain ⟨HB, eHB⟩ : ∃ x, x = hs.getD k false := ⟨_, rfl⟩
      obtain ⟨P, eP⟩ : ∃ x, x = ps.getD k 0 := ⟨_, rfl⟩
      rw [← eHB] at c1 hT2
      rw [← eP] at c2 hT2 hIt
      clear eHB eP hT ch cp
      cases HB with
      | false =>
        have hT3 : Hid (R = us ++ numsW (hs.drop (k + 1)) (ps.drop (k + 1))) := hT2
        clear hT2 hIt
        go_wp2
        go_roundw
        case rel => exact ⟨k + 1, a, c, us, rfl, by go_num, HJ.out, by omega, hO, hG, hT3⟩
        case measure => have := HJ.out; simp [intOf]; omega
      | true =>
        have hT3 : Hid (R = (us ++ [wNum P]) ++ numsW (hs.drop (k + 1)) (ps.drop (k + 1))) := by show _ = _; rw [List.append_assoc]; exact hT2.out
        have HF : Hid (∀ (u1 w5 : World) (a5 : Option Addr) (c5 : Nat), Below wo.heap.size wo u1 → (u1.alloc (.cells #[.string (wNum P)] 9)).grownBy w5 (Value.slice a us.length c).ownBlock → ((Value.slice a5 (us.length + 1) c5).ownBlock = (Value.slice a us.length c).ownBlock ∨ (Value.slice a5 (us.length + 1) c5).ownBlock = some (u1.alloc (.cells #[.string (wNum P)] 9)).heap.size) → Gr w w5 v0 (.slice a5 (us.length + 1) c5)) := fun u1 w5 a5 c5 h8 h9 h10 =>
          (hG.trans ((Gr.below h8).trans (Gr.below ((Below.refl _ _).alloc (Nat.le_refl _) _)))).trans (Gr.grown h9 h10)
        clear hT2
        obtain ⟨W1, eW1⟩ : ∃ x, x = wNum P := ⟨_, rfl⟩
        rw [← eW1] at hIt hT3 HF
        clear eW1 HG HIt HOwn
        go_upto_region 5 with (fail)
        go_wp2_with (first | (go_at_call 46; refine hIt.mono ?_; rintro e u1 ⟨rfl, bu1⟩) | (at_builtin; go_loud (refine St.wpList_append_row ES (by rfl) _ _ (by rfl) B (.slice a us.length c) us.length us (by rfl) (own_below (own_below hO bu1) ((Below.refl _ _).alloc (Nat.le_refl _) _)) _ 1 1 [W1] (by rfl) (words1 u1 W1 _ rfl) (by unfold maxLen; omega) (by omega) (by have := bu1.size; simp; omega) ?_; intro a5 c5 w5 own5 gr5 at5; have hG5 := HF.out u1 w5 a5 c5 bu1 gr5 at5)))
        go_roundw
        case rel => exact ⟨k + 1, a5, c5, us ++ [W1], by rw [List.length_append]; rfl, by go_num, HJ.out, by rw [List.length_append, List.length_singleton]; omega, by rw [List.length_append]; exact own5, by rw [List.length_append]; exact hG5, hT3⟩
        case measure => have := HJ.out; simp [intOf]; omega
    · obtain rfl : k = pn := by omega
      have hnl : ¬ ((k : Int) < (k : Int)) := by omega
      have HE : Hid (R = us) := by show _ = _; rw [hT.out, numsW_end (by omega), List.append_nil]
      clear hT HG HIt HOwn
      go_wp2
      go_ret
      rw [HE.out]
      exact ⟨a, c, rfl, hO, hG⟩
end Go.Proofs.YtlaagfnoepcnlaaDoor.Ln
