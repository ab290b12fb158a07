/- Texts of this claim, one behind the other. -/
import Derived.Test.YtlaagfnoepcnlaaDoorM22LinesShows
import Derived.Test.YtlaagfnoepcnlaaDoorM16LinesShows
/- The document's actLine: acts of the kind type. -/
namespace Go.Proofs.YtlaagfnoepcnlaaDoor.Ln
open Go.ChangeShapes Go.WideShapes Go.ChangeAt Go.RowKit
open Go.Proofs.YtlaagfnoepcnlaaDoor.St (BoxN boxn_new own_below IsRow Elem flat flat_append own_isRow)
open Go.Proofs.YtlaagfnoepcnlaaDoor.Cn (ObAt)
open Go.Proofs.YtlaagfnoepcnlaaDoor.Dc (decS dec_ref decS_size)
set_option linter.unusedVariables false

set_option maxRecDepth 100000 in
set_option maxHeartbeats 8000000 in
theorem typeLine_any (site : Nat) (to1 : Int) (label : Nat) (pick : Int) (ka : Option Addr) (kl kc : Nat) (c0 c1 c2 c3 c4 : Int) (line : ByteArray) (w : World) (hs : site ≤ 1048576) (hla : label ≤ 1048576) (hln : line.size ≤ 1000000) :
    Calls Tryd.prog 27 #[.agg #[.int .i64 8, .int .i64 (site : Int), .int .i64 to1, .int .i64 (label : Int), .int .i64 pick, .slice ka kl kc, .int .i64 c0, .int .i64 c1, .int .i64 c2, .int .i64 c3, .int .i64 c4, .string line]] w fun e w' => e = .returned (.string (aWord 8 ++ blankS [(site : Int), (label : Int)] ++ ⟨#[32]⟩ ++ txtW line ++ ⟨#[10]⟩)) ∧ Below w.heap.size w w' := by
  obtain ⟨iE, EU⟩ := u8Elem
  obtain ⟨W, hW⟩ : ∃ W : World, W = w.alloc (.cells #[.int .i64 8, .int .i64 (site : Int), .int .i64 to1, .int .i64 (label : Int), .int .i64 pick, .slice ka kl kc, .int .i64 c0, .int .i64 c1, .int .i64 c2, .int .i64 c3, .int .i64 c4, .string line] 41) := ⟨_, rfl⟩
  have bW : Below w.heap.size w W := by rw [hW]; exact (Below.refl _ _).alloc (Nat.le_refl _) _
  have oA : ObAt W w.heap.size #[.int .i64 8, .int .i64 (site : Int), .int .i64 to1, .int .i64 (label : Int), .int .i64 pick, .slice ka kl kc, .int .i64 c0, .int .i64 c1, .int .i64 c2, .int .i64 c3, .int .i64 c4, .string line] 41 := by rw [hW]; exact ObAt.new w _ _
  have KX : Hid (∀ U, Below W.heap.size W U → U.cell? ⟨w.heap.size, 0, none⟩ = some (.int .i64 8) ∧ U.cell? ⟨w.heap.size, 1, none⟩ = some (.int .i64 (site : Int)) ∧ U.cell? ⟨w.heap.size, 2, none⟩ = some (.int .i64 to1) ∧ U.cell? ⟨w.heap.size, 3, none⟩ = some (.int .i64 (label : Int)) ∧ U.cell? ⟨w.heap.size, 4, none⟩ = some (.int .i64 pick) ∧ U.cell? ⟨w.heap.size, 5, none⟩ = some (.slice ka kl kc) ∧ U.cell? ⟨w.heap.size, 6, none⟩ = some (.int .i64 c0) ∧ U.cell? ⟨w.heap.size, 7, none⟩ = some (.int .i64 c1) ∧ U.cell? ⟨w.heap.size, 8, none⟩ = some (.int .i64 c2) ∧ U.cell? ⟨w.heap.size, 9, none⟩ = some (.int .i64 c3) ∧ U.cell? ⟨w.heap.size, 10, none⟩ = some (.int .i64 c4) ∧ U.cell? ⟨w.heap.size, 11, none⟩ = some (.string line) ∧ w.heap.size < U.heap.size) := fun U hU => ⟨(oA.below hU).cell 0, (oA.below hU).cell 1, (oA.below hU).cell 2, (oA.below hU).cell 3, (oA.below hU).cell 4, (oA.below hU).cell 5, (oA.below hU).cell 6, (oA.below hU).cell 7, (oA.below hU).cell 8, (oA.below hU).cell 9, (oA.below hU).cell 10, (oA.below hU).cell 11, (oA.below hU).lt⟩
  have hAw : Hid (∀ U, Calls Tryd.prog 52 #[] U fun e w' => ∃ b, e = .returned (.slice (some ⟨b, 0, none⟩) 9 9) ∧ (b < w'.heap.size ∧ w'.cell? ⟨b, 8, none⟩ = some (.string (aWord 8))) ∧ Below U.heap.size U w') := fun U => (awRef_any U).mono fun e w' ⟨b, h1, h2, h3⟩ => ⟨b, h1, ⟨h2.1, h2.2 8 (by omega)⟩, h3⟩
  have hsz := aWord_sz 8
  obtain ⟨S0, eS0⟩ : ∃ x, x = aWord 8 := ⟨_, rfl⟩
  rw [← eS0] at hAw hsz ⊢
  clear eS0 oA
  have HBl : Hid (∀ U b, BoxN U b 2 [.int .i64 (site : Int), .int .i64 (label : Int)] → Calls Tryd.prog 53 #[.slice (some ⟨b, 0, none⟩) 2 2] U fun e w' => e = .returned (.string (blankS [(site : Int), (label : Int)])) ∧ Below U.heap.size U w') := fun U b bx => blanked_any (some ⟨b, 0, none⟩) 2 2 [(site : Int), (label : Int)] U (by omega) rfl (fun z hz => by simp at hz; omega) (fun _ => ⟨_, 0, rfl, bx.lt, fun i hi => by
      rw [Nat.zero_add, (bx.c i (by omega)).1]
      rcases (by omega : i = 0 ∨ i = 1) with rfl | rfl <;> rfl⟩)
  have hbs : (blankS [(site : Int), (label : Int)]).size ≤ 44 := by
    show (blankL [(site : Int), (label : Int)]).toArray.size ≤ 44
    rw [List.size_toArray]
    exact blankL_bd [(site : Int), (label : Int)] (fun z hz => by simp at hz; omega)
  have htx : (txtW line).size ≤ 2000001 := by
    show (txtL line.data.toList).toArray.size ≤ 2000001
    rw [List.size_toArray, txtL, List.length_cons, hexes_len]
    have e : line.data.toList.length = line.size := rfl
    omega
  have HCV : Hid (∀ (bs : List UInt8) (a : Option Addr) (n c : Nat) (U : World), bs = txtL line.data.toList → bs.length = n → 0 < n → IsRow 1 u8C U a n c bs → (convert 52 9 (.slice a n c)).run Tryd.prog U = .ok (.string (txtW line)) U) := fun bs a n c U hb hn h0 hr => by
    obtain ⟨_, _, _, _, h5⟩ := hr
    obtain ⟨b, off, rfl, _, hc⟩ := h5 h0
    subst hn
    have := run_convert_bytes_back (P := Tryd.prog) U 52 9 5 ⟨b, off, none⟩ c bs Tryd.underlying52 Tryd.underlying5 Tryd.underlying9 (fun j hj => by
      have h8 := hc j hj 0 (by decide)
      rw [Nat.mul_one, Nat.add_zero] at h8
      have e1 : ((⟨b, off, none⟩ : Addr).add j) = ⟨b, off + j, none⟩ := by unfold Addr.add; by_cases h : j = 0 <;> simp [h]
      rw [e1, h8]
      simp [u8C, List.getD, hj])
    rw [this, hb]
    rfl
  obtain ⟨BS, eBS⟩ : ∃ x, x = blankS [(site : Int), (label : Int)] := ⟨_, rfl⟩
  rw [← eBS] at HBl hbs ⊢
  obtain ⟨TX, eTX⟩ : ∃ x, x = txtW line := ⟨_, rfl⟩
  rw [← eTX] at htx HCV ⊢
  obtain ⟨T1, t1⟩ : ∃ x : ByteArray, S0 ++ BS = x := ⟨_, rfl⟩
  have s1 : T1.size = S0.size + BS.size := by rw [← t1, ByteArray.size_append]
  rw [t1]
  obtain ⟨T2, t2⟩ : ∃ x : ByteArray, T1 ++ ⟨#[32]⟩ = x := ⟨_, rfl⟩
  have s2 : T2.size = T1.size + 1 := by rw [← t2, ByteArray.size_append]; rfl
  rw [t2]
  obtain ⟨T3, t3⟩ : ∃ x : ByteArray, T2 ++ TX = x := ⟨_, rfl⟩
  have s3 : T3.size = T2.size + TX.size := by rw [← t3, ByteArray.size_append]
  rw [t3]
  have HZ1 : Hid (S0 ++ BS = T1 ∧ ¬ (9223372036854775807 < S0.size + BS.size)) := ⟨t1, by omega⟩
  have HZ2 : Hid (T1 ++ ⟨#[32]⟩ = T2 ∧ ¬ (9223372036854775807 < T1.size + 1)) := ⟨t2, by omega⟩
  have HZ3 : Hid (T2 ++ TX = T3 ∧ ¬ (9223372036854775807 < T2.size + TX.size)) := ⟨t3, by omega⟩
  have z4 : ¬ (9223372036854775807 < T3.size + 1) := by omega
  clear eBS eTX hsz hbs htx s1 s2 s3 t1 t2 t3
  have HWB : Hid (∀ U, Below W.heap.size W U → Below w.heap.size w U) := fun U hU => bW.trans (hU.mono bW.size)
  go_enter Tryd.func27, Tryd.ntmps27
  go_upto_region 1 with (fail)
  rw [← hW]
  clear hW
  refine wp_region_inv (by kernel_rfl) [7, 8, 9, 10, 11, 3] (fun L T u => ∃ (bL : Nat), Below W.heap.size W u ∧ (L 0 = true → T 7 = .slice (some ⟨bL, 0, none⟩) 9 9) ∧ (L 1 = true → T 8 = .pointer (some ⟨w.heap.size, 0, none⟩)) ∧ (L 2 = true → T 9 = .int .i64 8) ∧ (L 3 = true → T 10 = .pointer (some ⟨bL, 8, none⟩)) ∧ (L 4 = true → T 11 = .string S0) ∧ (L 5 = true → T 3 = .string S0) ∧ (L 0 = true → (bL < u.heap.size ∧ u.cell? ⟨bL, 8, none⟩ = some (.string S0)))) (by decide) (by kernel_rfl) (by kernel_rfl) ?_ ?_ ?_
  · exact ⟨0, (Below.refl _ _).drew, nofun, nofun, nofun, nofun, nofun, nofun, nofun⟩
  · refine ⟨?_, ?_, ?_, ?_, ?_, ?_, trivial⟩
    · rintro L T u hd hk hcl ⟨bL, hb, p0, p1, p2, p3, p4, p5, wt⟩ K hK
      simp only [fr, Act.put, List.setIfInBounds_toArray, List.set_cons_zero, List.set_cons_succ, updO] at hK ⊢
      simp [Region.binds] at hd
      have k3 := hcl 3 _ rfl
      simp [Region.binds] at k3
      have k4 := hcl 4 _ rfl
      simp [Region.binds] at k4
      have k5 := hcl 5 _ rfl
      simp [Region.binds] at k5
      rw [if_pos (by rfl)]
      simp only [Oper.wpv]
      go_simp
      refine (hAw.out u).mono ?_
      rintro e u1 ⟨b8, rfl, h8, hg⟩
      exact hK _ _ ⟨b8, sT hb hg, fun _ => rfl, p1, p2, fun h => absurd (show L 3 = true from h) (by intro hh; have a3 := k3 hh; simp [hk] at a3), fun h => absurd (show L 4 = true from h) (by intro hh; have a4 := k4 hh; have a3 := k3 (by simp [a4]); simp [hk] at a3), fun h => absurd (show L 5 = true from h) (by intro hh; have a5 := k5 hh; have a4 := k4 (by simp [a5]); have a3 := k3 (by simp [a4]); simp [hk] at a3), fun _ => h8⟩
    · rintro L T u hd hk hcl ⟨bL, hb, p0, p1, p2, p3, p4, p5, wt⟩ K hK
      simp only [fr, Act.put, List.setIfInBounds_toArray, List.set_cons_zero, List.set_cons_succ, updO] at hK ⊢
      simp [Region.binds] at hd
      rw [if_pos (by rfl)]
      simp only [Oper.wpv]
      go_simp
      exact hK _ _ ⟨bL, hb, p0, fun _ => rfl, p2, p3, p4, p5, wt⟩
    · rintro L T u hd hk hcl ⟨bL, hb, p0, p1, p2, p3, p4, p5, wt⟩ K hK
      simp only [fr, Act.put, List.setIfInBounds_toArray, List.set_cons_zero, List.set_cons_succ, updO] at hK ⊢
      simp [Region.binds] at hd
      have g1 := p1 (by simp [hd])
      obtain ⟨x0, x1, x2, x3, x4, x5, x6, x7, x8, x9, x10, x11, zx⟩ := KX.out u hb
      rw [if_pos (by rfl)]
      simp only [Oper.wpv]
      go_simp
      exact hK _ _ ⟨bL, hb, p0, p1, fun _ => rfl, p3, p4, p5, wt⟩
    · rintro L T u hd hk hcl ⟨bL, hb, p0, p1, p2, p3, p4, p5, wt⟩ K hK
      simp only [fr, Act.put, List.setIfInBounds_toArray, List.set_cons_zero, List.set_cons_succ, updO] at hK ⊢
      simp [Region.binds] at hd
      have g0 := p0 (by simp [hd])
      have g2 := p2 (by simp [hd])
      rw [if_pos (by rfl)]
      simp only [Oper.wpv]
      go_simp
      exact hK _ _ ⟨bL, hb, p0, p1, p2, fun _ => rfl, p4, p5, wt⟩
    · rintro L T u hd hk hcl ⟨bL, hb, p0, p1, p2, p3, p4, p5, wt⟩ K hK
      simp only [fr, Act.put, List.setIfInBounds_toArray, List.set_cons_zero, List.set_cons_succ, updO] at hK ⊢
      simp [Region.binds] at hd
      have g3 := p3 (by simp [hd])
      have k3 := hcl 3 _ rfl
      simp [Region.binds] at k3
      have a3 : L 3 = true := by simp [hd]
      have a0 : L 0 = true := by simp [k3 a3]
      obtain ⟨w1, w2⟩ := wt a0
      obtain ⟨x0, x1, x2, x3, x4, x5, x6, x7, x8, x9, x10, x11, zx⟩ := KX.out u hb
      rw [if_pos (by rfl)]
      simp only [Oper.wpv]
      go_simp
      exact hK _ _ ⟨bL, hb, p0, p1, p2, p3, fun _ => rfl, p5, wt⟩
    · rintro L T u hd hk hcl ⟨bL, hb, p0, p1, p2, p3, p4, p5, wt⟩ K hK
      simp only [fr, Act.put, List.setIfInBounds_toArray, List.set_cons_zero, List.set_cons_succ, updO] at hK ⊢
      simp [Region.binds] at hd
      have g4 := p4 (by simp [hd])
      rw [if_pos (by rfl)]
      simp only [Oper.wpv]
      go_simp
      exact hK _ _ ⟨bL, hb, p0, p1, p2, p3, p4, fun _ => rfl, wt⟩
  · rintro L T u hl ⟨bL, hb, p0, p1, p2, p3, p4, p5, wt⟩
    simp only [fr, Act.put, List.setIfInBounds_toArray, List.set_cons_zero, List.set_cons_succ]
    have h3 := p5 (hl 5 (by decide))
    clear p0 p1 p2 p3 p4 p5 wt hAw
    rw [h3]
    clear h3
    have bwu : Below w.heap.size w u := bW.trans (hb.mono bW.size)
    clear bW
    obtain ⟨x0, x1, x2, x3, x4, x5, x6, x7, x8, x9, x10, x11, zx⟩ := KX.out u hb
    obtain ⟨v0, ev0⟩ : ∃ X : World, X = u := ⟨_, rfl⟩
    subst ev0
    have hb0 := hb
    clear hb
    obtain ⟨V, eV⟩ : ∃ V : World, V = v0.alloc (.cells #[.int .u8 46] 5) := ⟨_, rfl⟩
    have bV : Below v0.heap.size v0 V := by rw [eV]; exact (Below.refl _ _).alloc (Nat.le_refl _) _
    have oV : V.ownsRow W.heap.size 5 1 (.slice (some ⟨v0.heap.size, 0, none⟩) 1 1) 1 (flat u8C [46]) := by rw [eV]; exact ownB8 (u8_new v0 [46] #[.int .u8 46] 1 rfl rfl (by unfold maxLen; omega) (by decide)) hb0.size
    have hbV : Below W.heap.size W V := hb0.trans (bV.mono hb0.size)
    have HT0 : Hid ([46] = txtL (line.data.toList.take 0)) := by show _ = _; rfl
    go_upto_region 22 with (fail)
    rw [← eV]
    clear eV x0 x1 x2 x3 x4 x5 x6 x7 x8 x9 x10 x11 zx
    have HW : Hid (∀ U, Below W.heap.size W U → Below w.heap.size w U) := fun U hU => by
      have := hb0
      exact HWB.out U hU
    go_wp2
    go_loopw [5, 6] (fun s5 s6 wr => ∃ (k c : Nat) (a : Option Addr) (bs : List UInt8), s5 = .slice a (1 + 2 * k) c ∧ s6 = .int .i64 (k : Int) ∧ k ≤ line.size ∧ bs.length = 1 + 2 * k ∧ wr.ownsRow W.heap.size 5 1 (.slice a (1 + 2 * k) c) (1 + 2 * k) (flat u8C bs) ∧ Hid (bs = txtL (line.data.toList.take k)) ∧ Below W.heap.size W wr) (fun _ s6 _ => line.size - (intOf s6).toNat)
    case atStart => exact ⟨0, 1, some ⟨v0.heap.size, 0, none⟩, [46], rfl, rfl, by omega, rfl, oV, HT0, hbV⟩
    case round =>
      obtain ⟨k, c, a, bs, rfl, rfl, hk, hbl, hO, hT, hbo⟩ := hrel
      clear HT0 oV bV hbV
      obtain ⟨wo, ewo⟩ : ∃ X : World, X = wr := ⟨_, rfl⟩
      subst ewo
      obtain ⟨x0, x1, x2, x3, x4, x5, x6, x7, x8, x9, x10, x11, zx⟩ := KX.out wo hbo
      by_cases hlt : k < line.size
      · have hlt' : (k : Int) < (line.size : Int) := by omega
        have HJ : Hid (k + 1 ≤ line.size) := hlt
        obtain ⟨ch, hx, -, htk⟩ := ch_at line k hlt
        have hch : ch.toNat < 256 := ch.toNat_lt
        have HX : Hid (∀ U : World, (Instr.index 9 (.string line) (.int .i64 (k : Int))).run Tryd.prog U = .ok (.int .u8 (ch.toNat : Int)) U) := hx
        have HT2 : Hid (bs ++ [hexD (ch.toNat / 16), hexD (ch.toNat % 16)] = txtL (line.data.toList.take (k + 1))) := by show _ = _; rw [hT.out, htk, txtL, txtL, hexes_snoc]; rfl
        have HC : Hid (IntKind.i64.wrap (ch.toNat : Int) = (ch.toNat : Int)) := by show _ = _; simp [IntKind.wrap, IntKind.bits, IntKind.signed]; omega
        have HQ : Hid (IntKind.i64.wrap ((ch.toNat : Int) / 16) = ((ch.toNat / 16 : Nat) : Int)) := by
          have : (ch.toNat : Int) / 16 = ((ch.toNat / 16 : Nat) : Int) := rfl
          show _ = _
          rw [this]; simp [IntKind.wrap, IntKind.bits, IntKind.signed]; omega
        have HR : Hid ((ch.toNat : Int).tmod 16 = ((ch.toNat % 16 : Nat) : Int)) := rfl
        have HH1 : Hid (∀ U, Calls Tryd.prog 55 #[.int .i64 ((ch.toNat / 16 : Nat) : Int)] U fun e w' => e = .returned (.int .u8 ((hexD (ch.toNat / 16)).toNat : Int)) ∧ Below U.heap.size U w') := fun U => hexRef_any _ U (by omega)
        have HH2 : Hid (∀ U, Calls Tryd.prog 55 #[.int .i64 ((ch.toNat % 16 : Nat) : Int)] U fun e w' => e = .returned (.int .u8 ((hexD (ch.toNat % 16)).toNat : Int)) ∧ Below U.heap.size U w') := fun U => hexRef_any _ U (by omega)
        obtain ⟨A1, eA1⟩ : ∃ x : Nat, x = ch.toNat / 16 := ⟨_, rfl⟩
        obtain ⟨A2, eA2⟩ : ∃ x : Nat, x = ch.toNat % 16 := ⟨_, rfl⟩
        rw [← eA1] at HQ HH1 HT2
        rw [← eA2] at HR HH2 HT2
        obtain ⟨C, eC⟩ : ∃ x : Nat, x = ch.toNat := ⟨_, rfl⟩
        rw [← eC] at HX HQ HR HC
        obtain ⟨G1, eG1⟩ : ∃ x, x = hexD A1 := ⟨_, rfl⟩
        obtain ⟨G2, eG2⟩ : ∃ x, x = hexD A2 := ⟨_, rfl⟩
        rw [← eG1] at HH1 HT2
        rw [← eG2] at HH2 HT2
        have HOw : Hid (∀ U, Below wo.heap.size wo U → U.ownsRow W.heap.size 5 1 (.slice a (1 + 2 * k) c) (1 + 2 * k) (flat u8C bs)) := fun U hU => own_below hO hU
        have HBw : Hid (∀ U, Below wo.heap.size wo U → Below W.heap.size W U) := fun U hU => hbo.trans (hU.mono hbo.size)
        have HLt : Hid (∀ g, (Value.slice a (1 + 2 * k) c).ownBlock = some g → W.heap.size ≤ g) := fun g hg => (hO.lt g hg).1
        clear hx htk hch eA1 eA2 eC eG1 eG2 hT hO hbo
        go_upto_region 25 with (fail)
        clear x0 x1 x2 x3 x4 x5 x6 x7 x8 x9 x10 x11 zx
        refine wp_region_inv (by kernel_rfl) [114, 115, 116, 117, 118, 119, 120, 121, 122, 123, 124, 125, 126, 127, 128, 129, 130, 5] (fun L T u => ∃ (a6 : Option Addr) (c6 : Nat) (bA : Nat), True ∧ (L 0 = true → T 114 = .slice a (1 + 2 * k) c) ∧ (L 1 = true → T 115 = .pointer (some ⟨w.heap.size, 11, none⟩)) ∧ (L 2 = true → T 116 = .string line) ∧ (L 3 = true → T 117 = .int .i64 (k : Int)) ∧ (L 4 = true → T 118 = .int .u8 (C : Int)) ∧ (L 5 = true → T 119 = .int .i64 (C : Int)) ∧ (L 6 = true → T 120 = .int .i64 (A1 : Int)) ∧ (L 7 = true → T 121 = .int .u8 (G1.toNat : Int)) ∧ (L 8 = true → T 122 = .pointer (some ⟨w.heap.size, 11, none⟩)) ∧ (L 9 = true → T 123 = .string line) ∧ (L 10 = true → T 124 = .int .i64 (k : Int)) ∧ (L 11 = true → T 125 = .int .u8 (C : Int)) ∧ (L 12 = true → T 126 = .int .i64 (C : Int)) ∧ (L 13 = true → T 127 = .int .i64 (A2 : Int)) ∧ (L 14 = true → T 128 = .int .u8 (G2.toNat : Int)) ∧ (L 16 = true → T 130 = .slice a6 (1 + 2 * k + 2) c6) ∧ (L 17 = true → T 5 = .slice a6 (1 + 2 * k + 2) c6) ∧ (L 17 = false → T 5 = .slice a (1 + 2 * k) c) ∧ (L 16 = false → Below wo.heap.size wo u) ∧ (L 16 = true → (u.ownsRow W.heap.size 5 1 (.slice a6 (1 + 2 * k + 2) c6) (1 + 2 * k + 2) (flat u8C (bs ++ [G1, G2])) ∧ Below W.heap.size W u)) ∧ (L 15 = true → L 16 = false → (T 129 = .slice (some ⟨bA, 0, none⟩) 2 2 ∧ wo.heap.size ≤ bA ∧ bA < u.heap.size)) ∧ (L 15 = true → L 16 = false → IsRow 1 u8C u (some ⟨bA, 0, none⟩) 2 2 [G1, G2])) (by decide) (by kernel_rfl) (by kernel_rfl) ?_ ?_ ?_
        · exact ⟨none, 0, 0, trivial, nofun, nofun, nofun, nofun, nofun, nofun, nofun, nofun, nofun, nofun, nofun, nofun, nofun, nofun, nofun, nofun, nofun, fun _ => rfl, fun _ => (Below.refl _ _).drew, nofun, nofun, nofun⟩
        · refine ⟨?_, ?_, ?_, ?_, ?_, ?_, ?_, ?_, ?_, ?_, ?_, ?_, ?_, ?_, ?_, ?_, ?_, ?_, trivial⟩
          · rintro L T u hd hk hcl ⟨a6, c6, bA, hb, p0, p1, p2, p3, p4, p5, p6, p7, p8, p9, p10, p11, p12, p13, p14, p16, p17, q5, c1, c2, pa15, bv15⟩ K hK
            simp only [fr, Act.put, List.setIfInBounds_toArray, List.set_cons_zero, List.set_cons_succ, updO] at hK ⊢
            simp [Region.binds] at hd
            have k17 := hcl 17 _ rfl
            simp [Region.binds] at k17
            have k16 := hcl 16 _ rfl
            simp [Region.binds] at k16
            have hF17 : L 17 = false := by cases h : L 17 with | false => rfl | true => have a17 := k17 h; have a16 := k16 (by simp [a17]); simp [hk] at a16
            have gq5 := q5 hF17
            rw [if_pos (by rfl)]
            simp only [Oper.wpv]
            go_simp
            exact hK _ _ ⟨a6, c6, bA, hb, fun _ => rfl, p1, p2, p3, p4, p5, p6, p7, p8, p9, p10, p11, p12, p13, p14, p16, p17, q5, c1, c2, pa15, bv15⟩
          · rintro L T u hd hk hcl ⟨a6, c6, bA, hb, p0, p1, p2, p3, p4, p5, p6, p7, p8, p9, p10, p11, p12, p13, p14, p16, p17, q5, c1, c2, pa15, bv15⟩ K hK
            simp only [fr, Act.put, List.setIfInBounds_toArray, List.set_cons_zero, List.set_cons_succ, updO] at hK ⊢
            simp [Region.binds] at hd
            rw [if_pos (by rfl)]
            simp only [Oper.wpv]
            go_simp
            exact hK _ _ ⟨a6, c6, bA, hb, p0, fun _ => rfl, p2, p3, p4, p5, p6, p7, p8, p9, p10, p11, p12, p13, p14, p16, p17, q5, c1, c2, pa15, bv15⟩
          · rintro L T u hd hk hcl ⟨a6, c6, bA, hb, p0, p1, p2, p3, p4, p5, p6, p7, p8, p9, p10, p11, p12, p13, p14, p16, p17, q5, c1, c2, pa15, bv15⟩ K hK
            simp only [fr, Act.put, List.setIfInBounds_toArray, List.set_cons_zero, List.set_cons_succ, updO] at hK ⊢
            simp [Region.binds] at hd
            have g1 := p1 (by simp [hd])
            have k16 := hcl 16 _ rfl
            simp [Region.binds] at k16
            have k15 := hcl 15 _ rfl
            simp [Region.binds] at k15
            have k7 := hcl 7 _ rfl
            simp [Region.binds] at k7
            have k6 := hcl 6 _ rfl
            simp [Region.binds] at k6
            have k5 := hcl 5 _ rfl
            simp [Region.binds] at k5
            have k4 := hcl 4 _ rfl
            simp [Region.binds] at k4
            have hE : L 16 = false := by cases h : L 16 with | false => rfl | true => have a16 := k16 h; have a15 := k15 (by simp [a16]); have a7 := k7 (by simp [a15]); have a6 := k6 (by simp [a7]); have a5 := k5 (by simp [a6]); have a4 := k4 (by simp [a5]); simp [hk] at a4
            obtain ⟨x0, x1, x2, x3, x4, x5, x6, x7, x8, x9, x10, x11, zx⟩ := KX.out u (HBw.out u (c1 hE))
            rw [if_pos (by rfl)]
            simp only [Oper.wpv]
            go_simp
            exact hK _ _ ⟨a6, c6, bA, hb, p0, p1, fun _ => rfl, p3, p4, p5, p6, p7, p8, p9, p10, p11, p12, p13, p14, p16, p17, q5, c1, c2, pa15, bv15⟩
          · rintro L T u hd hk hcl ⟨a6, c6, bA, hb, p0, p1, p2, p3, p4, p5, p6, p7, p8, p9, p10, p11, p12, p13, p14, p16, p17, q5, c1, c2, pa15, bv15⟩ K hK
            simp only [fr, Act.put, List.setIfInBounds_toArray, List.set_cons_zero, List.set_cons_succ, updO] at hK ⊢
            simp [Region.binds] at hd
            rw [if_pos (by rfl)]
            simp only [Oper.wpv]
            go_simp
            exact hK _ _ ⟨a6, c6, bA, hb, p0, p1, p2, fun _ => rfl, p4, p5, p6, p7, p8, p9, p10, p11, p12, p13, p14, p16, p17, q5, c1, c2, pa15, bv15⟩
          · rintro L T u hd hk hcl ⟨a6, c6, bA, hb, p0, p1, p2, p3, p4, p5, p6, p7, p8, p9, p10, p11, p12, p13, p14, p16, p17, q5, c1, c2, pa15, bv15⟩ K hK
            simp only [fr, Act.put, List.setIfInBounds_toArray, List.set_cons_zero, List.set_cons_succ, updO] at hK ⊢
            simp [Region.binds] at hd
            have g2 := p2 (by simp [hd])
            have g3 := p3 (by simp [hd])
            have hq := HX.out u
            rw [if_pos (by rfl)]
            simp only [Oper.wpv]
            go_simp
            exact hK _ _ ⟨a6, c6, bA, hb, p0, p1, p2, p3, fun _ => rfl, p5, p6, p7, p8, p9, p10, p11, p12, p13, p14, p16, p17, q5, c1, c2, pa15, bv15⟩
          · rintro L T u hd hk hcl ⟨a6, c6, bA, hb, p0, p1, p2, p3, p4, p5, p6, p7, p8, p9, p10, p11, p12, p13, p14, p16, p17, q5, c1, c2, pa15, bv15⟩ K hK
            simp only [fr, Act.put, List.setIfInBounds_toArray, List.set_cons_zero, List.set_cons_succ, updO] at hK ⊢
            simp [Region.binds] at hd
            have g4 := p4 (by simp [hd])
            have hq := HC.out
            rw [if_pos (by rfl)]
            simp only [Oper.wpv]
            go_simp
            exact hK _ _ ⟨a6, c6, bA, hb, p0, p1, p2, p3, p4, fun _ => rfl, p6, p7, p8, p9, p10, p11, p12, p13, p14, p16, p17, q5, c1, c2, pa15, bv15⟩
          · rintro L T u hd hk hcl ⟨a6, c6, bA, hb, p0, p1, p2, p3, p4, p5, p6, p7, p8, p9, p10, p11, p12, p13, p14, p16, p17, q5, c1, c2, pa15, bv15⟩ K hK
            simp only [fr, Act.put, List.setIfInBounds_toArray, List.set_cons_zero, List.set_cons_succ, updO] at hK ⊢
            simp [Region.binds] at hd
            have g5 := p5 (by simp [hd])
            have hq := HQ.out
            rw [if_pos (by rfl)]
            simp only [Oper.wpv]
            go_simp
            exact hK _ _ ⟨a6, c6, bA, hb, p0, p1, p2, p3, p4, p5, fun _ => rfl, p7, p8, p9, p10, p11, p12, p13, p14, p16, p17, q5, c1, c2, pa15, bv15⟩
          · rintro L T u hd hk hcl ⟨a6, c6, bA, hb, p0, p1, p2, p3, p4, p5, p6, p7, p8, p9, p10, p11, p12, p13, p14, p16, p17, q5, c1, c2, pa15, bv15⟩ K hK
            simp only [fr, Act.put, List.setIfInBounds_toArray, List.set_cons_zero, List.set_cons_succ, updO] at hK ⊢
            simp [Region.binds] at hd
            have g6 := p6 (by simp [hd])
            have k16 := hcl 16 _ rfl
            simp [Region.binds] at k16
            have k15 := hcl 15 _ rfl
            simp [Region.binds] at k15
            have hE : L 16 = false := by cases h : L 16 with | false => rfl | true => have a16 := k16 h; have a15 := k15 (by simp [a16]); simp [hk] at a15
            rw [if_pos (by rfl)]
            simp only [Oper.wpv]
            go_simp
            refine (HH1.out u).mono ?_
            rintro e u1 ⟨rfl, hg⟩
            exact hK _ _ ⟨a6, c6, bA, hb, p0, p1, p2, p3, p4, p5, p6, fun _ => rfl, p8, p9, p10, p11, p12, p13, p14, p16, p17, q5, fun _ => sT (c1 hE) hg, fun h => absurd (show L 16 = true from h) (by simp [hE]), fun h0 h1 => ⟨(pa15 h0 h1).1, (pa15 h0 h1).2.1, Nat.lt_of_lt_of_le (pa15 h0 h1).2.2 hg.size⟩, fun h0 h1 => St.IsRow.below (bv15 h0 h1) hg⟩
          · rintro L T u hd hk hcl ⟨a6, c6, bA, hb, p0, p1, p2, p3, p4, p5, p6, p7, p8, p9, p10, p11, p12, p13, p14, p16, p17, q5, c1, c2, pa15, bv15⟩ K hK
            simp only [fr, Act.put, List.setIfInBounds_toArray, List.set_cons_zero, List.set_cons_succ, updO] at hK ⊢
            simp [Region.binds] at hd
            rw [if_pos (by rfl)]
            simp only [Oper.wpv]
            go_simp
            exact hK _ _ ⟨a6, c6, bA, hb, p0, p1, p2, p3, p4, p5, p6, p7, fun _ => rfl, p9, p10, p11, p12, p13, p14, p16, p17, q5, c1, c2, pa15, bv15⟩
          · rintro L T u hd hk hcl ⟨a6, c6, bA, hb, p0, p1, p2, p3, p4, p5, p6, p7, p8, p9, p10, p11, p12, p13, p14, p16, p17, q5, c1, c2, pa15, bv15⟩ K hK
            simp only [fr, Act.put, List.setIfInBounds_toArray, List.set_cons_zero, List.set_cons_succ, updO] at hK ⊢
            simp [Region.binds] at hd
            have g8 := p8 (by simp [hd])
            have k16 := hcl 16 _ rfl
            simp [Region.binds] at k16
            have k15 := hcl 15 _ rfl
            simp [Region.binds] at k15
            have k14 := hcl 14 _ rfl
            simp [Region.binds] at k14
            have k13 := hcl 13 _ rfl
            simp [Region.binds] at k13
            have k12 := hcl 12 _ rfl
            simp [Region.binds] at k12
            have k11 := hcl 11 _ rfl
            simp [Region.binds] at k11
            have hE : L 16 = false := by cases h : L 16 with | false => rfl | true => have a16 := k16 h; have a15 := k15 (by simp [a16]); have a14 := k14 (by simp [a15]); have a13 := k13 (by simp [a14]); have a12 := k12 (by simp [a13]); have a11 := k11 (by simp [a12]); simp [hk] at a11
            obtain ⟨x0, x1, x2, x3, x4, x5, x6, x7, x8, x9, x10, x11, zx⟩ := KX.out u (HBw.out u (c1 hE))
            rw [if_pos (by rfl)]
            simp only [Oper.wpv]
            go_simp
            exact hK _ _ ⟨a6, c6, bA, hb, p0, p1, p2, p3, p4, p5, p6, p7, p8, fun _ => rfl, p10, p11, p12, p13, p14, p16, p17, q5, c1, c2, pa15, bv15⟩
          · rintro L T u hd hk hcl ⟨a6, c6, bA, hb, p0, p1, p2, p3, p4, p5, p6, p7, p8, p9, p10, p11, p12, p13, p14, p16, p17, q5, c1, c2, pa15, bv15⟩ K hK
            simp only [fr, Act.put, List.setIfInBounds_toArray, List.set_cons_zero, List.set_cons_succ, updO] at hK ⊢
            simp [Region.binds] at hd
            rw [if_pos (by rfl)]
            simp only [Oper.wpv]
            go_simp
            exact hK _ _ ⟨a6, c6, bA, hb, p0, p1, p2, p3, p4, p5, p6, p7, p8, p9, fun _ => rfl, p11, p12, p13, p14, p16, p17, q5, c1, c2, pa15, bv15⟩
          · rintro L T u hd hk hcl ⟨a6, c6, bA, hb, p0, p1, p2, p3, p4, p5, p6, p7, p8, p9, p10, p11, p12, p13, p14, p16, p17, q5, c1, c2, pa15, bv15⟩ K hK
            simp only [fr, Act.put, List.setIfInBounds_toArray, List.set_cons_zero, List.set_cons_succ, updO] at hK ⊢
            simp [Region.binds] at hd
            have g9 := p9 (by simp [hd])
            have g10 := p10 (by simp [hd])
            have hq := HX.out u
            rw [if_pos (by rfl)]
            simp only [Oper.wpv]
            go_simp
            exact hK _ _ ⟨a6, c6, bA, hb, p0, p1, p2, p3, p4, p5, p6, p7, p8, p9, p10, fun _ => rfl, p12, p13, p14, p16, p17, q5, c1, c2, pa15, bv15⟩
          · rintro L T u hd hk hcl ⟨a6, c6, bA, hb, p0, p1, p2, p3, p4, p5, p6, p7, p8, p9, p10, p11, p12, p13, p14, p16, p17, q5, c1, c2, pa15, bv15⟩ K hK
            simp only [fr, Act.put, List.setIfInBounds_toArray, List.set_cons_zero, List.set_cons_succ, updO] at hK ⊢
            simp [Region.binds] at hd
            have g11 := p11 (by simp [hd])
            have hq := HC.out
            rw [if_pos (by rfl)]
            simp only [Oper.wpv]
            go_simp
            exact hK _ _ ⟨a6, c6, bA, hb, p0, p1, p2, p3, p4, p5, p6, p7, p8, p9, p10, p11, fun _ => rfl, p13, p14, p16, p17, q5, c1, c2, pa15, bv15⟩
          · rintro L T u hd hk hcl ⟨a6, c6, bA, hb, p0, p1, p2, p3, p4, p5, p6, p7, p8, p9, p10, p11, p12, p13, p14, p16, p17, q5, c1, c2, pa15, bv15⟩ K hK
            simp only [fr, Act.put, List.setIfInBounds_toArray, List.set_cons_zero, List.set_cons_succ, updO] at hK ⊢
            simp [Region.binds] at hd
            have g12 := p12 (by simp [hd])
            have hq := HR.out
            rw [if_pos (by rfl)]
            simp only [Oper.wpv]
            go_simp
            exact hK _ _ ⟨a6, c6, bA, hb, p0, p1, p2, p3, p4, p5, p6, p7, p8, p9, p10, p11, p12, fun _ => rfl, p14, p16, p17, q5, c1, c2, pa15, bv15⟩
          · rintro L T u hd hk hcl ⟨a6, c6, bA, hb, p0, p1, p2, p3, p4, p5, p6, p7, p8, p9, p10, p11, p12, p13, p14, p16, p17, q5, c1, c2, pa15, bv15⟩ K hK
            simp only [fr, Act.put, List.setIfInBounds_toArray, List.set_cons_zero, List.set_cons_succ, updO] at hK ⊢
            simp [Region.binds] at hd
            have g13 := p13 (by simp [hd])
            have k16 := hcl 16 _ rfl
            simp [Region.binds] at k16
            have k15 := hcl 15 _ rfl
            simp [Region.binds] at k15
            have hE : L 16 = false := by cases h : L 16 with | false => rfl | true => have a16 := k16 h; have a15 := k15 (by simp [a16]); simp [hk] at a15
            rw [if_pos (by rfl)]
            simp only [Oper.wpv]
            go_simp
            refine (HH2.out u).mono ?_
            rintro e u1 ⟨rfl, hg⟩
            exact hK _ _ ⟨a6, c6, bA, hb, p0, p1, p2, p3, p4, p5, p6, p7, p8, p9, p10, p11, p12, p13, fun _ => rfl, p16, p17, q5, fun _ => sT (c1 hE) hg, fun h => absurd (show L 16 = true from h) (by simp [hE]), fun h0 h1 => ⟨(pa15 h0 h1).1, (pa15 h0 h1).2.1, Nat.lt_of_lt_of_le (pa15 h0 h1).2.2 hg.size⟩, fun h0 h1 => St.IsRow.below (bv15 h0 h1) hg⟩
          · rintro L T u hd hk hcl ⟨a6, c6, bA, hb, p0, p1, p2, p3, p4, p5, p6, p7, p8, p9, p10, p11, p12, p13, p14, p16, p17, q5, c1, c2, pa15, bv15⟩ K hK
            simp only [fr, Act.put, List.setIfInBounds_toArray, List.set_cons_zero, List.set_cons_succ, updO] at hK ⊢
            simp [Region.binds] at hd
            have k16 := hcl 16 _ rfl
            simp [Region.binds] at k16
            have hE : L 16 = false := by cases h : L 16 with | false => rfl | true => have a16 := k16 h; simp [hk] at a16
            have g7 := p7 (by simp [hd])
            have g14 := p14 (by simp [hd])
            have k17 := hcl 17 _ rfl
            simp [Region.binds] at k17
            have hg : Below u.heap.size u (u.alloc (.cells #[.int .u8 (G1.toNat : Int), .int .u8 (G2.toNat : Int)] 5)) := (Below.refl _ _).alloc (Nat.le_refl _) _
            rw [if_pos (by rfl)]
            simp only [Oper.wpv]
            go_simp
            exact hK _ _ ⟨a6, c6, u.heap.size, hb, p0, p1, p2, p3, p4, p5, p6, p7, p8, p9, p10, p11, p12, p13, p14, p16, p17, q5, fun _ => sT (c1 hE) hg, fun h => absurd (show L 16 = true from h) (by simp [hE]), fun _ _ => ⟨rfl, (c1 hE).size, by simp⟩, fun _ _ => (own_isRow u8_len (u8_new u [G1, G2] #[.int .u8 (G1.toNat : Int), .int .u8 (G2.toNat : Int)] 2 rfl rfl (by unfold maxLen; omega) (by decide)) rfl).1⟩
          · rintro L T u hd hk hcl ⟨a6, c6, bA, hb, p0, p1, p2, p3, p4, p5, p6, p7, p8, p9, p10, p11, p12, p13, p14, p16, p17, q5, c1, c2, pa15, bv15⟩ K hK
            simp only [fr, Act.put, List.setIfInBounds_toArray, List.set_cons_zero, List.set_cons_succ, updO] at hK ⊢
            simp [Region.binds] at hd
            have hE : L 16 = false := hk
            have g0 := p0 (by simp [hd])
            have g15 := pa15 (by simp [hd]) hE
            have k17 := hcl 17 _ rfl
            simp [Region.binds] at k17
            have hrw := bv15 (by simp [hd]) hE
            rw [if_pos (by rfl)]
            simp only [Oper.wpv]
            refine St.wpv_append_row EU (.tmp 114) (.tmp 129) (by rfl) W.heap.size (.slice a (1 + 2 * k) c) (1 + 2 * k) bs g0 (HOw.out u (c1 hE)) (some ⟨bA, 0, none⟩) 2 2 [G1, G2] (g15.1) hrw (by unfold maxLen; omega) (by omega) (HBw.out u (c1 hE)).size ?_
            intro a6 c6 u6 own6 gr6 at6
            have hu6 : Below W.heap.size W u6 := (HBw.out u (c1 hE)).grown gr6 (HBw.out u (c1 hE)).size (fun q hq => HLt.out q hq)
            exact hK _ _ ⟨a6, c6, bA, hb, p0, p1, p2, p3, p4, p5, p6, p7, p8, p9, p10, p11, p12, p13, p14, fun _ => rfl, fun h => absurd (show L 17 = true from h) (by intro hh; have a17 := k17 hh; simp [hk] at a17), q5, fun h0 => Bool.noConfusion (show true = false from h0), fun _ => ⟨own6, hu6⟩, fun h0 h1 => Bool.noConfusion (show true = false from h1), fun h0 h1 => Bool.noConfusion (show true = false from h1)⟩
          · rintro L T u hd hk hcl ⟨a6, c6, bA, hb, p0, p1, p2, p3, p4, p5, p6, p7, p8, p9, p10, p11, p12, p13, p14, p16, p17, q5, c1, c2, pa15, bv15⟩ K hK
            simp only [fr, Act.put, List.setIfInBounds_toArray, List.set_cons_zero, List.set_cons_succ, updO] at hK ⊢
            simp [Region.binds] at hd
            have g16 := p16 (by simp [hd])
            rw [if_pos (by rfl)]
            simp only [Oper.wpv]
            go_simp
            exact hK _ _ ⟨a6, c6, bA, hb, p0, p1, p2, p3, p4, p5, p6, p7, p8, p9, p10, p11, p12, p13, p14, p16, fun _ => rfl, fun h => Bool.noConfusion (show true = false from h), c1, c2, pa15, bv15⟩
        · rintro L T u hl ⟨a6, c6, bA, hb, p0, p1, p2, p3, p4, p5, p6, p7, p8, p9, p10, p11, p12, p13, p14, p16, p17, q5, c1, c2, pa15, bv15⟩
          simp only [fr, Act.put, List.setIfInBounds_toArray, List.set_cons_zero, List.set_cons_succ]
          have h3 := p17 (hl 17 (by decide))
          obtain ⟨hO2, hb2⟩ := c2 (hl 16 (by decide))
          clear p0 p1 p2 p3 p4 p5 p6 p7 p8 p9 p10 p11 p12 p13 p14 p16 p17 q5 c1 c2 pa15 bv15 HX HQ HR HC HH1 HH2 HOw HBw HLt
          rw [h3]
          clear h3
          go_wp2
          go_roundw
          case rel => exact ⟨k + 1, c6, a6, bs ++ [G1, G2], by rw [show 1 + 2 * (k + 1) = 1 + 2 * k + 2 by omega], by go_num, HJ.out, by simp; omega, by rw [show 1 + 2 * (k + 1) = 1 + 2 * k + 2 by omega]; exact hO2, HT2, hb2⟩
          case measure => have := HJ.out; simp [intOf]; omega
      · obtain rfl : k = line.size := by omega
        have hnl : ¬ ((line.size : Int) < (line.size : Int)) := by omega
        have hRow := (own_isRow u8_len hO hbl).1
        have HCv : Hid (∀ U, Below wo.heap.size wo U → (convert 52 9 (.slice a (1 + 2 * line.size) c)).run Tryd.prog U = .ok (.string TX) U) := fun U hU => HCV.out bs a (1 + 2 * line.size) c U (by rw [hT.out, List.take_of_length_le (show line.data.toList.length ≤ line.size from Nat.le_refl _)]) hbl (by omega) (hRow.below hU)
        have HBw : Hid (∀ U, Below wo.heap.size wo U → Below W.heap.size W U) := fun U hU => hbo.trans (hU.mono hbo.size)
        clear hT hRow hO HCV hbo
        go_upto_region 26 with (fail)
        clear x0 x1 x2 x3 x4 x5 x6 x7 x8 x9 x10 x11 zx
        refine wp_region_inv (by kernel_rfl) [131, 132, 133, 134, 135, 136, 137, 138, 139, 140, 141, 142, 3] (fun L T u => ∃ (bA : Nat), Below wo.heap.size wo u ∧ (L 0 = true → T 131 = .string S0) ∧ (L 1 = true → T 132 = .pointer (some ⟨w.heap.size, 1, none⟩)) ∧ (L 2 = true → T 133 = .int .i64 (site : Int)) ∧ (L 3 = true → T 134 = .pointer (some ⟨w.heap.size, 3, none⟩)) ∧ (L 4 = true → T 135 = .int .i64 (label : Int)) ∧ (L 6 = true → T 137 = .string BS) ∧ (L 7 = true → T 138 = .string T1) ∧ (L 8 = true → T 139 = .string T2) ∧ (L 9 = true → T 140 = .slice a (1 + 2 * line.size) c) ∧ (L 10 = true → T 141 = .string TX) ∧ (L 11 = true → T 142 = .string T3) ∧ (L 12 = true → T 3 = .string T3) ∧ (L 12 = false → T 3 = .string S0) ∧ (L 5 = true → (T 136 = .slice (some ⟨bA, 0, none⟩) 2 2 ∧ wo.heap.size ≤ bA ∧ bA < u.heap.size)) ∧ (L 5 = true → BoxN u bA 2 [.int .i64 (site : Int), .int .i64 (label : Int)])) (by decide) (by kernel_rfl) (by kernel_rfl) ?_ ?_ ?_
        · exact ⟨0, (Below.refl _ _).drew, nofun, nofun, nofun, nofun, nofun, nofun, nofun, nofun, nofun, nofun, nofun, nofun, fun _ => rfl, nofun, nofun⟩
        · refine ⟨?_, ?_, ?_, ?_, ?_, ?_, ?_, ?_, ?_, ?_, ?_, ?_, ?_, trivial⟩
          · rintro L T u hd hk hcl ⟨bA, hb, p0, p1, p2, p3, p4, p6, p7, p8, p9, p10, p11, p12, q3, pa5, bv5⟩ K hK
            simp only [fr, Act.put, List.setIfInBounds_toArray, List.set_cons_zero, List.set_cons_succ, updO] at hK ⊢
            simp [Region.binds] at hd
            have k12 := hcl 12 _ rfl
            simp [Region.binds] at k12
            have k11 := hcl 11 _ rfl
            simp [Region.binds] at k11
            have k8 := hcl 8 _ rfl
            simp [Region.binds] at k8
            have k7 := hcl 7 _ rfl
            simp [Region.binds] at k7
            have hF12 : L 12 = false := by cases h : L 12 with | false => rfl | true => have a12 := k12 h; have a11 := k11 (by simp [a12]); have a8 := k8 (by simp [a11]); have a7 := k7 (by simp [a8]); simp [hk] at a7
            have gq3 := q3 hF12
            rw [if_pos (by rfl)]
            simp only [Oper.wpv]
            go_simp
            exact hK _ _ ⟨bA, hb, fun _ => rfl, p1, p2, p3, p4, p6, p7, p8, p9, p10, p11, p12, q3, pa5, bv5⟩
          · rintro L T u hd hk hcl ⟨bA, hb, p0, p1, p2, p3, p4, p6, p7, p8, p9, p10, p11, p12, q3, pa5, bv5⟩ K hK
            simp only [fr, Act.put, List.setIfInBounds_toArray, List.set_cons_zero, List.set_cons_succ, updO] at hK ⊢
            simp [Region.binds] at hd
            rw [if_pos (by rfl)]
            simp only [Oper.wpv]
            go_simp
            exact hK _ _ ⟨bA, hb, p0, fun _ => rfl, p2, p3, p4, p6, p7, p8, p9, p10, p11, p12, q3, pa5, bv5⟩
          · rintro L T u hd hk hcl ⟨bA, hb, p0, p1, p2, p3, p4, p6, p7, p8, p9, p10, p11, p12, q3, pa5, bv5⟩ K hK
            simp only [fr, Act.put, List.setIfInBounds_toArray, List.set_cons_zero, List.set_cons_succ, updO] at hK ⊢
            simp [Region.binds] at hd
            have g1 := p1 (by simp [hd])
            obtain ⟨x0, x1, x2, x3, x4, x5, x6, x7, x8, x9, x10, x11, zx⟩ := KX.out u (HBw.out u hb)
            rw [if_pos (by rfl)]
            simp only [Oper.wpv]
            go_simp
            exact hK _ _ ⟨bA, hb, p0, p1, fun _ => rfl, p3, p4, p6, p7, p8, p9, p10, p11, p12, q3, pa5, bv5⟩
          · rintro L T u hd hk hcl ⟨bA, hb, p0, p1, p2, p3, p4, p6, p7, p8, p9, p10, p11, p12, q3, pa5, bv5⟩ K hK
            simp only [fr, Act.put, List.setIfInBounds_toArray, List.set_cons_zero, List.set_cons_succ, updO] at hK ⊢
            simp [Region.binds] at hd
            rw [if_pos (by rfl)]
            simp only [Oper.wpv]
            go_simp
            exact hK _ _ ⟨bA, hb, p0, p1, p2, fun _ => rfl, p4, p6, p7, p8, p9, p10, p11, p12, q3, pa5, bv5⟩
          · rintro L T u hd hk hcl ⟨bA, hb, p0, p1, p2, p3, p4, p6, p7, p8, p9, p10, p11, p12, q3, pa5, bv5⟩ K hK
            simp only [fr, Act.put, List.setIfInBounds_toArray, List.set_cons_zero, List.set_cons_succ, updO] at hK ⊢
            simp [Region.binds] at hd
            have g3 := p3 (by simp [hd])
            obtain ⟨x0, x1, x2, x3, x4, x5, x6, x7, x8, x9, x10, x11, zx⟩ := KX.out u (HBw.out u hb)
            rw [if_pos (by rfl)]
            simp only [Oper.wpv]
            go_simp
            exact hK _ _ ⟨bA, hb, p0, p1, p2, p3, fun _ => rfl, p6, p7, p8, p9, p10, p11, p12, q3, pa5, bv5⟩
          · rintro L T u hd hk hcl ⟨bA, hb, p0, p1, p2, p3, p4, p6, p7, p8, p9, p10, p11, p12, q3, pa5, bv5⟩ K hK
            simp only [fr, Act.put, List.setIfInBounds_toArray, List.set_cons_zero, List.set_cons_succ, updO] at hK ⊢
            simp [Region.binds] at hd
            have g2 := p2 (by simp [hd])
            have g4 := p4 (by simp [hd])
            have k6 := hcl 6 _ rfl
            simp [Region.binds] at k6
            have k7 := hcl 7 _ rfl
            simp [Region.binds] at k7
            have k8 := hcl 8 _ rfl
            simp [Region.binds] at k8
            have k11 := hcl 11 _ rfl
            simp [Region.binds] at k11
            have k12 := hcl 12 _ rfl
            simp [Region.binds] at k12
            have hg : Below u.heap.size u (u.alloc (.cells #[.int .i64 (site : Int), .int .i64 (label : Int)] 3)) := (Below.refl _ _).alloc (Nat.le_refl _) _
            rw [if_pos (by rfl)]
            simp only [Oper.wpv]
            go_simp
            exact hK _ _ ⟨u.heap.size, (sT hb hg), p0, p1, p2, p3, p4, fun h => absurd (show L 6 = true from h) (by intro hh; have a6 := k6 hh; simp [hk] at a6), fun h => absurd (show L 7 = true from h) (by intro hh; have a7 := k7 hh; have a6 := k6 (by simp [a7]); simp [hk] at a6), fun h => absurd (show L 8 = true from h) (by intro hh; have a8 := k8 hh; have a7 := k7 (by simp [a8]); have a6 := k6 (by simp [a7]); simp [hk] at a6), p9, p10, fun h => absurd (show L 11 = true from h) (by intro hh; have a11 := k11 hh; have a8 := k8 (by simp [a11]); have a7 := k7 (by simp [a8]); have a6 := k6 (by simp [a7]); simp [hk] at a6), fun h => absurd (show L 12 = true from h) (by intro hh; have a12 := k12 hh; have a11 := k11 (by simp [a12]); have a8 := k8 (by simp [a11]); have a7 := k7 (by simp [a8]); have a6 := k6 (by simp [a7]); simp [hk] at a6), q3, fun _ => ⟨rfl, hb.size, by simp⟩, fun _ => boxn_new u #[.int .i64 (site : Int), .int .i64 (label : Int)] 3 2 rfl⟩
          · rintro L T u hd hk hcl ⟨bA, hb, p0, p1, p2, p3, p4, p6, p7, p8, p9, p10, p11, p12, q3, pa5, bv5⟩ K hK
            simp only [fr, Act.put, List.setIfInBounds_toArray, List.set_cons_zero, List.set_cons_succ, updO] at hK ⊢
            simp [Region.binds] at hd
            have g5 := pa5 (by simp [hd])
            rw [if_pos (by rfl)]
            simp only [Oper.wpv]
            go_simp
            refine (HBl.out u bA (bv5 (by simp [hd]))).mono ?_
            rintro e u1 ⟨rfl, hg⟩
            exact hK _ _ ⟨bA, sT hb hg, p0, p1, p2, p3, p4, fun _ => rfl, p7, p8, p9, p10, p11, p12, q3, fun h0 => ⟨(pa5 h0).1, (pa5 h0).2.1, Nat.lt_of_lt_of_le (pa5 h0).2.2 hg.size⟩, fun h0 => (bv5 h0).below hg (bv5 h0).lt⟩
          · rintro L T u hd hk hcl ⟨bA, hb, p0, p1, p2, p3, p4, p6, p7, p8, p9, p10, p11, p12, q3, pa5, bv5⟩ K hK
            simp only [fr, Act.put, List.setIfInBounds_toArray, List.set_cons_zero, List.set_cons_succ, updO] at hK ⊢
            simp [Region.binds] at hd
            have g0 := p0 (by simp [hd])
            have g6 := p6 (by simp [hd])
            obtain ⟨q1, q2⟩ := HZ1.out
            rw [if_pos (by rfl)]
            simp only [Oper.wpv]
            go_simp
            exact hK _ _ ⟨bA, hb, p0, p1, p2, p3, p4, p6, fun _ => rfl, p8, p9, p10, p11, p12, q3, pa5, bv5⟩
          · rintro L T u hd hk hcl ⟨bA, hb, p0, p1, p2, p3, p4, p6, p7, p8, p9, p10, p11, p12, q3, pa5, bv5⟩ K hK
            simp only [fr, Act.put, List.setIfInBounds_toArray, List.set_cons_zero, List.set_cons_succ, updO] at hK ⊢
            simp [Region.binds] at hd
            have g7 := p7 (by simp [hd])
            obtain ⟨q1, q2⟩ := HZ2.out
            rw [if_pos (by rfl)]
            simp only [Oper.wpv]
            go_simp
            exact hK _ _ ⟨bA, hb, p0, p1, p2, p3, p4, p6, p7, fun _ => rfl, p9, p10, p11, p12, q3, pa5, bv5⟩
          · rintro L T u hd hk hcl ⟨bA, hb, p0, p1, p2, p3, p4, p6, p7, p8, p9, p10, p11, p12, q3, pa5, bv5⟩ K hK
            simp only [fr, Act.put, List.setIfInBounds_toArray, List.set_cons_zero, List.set_cons_succ, updO] at hK ⊢
            simp [Region.binds] at hd
            rw [if_pos (by rfl)]
            simp only [Oper.wpv]
            go_simp
            exact hK _ _ ⟨bA, hb, p0, p1, p2, p3, p4, p6, p7, p8, fun _ => rfl, p10, p11, p12, q3, pa5, bv5⟩
          · rintro L T u hd hk hcl ⟨bA, hb, p0, p1, p2, p3, p4, p6, p7, p8, p9, p10, p11, p12, q3, pa5, bv5⟩ K hK
            simp only [fr, Act.put, List.setIfInBounds_toArray, List.set_cons_zero, List.set_cons_succ, updO] at hK ⊢
            simp [Region.binds] at hd
            have g9 := p9 (by simp [hd])
            have hcv := HCv.out u hb
            rw [if_pos (by rfl)]
            simp only [Oper.wpv]
            go_simp
            exact hK _ _ ⟨bA, hb, p0, p1, p2, p3, p4, p6, p7, p8, p9, fun _ => rfl, p11, p12, q3, pa5, bv5⟩
          · rintro L T u hd hk hcl ⟨bA, hb, p0, p1, p2, p3, p4, p6, p7, p8, p9, p10, p11, p12, q3, pa5, bv5⟩ K hK
            simp only [fr, Act.put, List.setIfInBounds_toArray, List.set_cons_zero, List.set_cons_succ, updO] at hK ⊢
            simp [Region.binds] at hd
            have g8 := p8 (by simp [hd])
            have g10 := p10 (by simp [hd])
            obtain ⟨q1, q2⟩ := HZ3.out
            rw [if_pos (by rfl)]
            simp only [Oper.wpv]
            go_simp
            exact hK _ _ ⟨bA, hb, p0, p1, p2, p3, p4, p6, p7, p8, p9, p10, fun _ => rfl, p12, q3, pa5, bv5⟩
          · rintro L T u hd hk hcl ⟨bA, hb, p0, p1, p2, p3, p4, p6, p7, p8, p9, p10, p11, p12, q3, pa5, bv5⟩ K hK
            simp only [fr, Act.put, List.setIfInBounds_toArray, List.set_cons_zero, List.set_cons_succ, updO] at hK ⊢
            simp [Region.binds] at hd
            have g11 := p11 (by simp [hd])
            rw [if_pos (by rfl)]
            simp only [Oper.wpv]
            go_simp
            exact hK _ _ ⟨bA, hb, p0, p1, p2, p3, p4, p6, p7, p8, p9, p10, p11, fun _ => rfl, fun h => Bool.noConfusion (show true = false from h), pa5, bv5⟩
        · rintro L T u hl ⟨bA, hb, p0, p1, p2, p3, p4, p6, p7, p8, p9, p10, p11, p12, q3, pa5, bv5⟩
          simp only [fr, Act.put, List.setIfInBounds_toArray, List.set_cons_zero, List.set_cons_succ]
          have h3 := p12 (hl 12 (by decide))
          have hfin := HW.out u (HBw.out u hb)
          clear p0 p1 p2 p3 p4 p6 p7 p8 p9 p10 p11 p12 q3 pa5 bv5 HBl HCv HBw HZ1 HZ2 HZ3 KX HW
          rw [h3]
          clear h3
          go_wp2
          go_ret
          exact ⟨rfl, hfin⟩
end Go.Proofs.YtlaagfnoepcnlaaDoor.Ln
/- The document's actLine: acts of the kind ask. -/
namespace Go.Proofs.YtlaagfnoepcnlaaDoor.Ln
open Go.ChangeShapes Go.WideShapes Go.ChangeAt Go.RowKit
open Go.Proofs.YtlaagfnoepcnlaaDoor.St (BoxN boxn_new own_below IsRow Elem flat flat_append own_isRow)
open Go.Proofs.YtlaagfnoepcnlaaDoor.Cn (ObAt)
open Go.Proofs.YtlaagfnoepcnlaaDoor.Dc (decS dec_ref decS_size)
set_option linter.unusedVariables false

/-- What is told of a call of a kind. -/
def askArgs (q : Nat) (c1 c2 c3 c4 : Int) : List Int := if q = 1 then [] else if q = 2 then [c1, c2, c3] else if q = 3 then [c1, c3, c4] else [c1]
theorem cWord_sz (k : Nat) : (cWord k).size ≤ 8 := by unfold cWord; split <;> decide
theorem box_ints {U : World} {b n : Nat} {zs : List Int} (bx : BoxN U b n (zs.map (Value.int .i64))) (hn : zs.length = n) : 0 < n → ∃ b' off, some (⟨b, 0, none⟩ : Addr) = some ⟨b', off, none⟩ ∧ b' < U.heap.size ∧ ∀ i, i < n → U.cell? ⟨b', off + i, none⟩ = some (.int .i64 (zs.getD i 0)) := fun _ => ⟨b, 0, rfl, bx.lt, fun i hi => by
  rw [Nat.zero_add, (bx.c i hi).1]
  have h : i < zs.length := by omega
  simp [List.getD, h]⟩
set_option maxRecDepth 100000 in
set_option maxHeartbeats 8000000 in
theorem askLine_any (site : Nat) (to1 : Int) (label : Nat) (pick : Int) (ka : Option Addr) (kl kc : Nat) (q c1 c2 c3 c4 : Nat) (line : ByteArray) (w : World) (hs : site ≤ 1048576) (hla : label ≤ 1048576) (hq : 1 ≤ q ∧ q ≤ 5) (hc : c1 ≤ 1073741824 ∧ c2 ≤ 1073741824 ∧ c3 ≤ 1073741824 ∧ c4 ≤ 1073741824) :
    Calls Tryd.prog 27 #[.agg #[.int .i64 1, .int .i64 (site : Int), .int .i64 to1, .int .i64 (label : Int), .int .i64 pick, .slice ka kl kc, .int .i64 (q : Int), .int .i64 (c1 : Int), .int .i64 (c2 : Int), .int .i64 (c3 : Int), .int .i64 (c4 : Int), .string line]] w fun e w' => e = .returned (.string (aWord 1 ++ blankS [(site : Int), (label : Int)] ++ ⟨#[32]⟩ ++ cWord q ++ blankS (askArgs q c1 c2 c3 c4) ++ ⟨#[10]⟩)) ∧ Below w.heap.size w w' := by
  obtain ⟨W, hW⟩ : ∃ W : World, W = w.alloc (.cells #[.int .i64 1, .int .i64 (site : Int), .int .i64 to1, .int .i64 (label : Int), .int .i64 pick, .slice ka kl kc, .int .i64 (q : Int), .int .i64 (c1 : Int), .int .i64 (c2 : Int), .int .i64 (c3 : Int), .int .i64 (c4 : Int), .string line] 41) := ⟨_, rfl⟩
  have bW : Below w.heap.size w W := by rw [hW]; exact (Below.refl _ _).alloc (Nat.le_refl _) _
  have oA : ObAt W w.heap.size #[.int .i64 1, .int .i64 (site : Int), .int .i64 to1, .int .i64 (label : Int), .int .i64 pick, .slice ka kl kc, .int .i64 (q : Int), .int .i64 (c1 : Int), .int .i64 (c2 : Int), .int .i64 (c3 : Int), .int .i64 (c4 : Int), .string line] 41 := by rw [hW]; exact ObAt.new w _ _
  have KX : Hid (∀ U, Below W.heap.size W U → U.cell? ⟨w.heap.size, 0, none⟩ = some (.int .i64 1) ∧ U.cell? ⟨w.heap.size, 1, none⟩ = some (.int .i64 (site : Int)) ∧ U.cell? ⟨w.heap.size, 2, none⟩ = some (.int .i64 to1) ∧ U.cell? ⟨w.heap.size, 3, none⟩ = some (.int .i64 (label : Int)) ∧ U.cell? ⟨w.heap.size, 4, none⟩ = some (.int .i64 pick) ∧ U.cell? ⟨w.heap.size, 5, none⟩ = some (.slice ka kl kc) ∧ U.cell? ⟨w.heap.size, 6, none⟩ = some (.int .i64 (q : Int)) ∧ U.cell? ⟨w.heap.size, 7, none⟩ = some (.int .i64 (c1 : Int)) ∧ U.cell? ⟨w.heap.size, 8, none⟩ = some (.int .i64 (c2 : Int)) ∧ U.cell? ⟨w.heap.size, 9, none⟩ = some (.int .i64 (c3 : Int)) ∧ U.cell? ⟨w.heap.size, 10, none⟩ = some (.int .i64 (c4 : Int)) ∧ U.cell? ⟨w.heap.size, 11, none⟩ = some (.string line) ∧ w.heap.size < U.heap.size) := fun U hU => ⟨(oA.below hU).cell 0, (oA.below hU).cell 1, (oA.below hU).cell 2, (oA.below hU).cell 3, (oA.below hU).cell 4, (oA.below hU).cell 5, (oA.below hU).cell 6, (oA.below hU).cell 7, (oA.below hU).cell 8, (oA.below hU).cell 9, (oA.below hU).cell 10, (oA.below hU).cell 11, (oA.below hU).lt⟩
  have hAw : Hid (∀ U, Calls Tryd.prog 52 #[] U fun e w' => ∃ b, e = .returned (.slice (some ⟨b, 0, none⟩) 9 9) ∧ (b < w'.heap.size ∧ w'.cell? ⟨b, 1, none⟩ = some (.string (aWord 1))) ∧ Below U.heap.size U w') := fun U => (awRef_any U).mono fun e w' ⟨b, h1, h2, h3⟩ => ⟨b, h1, ⟨h2.1, h2.2 1 (by omega)⟩, h3⟩
  have hsz := aWord_sz 1
  obtain ⟨S0, eS0⟩ : ∃ x, x = aWord 1 := ⟨_, rfl⟩
  rw [← eS0] at hAw hsz ⊢
  clear eS0 oA
  have HBl : Hid (∀ U b, BoxN U b 2 [.int .i64 (site : Int), .int .i64 (label : Int)] → Calls Tryd.prog 53 #[.slice (some ⟨b, 0, none⟩) 2 2] U fun e w' => e = .returned (.string (blankS [(site : Int), (label : Int)])) ∧ Below U.heap.size U w') := fun U b bx => blanked_any (some ⟨b, 0, none⟩) 2 2 [(site : Int), (label : Int)] U (by omega) rfl (fun z hz => by simp at hz; omega) (box_ints (zs := [(site : Int), (label : Int)]) bx rfl)
  have HAr : Hid (∀ U b n, BoxN U b n ((askArgs q c1 c2 c3 c4).map (Value.int .i64)) → (askArgs q c1 c2 c3 c4).length = n → n ≤ 3 → Calls Tryd.prog 53 #[.slice (some ⟨b, 0, none⟩) n n] U fun e w' => e = .returned (.string (blankS (askArgs q c1 c2 c3 c4))) ∧ Below U.heap.size U w') := fun U b n bx hl hn => blanked_any (some ⟨b, 0, none⟩) n n (askArgs q c1 c2 c3 c4) U (by omega) hl (fun z hz => by
    unfold askArgs at hz
    split at hz
    · simp at hz
    · split at hz
      · simp at hz; omega
      · split at hz
        · simp at hz; omega
        · simp at hz; omega) (box_ints bx hl)
  have hbs : (blankS [(site : Int), (label : Int)]).size ≤ 44 := by
    show (blankL [(site : Int), (label : Int)]).toArray.size ≤ 44
    rw [List.size_toArray]
    exact blankL_bd [(site : Int), (label : Int)] (fun z hz => by simp at hz; omega)
  have hba : (blankS (askArgs q c1 c2 c3 c4)).size ≤ 66 := by
    show (blankL (askArgs q c1 c2 c3 c4)).toArray.size ≤ 66
    rw [List.size_toArray]
    have h1 := blankL_bd (askArgs q c1 c2 c3 c4) (fun z hz => by
      unfold askArgs at hz
      split at hz
      · simp at hz
      · split at hz
        · simp at hz; omega
        · split at hz
          · simp at hz; omega
          · simp at hz; omega)
    have h2 : (askArgs q c1 c2 c3 c4).length ≤ 3 := by
      unfold askArgs
      repeat' split
      all_goals simp
    omega
  have hcs := cWord_sz q
  have hCw : Hid (∀ U, Calls Tryd.prog 54 #[] U fun e w' => ∃ b, e = .returned (.slice (some ⟨b, 0, none⟩) 6 6) ∧ (b < w'.heap.size ∧ w'.cell? ⟨b, q, none⟩ = some (.string (cWord q))) ∧ Below U.heap.size U w') := fun U => (cwRef_any U).mono fun e w' ⟨b, h1, h2, h3⟩ => ⟨b, h1, ⟨h2.1, h2.2 q (by omega)⟩, h3⟩
  have HZero : Hid (q = 1 → blankS (askArgs q c1 c2 c3 c4) = ⟨#[]⟩) := fun h => by subst h; rfl
  have HA2 : Hid (q = 2 → askArgs q c1 c2 c3 c4 = [(c1 : Int), (c2 : Int), (c3 : Int)]) := fun h => by subst h; rfl
  have HA3 : Hid (q = 3 → askArgs q c1 c2 c3 c4 = [(c1 : Int), (c3 : Int), (c4 : Int)]) := fun h => by subst h; rfl
  have HA4 : Hid (q = 4 ∨ q = 5 → askArgs q c1 c2 c3 c4 = [(c1 : Int)]) := fun h => by rcases h with h | h <;> subst h <;> rfl
  have q6 : (q : Int) < 6 := by omega
  have q0 : (0 : Int) ≤ (q : Int) := by omega
  obtain ⟨BS, eBS⟩ : ∃ x, x = blankS [(site : Int), (label : Int)] := ⟨_, rfl⟩
  rw [← eBS] at HBl hbs ⊢
  obtain ⟨CW, eCW⟩ : ∃ x, x = cWord q := ⟨_, rfl⟩
  rw [← eCW] at hCw hcs ⊢
  obtain ⟨BA, eBA⟩ : ∃ x, x = blankS (askArgs q c1 c2 c3 c4) := ⟨_, rfl⟩
  rw [← eBA] at HAr hba HZero ⊢
  obtain ⟨T1, t1⟩ : ∃ x : ByteArray, S0 ++ BS = x := ⟨_, rfl⟩
  have s1 : T1.size = S0.size + BS.size := by rw [← t1, ByteArray.size_append]
  rw [t1]
  obtain ⟨T2, t2⟩ : ∃ x : ByteArray, T1 ++ ⟨#[32]⟩ = x := ⟨_, rfl⟩
  have s2 : T2.size = T1.size + 1 := by rw [← t2, ByteArray.size_append]; rfl
  rw [t2]
  obtain ⟨T3, t3⟩ : ∃ x : ByteArray, T2 ++ CW = x := ⟨_, rfl⟩
  have s3 : T3.size = T2.size + CW.size := by rw [← t3, ByteArray.size_append]
  rw [t3]
  obtain ⟨T4, t4⟩ : ∃ x : ByteArray, T3 ++ BA = x := ⟨_, rfl⟩
  have s4 : T4.size = T3.size + BA.size := by rw [← t4, ByteArray.size_append]
  rw [t4]
  have HZ1 : Hid (S0 ++ BS = T1 ∧ ¬ (9223372036854775807 < S0.size + BS.size)) := ⟨t1, by omega⟩
  have HZ2 : Hid (T1 ++ ⟨#[32]⟩ = T2 ∧ ¬ (9223372036854775807 < T1.size + 1)) := ⟨t2, by omega⟩
  have HZ3 : Hid (T2 ++ CW = T3 ∧ ¬ (9223372036854775807 < T2.size + CW.size)) := ⟨t3, by omega⟩
  have HZ4 : Hid (T3 ++ BA = T4 ∧ ¬ (9223372036854775807 < T3.size + BA.size)) := ⟨t4, by omega⟩
  have HZ5 : Hid (¬ (9223372036854775807 < T4.size + 1)) := by show ¬ _; omega
  clear eBS eCW eBA hsz hbs hba hcs s1 s2 s3 s4 t1 t2 t3 t4
  go_enter Tryd.func27, Tryd.ntmps27
  go_upto_region 1 with (fail)
  rw [← hW]
  clear hW
  refine wp_region_inv (by kernel_rfl) [7, 8, 9, 10, 11, 3] (fun L T u => ∃ (bL : Nat), Below W.heap.size W u ∧ (L 0 = true → T 7 = .slice (some ⟨bL, 0, none⟩) 9 9) ∧ (L 1 = true → T 8 = .pointer (some ⟨w.heap.size, 0, none⟩)) ∧ (L 2 = true → T 9 = .int .i64 1) ∧ (L 3 = true → T 10 = .pointer (some ⟨bL, 1, none⟩)) ∧ (L 4 = true → T 11 = .string S0) ∧ (L 5 = true → T 3 = .string S0) ∧ (L 0 = true → (bL < u.heap.size ∧ u.cell? ⟨bL, 1, none⟩ = some (.string S0)))) (by decide) (by kernel_rfl) (by kernel_rfl) ?_ ?_ ?_
  · exact ⟨0, (Below.refl _ _).drew, nofun, nofun, nofun, nofun, nofun, nofun, nofun⟩
  · refine ⟨?_, ?_, ?_, ?_, ?_, ?_, trivial⟩
    · rintro L T u hd hk hcl ⟨bL, hb, p0, p1, p2, p3, p4, p5, wt⟩ K hK
      simp only [fr, Act.put, List.setIfInBounds_toArray, List.set_cons_zero, List.set_cons_succ, updO] at hK ⊢
      simp [Region.binds] at hd
      have k3 := hcl 3 _ rfl
      simp [Region.binds] at k3
      have k4 := hcl 4 _ rfl
      simp [Region.binds] at k4
      have k5 := hcl 5 _ rfl
      simp [Region.binds] at k5
      rw [if_pos (by rfl)]
      simp only [Oper.wpv]
      go_simp
      refine (hAw.out u).mono ?_
      rintro e u1 ⟨b8, rfl, h8, hg⟩
      exact hK _ _ ⟨b8, sT hb hg, fun _ => rfl, p1, p2, fun h => absurd (show L 3 = true from h) (by intro hh; have a3 := k3 hh; simp [hk] at a3), fun h => absurd (show L 4 = true from h) (by intro hh; have a4 := k4 hh; have a3 := k3 (by simp [a4]); simp [hk] at a3), fun h => absurd (show L 5 = true from h) (by intro hh; have a5 := k5 hh; have a4 := k4 (by simp [a5]); have a3 := k3 (by simp [a4]); simp [hk] at a3), fun _ => h8⟩
    · rintro L T u hd hk hcl ⟨bL, hb, p0, p1, p2, p3, p4, p5, wt⟩ K hK
      simp only [fr, Act.put, List.setIfInBounds_toArray, List.set_cons_zero, List.set_cons_succ, updO] at hK ⊢
      simp [Region.binds] at hd
      rw [if_pos (by rfl)]
      simp only [Oper.wpv]
      go_simp
      exact hK _ _ ⟨bL, hb, p0, fun _ => rfl, p2, p3, p4, p5, wt⟩
    · rintro L T u hd hk hcl ⟨bL, hb, p0, p1, p2, p3, p4, p5, wt⟩ K hK
      simp only [fr, Act.put, List.setIfInBounds_toArray, List.set_cons_zero, List.set_cons_succ, updO] at hK ⊢
      simp [Region.binds] at hd
      have g1 := p1 (by simp [hd])
      obtain ⟨x0, x1, x2, x3, x4, x5, x6, x7, x8, x9, x10, x11, zx⟩ := KX.out u hb
      rw [if_pos (by rfl)]
      simp only [Oper.wpv]
      go_simp
      exact hK _ _ ⟨bL, hb, p0, p1, fun _ => rfl, p3, p4, p5, wt⟩
    · rintro L T u hd hk hcl ⟨bL, hb, p0, p1, p2, p3, p4, p5, wt⟩ K hK
      simp only [fr, Act.put, List.setIfInBounds_toArray, List.set_cons_zero, List.set_cons_succ, updO] at hK ⊢
      simp [Region.binds] at hd
      have g0 := p0 (by simp [hd])
      have g2 := p2 (by simp [hd])
      rw [if_pos (by rfl)]
      simp only [Oper.wpv]
      go_simp
      exact hK _ _ ⟨bL, hb, p0, p1, p2, fun _ => rfl, p4, p5, wt⟩
    · rintro L T u hd hk hcl ⟨bL, hb, p0, p1, p2, p3, p4, p5, wt⟩ K hK
      simp only [fr, Act.put, List.setIfInBounds_toArray, List.set_cons_zero, List.set_cons_succ, updO] at hK ⊢
      simp [Region.binds] at hd
      have g3 := p3 (by simp [hd])
      have k3 := hcl 3 _ rfl
      simp [Region.binds] at k3
      have a3 : L 3 = true := by simp [hd]
      have a0 : L 0 = true := by simp [k3 a3]
      obtain ⟨w1, w2⟩ := wt a0
      obtain ⟨x0, x1, x2, x3, x4, x5, x6, x7, x8, x9, x10, x11, zx⟩ := KX.out u hb
      rw [if_pos (by rfl)]
      simp only [Oper.wpv]
      go_simp
      exact hK _ _ ⟨bL, hb, p0, p1, p2, p3, fun _ => rfl, p5, wt⟩
    · rintro L T u hd hk hcl ⟨bL, hb, p0, p1, p2, p3, p4, p5, wt⟩ K hK
      simp only [fr, Act.put, List.setIfInBounds_toArray, List.set_cons_zero, List.set_cons_succ, updO] at hK ⊢
      simp [Region.binds] at hd
      have g4 := p4 (by simp [hd])
      rw [if_pos (by rfl)]
      simp only [Oper.wpv]
      go_simp
      exact hK _ _ ⟨bL, hb, p0, p1, p2, p3, p4, fun _ => rfl, wt⟩
  · rintro L T u hl ⟨bL, hb, p0, p1, p2, p3, p4, p5, wt⟩
    simp only [fr, Act.put, List.setIfInBounds_toArray, List.set_cons_zero, List.set_cons_succ]
    have h3 := p5 (hl 5 (by decide))
    clear p0 p1 p2 p3 p4 p5 wt hAw
    rw [h3]
    clear h3
    have bwu : Below w.heap.size w u := bW.trans (hb.mono bW.size)
    clear bW
    obtain ⟨x0, x1, x2, x3, x4, x5, x6, x7, x8, x9, x10, x11, zx⟩ := KX.out u hb
    obtain ⟨v0, ev0⟩ : ∃ X : World, X = u := ⟨_, rfl⟩
    subst ev0
    obtain ⟨V, eV⟩ : ∃ V : World, V = v0.alloc (.cells #[.int .i64 (q : Int), .int .i64 (c1 : Int), .int .i64 (c2 : Int), .int .i64 (c3 : Int), .int .i64 (c4 : Int)] 39) := ⟨_, rfl⟩
    have bV : Below v0.heap.size v0 V := by rw [eV]; exact (Below.refl _ _).alloc (Nat.le_refl _) _
    have bxC : BoxN V v0.heap.size 5 [.int .i64 (q : Int), .int .i64 (c1 : Int), .int .i64 (c2 : Int), .int .i64 (c3 : Int), .int .i64 (c4 : Int)] := by rw [eV]; exact boxn_new v0 #[.int .i64 (q : Int), .int .i64 (c1 : Int), .int .i64 (c2 : Int), .int .i64 (c3 : Int), .int .i64 (c4 : Int)] 39 5 rfl
    have hbV : Below W.heap.size W V := hb.trans (bV.mono hb.size)
    have HWB : Hid (∀ U, Below V.heap.size V U → Below w.heap.size w U ∧ Below W.heap.size W U) := fun U hU => by
      have h1 := hbV.trans (hU.mono hbV.size)
      exact ⟨(bwu.trans (bV.mono bwu.size)).trans (hU.mono (bwu.trans (bV.mono bwu.size)).size), h1⟩
    have KC : Hid (∀ U, Below V.heap.size V U → BoxN U v0.heap.size 5 [.int .i64 (q : Int), .int .i64 (c1 : Int), .int .i64 (c2 : Int), .int .i64 (c3 : Int), .int .i64 (c4 : Int)]) := fun U hU => bxC.below hU bxC.lt
    have zV : v0.heap.size < V.heap.size := bxC.lt
    obtain ⟨bq, ebq⟩ : ∃ x, x = v0.heap.size := ⟨_, rfl⟩
    go_upto_region 5 with (fail)
    rw [← eV]
    rw [← ebq] at KC zV ⊢
    clear eV ebq bV bxC x0 x1 x2 x3 x4 x5 x6 x7 x8 x9 x10 x11 zx hb bwu hbV
    refine wp_region_inv (by kernel_rfl) [18, 19, 20, 21, 22, 23, 24, 25, 26, 27, 28, 29, 30, 31, 32, 3] (fun L T u => ∃ (bC : Nat) (bA : Nat), Below V.heap.size V u ∧ (L 0 = true → T 18 = .string S0) ∧ (L 1 = true → T 19 = .pointer (some ⟨w.heap.size, 1, none⟩)) ∧ (L 2 = true → T 20 = .int .i64 (site : Int)) ∧ (L 3 = true → T 21 = .pointer (some ⟨w.heap.size, 3, none⟩)) ∧ (L 4 = true → T 22 = .int .i64 (label : Int)) ∧ (L 6 = true → T 24 = .string BS) ∧ (L 7 = true → T 25 = .string T1) ∧ (L 8 = true → T 26 = .string T2) ∧ (L 9 = true → T 27 = .slice (some ⟨bC, 0, none⟩) 6 6) ∧ (L 10 = true → T 28 = .pointer (some ⟨bq, 0, none⟩)) ∧ (L 11 = true → T 29 = .int .i64 (q : Int)) ∧ (L 12 = true → T 30 = .pointer (some ⟨bC, q, none⟩)) ∧ (L 13 = true → T 31 = .string CW) ∧ (L 14 = true → T 32 = .string T3) ∧ (L 15 = true → T 3 = .string T3) ∧ (L 15 = false → T 3 = .string S0) ∧ (L 9 = true → (bC < u.heap.size ∧ u.cell? ⟨bC, q, none⟩ = some (.string CW))) ∧ (L 5 = true → (T 23 = .slice (some ⟨bA, 0, none⟩) 2 2 ∧ V.heap.size ≤ bA ∧ bA < u.heap.size)) ∧ (L 5 = true → BoxN u bA 2 [.int .i64 (site : Int), .int .i64 (label : Int)])) (by decide) (by kernel_rfl) (by kernel_rfl) ?_ ?_ ?_
    · exact ⟨0, 0, (Below.refl _ _).drew, nofun, nofun, nofun, nofun, nofun, nofun, nofun, nofun, nofun, nofun, nofun, nofun, nofun, nofun, nofun, fun _ => rfl, nofun, nofun, nofun⟩
    · refine ⟨?_, ?_, ?_, ?_, ?_, ?_, ?_, ?_, ?_, ?_, ?_, ?_, ?_, ?_, ?_, ?_, trivial⟩
      · rintro L T u hd hk hcl ⟨bC, bA, hb, p0, p1, p2, p3, p4, p6, p7, p8, p9, p10, p11, p12, p13, p14, p15, q3, wc, pa5, bv5⟩ K hK
        simp only [fr, Act.put, List.setIfInBounds_toArray, List.set_cons_zero, List.set_cons_succ, updO] at hK ⊢
        simp [Region.binds] at hd
        have k15 := hcl 15 _ rfl
        simp [Region.binds] at k15
        have k14 := hcl 14 _ rfl
        simp [Region.binds] at k14
        have k8 := hcl 8 _ rfl
        simp [Region.binds] at k8
        have k7 := hcl 7 _ rfl
        simp [Region.binds] at k7
        have hF15 : L 15 = false := by cases h : L 15 with | false => rfl | true => have a15 := k15 h; have a14 := k14 (by simp [a15]); have a8 := k8 (by simp [a14]); have a7 := k7 (by simp [a8]); simp [hk] at a7
        have gq3 := q3 hF15
        rw [if_pos (by rfl)]
        simp only [Oper.wpv]
        go_simp
        exact hK _ _ ⟨bC, bA, hb, fun _ => rfl, p1, p2, p3, p4, p6, p7, p8, p9, p10, p11, p12, p13, p14, p15, q3, wc, pa5, bv5⟩
      · rintro L T u hd hk hcl ⟨bC, bA, hb, p0, p1, p2, p3, p4, p6, p7, p8, p9, p10, p11, p12, p13, p14, p15, q3, wc, pa5, bv5⟩ K hK
        simp only [fr, Act.put, List.setIfInBounds_toArray, List.set_cons_zero, List.set_cons_succ, updO] at hK ⊢
        simp [Region.binds] at hd
        rw [if_pos (by rfl)]
        simp only [Oper.wpv]
        go_simp
        exact hK _ _ ⟨bC, bA, hb, p0, fun _ => rfl, p2, p3, p4, p6, p7, p8, p9, p10, p11, p12, p13, p14, p15, q3, wc, pa5, bv5⟩
      · rintro L T u hd hk hcl ⟨bC, bA, hb, p0, p1, p2, p3, p4, p6, p7, p8, p9, p10, p11, p12, p13, p14, p15, q3, wc, pa5, bv5⟩ K hK
        simp only [fr, Act.put, List.setIfInBounds_toArray, List.set_cons_zero, List.set_cons_succ, updO] at hK ⊢
        simp [Region.binds] at hd
        have g1 := p1 (by simp [hd])
        obtain ⟨x0, x1, x2, x3, x4, x5, x6, x7, x8, x9, x10, x11, zx⟩ := KX.out u (HWB.out u hb).2
        have bxq := KC.out u hb
        have y0 := (bxq.c 0 (by decide)).1
        have yz := bxq.lt
        rw [if_pos (by rfl)]
        simp only [Oper.wpv]
        go_simp
        exact hK _ _ ⟨bC, bA, hb, p0, p1, fun _ => rfl, p3, p4, p6, p7, p8, p9, p10, p11, p12, p13, p14, p15, q3, wc, pa5, bv5⟩
      · rintro L T u hd hk hcl ⟨bC, bA, hb, p0, p1, p2, p3, p4, p6, p7, p8, p9, p10, p11, p12, p13, p14, p15, q3, wc, pa5, bv5⟩ K hK
        simp only [fr, Act.put, List.setIfInBounds_toArray, List.set_cons_zero, List.set_cons_succ, updO] at hK ⊢
        simp [Region.binds] at hd
        rw [if_pos (by rfl)]
        simp only [Oper.wpv]
        go_simp
        exact hK _ _ ⟨bC, bA, hb, p0, p1, p2, fun _ => rfl, p4, p6, p7, p8, p9, p10, p11, p12, p13, p14, p15, q3, wc, pa5, bv5⟩
      · rintro L T u hd hk hcl ⟨bC, bA, hb, p0, p1, p2, p3, p4, p6, p7, p8, p9, p10, p11, p12, p13, p14, p15, q3, wc, pa5, bv5⟩ K hK
        simp only [fr, Act.put, List.setIfInBounds_toArray, List.set_cons_zero, List.set_cons_succ, updO] at hK ⊢
        simp [Region.binds] at hd
        have g3 := p3 (by simp [hd])
        obtain ⟨x0, x1, x2, x3, x4, x5, x6, x7, x8, x9, x10, x11, zx⟩ := KX.out u (HWB.out u hb).2
        have bxq := KC.out u hb
        have y0 := (bxq.c 0 (by decide)).1
        have yz := bxq.lt
        rw [if_pos (by rfl)]
        simp only [Oper.wpv]
        go_simp
        exact hK _ _ ⟨bC, bA, hb, p0, p1, p2, p3, fun _ => rfl, p6, p7, p8, p9, p10, p11, p12, p13, p14, p15, q3, wc, pa5, bv5⟩
      · rintro L T u hd hk hcl ⟨bC, bA, hb, p0, p1, p2, p3, p4, p6, p7, p8, p9, p10, p11, p12, p13, p14, p15, q3, wc, pa5, bv5⟩ K hK
        simp only [fr, Act.put, List.setIfInBounds_toArray, List.set_cons_zero, List.set_cons_succ, updO] at hK ⊢
        simp [Region.binds] at hd
        have g2 := p2 (by simp [hd])
        have g4 := p4 (by simp [hd])
        have k6 := hcl 6 _ rfl
        simp [Region.binds] at k6
        have k7 := hcl 7 _ rfl
        simp [Region.binds] at k7
        have k8 := hcl 8 _ rfl
        simp [Region.binds] at k8
        have k14 := hcl 14 _ rfl
        simp [Region.binds] at k14
        have k15 := hcl 15 _ rfl
        simp [Region.binds] at k15
        have hg : Below u.heap.size u (u.alloc (.cells #[.int .i64 (site : Int), .int .i64 (label : Int)] 3)) := (Below.refl _ _).alloc (Nat.le_refl _) _
        rw [if_pos (by rfl)]
        simp only [Oper.wpv]
        go_simp
        exact hK _ _ ⟨bC, u.heap.size, (sT hb hg), p0, p1, p2, p3, p4, fun h => absurd (show L 6 = true from h) (by intro hh; have a6 := k6 hh; simp [hk] at a6), fun h => absurd (show L 7 = true from h) (by intro hh; have a7 := k7 hh; have a6 := k6 (by simp [a7]); simp [hk] at a6), fun h => absurd (show L 8 = true from h) (by intro hh; have a8 := k8 hh; have a7 := k7 (by simp [a8]); have a6 := k6 (by simp [a7]); simp [hk] at a6), p9, p10, p11, p12, p13, fun h => absurd (show L 14 = true from h) (by intro hh; have a14 := k14 hh; have a8 := k8 (by simp [a14]); have a7 := k7 (by simp [a8]); have a6 := k6 (by simp [a7]); simp [hk] at a6), fun h => absurd (show L 15 = true from h) (by intro hh; have a15 := k15 hh; have a14 := k14 (by simp [a15]); have a8 := k8 (by simp [a14]); have a7 := k7 (by simp [a8]); have a6 := k6 (by simp [a7]); simp [hk] at a6), q3, fun h0 => ⟨Nat.lt_of_lt_of_le ((wc h0)).1 hg.size, (hg.cell (p := ⟨bC, q, none⟩) ((wc h0)).1).trans ((wc h0)).2⟩, fun _ => ⟨rfl, hb.size, by simp⟩, fun _ => boxn_new u #[.int .i64 (site : Int), .int .i64 (label : Int)] 3 2 rfl⟩
      · rintro L T u hd hk hcl ⟨bC, bA, hb, p0, p1, p2, p3, p4, p6, p7, p8, p9, p10, p11, p12, p13, p14, p15, q3, wc, pa5, bv5⟩ K hK
        simp only [fr, Act.put, List.setIfInBounds_toArray, List.set_cons_zero, List.set_cons_succ, updO] at hK ⊢
        simp [Region.binds] at hd
        have g5 := pa5 (by simp [hd])
        rw [if_pos (by rfl)]
        simp only [Oper.wpv]
        go_simp
        refine (HBl.out u bA (bv5 (by simp [hd]))).mono ?_
        rintro e u1 ⟨rfl, hg⟩
        exact hK _ _ ⟨bC, bA, sT hb hg, p0, p1, p2, p3, p4, fun _ => rfl, p7, p8, p9, p10, p11, p12, p13, p14, p15, q3, fun h0 => ⟨Nat.lt_of_lt_of_le ((wc h0)).1 hg.size, (hg.cell (p := ⟨bC, q, none⟩) ((wc h0)).1).trans ((wc h0)).2⟩, fun h0 => ⟨(pa5 h0).1, (pa5 h0).2.1, Nat.lt_of_lt_of_le (pa5 h0).2.2 hg.size⟩, fun h0 => (bv5 h0).below hg (bv5 h0).lt⟩
      · rintro L T u hd hk hcl ⟨bC, bA, hb, p0, p1, p2, p3, p4, p6, p7, p8, p9, p10, p11, p12, p13, p14, p15, q3, wc, pa5, bv5⟩ K hK
        simp only [fr, Act.put, List.setIfInBounds_toArray, List.set_cons_zero, List.set_cons_succ, updO] at hK ⊢
        simp [Region.binds] at hd
        have g0 := p0 (by simp [hd])
        have g6 := p6 (by simp [hd])
        obtain ⟨q1, q2⟩ := HZ1.out
        rw [if_pos (by rfl)]
        simp only [Oper.wpv]
        go_simp
        exact hK _ _ ⟨bC, bA, hb, p0, p1, p2, p3, p4, p6, fun _ => rfl, p8, p9, p10, p11, p12, p13, p14, p15, q3, wc, pa5, bv5⟩
      · rintro L T u hd hk hcl ⟨bC, bA, hb, p0, p1, p2, p3, p4, p6, p7, p8, p9, p10, p11, p12, p13, p14, p15, q3, wc, pa5, bv5⟩ K hK
        simp only [fr, Act.put, List.setIfInBounds_toArray, List.set_cons_zero, List.set_cons_succ, updO] at hK ⊢
        simp [Region.binds] at hd
        have g7 := p7 (by simp [hd])
        obtain ⟨q1, q2⟩ := HZ2.out
        rw [if_pos (by rfl)]
        simp only [Oper.wpv]
        go_simp
        exact hK _ _ ⟨bC, bA, hb, p0, p1, p2, p3, p4, p6, p7, fun _ => rfl, p9, p10, p11, p12, p13, p14, p15, q3, wc, pa5, bv5⟩
      · rintro L T u hd hk hcl ⟨bC, bA, hb, p0, p1, p2, p3, p4, p6, p7, p8, p9, p10, p11, p12, p13, p14, p15, q3, wc, pa5, bv5⟩ K hK
        simp only [fr, Act.put, List.setIfInBounds_toArray, List.set_cons_zero, List.set_cons_succ, updO] at hK ⊢
        simp [Region.binds] at hd
        have k12 := hcl 12 _ rfl
        simp [Region.binds] at k12
        have k13 := hcl 13 _ rfl
        simp [Region.binds] at k13
        have k14 := hcl 14 _ rfl
        simp [Region.binds] at k14
        have k15 := hcl 15 _ rfl
        simp [Region.binds] at k15
        rw [if_pos (by rfl)]
        simp only [Oper.wpv]
        go_simp
        refine (hCw.out u).mono ?_
        rintro e u1 ⟨b8, rfl, h8, hg⟩
        exact hK _ _ ⟨b8, bA, sT hb hg, p0, p1, p2, p3, p4, p6, p7, p8, fun _ => rfl, p10, p11, fun h => absurd (show L 12 = true from h) (by intro hh; have a12 := k12 hh; simp [hk] at a12), fun h => absurd (show L 13 = true from h) (by intro hh; have a13 := k13 hh; have a12 := k12 (by simp [a13]); simp [hk] at a12), fun h => absurd (show L 14 = true from h) (by intro hh; have a14 := k14 hh; have a13 := k13 (by simp [a14]); have a12 := k12 (by simp [a13]); simp [hk] at a12), fun h => absurd (show L 15 = true from h) (by intro hh; have a15 := k15 hh; have a14 := k14 (by simp [a15]); have a13 := k13 (by simp [a14]); have a12 := k12 (by simp [a13]); simp [hk] at a12), q3, fun _ => h8, fun h0 => ⟨(pa5 h0).1, (pa5 h0).2.1, Nat.lt_of_lt_of_le (pa5 h0).2.2 hg.size⟩, fun h0 => (bv5 h0).below hg (bv5 h0).lt⟩
      · rintro L T u hd hk hcl ⟨bC, bA, hb, p0, p1, p2, p3, p4, p6, p7, p8, p9, p10, p11, p12, p13, p14, p15, q3, wc, pa5, bv5⟩ K hK
        simp only [fr, Act.put, List.setIfInBounds_toArray, List.set_cons_zero, List.set_cons_succ, updO] at hK ⊢
        simp [Region.binds] at hd
        rw [if_pos (by rfl)]
        simp only [Oper.wpv]
        go_simp
        exact hK _ _ ⟨bC, bA, hb, p0, p1, p2, p3, p4, p6, p7, p8, p9, fun _ => rfl, p11, p12, p13, p14, p15, q3, wc, pa5, bv5⟩
      · rintro L T u hd hk hcl ⟨bC, bA, hb, p0, p1, p2, p3, p4, p6, p7, p8, p9, p10, p11, p12, p13, p14, p15, q3, wc, pa5, bv5⟩ K hK
        simp only [fr, Act.put, List.setIfInBounds_toArray, List.set_cons_zero, List.set_cons_succ, updO] at hK ⊢
        simp [Region.binds] at hd
        have g10 := p10 (by simp [hd])
        obtain ⟨x0, x1, x2, x3, x4, x5, x6, x7, x8, x9, x10, x11, zx⟩ := KX.out u (HWB.out u hb).2
        have bxq := KC.out u hb
        have y0 := (bxq.c 0 (by decide)).1
        have yz := bxq.lt
        rw [if_pos (by rfl)]
        simp only [Oper.wpv]
        go_simp
        exact hK _ _ ⟨bC, bA, hb, p0, p1, p2, p3, p4, p6, p7, p8, p9, p10, fun _ => rfl, p12, p13, p14, p15, q3, wc, pa5, bv5⟩
      · rintro L T u hd hk hcl ⟨bC, bA, hb, p0, p1, p2, p3, p4, p6, p7, p8, p9, p10, p11, p12, p13, p14, p15, q3, wc, pa5, bv5⟩ K hK
        simp only [fr, Act.put, List.setIfInBounds_toArray, List.set_cons_zero, List.set_cons_succ, updO] at hK ⊢
        simp [Region.binds] at hd
        have g9 := p9 (by simp [hd])
        have g11 := p11 (by simp [hd])
        rw [if_pos (by rfl)]
        simp only [Oper.wpv]
        go_simp
        exact hK _ _ ⟨bC, bA, hb, p0, p1, p2, p3, p4, p6, p7, p8, p9, p10, p11, fun _ => rfl, p13, p14, p15, q3, wc, pa5, bv5⟩
      · rintro L T u hd hk hcl ⟨bC, bA, hb, p0, p1, p2, p3, p4, p6, p7, p8, p9, p10, p11, p12, p13, p14, p15, q3, wc, pa5, bv5⟩ K hK
        simp only [fr, Act.put, List.setIfInBounds_toArray, List.set_cons_zero, List.set_cons_succ, updO] at hK ⊢
        simp [Region.binds] at hd
        have g12 := p12 (by simp [hd])
        have k3 := hcl 12 _ rfl
        simp [Region.binds] at k3
        have a3 : L 12 = true := by simp [hd]
        have a0 : L 9 = true := by simp [k3 a3]
        obtain ⟨w1, w2⟩ := wc a0
        obtain ⟨x0, x1, x2, x3, x4, x5, x6, x7, x8, x9, x10, x11, zx⟩ := KX.out u (HWB.out u hb).2
        have bxq := KC.out u hb
        have y0 := (bxq.c 0 (by decide)).1
        have yz := bxq.lt
        rw [if_pos (by rfl)]
        simp only [Oper.wpv]
        go_simp
        exact hK _ _ ⟨bC, bA, hb, p0, p1, p2, p3, p4, p6, p7, p8, p9, p10, p11, p12, fun _ => rfl, p14, p15, q3, wc, pa5, bv5⟩
      · rintro L T u hd hk hcl ⟨bC, bA, hb, p0, p1, p2, p3, p4, p6, p7, p8, p9, p10, p11, p12, p13, p14, p15, q3, wc, pa5, bv5⟩ K hK
        simp only [fr, Act.put, List.setIfInBounds_toArray, List.set_cons_zero, List.set_cons_succ, updO] at hK ⊢
        simp [Region.binds] at hd
        have g8 := p8 (by simp [hd])
        have g13 := p13 (by simp [hd])
        obtain ⟨q1, q2⟩ := HZ3.out
        rw [if_pos (by rfl)]
        simp only [Oper.wpv]
        go_simp
        exact hK _ _ ⟨bC, bA, hb, p0, p1, p2, p3, p4, p6, p7, p8, p9, p10, p11, p12, p13, fun _ => rfl, p15, q3, wc, pa5, bv5⟩
      · rintro L T u hd hk hcl ⟨bC, bA, hb, p0, p1, p2, p3, p4, p6, p7, p8, p9, p10, p11, p12, p13, p14, p15, q3, wc, pa5, bv5⟩ K hK
        simp only [fr, Act.put, List.setIfInBounds_toArray, List.set_cons_zero, List.set_cons_succ, updO] at hK ⊢
        simp [Region.binds] at hd
        have g14 := p14 (by simp [hd])
        rw [if_pos (by rfl)]
        simp only [Oper.wpv]
        go_simp
        exact hK _ _ ⟨bC, bA, hb, p0, p1, p2, p3, p4, p6, p7, p8, p9, p10, p11, p12, p13, p14, fun _ => rfl, fun h => Bool.noConfusion (show true = false from h), wc, pa5, bv5⟩
    · rintro L T u hl ⟨bC, bA, hb, p0, p1, p2, p3, p4, p6, p7, p8, p9, p10, p11, p12, p13, p14, p15, q3, wc, pa5, bv5⟩
      simp only [fr, Act.put, List.setIfInBounds_toArray, List.set_cons_zero, List.set_cons_succ]
      have h3 := p15 (hl 15 (by decide))
      have hWu := HWB.out u hb
      obtain ⟨x0, x1, x2, x3, x4, x5, x6, x7, x8, x9, x10, x11, zx⟩ := KX.out u hWu.2
      have bxq := KC.out u hb
      have y0 := (bxq.c 0 (by decide)).1
      have y1 := (bxq.c 1 (by decide)).1
      have y2 := (bxq.c 2 (by decide)).1
      have y3 := (bxq.c 3 (by decide)).1
      have y4 := (bxq.c 4 (by decide)).1
      have yz := bxq.lt
      clear p0 p1 p2 p3 p4 p6 p7 p8 p9 p10 p11 p12 p13 p14 p15 q3 wc pa5 bv5 HBl hCw HZ1 HZ2 HZ3 HWB KC bxq
      rw [h3]
      clear h3
      have a2 := HA2.out
      have a3 := HA3.out
      have a4 := HA4.out
      clear HA2 HA3 HA4
      rcases (by omega : q = 1 ∨ q = 2 ∨ q = 3 ∨ q = 4 ∨ q = 5) with rfl | rfl | rfl | rfl | rfl
      · have hz := HZero.out rfl
        have h4 := HZ4.out.1
        rw [hz, show T3 ++ (⟨#[]⟩ : ByteArray) = T3 from by apply ByteArray.ext; simp] at h4
        subst h4
        have q3 := HZ5.out
        clear KX HAr HZ4 HZ5 HZero hz a2 a3 a4
        go_wp2
        go_ret
        exact ⟨rfl, hWu.1⟩
      · have hAA := a2 rfl
        clear a2 a3 a4
        obtain ⟨Y, eY⟩ : ∃ Y : World, Y = u.alloc (.cells #[.int .i64 (c1 : Int), .int .i64 (c2 : Int), .int .i64 (c3 : Int)] 3) := ⟨_, rfl⟩
        have bY : Below u.heap.size u Y := by rw [eY]; exact (Below.refl _ _).alloc (Nat.le_refl _) _
        have bx : BoxN Y u.heap.size 3 [.int .i64 (c1 : Int), .int .i64 (c2 : Int), .int .i64 (c3 : Int)] := by rw [eY]; exact boxn_new u #[.int .i64 (c1 : Int), .int .i64 (c2 : Int), .int .i64 (c3 : Int)] 3 3 rfl
        have hBl := HAr.out Y u.heap.size 3 (by rw [hAA]; exact bx) (by rw [hAA]; rfl) (by omega)
        obtain ⟨q1, q2⟩ := HZ4.out
        have q3 := HZ5.out
        clear bx KX HAr HZ4 HZ5 HZero hAA
        go_wp2_with (go_at_call 53; rw [← eY]; refine hBl.mono ?_; rintro e u2 ⟨rfl, bu2⟩)
        go_ret
        exact ⟨rfl, (hWu.1).trans ((bY.trans (bu2.mono bY.size)).mono hWu.1.size)⟩
      · have hAA := a3 rfl
        clear a2 a3 a4
        obtain ⟨Y, eY⟩ : ∃ Y : World, Y = u.alloc (.cells #[.int .i64 (c1 : Int), .int .i64 (c3 : Int), .int .i64 (c4 : Int)] 3) := ⟨_, rfl⟩
        have bY : Below u.heap.size u Y := by rw [eY]; exact (Below.refl _ _).alloc (Nat.le_refl _) _
        have bx : BoxN Y u.heap.size 3 [.int .i64 (c1 : Int), .int .i64 (c3 : Int), .int .i64 (c4 : Int)] := by rw [eY]; exact boxn_new u #[.int .i64 (c1 : Int), .int .i64 (c3 : Int), .int .i64 (c4 : Int)] 3 3 rfl
        have hBl := HAr.out Y u.heap.size 3 (by rw [hAA]; exact bx) (by rw [hAA]; rfl) (by omega)
        obtain ⟨q1, q2⟩ := HZ4.out
        have q3 := HZ5.out
        clear bx KX HAr HZ4 HZ5 HZero hAA
        go_wp2_with (go_at_call 53; rw [← eY]; refine hBl.mono ?_; rintro e u2 ⟨rfl, bu2⟩)
        go_ret
        exact ⟨rfl, (hWu.1).trans ((bY.trans (bu2.mono bY.size)).mono hWu.1.size)⟩
      · have hAA := a4 (Or.inl rfl)
        clear a2 a3 a4
        obtain ⟨Y, eY⟩ : ∃ Y : World, Y = u.alloc (.cells #[.int .i64 (c1 : Int)] 3) := ⟨_, rfl⟩
        have bY : Below u.heap.size u Y := by rw [eY]; exact (Below.refl _ _).alloc (Nat.le_refl _) _
        have bx : BoxN Y u.heap.size 1 [.int .i64 (c1 : Int)] := by rw [eY]; exact boxn_new u #[.int .i64 (c1 : Int)] 3 1 rfl
        have hBl := HAr.out Y u.heap.size 1 (by rw [hAA]; exact bx) (by rw [hAA]; rfl) (by omega)
        obtain ⟨q1, q2⟩ := HZ4.out
        have q3 := HZ5.out
        clear bx KX HAr HZ4 HZ5 HZero hAA
        go_wp2_with (go_at_call 53; rw [← eY]; refine hBl.mono ?_; rintro e u2 ⟨rfl, bu2⟩)
        go_ret
        exact ⟨rfl, (hWu.1).trans ((bY.trans (bu2.mono bY.size)).mono hWu.1.size)⟩
      · have hAA := a4 (Or.inr rfl)
        clear a2 a3 a4
        obtain ⟨Y, eY⟩ : ∃ Y : World, Y = u.alloc (.cells #[.int .i64 (c1 : Int)] 3) := ⟨_, rfl⟩
        have bY : Below u.heap.size u Y := by rw [eY]; exact (Below.refl _ _).alloc (Nat.le_refl _) _
        have bx : BoxN Y u.heap.size 1 [.int .i64 (c1 : Int)] := by rw [eY]; exact boxn_new u #[.int .i64 (c1 : Int)] 3 1 rfl
        have hBl := HAr.out Y u.heap.size 1 (by rw [hAA]; exact bx) (by rw [hAA]; rfl) (by omega)
        obtain ⟨q1, q2⟩ := HZ4.out
        have q3 := HZ5.out
        clear bx KX HAr HZ4 HZ5 HZero hAA
        go_wp2_with (go_at_call 53; rw [← eY]; refine hBl.mono ?_; rintro e u2 ⟨rfl, bu2⟩)
        go_ret
        exact ⟨rfl, (hWu.1).trans ((bY.trans (bu2.mono bY.size)).mono hWu.1.size)⟩
end Go.Proofs.YtlaagfnoepcnlaaDoor.Ln
