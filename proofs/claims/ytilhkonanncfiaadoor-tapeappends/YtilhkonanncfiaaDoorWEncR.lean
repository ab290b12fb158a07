/- The contract of wire.EncodeRecord: a record that may be as its bytes, in new memory; else the fault that recFault tells. -/
import Derived.Test.YtilhkonanncfiaaDoorWEncM
import Derived.Test.YtilhkonanncfiaaDoorWCheckR
import Derived.Deep.DeepCutAuto
import Derived.Deep.CutBlock
namespace Go.Proofs.YtilhkonanncfiaaDoor
open Go.ChangeShapes Go.WideShapes Go.ChangeAt Go.RowKit
set_option linter.unusedVariables false

def RcV.parts (r : RcV) : List Int := [0, r.key, r.value, 0, r.ask, bit r.yes, 0, (r.sl : Int)]
def recBytes (r : RcV) : List Int := ([r.kind] ++ (r.site :: be r.num 3)) ++ encParts (rHasOf r.kind) widL r.parts ++ r.sites

theorem may_rec {s : Int} {ls : List (Int × Int)} {p : Int} {m : RcV} (h : recFault s ls p m = 0) : cfgFault s ls p = 0 ∧ inR m.kind 1 6 = true ∧ recRange s ls.length m = true ∧ recForm m = true := by
  unfold recFault at h
  split at h
  · omega
  split at h
  · omega
  split at h
  · omega
  split at h
  · omega
  simp_all

theorem rising_mem {s : Int} : ∀ (l : List Int) (lo : Int), rising s lo l = true → 0 ≤ lo → ∀ x ∈ l, lo ≤ x ∧ x ≤ s - 1 := by
  intro l
  induction l with
  | nil => intro lo _ _ x hx; simp at hx
  | cons a l ih =>
    intro lo h h0 x hx
    simp only [rising, Bool.and_eq_true] at h
    have ha := inR_of h.1
    rcases List.mem_cons.1 hx with rfl | hx
    · exact ha
    · have := ih (a + 1) h.2 (by omega) x hx
      omega

theorem rHas_8 (k : Nat) (hk : k < 7) : rHas.getD k [] = [(rHas.getD k []).getD 0 false, (rHas.getD k []).getD 1 false, (rHas.getD k []).getD 2 false, (rHas.getD k []).getD 3 false, (rHas.getD k []).getD 4 false, (rHas.getD k []).getD 5 false, (rHas.getD k []).getD 6 false, (rHas.getD k []).getD 7 false] := by
  rcases (by omega : k = 0 ∨ k = 1 ∨ k = 2 ∨ k = 3 ∨ k = 4 ∨ k = 5 ∨ k = 6) with rfl | rfl | rfl | rfl | rfl | rfl | rfl <;> rfl

def widthL : List Nat → Nat
  | [] => 0
  | k :: ks => k + widthL ks

theorem encParts_len : ∀ (hs : List Bool) (ws : List Nat) (ps : List Int), (encParts hs ws ps).length ≤ widthL ws := by
  intro hs
  induction hs with
  | nil => intro ws ps; simp [encParts]
  | cons h hs ih =>
    intro ws ps
    cases ws with
    | nil => simp [encParts]
    | cons k ws =>
      cases ps with
      | nil => simp [encParts]
      | cons q ps =>
        have := ih ws ps
        simp only [encParts, widthL, List.length_append]
        cases h <;> simp [be_len] <;> omega

set_option maxRecDepth 100000 in
set_option maxHeartbeats 4000000 in
theorem encodeRecord_any (s p : Int) (a : Option Addr) (len cap : Nat) (ls : List (Int × Int)) (r : RcV) (w : World) (h : IsLabs w a len cap ls) (hi : IsInts w r.sa r.sl r.sc r.sites) (hm : HasAt w 1 rHas) (ht : TopsAt w) (hwd : WidsAt w) :
    Calls Tryd.prog 8 #[.agg #[.int .i64 s, .slice a len cap, .int .i64 p], r.val] w fun e w' => BytesAns w w' e (if recFault s ls p r = 0 then recBytes r else []) (recFault s ls p r) := by
  have hgT : 3 < w.heap.size := World.block_lt_of_cell? w _ ht.1
  have hgM : 1 < w.heap.size := hm.lt (by decide)
  have hgW : 2 < w.heap.size := hwd.lt
  have hmx : r.sl ≤ maxLen := Nat.le_trans hi.2.1 hi.2.2.1
  have hPs := fun w' => recordParts_any r w' hmx
  have hCk := fun w' h1 h2 h3 h4 => checkRecord_any s p a len cap ls r w' h1 h2 h3 h4
  have hMay := @may_rec s ls p r
  have EB : Hid (∀ (hs : List Bool), rHasOf r.kind = hs → recBytes r = ([r.kind] ++ (r.site :: be r.num 3)) ++ encParts hs widL [0, r.key, r.value, 0, r.ask, bit r.yes, 0, (r.sl : Int)] ++ r.sites) := by
    show ∀ (hs : List Bool), rHasOf r.kind = hs → recBytes r = _
    intro hs e
    rw [← e]
    rfl
  obtain ⟨kind, site, num, key, value, ask, yes, sa, sl, sc, sites⟩ := r
  simp only [RcV.val] at hPs hCk hMay EB hi hmx ⊢
  obtain ⟨FV, eFV⟩ : ∃ FV, FV = recFault s ls p ⟨kind, site, num, key, value, ask, yes, sa, sl, sc, sites⟩ := ⟨_, rfl⟩
  obtain ⟨MB, eMB⟩ : ∃ MB, MB = recBytes ⟨kind, site, num, key, value, ask, yes, sa, sl, sc, sites⟩ := ⟨_, rfl⟩
  rw [← eFV] at hCk hMay ⊢
  rw [← eMB] at EB ⊢
  clear eFV eMB
  obtain ⟨W, hW⟩ : ∃ W : World, W = (w.alloc (.cells #[.int .i64 s, .slice a len cap, .int .i64 p] 24)).alloc (.cells #[.int .i64 kind, .int .i64 site, .int .i64 num, .int .i64 key, .int .i64 value, .int .i64 ask, .bool yes, .slice sa sl sc] 36) := ⟨_, rfl⟩
  have hB : Below w.heap.size w W := by rw [hW]; exact ((Below.refl _ _).alloc (Nat.le_refl _) _).alloc (by simp) _
  have zW : W.heap.size = w.heap.size + 2 := by rw [hW]; simp
  have c0 : W.cell? ⟨w.heap.size, 0, none⟩ = some (.int .i64 s) := by rw [hW]; go_simp
  have c1 : W.cell? ⟨w.heap.size, 1, none⟩ = some (.slice a len cap) := by rw [hW]; go_simp
  have c2 : W.cell? ⟨w.heap.size, 2, none⟩ = some (.int .i64 p) := by rw [hW]; go_simp
  have d0 : W.cell? ⟨w.heap.size + 1, 0, none⟩ = some (.int .i64 kind) := by rw [hW]; go_simp
  have d1 : W.cell? ⟨w.heap.size + 1, 1, none⟩ = some (.int .i64 site) := by rw [hW]; go_simp
  have d2 : W.cell? ⟨w.heap.size + 1, 2, none⟩ = some (.int .i64 num) := by rw [hW]; go_simp
  have d3 : W.cell? ⟨w.heap.size + 1, 3, none⟩ = some (.int .i64 key) := by rw [hW]; go_simp
  have d4 : W.cell? ⟨w.heap.size + 1, 4, none⟩ = some (.int .i64 value) := by rw [hW]; go_simp
  have d5 : W.cell? ⟨w.heap.size + 1, 5, none⟩ = some (.int .i64 ask) := by rw [hW]; go_simp
  have d6 : W.cell? ⟨w.heap.size + 1, 6, none⟩ = some (.bool yes) := by rw [hW]; go_simp
  have d7 : W.cell? ⟨w.heap.size + 1, 7, none⟩ = some (.slice sa sl sc) := by rw [hW]; go_simp
  have hLW := h.below hB
  have hIW := hi.below hB
  have tW : TopsAt W := ht.below hB (by omega)
  have mW : HasAt W 1 rHas := hm.below hB (by omega)
  have wW : WidsAt W := hwd.below hB (by omega)
  have z1 : w.heap.size + 1 < W.heap.size := by omega
  have z0 : w.heap.size < W.heap.size := by omega
  have zM : 1 < W.heap.size := by omega
  go_enter Tryd.func8, Tryd.ntmps8
  go_upto_region 1 with (fail)
  rw [← hW]
  clear hW
  go_upto_region 2 with (go_at_call 23; refine (hCk _ hLW hIW mW tW).mono ?_; rintro e w1 ⟨rfl, hb1⟩)
  obtain ⟨hc, hf⟩ := bcell hb1
  by_cases hF : FV = 0
  · have hF0 := hF
    subst hF
    obtain ⟨hcf, hk, hr, hform⟩ := hMay rfl
    clear hMay
    obtain ⟨s1, s4, n1, n6, _, _, _⟩ := cfg_zero hcf
    have kb := inR_of hk
    have hr' := hr
    simp only [recRange, txnOK, partsOK, inTops, topL, Bool.and_eq_true] at hr'
    have b3 := inR_of hr'.1.1.1
    have bl := inR_of hr'.1.2.1.1.2.2.2.2.2.2.2.1
    have hmem : ∀ x ∈ sites, 0 ≤ x ∧ x < 256 := fun x hx => by have := rising_mem sites 0 hr'.2 (by omega) x hx; omega
    clear hr hr' hform hcf hk
    obtain ⟨k, rfl⟩ : ∃ k : Nat, kind = k := ⟨kind.toNat, by omega⟩
    have k7 : k < 7 := by omega
    have k7' : (k : Int) < 7 := by omega
    have u1 := u8_id (n := (k : Int)) (by omega) (by omega)
    obtain ⟨V, hV⟩ : ∃ V : World, V = w1.alloc (.cells #[.int .u8 (k : Int)] 5) := ⟨_, rfl⟩
    have oV : V.ownsRow W.heap.size 5 1 (.slice (some ⟨w1.heap.size, 0, none⟩) 1 1) 1 (bytesV [(k : Int)]) := by rw [hV]; exact own_lit1 _ hb1.size
    have hWV : Below W.heap.size W V := by rw [hV]; exact hb1.alloc hb1.size _
    rw [hV] at oV hWV
    clear hV V
    have y1 : w.heap.size + 1 < w1.heap.size := by have := hb1.size; omega
    have y0 : w.heap.size < w1.heap.size := by have := hb1.size; omega
    have hst : 0 ≤ site ∧ site < 256 := by omega
    go_upto_region 4 with (fail)
    go_upto_region 5 with (go_at_call 15; refine (appendTxn_any W.heap.size _ 1 1 [(k : Int)] site num _ hst (by omega) hWV.size oV).mono ?_; rintro e w2 ⟨a2, v2, rfl, own2, gr2, by2⟩)
    have hW2 : Below W.heap.size W w2 := hWV.grown gr2 hWV.size (fun q hq => (oV.lt q hq).1)
    clear hc hf
    have EH : Hid (rHas.getD k [] = [(rHas.getD k []).getD 0 false, (rHas.getD k []).getD 1 false, (rHas.getD k []).getD 2 false, (rHas.getD k []).getD 3 false, (rHas.getD k []).getD 4 false, (rHas.getD k []).getD 5 false, (rHas.getD k []).getD 6 false, (rHas.getD k []).getD 7 false]) := rHas_8 k k7
    have f0 := mW k 0 k7 (by decide)
    have f1 := mW k 1 k7 (by decide)
    have f2 := mW k 2 k7 (by decide)
    have f3 := mW k 3 k7 (by decide)
    have f4 := mW k 4 k7 (by decide)
    have f5 := mW k 5 k7 (by decide)
    have f6 := mW k 6 k7 (by decide)
    have f7 := mW k 7 k7 (by decide)
    obtain ⟨h0, eh0⟩ : ∃ x, x = (rHas.getD k []).getD 0 false := ⟨_, rfl⟩
    obtain ⟨h1, eh1⟩ : ∃ x, x = (rHas.getD k []).getD 1 false := ⟨_, rfl⟩
    obtain ⟨h2, eh2⟩ : ∃ x, x = (rHas.getD k []).getD 2 false := ⟨_, rfl⟩
    obtain ⟨h3, eh3⟩ : ∃ x, x = (rHas.getD k []).getD 3 false := ⟨_, rfl⟩
    obtain ⟨h4, eh4⟩ : ∃ x, x = (rHas.getD k []).getD 4 false := ⟨_, rfl⟩
    obtain ⟨h5, eh5⟩ : ∃ x, x = (rHas.getD k []).getD 5 false := ⟨_, rfl⟩
    obtain ⟨h6, eh6⟩ : ∃ x, x = (rHas.getD k []).getD 6 false := ⟨_, rfl⟩
    obtain ⟨h7, eh7⟩ : ∃ x, x = (rHas.getD k []).getD 7 false := ⟨_, rfl⟩
    rw [← eh0, ← eh1, ← eh2, ← eh3, ← eh4, ← eh5, ← eh6, ← eh7] at EH
    rw [← eh0] at f0
    rw [← eh1] at f1
    rw [← eh2] at f2
    rw [← eh3] at f3
    rw [← eh4] at f4
    rw [← eh5] at f5
    rw [← eh6] at f6
    rw [← eh7] at f7
    clear eh0 eh1 eh2 eh3 eh4 eh5 eh6 eh7
    simp only [Nat.add_zero] at f0
    obtain ⟨hb0, ehb0⟩ : ∃ hb0, hb0 = ([(k : Int)] ++ (site :: be num 3)) ++ encParts [h0, h1, h2, h3, h4, h5, h6, h7] widL [0, key, value, 0, ask, bit yes, 0, (sl : Int)] := ⟨_, rfl⟩
    have EB2 : Hid (MB = hb0 ++ sites) := by rw [ehb0]; exact EB.out _ (by simpa [rHasOf] using EH.out)
    have E0 : Hid (hb0 = ([(k : Int)] ++ (site :: be num 3)) ++ encParts [h0, h1, h2, h3, h4, h5, h6, h7] widL [0, key, value, 0, ask, bit yes, 0, (sl : Int)]) := ehb0
    have hb0len : hb0.length ≤ 20 := by
      rw [ehb0]
      have := encParts_len [h0, h1, h2, h3, h4, h5, h6, h7] widL [0, key, value, 0, ask, bit yes, 0, (sl : Int)]
      rw [show widthL widL = 15 from rfl] at this
      simp [be_len]
      omega
    have hbyt0 : Byt hb0 := by
      rw [ehb0]
      refine Byt.app (Byt.app ?_ ?_) (encParts_byt _ _ _)
      · intro x hx; simp at hx; omega
      · intro x hx
        rcases List.mem_cons.1 hx with rfl | hx
        · omega
        · exact be_byt _ _ x hx
    clear EB EH ehb0
    have hD : Below w2.heap.size w2 w2.drew := (Below.refl _ _).drew
    have hWD : Below W.heap.size W w2.drew := hW2.trans (hD.mono hW2.size)
    have oD := own_bel own2 hD
    have KC : Hid (∀ V : World, Below W.heap.size W V → ∀ b o, b < W.heap.size → V.cell? ⟨b, o, none⟩ = W.cell? ⟨b, o, none⟩) := fun V hV b o hb => hV.cell (p := ⟨b, o, none⟩) hb
    have hc := KC.out _ hW2
    obtain ⟨hlen, hcap, hmax, hbd, hmemI⟩ := hIW
    have HL : Hid (sites.length = sl) := hlen
    clear hlen
    have sl4 : sl ≤ 4 := by omega
    have HZ : Hid (W.heap.size = w.heap.size + 2) := zW
    clear zW
    go_cut [7] (fun s7 wc => ∃ a4 v4, s7 = .slice a4 hb0.length v4 ∧ wc.ownsRow W.heap.size 5 1 (.slice a4 hb0.length v4) hb0.length (bytesV hb0) ∧ Below W.heap.size W wc)
    case first =>
      go_region_held3 (fun V => ∀ b o, b < W.heap.size → V.cell? ⟨b, o, none⟩ = W.cell? ⟨b, o, none⟩)
        (first | exact KC.out _ hW2 | exact KC.out _ hWD | exact KC.out _ hW3 | exact KC.out _ hW4)
        (first
          | ((go_at_call 24; refine (hPs _).mono ?_; rintro e w3 ⟨rfl, hb3⟩; have hW3 : Below W.heap.size W w3 := hWD.trans (hb3.mono hWD.size); have o3 := own_bel oD hb3; have wd3 := wW.below hW3 (by omega)))
          | ((go_at_call 16; refine (appendParts_any W.heap.size a2 v2 5 _ h0 h1 h2 h3 h4 h5 h6 h7 0 key value 0 ask (bit yes) 0 (sl : Int) _ wd3 (by omega) hW3.size (by omega) o3).mono ?_; rintro e w4 ⟨a4, v4, cs, rfl, own4, ecs0, gr4, by4⟩; have ecs : Hid (cs = _) := ecs0; clear ecs0; have hW4 : Below W.heap.size W w4 := hW3.grown gr4 hW3.size (fun q hq => (o3.lt q hq).1))))
      all_goals
        have hcs : cs = hb0 := by rw [ecs.out, E0.out]
        clear ecs
        subst hcs
        go_wp2_with fail
        go_meet
        case rel => exact ⟨a4, v4, rfl, own4, hW4⟩
    case rest =>
      have zW := HZ.out
      obtain ⟨a4, v4, rfl, own4, hW4⟩ := hcut
      have hc4 := KC.out _ hW4
      clear hc
      go_wp2
      go_loopw [7, 34] (fun s7 s34 wr => ∃ (j : Nat) (a5 : Option Addr) (v5 : Nat) (cs : List Int), j ≤ sl ∧ s34 = .int .i64 j ∧ s7 = .slice a5 cs.length v5 ∧ wr.ownsRow W.heap.size 5 1 (.slice a5 cs.length v5) cs.length (bytesV cs) ∧ Hid (cs = hb0 ++ sites.take j) ∧ cs.length ≤ 20 + j ∧ Below W.heap.size W wr) (fun _ i _ => sl - (intOf i).toNat)
      case atStart => exact ⟨0, a4, v4, hb0, by omega, rfl, rfl, own4, by show hb0 = _; simp, by omega, hW4⟩
      case round =>
        obtain ⟨j, a5, v5, cs, hj, rfl, rfl, own5, hcs, hcl, hW5⟩ := hrel
        have hc5 := KC.out _ hW5
        by_cases hjl : j < sl
        · obtain ⟨b, off, rfl, hbl, hcell⟩ := hmemI (by omega)
          have hr := hcell j hjl
          rw [← hW5.cell (p := ⟨b, off + j, none⟩) hbl] at hr
          have hjs : j < sites.length := by have := HL.out; omega
          have hx := hmem sites[j] (List.getElem_mem hjs)
          have hget : sites.getD j 0 = sites[j] := by simp [List.getD, hjs]
          rw [← hget] at hx
          have hcs' : Hid (cs ++ [sites.getD j 0] = hb0 ++ sites.take (j + 1)) := by
            show cs ++ [sites.getD j 0] = _
            rw [hcs.out, List.append_assoc, List.take_succ_eq_append_getElem hjs, hget]
          obtain ⟨x, ex⟩ : ∃ x, x = sites.getD j 0 := ⟨_, rfl⟩
          rw [← ex] at hr hx hcs'
          clear ex hget
          obtain ⟨x0, x1⟩ := hx
          have u5 := u8_id x0 x1
          have hjl' : (j : Int) < (sl : Int) := by omega
          have hone := isB_one wr x x0 x1
          clear hcs
          go_wp2_with (at_builtin; go_loud (refine wpList_append_bytes (by rfl) _ _ (by rfl) W.heap.size _ cs.length cs (by rfl) (own5.alloc _) (some ⟨wr.heap.size, 0, none⟩) 1 1 [x] (by rfl) hone (by omega) (by have := hW5.size; simp; omega) ?_))
          intro v' w6 own6 gr6 at6
          obtain ⟨a6, c6, rfl⟩ := own_slice own6
          have hW6 : Below W.heap.size W w6 := (hW5.alloc hW5.size _).grown gr6 (by have := hW5.size; simp; omega) (fun q hq => (own5.lt q hq).1)
          have hl6 : (cs ++ [x]).length = cs.length + 1 := by simp
          clear gr6 at6
          go_wp2
          go_roundw
          case rel => exact ⟨j + 1, a6, c6, cs ++ [x], by omega, by go_num, by rw [hl6], by rw [hl6]; first | exact own6 | (rw [zW]; exact own6), hcs', by rw [hl6]; omega, hW6⟩
          case measure => simp [intOf]; omega
        · have hje : j = sl := by omega
          subst hje
          have hfin : Hid (MB = cs) := by
            show MB = cs
            have e : sites.take j = sites := List.take_of_length_le (by have := HL.out; omega)
            rw [EB2.out, hcs.out, e]
          have hbyt : Byt cs := by
            rw [← hfin.out, EB2.out]
            exact Byt.app hbyt0 hmem
          obtain ⟨hI, hge⟩ := isB_slice own5 hbyt
          have hwW5 := hB.trans (hW5.mono hB.size)
          go_wp2
          go_ret2
          refine ⟨a5, cs.length, v5, rfl, ?_, fun b off e => by have := hge b off e; omega, hwW5⟩
          first | (simpa [hfin.out] using hI) | (rw [if_pos rfl, hfin.out]; exact hI)
  · go_wp2
    go_ret2
    (try rw [if_neg hF])
    exact ⟨none, 0, 0, rfl, isB_nil _, fun b off e => by simp at e, hB.trans (hb1.mono hB.size)⟩
end Go.Proofs.YtilhkonanncfiaaDoor