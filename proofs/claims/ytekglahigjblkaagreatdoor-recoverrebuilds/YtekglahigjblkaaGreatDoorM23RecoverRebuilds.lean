/- Texts of this claim, one behind the other. -/
import Derived.Test.YtekglahigjblkaaGreatDoorM19RecoverRebuilds
import Derived.Test.YtekglahigjblkaaGreatDoorM21RecoverRebuilds
import Derived.Test.YtekglahigjblkaaGreatDoorM22RecoverRebuilds
import Derived.Orders
import Derived.Test.YtekglahigjblkaaGreatDoorM12RecoverRebuilds
import Derived.BigQuiet
/- recover.write and recover.end: what was prepared is written, unless that is refused; a transaction ends, and is not told in the store. -/
namespace Go.Proofs.YtekglahigjblkaaGreatDoor.St
open Go.ChangeShapes Go.WideShapes Go.ChangeAt Go.RowKit
set_option linter.unusedVariables false

/-- A record's numbers. -/
structure RcP where
  kind : Int
  site : Int
  num : Int
  key : Int
  value : Int
  ask : Int
  yes : Bool
  zs : List Int
def RcP.tx (r : RcP) : Int × Int := (r.site, r.num)
/-- Plain data as a store that lies nowhere. -/
def PS.sv (p : PS) : SV := ⟨none, 0, 0, none, 0, 0, none, 0, 0, none, 0, 0, p.items, p.locks, p.doubts, p.over⟩
theorem wErr_sv (s : SV) (t : Int × Int) (key value ask : Int) : writeErr s t key value ask = writeErr s.data.sv t key value ask := rfl
theorem wData_sv (s : SV) (t : Int × Int) (key value ask : Int) : writeData s t key value ask = writeData s.data.sv t key value ask := rfl
theorem eData_sv (s : SV) (t : Int × Int) (yes : Bool) : endData s t yes = endData s.data.sv t yes := rfl
def PS.wr (p : PS) (r : RcP) : PS := if writeErr p.sv r.tx r.key r.value r.ask = 0 then writeData p.sv r.tx r.key r.value r.ask else p
def PS.en (p : PS) (r : RcP) : PS := { endData p.sv r.tx r.yes with over := [] }
/-- A store that comes of a call: what was handed in, or one of its own memory. -/
theorem OwnStore.asideS {w : World} {B r : Nat} {s : SV} (h : OwnStore w B s) (hr : r < B) (j : Nat) (v : Value) : OwnStore (w.setCell ⟨r, j, none⟩ v) B s := by
  have key : ∀ {te : TypeId} {k : Nat} {x : Value} {n : Nat} {xs : List Value}, w.ownsRow B te k x n xs → (w.setCell ⟨r, j, none⟩ v).ownsRow B te k x n xs := fun hx => ownsRow_setCell_other hx (fun e => by have h9 : B ≤ r := (hx.lt _ e).1; omega) v
  exact ⟨key h.items, key h.locks, key h.doubts, key h.over, h.ap_il, h.ap_id, h.ap_io, h.ap_ld, h.ap_lo, h.ap_do⟩
def NewOr (w w' : World) (s r : SV) : Prop := r = s ∨ OwnStore w' w.heap.size r
set_option maxRecDepth 100000 in
set_option maxHeartbeats 4000000 in
theorem recWrite_any (s : SV) (r : RcP) (sa : Option Addr) (sl sc : Nat) (w : World) (h : IsStore w s) (hwf : ∀ t ∈ s.over, TxWf t) (h4 : s.ol * 16 ≤ 140737488351232) :
    Calls Tryz.prog 27 #[s.val, .agg #[.int .i64 r.kind, .int .i64 r.site, .int .i64 r.num, .int .i64 r.key, .int .i64 r.value, .int .i64 r.ask, .bool r.yes, .slice sa sl sc]] w fun e w' => ∃ u : SV, e = .returned u.val ∧ NewOr w w' s u ∧ u.data = s.data.wr r ∧ Below w.heap.size w w' := by
  obtain ⟨kind, site, num, key, value, ask, yes, zs⟩ := r
  have HW : Hid (∀ U, IsStore U s → Calls Tryz.prog 49 #[s.val, .agg #[.int .i64 site, .int .i64 num], .int .i64 key, .int .i64 value, .int .i64 ask] U fun e w' => ∃ r : SV, e = .returned (.tuple #[r.val, .int .i64 (writeErr s (site, num) key value ask)]) ∧ OwnStore w' U.heap.size r ∧ r.data = writeData s (site, num) key value ask ∧ Below U.heap.size U w') := fun U hU => write_own s (site, num) key value ask U hU hwf h4
  have HP : Hid (s.data.wr ⟨kind, site, num, key, value, ask, yes, zs⟩ = if writeErr s (site, num) key value ask = 0 then writeData s (site, num) key value ask else s.data) := rfl
  obtain ⟨E, eE⟩ : ∃ E, E = writeErr s (site, num) key value ask := ⟨_, rfl⟩
  obtain ⟨DD, eD⟩ : ∃ DD, DD = writeData s (site, num) key value ask := ⟨_, rfl⟩
  rw [← eE, ← eD] at HP
  rw [← eE, ← eD] at HW
  clear eE eD
  have HSn : Hid (s = s) := rfl
  obtain ⟨P0, eP0⟩ : ∃ P0, P0 = s.data.wr ⟨kind, site, num, key, value, ask, yes, zs⟩ := ⟨_, rfl⟩
  rw [← eP0] at HP ⊢
  obtain ⟨S0, eS0⟩ : ∃ S0, S0 = s := ⟨_, rfl⟩
  have HS0 : Hid (S0 = s) := eS0
  have hI0 := h
  obtain ⟨ia, il, ic, la, ll, lc, da, dl, dc, oa, ol, oc, its, lks, dbs, ovs⟩ := s
  simp only [SV.val] at HW ⊢
  clear eP0 eS0

  obtain ⟨W, hW⟩ : ∃ W : World, W = ((w.alloc (.cells #[.slice ia il ic, .slice la ll lc, .slice da dl dc, .slice oa ol oc] 31)).alloc (.cells #[.int .i64 kind, .int .i64 site, .int .i64 num, .int .i64 key, .int .i64 value, .int .i64 ask, .bool yes, .slice sa sl sc] 54)).alloc (.cells #[.slice none 0 0, .slice none 0 0, .slice none 0 0, .slice none 0 0] 31) := ⟨_, rfl⟩
  have bW : Below w.heap.size w W := by rw [hW]; exact (((Below.refl _ _).alloc (Nat.le_refl _) _).alloc (by simp) _).alloc (by simp; omega) _
  have zW : W.heap.size = w.heap.size + 3 := by rw [hW]; simp
  have sb : BoxN W w.heap.size 4 [.slice ia il ic, .slice la ll lc, .slice da dl dc, .slice oa ol oc] := by
    rw [hW]
    have h8 := boxn_new w #[.slice ia il ic, .slice la ll lc, .slice da dl dc, .slice oa ol oc] 31 4 rfl
    exact (h8.below ((Below.refl _ _).alloc (Nat.le_refl _) _) h8.lt).below ((Below.refl _ _).alloc (Nat.le_refl _) _) (Nat.lt_of_lt_of_le h8.lt (by simp))
  have rb : BoxN W (w.heap.size + 1) 8 [.int .i64 kind, .int .i64 site, .int .i64 num, .int .i64 key, .int .i64 value, .int .i64 ask, .bool yes, .slice sa sl sc] := by
    rw [hW]
    have h8 := boxn_new (w.alloc (.cells #[.slice ia il ic, .slice la ll lc, .slice da dl dc, .slice oa ol oc] 31)) #[.int .i64 kind, .int .i64 site, .int .i64 num, .int .i64 key, .int .i64 value, .int .i64 ask, .bool yes, .slice sa sl sc] 54 8 rfl
    have h9 := h8.below ((Below.refl _ _).alloc (Nat.le_refl _) (.cells #[.slice none 0 0, .slice none 0 0, .slice none 0 0, .slice none 0 0] 31)) h8.lt
    simpa using h9
  have ob : BoxN W (w.heap.size + 2) 4 [.slice none 0 0, .slice none 0 0, .slice none 0 0, .slice none 0 0] := by
    rw [hW]
    have h8 := boxn_new ((w.alloc (.cells #[.slice ia il ic, .slice la ll lc, .slice da dl dc, .slice oa ol oc] 31)).alloc (.cells #[.int .i64 kind, .int .i64 site, .int .i64 num, .int .i64 key, .int .i64 value, .int .i64 ask, .bool yes, .slice sa sl sc] 54)) #[.slice none 0 0, .slice none 0 0, .slice none 0 0, .slice none 0 0] 31 4 rfl
    simpa using h8
  have s0 : W.cell? ⟨w.heap.size, 0, none⟩ = some (.slice ia il ic) := (sb.c 0 (by decide)).1
  have s1 : W.cell? ⟨w.heap.size, 1, none⟩ = some (.slice la ll lc) := (sb.c 1 (by decide)).1
  have s2 : W.cell? ⟨w.heap.size, 2, none⟩ = some (.slice da dl dc) := (sb.c 2 (by decide)).1
  have s3 : W.cell? ⟨w.heap.size, 3, none⟩ = some (.slice oa ol oc) := (sb.c 3 (by decide)).1
  have sz := sb.lt
  have r0 : W.cell? ⟨w.heap.size + 1, 0, none⟩ = some (.int .i64 kind) := (rb.c 0 (by decide)).1
  have r1 : W.cell? ⟨w.heap.size + 1, 1, none⟩ = some (.int .i64 site) := (rb.c 1 (by decide)).1
  have r2 : W.cell? ⟨w.heap.size + 1, 2, none⟩ = some (.int .i64 num) := (rb.c 2 (by decide)).1
  have r3 : W.cell? ⟨w.heap.size + 1, 3, none⟩ = some (.int .i64 key) := (rb.c 3 (by decide)).1
  have r4 : W.cell? ⟨w.heap.size + 1, 4, none⟩ = some (.int .i64 value) := (rb.c 4 (by decide)).1
  have r5 : W.cell? ⟨w.heap.size + 1, 5, none⟩ = some (.int .i64 ask) := (rb.c 5 (by decide)).1
  have r6 : W.cell? ⟨w.heap.size + 1, 6, none⟩ = some (.bool yes) := (rb.c 6 (by decide)).1
  have r7 : W.cell? ⟨w.heap.size + 1, 7, none⟩ = some (.slice sa sl sc) := (rb.c 7 (by decide)).1
  have rz := rb.lt
  have hIW := hI0.below bW
  have hWr := HW.out W hIW
  clear HW
  go_enter Tryz.func27, Tryz.ntmps27
  go_upto_region 1 with (fail)
  rw [← hW]
  clear hW
  go_upto_region 2 with (go_at_call 49; refine hWr.mono ?_; rintro e U ⟨⟨ja, jl, jc, ka, kl, kc, ea, el, ec, ta, tl, tc, jts, kks, ees, tts⟩, rfl, hO, hd, hb⟩; simp only [])
  clear s0 s1 s2 s3 r0 r1 r2 r3 r4 r5 r6 r7 sz rz hWr

  obtain ⟨Z, eZ⟩ : ∃ Z : World, Z = U.alloc (.cells #[.slice ja jl jc, .slice ka kl kc, .slice ea el ec, .slice ta tl tc] 31) := ⟨_, rfl⟩
  have bZ : Below U.heap.size U Z := by rw [eZ]; exact (Below.refl _ _).alloc (Nat.le_refl _) _
  have jb : BoxN Z U.heap.size 4 [.slice ja jl jc, .slice ka kl kc, .slice ea el ec, .slice ta tl tc] := by rw [eZ]; exact boxn_new U #[.slice ja jl jc, .slice ka kl kc, .slice ea el ec, .slice ta tl tc] 31 4 rfl
  rw [← eZ]
  clear eZ
  have bWZ : Below W.heap.size W Z := hb.trans (bZ.mono hb.size)
  have sbZ := sb.below bWZ (by omega)
  have obZ := ob.below bWZ (by omega)
  have hOZ := hO.below bZ
  have HO : Hid (OwnStore Z W.heap.size ⟨ja, jl, jc, ka, kl, kc, ea, el, ec, ta, tl, tc, jts, kks, ees, tts⟩) := hOZ
  have HD : Hid (SV.data ⟨ja, jl, jc, ka, kl, kc, ea, el, ec, ta, tl, tc, jts, kks, ees, tts⟩ = DD) := hd
  have HbF : Hid (Below w.heap.size w Z) := bW.trans (bWZ.mono bW.size)
  have HZW : Hid (W.heap.size = w.heap.size + 3) := zW
  clear hO hd hOZ
  by_cases hE : E = 0
  · subst hE
    have y0 : Z.cell? ⟨U.heap.size, 0, none⟩ = some (.slice ja jl jc) := (jb.c 0 (by decide)).1
    have y1 : Z.cell? ⟨U.heap.size, 1, none⟩ = some (.slice ka kl kc) := (jb.c 1 (by decide)).1
    have y2 : Z.cell? ⟨U.heap.size, 2, none⟩ = some (.slice ea el ec) := (jb.c 2 (by decide)).1
    have y3 : Z.cell? ⟨U.heap.size, 3, none⟩ = some (.slice ta tl tc) := (jb.c 3 (by decide)).1
    have yz := jb.lt
    have o0 : Z.cell? ⟨w.heap.size + 2, 0, none⟩ = some (.slice none 0 0) := (obZ.c 0 (by decide)).1
    have o1 : Z.cell? ⟨w.heap.size + 2, 1, none⟩ = some (.slice none 0 0) := (obZ.c 1 (by decide)).1
    have o2 : Z.cell? ⟨w.heap.size + 2, 2, none⟩ = some (.slice none 0 0) := (obZ.c 2 (by decide)).1
    have o3 : Z.cell? ⟨w.heap.size + 2, 3, none⟩ = some (.slice none 0 0) := (obZ.c 3 (by decide)).1
    have oz := obZ.lt
    have of0 := (obZ.c 0 (by decide)).2
    have of1 := (obZ.c 1 (by decide)).2
    have of2 := (obZ.c 2 (by decide)).2
    have of3 := (obZ.c 3 (by decide)).2
    go_wp2
    have obF := (((obZ.set 0 (by decide) (.slice ja jl jc)).set 1 (by decide) (.slice ka kl kc)).set 2 (by decide) (.slice ea el ec)).set 3 (by decide) (.slice ta tl tc)
    have hle : w.heap.size ≤ w.heap.size + 2 := by omega
    have bF := (((HbF.out.setCell (p := ⟨w.heap.size + 2, 0, none⟩) hle (.slice ja jl jc)).setCell (p := ⟨w.heap.size + 2, 1, none⟩) hle (.slice ka kl kc)).setCell (p := ⟨w.heap.size + 2, 2, none⟩) hle (.slice ea el ec)).setCell (p := ⟨w.heap.size + 2, 3, none⟩) hle (.slice ta tl tc)
    have hRes : NewOr w ((((Z.setCell ⟨w.heap.size + 2, 0, none⟩ (.slice ja jl jc)).setCell ⟨w.heap.size + 2, 1, none⟩ (.slice ka kl kc)).setCell ⟨w.heap.size + 2, 2, none⟩ (.slice ea el ec)).setCell ⟨w.heap.size + 2, 3, none⟩ (.slice ta tl tc)) S0 ⟨ja, jl, jc, ka, kl, kc, ea, el, ec, ta, tl, tc, jts, kks, ees, tts⟩ ∧ SV.data ⟨ja, jl, jc, ka, kl, kc, ea, el, ec, ta, tl, tc, jts, kks, ees, tts⟩ = P0 := by
      refine ⟨Or.inr ?_, by rw [HD.out, HP.out, if_pos trivial]⟩
      have hlt : w.heap.size + 2 < W.heap.size := by have := HZW.out; omega
      exact ((((HO.out.asideS hlt 0 _).asideS hlt 1 _).asideS hlt 2 _).asideS hlt 3 _).base (by have := HZW.out; omega)
    rw [HS0.out] at hRes
    obtain ⟨Y, eY⟩ : ∃ Y, Y = (((Z.setCell ⟨w.heap.size + 2, 0, none⟩ (.slice ja jl jc)).setCell ⟨w.heap.size + 2, 1, none⟩ (.slice ka kl kc)).setCell ⟨w.heap.size + 2, 2, none⟩ (.slice ea el ec)).setCell ⟨w.heap.size + 2, 3, none⟩ (.slice ta tl tc) := ⟨_, rfl⟩
    rw [← eY] at obF bF hRes ⊢
    clear eY
    have k0 : Y.cell? ⟨w.heap.size + 2, 0, none⟩ = some (.slice ja jl jc) := (obF.c 0 (by decide)).1
    have k1 : Y.cell? ⟨w.heap.size + 2, 1, none⟩ = some (.slice ka kl kc) := (obF.c 1 (by decide)).1
    have k2 : Y.cell? ⟨w.heap.size + 2, 2, none⟩ = some (.slice ea el ec) := (obF.c 2 (by decide)).1
    have k3 : Y.cell? ⟨w.heap.size + 2, 3, none⟩ = some (.slice ta tl tc) := (obF.c 3 (by decide)).1
    exact bodyPost_ret (v := .agg #[.slice ja jl jc, .slice ka kl kc, .slice ea el ec, .slice ta tl tc]) (by simp [results, Tryz.results27, go_sem, k0, k1, k2, k3]) rfl ⟨_, rfl, hRes.1, hRes.2, bF⟩
  · have hE' : (E != 0) = true := by simpa using hE
    have y0 : Z.cell? ⟨w.heap.size, 0, none⟩ = some (.slice ia il ic) := (sbZ.c 0 (by decide)).1
    have y1 : Z.cell? ⟨w.heap.size, 1, none⟩ = some (.slice la ll lc) := (sbZ.c 1 (by decide)).1
    have y2 : Z.cell? ⟨w.heap.size, 2, none⟩ = some (.slice da dl dc) := (sbZ.c 2 (by decide)).1
    have y3 : Z.cell? ⟨w.heap.size, 3, none⟩ = some (.slice oa ol oc) := (sbZ.c 3 (by decide)).1
    have yz := sbZ.lt
    have o0 : Z.cell? ⟨w.heap.size + 2, 0, none⟩ = some (.slice none 0 0) := (obZ.c 0 (by decide)).1
    have o1 : Z.cell? ⟨w.heap.size + 2, 1, none⟩ = some (.slice none 0 0) := (obZ.c 1 (by decide)).1
    have o2 : Z.cell? ⟨w.heap.size + 2, 2, none⟩ = some (.slice none 0 0) := (obZ.c 2 (by decide)).1
    have o3 : Z.cell? ⟨w.heap.size + 2, 3, none⟩ = some (.slice none 0 0) := (obZ.c 3 (by decide)).1
    have oz := obZ.lt
    have of0 := (obZ.c 0 (by decide)).2
    have of1 := (obZ.c 1 (by decide)).2
    have of2 := (obZ.c 2 (by decide)).2
    have of3 := (obZ.c 3 (by decide)).2
    go_wp2
    have obF := (((obZ.set 0 (by decide) (.slice ia il ic)).set 1 (by decide) (.slice la ll lc)).set 2 (by decide) (.slice da dl dc)).set 3 (by decide) (.slice oa ol oc)
    have hle : w.heap.size ≤ w.heap.size + 2 := by omega
    have bF := (((HbF.out.setCell (p := ⟨w.heap.size + 2, 0, none⟩) hle (.slice ia il ic)).setCell (p := ⟨w.heap.size + 2, 1, none⟩) hle (.slice la ll lc)).setCell (p := ⟨w.heap.size + 2, 2, none⟩) hle (.slice da dl dc)).setCell (p := ⟨w.heap.size + 2, 3, none⟩) hle (.slice oa ol oc)
    have hRes : NewOr w ((((Z.setCell ⟨w.heap.size + 2, 0, none⟩ (.slice ia il ic)).setCell ⟨w.heap.size + 2, 1, none⟩ (.slice la ll lc)).setCell ⟨w.heap.size + 2, 2, none⟩ (.slice da dl dc)).setCell ⟨w.heap.size + 2, 3, none⟩ (.slice oa ol oc)) ⟨ia, il, ic, la, ll, lc, da, dl, dc, oa, ol, oc, its, lks, dbs, ovs⟩ ⟨ia, il, ic, la, ll, lc, da, dl, dc, oa, ol, oc, its, lks, dbs, ovs⟩ ∧ SV.data ⟨ia, il, ic, la, ll, lc, da, dl, dc, oa, ol, oc, its, lks, dbs, ovs⟩ = P0 := by
      refine ⟨Or.inl rfl, by rw [HP.out, if_neg hE]⟩
    obtain ⟨Y, eY⟩ : ∃ Y, Y = (((Z.setCell ⟨w.heap.size + 2, 0, none⟩ (.slice ia il ic)).setCell ⟨w.heap.size + 2, 1, none⟩ (.slice la ll lc)).setCell ⟨w.heap.size + 2, 2, none⟩ (.slice da dl dc)).setCell ⟨w.heap.size + 2, 3, none⟩ (.slice oa ol oc) := ⟨_, rfl⟩
    rw [← eY] at obF bF hRes ⊢
    clear eY
    have k0 : Y.cell? ⟨w.heap.size + 2, 0, none⟩ = some (.slice ia il ic) := (obF.c 0 (by decide)).1
    have k1 : Y.cell? ⟨w.heap.size + 2, 1, none⟩ = some (.slice la ll lc) := (obF.c 1 (by decide)).1
    have k2 : Y.cell? ⟨w.heap.size + 2, 2, none⟩ = some (.slice da dl dc) := (obF.c 2 (by decide)).1
    have k3 : Y.cell? ⟨w.heap.size + 2, 3, none⟩ = some (.slice oa ol oc) := (obF.c 3 (by decide)).1
    exact bodyPost_ret (v := .agg #[.slice ia il ic, .slice la ll lc, .slice da dl dc, .slice oa ol oc]) (by simp [results, Tryz.results27, go_sem, k0, k1, k2, k3]) rfl ⟨_, rfl, hRes.1, hRes.2, bF⟩
/-- A store that does not tell who is over. -/
def SV.noOver (s : SV) : SV := { s with oa := none, ol := 0, oc := 0, over := [] }
theorem OwnStore.noOver {w : World} {B : Nat} {s : SV} (h : OwnStore w B s) : OwnStore w B s.noOver :=
  ⟨h.items, h.locks, h.doubts, World.ownsRow_nil _ _ _ _, h.ap_il, h.ap_id, (fun q _ e => by cases e), h.ap_ld, (fun q _ e => by cases e), (fun q _ e => by cases e)⟩
set_option maxRecDepth 100000 in
set_option maxHeartbeats 4000000 in
theorem recEnd_any (s : SV) (r : RcP) (sa : Option Addr) (sl sc : Nat) (w : World) (h : IsStore w s) (hwf : ∀ t ∈ s.over, TxWf t) (h4 : s.ol * 16 ≤ 140737488351232) :
    Calls Tryz.prog 28 #[s.val, .agg #[.int .i64 r.kind, .int .i64 r.site, .int .i64 r.num, .int .i64 r.key, .int .i64 r.value, .int .i64 r.ask, .bool r.yes, .slice sa sl sc]] w fun e w' => ∃ u : SV, e = .returned u.val ∧ OwnStore w' w.heap.size u ∧ u.data = s.data.en r ∧ Below w.heap.size w w' := by
  obtain ⟨kind, site, num, key, value, ask, yes, zs⟩ := r
  have HW : Hid (∀ U, IsStore U s → Calls Tryz.prog 50 #[s.val, .agg #[.int .i64 site, .int .i64 num], .bool yes] U fun e w' => ∃ r : SV, e = .returned (.tuple #[r.val, .int .i64 (endErr s (site, num) yes)]) ∧ OwnStore w' U.heap.size r ∧ r.data = endData s (site, num) yes ∧ Below U.heap.size U w') := fun U hU => end_own s (site, num) yes U hU hwf h4
  have HP : Hid (s.data.en ⟨kind, site, num, key, value, ask, yes, zs⟩ = { endData s (site, num) yes with over := [] }) := rfl
  obtain ⟨E, eE⟩ : ∃ E, E = endErr s (site, num) yes := ⟨_, rfl⟩
  obtain ⟨DD, eD⟩ : ∃ DD, DD = endData s (site, num) yes := ⟨_, rfl⟩
  rw [← eD] at HP
  rw [← eE, ← eD] at HW
  clear eE eD
  obtain ⟨P0, eP0⟩ : ∃ P0, P0 = s.data.en ⟨kind, site, num, key, value, ask, yes, zs⟩ := ⟨_, rfl⟩
  rw [← eP0] at HP ⊢
  have hI0 := h
  obtain ⟨ia, il, ic, la, ll, lc, da, dl, dc, oa, ol, oc, its, lks, dbs, ovs⟩ := s
  simp only [SV.val] at HW ⊢
  clear eP0
  obtain ⟨W, hW⟩ : ∃ W : World, W = ((w.alloc (.cells #[.slice ia il ic, .slice la ll lc, .slice da dl dc, .slice oa ol oc] 31)).alloc (.cells #[.int .i64 kind, .int .i64 site, .int .i64 num, .int .i64 key, .int .i64 value, .int .i64 ask, .bool yes, .slice sa sl sc] 54)).alloc (.cells #[.slice none 0 0, .slice none 0 0, .slice none 0 0, .slice none 0 0] 31) := ⟨_, rfl⟩
  have bW : Below w.heap.size w W := by rw [hW]; exact (((Below.refl _ _).alloc (Nat.le_refl _) _).alloc (by simp) _).alloc (by simp; omega) _
  have zW : W.heap.size = w.heap.size + 3 := by rw [hW]; simp
  have sb : BoxN W w.heap.size 4 [.slice ia il ic, .slice la ll lc, .slice da dl dc, .slice oa ol oc] := by
    rw [hW]
    have h8 := boxn_new w #[.slice ia il ic, .slice la ll lc, .slice da dl dc, .slice oa ol oc] 31 4 rfl
    exact (h8.below ((Below.refl _ _).alloc (Nat.le_refl _) _) h8.lt).below ((Below.refl _ _).alloc (Nat.le_refl _) _) (Nat.lt_of_lt_of_le h8.lt (by simp))
  have rb : BoxN W (w.heap.size + 1) 8 [.int .i64 kind, .int .i64 site, .int .i64 num, .int .i64 key, .int .i64 value, .int .i64 ask, .bool yes, .slice sa sl sc] := by
    rw [hW]
    have h8 := boxn_new (w.alloc (.cells #[.slice ia il ic, .slice la ll lc, .slice da dl dc, .slice oa ol oc] 31)) #[.int .i64 kind, .int .i64 site, .int .i64 num, .int .i64 key, .int .i64 value, .int .i64 ask, .bool yes, .slice sa sl sc] 54 8 rfl
    have h9 := h8.below ((Below.refl _ _).alloc (Nat.le_refl _) (.cells #[.slice none 0 0, .slice none 0 0, .slice none 0 0, .slice none 0 0] 31)) h8.lt
    simpa using h9
  have ob : BoxN W (w.heap.size + 2) 4 [.slice none 0 0, .slice none 0 0, .slice none 0 0, .slice none 0 0] := by
    rw [hW]
    have h8 := boxn_new ((w.alloc (.cells #[.slice ia il ic, .slice la ll lc, .slice da dl dc, .slice oa ol oc] 31)).alloc (.cells #[.int .i64 kind, .int .i64 site, .int .i64 num, .int .i64 key, .int .i64 value, .int .i64 ask, .bool yes, .slice sa sl sc] 54)) #[.slice none 0 0, .slice none 0 0, .slice none 0 0, .slice none 0 0] 31 4 rfl
    simpa using h8
  have s0 : W.cell? ⟨w.heap.size, 0, none⟩ = some (.slice ia il ic) := (sb.c 0 (by decide)).1
  have s1 : W.cell? ⟨w.heap.size, 1, none⟩ = some (.slice la ll lc) := (sb.c 1 (by decide)).1
  have s2 : W.cell? ⟨w.heap.size, 2, none⟩ = some (.slice da dl dc) := (sb.c 2 (by decide)).1
  have s3 : W.cell? ⟨w.heap.size, 3, none⟩ = some (.slice oa ol oc) := (sb.c 3 (by decide)).1
  have sz := sb.lt
  have r0 : W.cell? ⟨w.heap.size + 1, 0, none⟩ = some (.int .i64 kind) := (rb.c 0 (by decide)).1
  have r1 : W.cell? ⟨w.heap.size + 1, 1, none⟩ = some (.int .i64 site) := (rb.c 1 (by decide)).1
  have r2 : W.cell? ⟨w.heap.size + 1, 2, none⟩ = some (.int .i64 num) := (rb.c 2 (by decide)).1
  have r3 : W.cell? ⟨w.heap.size + 1, 3, none⟩ = some (.int .i64 key) := (rb.c 3 (by decide)).1
  have r4 : W.cell? ⟨w.heap.size + 1, 4, none⟩ = some (.int .i64 value) := (rb.c 4 (by decide)).1
  have r5 : W.cell? ⟨w.heap.size + 1, 5, none⟩ = some (.int .i64 ask) := (rb.c 5 (by decide)).1
  have r6 : W.cell? ⟨w.heap.size + 1, 6, none⟩ = some (.bool yes) := (rb.c 6 (by decide)).1
  have r7 : W.cell? ⟨w.heap.size + 1, 7, none⟩ = some (.slice sa sl sc) := (rb.c 7 (by decide)).1
  have rz := rb.lt
  have hIW := hI0.below bW
  have hWr := HW.out W hIW
  clear HW
  go_enter Tryz.func28, Tryz.ntmps28
  go_upto_region 1 with (fail)
  rw [← hW]
  clear hW
  go_upto_region 2 with (go_at_call 50; refine hWr.mono ?_; rintro e U ⟨⟨ja, jl, jc, ka, kl, kc, ea, el, ec, ta, tl, tc, jts, kks, ees, tts⟩, rfl, hO, hd, hb⟩; simp only [])
  clear s0 s1 s2 s3 r0 r1 r2 r3 r4 r5 r6 r7 sz rz hWr
  obtain ⟨Z, eZ⟩ : ∃ Z : World, Z = U.alloc (.cells #[.slice ja jl jc, .slice ka kl kc, .slice ea el ec, .slice none 0 0] 31) := ⟨_, rfl⟩
  have bZ : Below U.heap.size U Z := by rw [eZ]; exact (Below.refl _ _).alloc (Nat.le_refl _) _
  have jb : BoxN Z U.heap.size 4 [.slice ja jl jc, .slice ka kl kc, .slice ea el ec, .slice none 0 0] := by rw [eZ]; exact boxn_new U #[.slice ja jl jc, .slice ka kl kc, .slice ea el ec, .slice none 0 0] 31 4 rfl
  go_upto_region 3 with (fail)
  rw [← eZ]
  clear eZ
  have bWZ : Below W.heap.size W Z := hb.trans (bZ.mono hb.size)
  have obZ := ob.below bWZ (by omega)
  have hOZ := (hO.below bZ).noOver
  have HO : Hid (OwnStore Z W.heap.size (SV.noOver ⟨ja, jl, jc, ka, kl, kc, ea, el, ec, ta, tl, tc, jts, kks, ees, tts⟩)) := hOZ
  have HD : Hid (SV.data ⟨ja, jl, jc, ka, kl, kc, ea, el, ec, ta, tl, tc, jts, kks, ees, tts⟩ = DD) := hd
  have HbF : Hid (Below w.heap.size w Z) := bW.trans (bWZ.mono bW.size)
  have HZW : Hid (W.heap.size = w.heap.size + 3) := zW
  clear hO hd hOZ
  have y0 : Z.cell? ⟨U.heap.size, 0, none⟩ = some (.slice ja jl jc) := (jb.c 0 (by decide)).1
  have y1 : Z.cell? ⟨U.heap.size, 1, none⟩ = some (.slice ka kl kc) := (jb.c 1 (by decide)).1
  have y2 : Z.cell? ⟨U.heap.size, 2, none⟩ = some (.slice ea el ec) := (jb.c 2 (by decide)).1
  have y3 : Z.cell? ⟨U.heap.size, 3, none⟩ = some (.slice none 0 0) := (jb.c 3 (by decide)).1
  have yz := jb.lt
  have o0 : Z.cell? ⟨w.heap.size + 2, 0, none⟩ = some (.slice none 0 0) := (obZ.c 0 (by decide)).1
  have o1 : Z.cell? ⟨w.heap.size + 2, 1, none⟩ = some (.slice none 0 0) := (obZ.c 1 (by decide)).1
  have o2 : Z.cell? ⟨w.heap.size + 2, 2, none⟩ = some (.slice none 0 0) := (obZ.c 2 (by decide)).1
  have o3 : Z.cell? ⟨w.heap.size + 2, 3, none⟩ = some (.slice none 0 0) := (obZ.c 3 (by decide)).1
  have oz := obZ.lt
  have of0 := (obZ.c 0 (by decide)).2
  have of1 := (obZ.c 1 (by decide)).2
  have of2 := (obZ.c 2 (by decide)).2
  have of3 := (obZ.c 3 (by decide)).2
  go_wp2
  have obF := (((obZ.set 0 (by decide) (.slice ja jl jc)).set 1 (by decide) (.slice ka kl kc)).set 2 (by decide) (.slice ea el ec)).set 3 (by decide) (.slice none 0 0)
  have hle : w.heap.size ≤ w.heap.size + 2 := by omega
  have bF := (((HbF.out.setCell (p := ⟨w.heap.size + 2, 0, none⟩) hle (.slice ja jl jc)).setCell (p := ⟨w.heap.size + 2, 1, none⟩) hle (.slice ka kl kc)).setCell (p := ⟨w.heap.size + 2, 2, none⟩) hle (.slice ea el ec)).setCell (p := ⟨w.heap.size + 2, 3, none⟩) hle (.slice none 0 0)
  have hRes : OwnStore ((((Z.setCell ⟨w.heap.size + 2, 0, none⟩ (.slice ja jl jc)).setCell ⟨w.heap.size + 2, 1, none⟩ (.slice ka kl kc)).setCell ⟨w.heap.size + 2, 2, none⟩ (.slice ea el ec)).setCell ⟨w.heap.size + 2, 3, none⟩ (.slice none 0 0)) w.heap.size (SV.noOver ⟨ja, jl, jc, ka, kl, kc, ea, el, ec, ta, tl, tc, jts, kks, ees, tts⟩) ∧ (SV.noOver ⟨ja, jl, jc, ka, kl, kc, ea, el, ec, ta, tl, tc, jts, kks, ees, tts⟩).data = P0 := by
    refine ⟨?_, by rw [HP.out, ← HD.out]; rfl⟩
    have hlt : w.heap.size + 2 < W.heap.size := by have := HZW.out; omega
    exact ((((HO.out.asideS hlt 0 _).asideS hlt 1 _).asideS hlt 2 _).asideS hlt 3 _).base (by have := HZW.out; omega)
  obtain ⟨Y, eY⟩ : ∃ Y, Y = (((Z.setCell ⟨w.heap.size + 2, 0, none⟩ (.slice ja jl jc)).setCell ⟨w.heap.size + 2, 1, none⟩ (.slice ka kl kc)).setCell ⟨w.heap.size + 2, 2, none⟩ (.slice ea el ec)).setCell ⟨w.heap.size + 2, 3, none⟩ (.slice none 0 0) := ⟨_, rfl⟩
  rw [← eY] at obF bF hRes ⊢
  clear eY
  have k0 : Y.cell? ⟨w.heap.size + 2, 0, none⟩ = some (.slice ja jl jc) := (obF.c 0 (by decide)).1
  have k1 : Y.cell? ⟨w.heap.size + 2, 1, none⟩ = some (.slice ka kl kc) := (obF.c 1 (by decide)).1
  have k2 : Y.cell? ⟨w.heap.size + 2, 2, none⟩ = some (.slice ea el ec) := (obF.c 2 (by decide)).1
  have k3 : Y.cell? ⟨w.heap.size + 2, 3, none⟩ = some (.slice none 0 0) := (obF.c 3 (by decide)).1
  exact bodyPost_ret (v := .agg #[.slice ja jl jc, .slice ka kl kc, .slice ea el ec, .slice none 0 0]) (by simp [results, Tryz.results28, go_sem, k0, k1, k2, k3]) rfl ⟨_, rfl, hRes.1, hRes.2, bF⟩
end Go.Proofs.YtekglahigjblkaaGreatDoor.St
/- A region that draws its order, by what each operation keeps: a small case for each operation in the place of one for each order. -/
namespace Go.Proofs.YtekglahigjblkaaGreatDoor

/-- A frame with other values in some slots. -/
def fr (a : Act) : List Nat → (Nat → Value) → Act
  | [], _ => a
  | d :: ds, T => fr (a.put (some d) (T d)) ds T
def upd (T : Nat → Value) (d : Nat) (v : Value) : Nat → Value := fun s => cond (Nat.beq s d) v (T s)
def lst (L : Nat → Bool) (k : Nat) : Nat → Bool := fun j => Nat.beq j k || L j
def slot0 (a : Act) : Nat → Value := fun s => (a.tmps[s]?).getD undef

def AllK (f : Nat → Oper → Prop) : Nat → List Oper → Prop
  | _, [] => True
  | k, o :: os => f k o ∧ AllK f (k + 1) os
theorem AllK.get {f : Nat → Oper → Prop} : ∀ {k : Nat} {os : List Oper}, AllK f k os → ∀ i o, os[i]? = some o → f (k + i) o
  | _, [], _, i, o, h => by simp at h
  | k, x :: xs, hh, i, o, h => by
    cases i with
    | zero => simp at h; subst h; exact hh.1
    | succ i =>
      have := AllK.get hh.2 i o (by simpa using h)
      rwa [show k + 1 + i = k + (i + 1) by omega] at this

/-- What has come up has come up behind what it waits for. -/
def Closed (ops : Array Oper) (L : Nat → Bool) : Prop := ∀ j o, ops[j]? = some o → L j = true → ∀ e ∈ o.after.toList, Region.binds .any e = true → L e.on = true
/-- What an operation leaves in its slot, and the world behind it. -/
def Oper.wpv (P : Program) (o : Oper) (a : Act) (w : World) (K : Value → World → Prop) (Q : Exit → Act → World → Prop) : Prop :=
  match (execOp a.eval o).run P w with
  | .ok (.value v) w' => K v w'
  | .ok .skip w' => K undef w'
  | .ok (.enter f args) w' => Calls P f args w' fun
      | .returned v, w'' => K v w''
      | .panicked chain, w'' => Q (.panic chain) a w''
      | .outgrown, _ => LetsOut Q
  | .ok (.row row args) w' => Rows P row args w' fun v w'' => K v w''
  | .halt (.panic v) w' => Q (.panic [{ v, recovered := false }]) a w'
  | _ => False
theorem Oper.wp_of_wpv {P : Program} {o : Oper} {a : Act} {w : World} {K : Value → World → Prop} {N : Act → World → Prop} {Q : Exit → Act → World → Prop} (h : Oper.wpv P o a w K Q) (hk : ∀ v w', K v w' → N (a.put o.dst v) w') : o.wp P a w N Q := by
  unfold Oper.wpv at h
  unfold Oper.wp
  generalize (execOp a.eval o).run P w = r at h
  cases r with
  | ok n w' =>
    cases n with
    | value v => exact hk _ _ h
    | skip => exact hk _ _ h
    | enter f args => exact Calls.mono h (fun e w'' he => by cases e <;> first | exact hk _ _ he | exact he)
    | row r args => exact Rows.mono h (fun _ _ he => hk _ _ he)
    | _ => exact h.elim
  | halt x w' => cases x <;> first | exact h | exact h.elim
def updO (T : Nat → Value) (d : Option Nat) (v : Value) : Nat → Value := match d with
  | some d => upd T d v
  | none => T
theorem put_same (a : Act) (d : Nat) (u v : Value) : (a.put (some d) u).put (some d) v = a.put (some d) v := by
  obtain ⟨tmps, df⟩ := a
  simp [Act.put]
theorem put_ne (a : Act) {d x : Nat} (u v : Value) (h : x ≠ d) : (a.put (some x) u).put (some d) v = (a.put (some d) v).put (some x) u := Act.put_comm a u v (fun y hy hz => h (by cases hy; cases hz; rfl))
theorem fr_put : ∀ (ds : List Nat) (a : Act) (T : Nat → Value) (d : Nat) (v : Value), d ∉ ds → (fr a ds T).put (some d) v = fr (a.put (some d) v) ds T
  | [], _, _, _, _, _ => rfl
  | x :: xs, a, T, d, v, h => by
    simp only [List.mem_cons, not_or] at h
    simp only [fr]
    rw [fr_put xs _ T d v h.2, put_ne a _ _ (Ne.symm h.1)]
theorem upd_ne {T : Nat → Value} {d s : Nat} {v : Value} (h : s ≠ d) : upd T d v s = T s := by
  unfold upd
  cases hb : Nat.beq s d
  · rfl
  · exact absurd (Nat.eq_of_beq_eq_true hb) h
theorem upd_same {T : Nat → Value} {d : Nat} {v : Value} : upd T d v d = v := by simp [upd, Nat.beq_refl]
theorem fr_upd_out : ∀ (ds : List Nat) (a : Act) (T : Nat → Value) (d : Nat) (v : Value), d ∉ ds → fr a ds (upd T d v) = fr a ds T
  | [], _, _, _, _, _ => rfl
  | x :: xs, a, T, d, v, h => by
    simp only [List.mem_cons, not_or] at h
    simp only [fr]
    rw [upd_ne (Ne.symm h.1), fr_upd_out xs _ T d v h.2]
theorem fr_upd : ∀ (ds : List Nat) (a : Act) (T : Nat → Value) (d : Nat) (v : Value), ds.Nodup → d ∈ ds → (fr a ds T).put (some d) v = fr a ds (upd T d v)
  | [], _, _, _, _, _, h => by cases h
  | x :: xs, a, T, d, v, hn, h => by
    obtain ⟨hx, hn'⟩ := List.nodup_cons.1 hn
    simp only [fr]
    by_cases hxd : x = d
    · subst hxd
      rw [fr_put xs _ T x v hx, put_same, upd_same, fr_upd_out xs _ T x v hx]
    · have : d ∈ xs := by rcases List.mem_cons.1 h with h | h; exact absurd h.symm hxd; exact h
      rw [fr_upd xs _ T d v hn' this, upd_ne hxd]
theorem fr_updO {ds : List Nat} {a : Act} {T : Nat → Value} {d : Option Nat} {v : Value} (hn : ds.Nodup) (h : ∀ x, d = some x → x ∈ ds) : (fr a ds T).put d v = fr a ds (updO T d v) := by
  cases d with
  | none => rfl
  | some x => exact fr_upd ds a T x v hn (h x rfl)
/-- What is asked of an operation: from wherever the invariant stands it goes on, and the invariant stands again. -/
def StepK (P : Program) (ops : Array Oper) (Q : Exit → Act → World → Prop) (a : Act) (ds : List Nat) (I : (Nat → Bool) → (Nat → Value) → World → Prop) (k : Nat) (o : Oper) : Prop :=
  ∀ (L : Nat → Bool) (T : Nat → Value) (w : World), (∀ e ∈ o.after.toList, Region.binds .any e = true → L e.on = true) → L k = false → Closed ops L → I L T w →
    ∀ K : Value → World → Prop, (∀ v w', I (lst L k) (updO T o.dst v) w' → K v w') →
      if Region.wanted o (yielded ops (fr a ds T).tmps) = true then Oper.wpv P o (fr a ds T) w K Q else K undef w

/-- The slots that operations write. -/
def dstsIn (ops : Array Oper) (ds : List Nat) : Bool := ops.toList.all fun o => match o.dst with
  | some d => ds.contains d
  | none => true
/-- Edges lead back. -/
def back (ops : Array Oper) : Bool := (List.range ops.size).all fun i => match ops[i]? with
  | some o => o.after.toList.all fun e => !Region.binds .any e || decide (e.on < i)
  | none => true

section
variable {P : Program} {ops : Array Oper} {Q : Exit → Act → World → Prop} {a : Act} {ds : List Nat} {I : (Nat → Bool) → (Nat → Value) → World → Prop}

theorem ready_ne {listed : Array Bool} (hb : back ops = true) (hz : listed.size = ops.size) (i : Nat) (hi : i < ops.size) (hl : listed.getD i true = false) : Region.ready .any ops listed ≠ [] := by
  induction i using Nat.strongRecOn with
  | _ i ih =>
    by_cases hall : ∀ j, j < i → listed.getD j true = true
    · intro h
      have : i ∈ Region.ready .any ops listed := by
        rw [mem_ready]
        refine ⟨hl, ops[i], by simp [hi], fun e he hbn => ?_⟩
        have h1 := List.all_eq_true.1 hb i (by simpa using hi)
        simp only [Array.getElem?_eq_getElem hi] at h1
        have h2 := List.all_eq_true.1 h1 e (by simpa using he)
        have h3 : e.on < i := by simpa [hbn] using h2
        have h4 := hall e.on h3
        have h5 : e.on < listed.size := by omega
        simpa [h5] using h4
      rw [h] at this
      cases this
    · have : ∃ j, j < i ∧ listed.getD j true = false := by
        apply Classical.byContradiction
        intro hn
        apply hall
        intro j hj
        cases hc : listed.getD j true
        · exact absurd ⟨j, hj, hc⟩ hn
        · rfl
      obtain ⟨j, hj, hc⟩ := this
      exact ih j hj (by omega) hc

theorem wpAny_of_inv (hn : ds.Nodup) (hd : dstsIn ops ds = true) (hb : back ops = true) (hs : AllK (StepK P ops Q a ds I) 0 ops.toList)
    (he : ∀ L T w, (∀ i, i < ops.size → L i = true) → I L T w → Q .normal (fr a ds T) w) :
    ∀ (fuel : Nat) (listed : Array Bool) (T : Nat → Value) (w : World), listed.size = ops.size → listed.count false ≤ fuel → Closed ops (fun j => listed.getD j false) → I (fun j => listed.getD j false) T w → wpAny P .any ops Q fuel listed (fr a ds T) w := by
  have done : ∀ (listed : Array Bool) (T : Nat → Value) (w : World), listed.size = ops.size → Region.ready .any ops listed = [] → I (fun j => listed.getD j false) T w → Q .normal (fr a ds T) w := by
    intro listed T w hz hr hI
    refine he _ T w (fun i hi => ?_) hI
    cases hc : listed.getD i true with
    | false => exact absurd hr (ready_ne hb hz i hi hc)
    | true =>
      have h5 : i < listed.size := by omega
      simpa [h5] using hc
  intro fuel
  induction fuel with
  | zero =>
    intro listed T w hz hc hcl hI
    have hr : Region.ready .any ops listed = [] := by
      cases h : Region.ready .any ops listed with
      | nil => rfl
      | cons i is =>
        have hm : i ∈ Region.ready .any ops listed := by rw [h]; exact List.mem_cons_self ..
        obtain ⟨h0, o, ho, _⟩ := mem_ready.1 hm
        have hlt : i < ops.size := (Array.getElem?_eq_some_iff.1 ho).1
        have h5 : i < listed.size := by omega
        have : listed[i] = false := by simpa [h5] using h0
        have hin : false ∈ listed := by rw [← this]; exact Array.getElem_mem h5
        have := Array.count_pos_iff.2 hin
        omega
    exact ⟨hr, done listed T w hz hr hI⟩
  | succ fuel ih =>
    intro listed T w hz hc hcl hI
    refine ⟨fun hr => done listed T w hz hr hI, fun i hi => ?_⟩
    obtain ⟨h0, o, ho, hdep⟩ := mem_ready.1 hi
    have hlt : i < ops.size := (Array.getElem?_eq_some_iff.1 ho).1
    have h5 : i < listed.size := by omega
    have hli : listed[i] = false := by simpa [h5] using h0
    have hstep := AllK.get hs i o (by simpa using ho)
    rw [Nat.zero_add] at hstep
    unfold wpOp
    simp only [ho]
    have hK : ∀ T' w', I (lst (fun j => listed.getD j false) i) T' w' → wpAny P .any ops Q fuel (listed.setIfInBounds i true) (fr a ds T') w' := by
      intro T' w' hI'
      refine ih (listed.setIfInBounds i true) T' w' (by simpa using hz) ?_ ?_ ?_
      · have : listed.setIfInBounds i true = listed.set i true h5 := by simp [Array.setIfInBounds, h5]
        rw [this, Array.count_set h5, hli]
        simp
        omega
      · intro j o' ho' hj e he' hbn
        by_cases hji : j = i
        · subst hji
          obtain rfl : o' = o := Option.some.inj (ho'.symm.trans ho)
          exact getD_set_true (hdep e (by simpa using he') hbn)
        · refine getD_set_true (hcl j o' ho' ?_ e he' hbn)
          simpa only [getD_set_ne false (Ne.symm hji)] using hj
      · have : (fun j => (listed.setIfInBounds i true).getD j false) = lst (fun j => listed.getD j false) i := by
          funext j
          unfold lst
          by_cases hji : j = i
          · subst hji
            simp [h5, Nat.beq_refl]
          · have : Nat.beq j i = false := by
              cases hbq : Nat.beq j i
              · rfl
              · exact absurd (Nat.eq_of_beq_eq_true hbq) hji
            rw [this, Bool.false_or, getD_set_ne false (Ne.symm hji)]
        rw [this]
        exact hI'
    have hdst : ∀ x, o.dst = some x → x ∈ ds := by
      intro x hx
      have h1 := List.all_eq_true.1 hd o (by simpa using Array.mem_of_getElem? ho)
      simp only [hx] at h1
      simpa using h1
    have h1 := hstep _ T w (fun e he hbn => hdep e (by simpa using he) hbn) (by simp [h5, hli]) hcl hI (fun v w' => wpAny P .any ops Q fuel (listed.setIfInBounds i true) (fr a ds (updO T o.dst v)) w') (fun v w' hI' => hK _ w' hI')
    by_cases hw : Region.wanted o (yielded ops (fr a ds T).tmps) = true
    · rw [if_pos hw] at h1 ⊢
      exact .inl (Oper.wp_of_wpv h1 fun v w' h2 => by rw [fr_updO hn hdst]; exact h2)
    · rw [if_neg hw] at h1 ⊢
      rw [fr_updO hn hdst]
      exact h1

theorem fr_slot0 : ∀ (ds : List Nat) (a : Act), fr a ds (slot0 a) = a := by
  have put0 : ∀ (a : Act) (d : Nat), a.put (some d) (slot0 a d) = a := by
    intro a d
    obtain ⟨tmps, df⟩ := a
    simp only [Act.put, slot0]
    by_cases h : d < tmps.size
    · simp [Array.setIfInBounds, h]
    · simp [Array.setIfInBounds, h]
  intro ds
  induction ds with
  | nil => intro a; rfl
  | cons d ds ih => intro a; simp only [fr]; rw [put0]; exact ih a

/-- A drawn region by an invariant. -/
theorem wp_region_inv {id : Nat} {w : World} (hm : P.follows .mixedOrders = true) (ds : List Nat) (I : (Nat → Bool) → (Nat → Value) → World → Prop)
    (hn : ds.Nodup) (hd : dstsIn ops ds = true) (hb : back ops = true) (h0 : I (fun _ => false) (slot0 a) { w with drawn := w.drawn + 1 })
    (hs : AllK (StepK P ops Q a ds I) 0 ops.toList)
    (he : ∀ L T w, (∀ i, i < ops.size → L i = true) → I L T w → Q .normal (fr a ds T) w) : (Code.region id ops true).wp P Q a w := by
  refine wp_region_any hm ?_
  have := wpAny_of_inv hn hd hb hs he ops.size (Array.replicate ops.size false) (slot0 a) { w with drawn := w.drawn + 1 } (by simp) (by simp) (by
    intro j o _ hj
    by_cases hjs : j < ops.size <;> simp [hjs] at hj) (by
    have : (fun j => (Array.replicate ops.size false).getD j false) = fun _ => false := by
      funext j
      by_cases hj : j < ops.size <;> simp [hj]
    rw [this]
    exact h0)
  rwa [fr_slot0] at this
end
end Go.Proofs.YtekglahigjblkaaGreatDoor
/- recover.numbered and recover.tell: what was committed is told anew, with such a job at its place. -/
namespace Go.Proofs.YtekglahigjblkaaGreatDoor.Co
open Go.ChangeShapes Go.WideShapes Go.ChangeAt Go.RowKit
open Go.Proofs.YtekglahigjblkaaGreatDoor.St
set_option linter.unusedVariables false

def isNr (n : Int) (j : JbV) : Bool := decide (j.n = n)
def isAb (n : Int) (j : JbV) : Bool := decide (n < j.n)
set_option maxHeartbeats 1000000 in
theorem renum_asks (b0 : Nat) (n : Int) (w : World) (c0 : w.cell? ⟨b0, 0, none⟩ = some (.int .i64 n)) (z0 : b0 < w.heap.size) : Asks 55 #[.pointer (some ⟨b0, 0, none⟩)] JbV.val (isNr n) w := by
  refine ⟨enters_of Tryz.func55 (by kernel_rfl) rfl, fun x w' hb => ?_⟩
  rw [← hb.cell (p := ⟨b0, 0, none⟩) z0] at c0
  have y0 := Nat.lt_of_lt_of_le z0 hb.size
  obtain ⟨jn, st, ta, tl, tc, aa, al, ac, asks, age, tasks, asked⟩ := x
  simp only [JbV.val] at *
  have hA : ∀ o, Below w'.heap.size w' (w'.alloc o) := fun o => (Below.refl _ _).alloc (Nat.le_refl _) _
  show Calls Tryz.prog 55 #[_, .pointer (some ⟨b0, 0, none⟩)] w' _
  go_enter Tryz.func55, Tryz.ntmps55
  go_wp2
  all_goals go_ret
  all_goals exact ⟨ret_bool (by first | (simp_all [isNr]; done) | (simp_all [isNr]; rfl)), hA _⟩
theorem renum_asksG (b0 : Nat) (n : Int) (row : Option Nat) (w : World) (c0 : w.cell? ⟨b0, 0, none⟩ = some (.int .i64 n)) (z0 : b0 < w.heap.size) (hr : some b0 ≠ row) : AsksG 55 #[.pointer (some ⟨b0, 0, none⟩)] JbV.val (isNr n) row w := by
  refine ⟨enters_of Tryz.func55 (by kernel_rfl) rfl, fun x w' hg => ?_⟩
  have c1 : w'.cell? ⟨b0, 0, none⟩ = some (.int .i64 n) := hg.cell c0 hr
  exact (renum_asks b0 n w' c1 (Nat.lt_of_lt_of_le z0 hg.size)).2 x w' (Below.refl _ _)
set_option maxHeartbeats 1000000 in
theorem above_asks (b0 : Nat) (n : Int) (w : World) (c0 : w.cell? ⟨b0, 0, none⟩ = some (.int .i64 n)) (z0 : b0 < w.heap.size) : Asks 53 #[.pointer (some ⟨b0, 0, none⟩)] JbV.val (isAb n) w := by
  refine ⟨enters_of Tryz.func53 (by kernel_rfl) rfl, fun x w' hb => ?_⟩
  rw [← hb.cell (p := ⟨b0, 0, none⟩) z0] at c0
  have y0 := Nat.lt_of_lt_of_le z0 hb.size
  obtain ⟨jn, st, ta, tl, tc, aa, al, ac, asks, age, tasks, asked⟩ := x
  simp only [JbV.val] at *
  have hA : ∀ o, Below w'.heap.size w' (w'.alloc o) := fun o => (Below.refl _ _).alloc (Nat.le_refl _) _
  show Calls Tryz.prog 53 #[_, .pointer (some ⟨b0, 0, none⟩)] w' _
  go_enter Tryz.func53, Tryz.ntmps53
  go_wp2
  all_goals go_ret
  all_goals exact ⟨ret_bool (by first | (simp_all [isAb]; done) | (simp_all [isAb]; rfl)), hA _⟩
theorem renum_any (n : Int) (w : World) :
    Calls Tryz.prog 31 #[.int .i64 n] w fun e w' => ∃ b0 : Nat, e = .returned (.func (.func 55) #[] #[.pointer (some ⟨b0, 0, none⟩)]) ∧ w'.cell? ⟨b0, 0, none⟩ = some (.int .i64 n) ∧ (w.heap.size ≤ b0 ∧ b0 < w'.heap.size) ∧ Below w.heap.size w w' := by
  obtain ⟨W, hW⟩ : ∃ W : World, W = w.alloc (.cells #[.int .i64 n] 3) := ⟨_, rfl⟩
  have hB : Below w.heap.size w W := by rw [hW]; exact (Below.refl _ _).alloc (Nat.le_refl _) _
  have zW : W.heap.size = w.heap.size + 1 := by rw [hW]; simp
  have c0 : W.cell? ⟨w.heap.size, 0, none⟩ = some (.int .i64 n) := by rw [hW]; go_simp
  go_enter Tryz.func31, Tryz.ntmps31
  go_wp2
  rw [← hW]
  go_ret
  exact ⟨w.heap.size, rfl, c0, ⟨Nat.le_refl _, by omega⟩, hB⟩
theorem containsJob_any (fn : Nat) (cps : Array Value) (p : JbV → Bool) (a : Option Addr) (len cap : Nat) (xs : List JbV) (w : World) (h : IsJobRow w a len cap xs) (hF : Asks fn cps JbV.val p w) :
    Calls Tryz.prog 51 #[.slice a len cap, .func (.func fn) #[] cps] w fun e w' => e = .returned (.bool (xs.any p)) ∧ Below w.heap.size w w' := by
  have hI := fun w' h1 h2 => indexJob_any fn cps p a len cap xs w' h1 h2
  have hA := idxI_any p xs
  obtain ⟨I, eI⟩ : ∃ I, I = idxI p xs := ⟨_, rfl⟩
  rw [← eI] at hI hA
  rw [← hA]
  clear eI hA
  go_enter Tryz.func51, Tryz.ntmps51
  go_wp2_with (go_at_call 52; refine (hI _ h hF).mono ?_; rintro e w1 ⟨rfl, hb1⟩)
  go_ret
  exact ⟨rfl, hb1⟩
/-- Jobs that only are to be told, in memory of the call's own. -/
structure JobsMem (w : World) (B : Nat) (a : Option Addr) (n c : Nat) (js : List JbV) : Prop where
  own : w.ownsRow B 64 6 (.slice a n c) n (flat JbV.cells js)
  len : js.length = n
  bare : ∀ j ∈ js, j.ta = none ∧ j.tl = 0 ∧ j.tc = 0 ∧ j.tasks = []
  ask : ∀ j ∈ js, w.ownsRow B 3 1 (.slice j.aa j.al j.ac) j.al (flat inCell j.asked) ∧ j.asked.length = j.al ∧ Apart (.slice a n c) (.slice j.aa j.al j.ac)
theorem jobsMem_nil (w : World) (B : Nat) : JobsMem w B none 0 0 [] := ⟨World.ownsRow_nil _ _ _ _, rfl, (fun j hj => by cases hj), (fun j hj => by cases hj)⟩
theorem JobsMem.below {w u : World} {B : Nat} {a : Option Addr} {n c : Nat} {js : List JbV} (h : JobsMem w B a n c js) (hb : Below w.heap.size w u) : JobsMem u B a n c js :=
  ⟨own_below h.own hb, h.len, h.bare, fun j hj => ⟨own_below (h.ask j hj).1 hb, (h.ask j hj).2⟩⟩
theorem JobsMem.aside {w : World} {B : Nat} {a : Option Addr} {n c : Nat} {js : List JbV} (h : JobsMem w B a n c js) {d : Nat} (hd : d < B) (i : Nat) (v : Value) : JobsMem (w.setCell ⟨d, i, none⟩ v) B a n c js := by
  have key : ∀ {te : TypeId} {k : Nat} {x : Value} {m : Nat} {xs : List Value}, w.ownsRow B te k x m xs → (w.setCell ⟨d, i, none⟩ v).ownsRow B te k x m xs := fun hx => ownsRow_setCell_other hx (fun e => by have h9 : B ≤ d := (hx.lt _ e).1; omega) v
  exact ⟨key h.own, h.len, h.bare, fun j hj => ⟨key (h.ask j hj).1, (h.ask j hj).2⟩⟩
theorem JobsMem.row {w : World} {B : Nat} {a : Option Addr} {n c : Nat} {js : List JbV} (h : JobsMem w B a n c js) : IsJobRow w a n c js := (own_isRow jb_len h.own h.len).1
theorem JobsMem.is {w : World} {B : Nat} {a : Option Addr} {n c : Nat} {js : List JbV} (h : JobsMem w B a n c js) : IsJobs w a n c js := by
  refine ⟨h.row, fun j hj => ⟨?_, (own_isRow in_len (h.ask j hj).1 (h.ask j hj).2.1).1⟩⟩
  obtain ⟨e1, e2, e3, e4⟩ := h.bare j hj
  rw [e1, e2, e3, e4]
  exact ⟨rfl, Nat.le_refl _, Nat.zero_le _, fun _ => rfl, fun h => absurd h (Nat.lt_irrefl _)⟩
theorem apart_blk {a a' : Option Addr} {n c n' c' : Nat} {y : Value} (h : Apart (.slice a n c) y) (e : (Value.slice a' n' c').ownBlock = (Value.slice a n c).ownBlock) : Apart (.slice a' n' c') y := fun q h1 h2 => h q (e ▸ h1) h2
/-- Some are taken out, in their place. -/
theorem JobsMem.kept {w u : World} {B : Nat} {a : Option Addr} {n c : Nat} {js : List JbV} (h : JobsMem w B a n c js) (p : JbV → Bool) (ho : u.ownsRow B 64 6 (.slice a (keep p js).length c) (keep p js).length (flat JbV.cells (keep p js))) (hg : w.grownBy u (Value.slice a n c).ownBlock) : JobsMem u B a (keep p js).length c (keep p js) := by
  have hm : ∀ j ∈ keep p js, j ∈ js := fun j hj => (List.mem_filter.1 hj).1
  refine ⟨ho, rfl, fun j hj => h.bare j (hm j hj), fun j hj => ?_⟩
  obtain ⟨h1, h2, h3⟩ := h.ask j (hm j hj)
  exact ⟨h1.kept hg (by cases e : (Value.slice j.aa j.al j.ac).ownBlock with
    | none => exact Or.inl rfl
    | some q => exact Or.inr (fun e2 => h3 q e2.symm e)), h2, apart_blk h3 (by cases a <;> rfl)⟩
def tellJ (r : RcP) : JbV := ⟨r.num, 3, none, 0, 0, none, 0, 0, 0, 0, [], r.zs⟩
def tellAt (js : List JbV) (n : Int) : Nat := if idxI (isAb n) js = -1 then js.length else (idxI (isAb n) js).toNat
def tellNo (next : Int) (js : List JbV) (r : RcP) : Bool := decide (next ≤ r.num) || (decide (r.zs.length = 0) || (decide (6 ≤ js.length) || js.any (isNr r.num)))
/-- What was committed is told anew, on plain data. -/
def tellP (next : Int) (js : List JbV) (r : RcP) : List JbV := if tellNo next js r then js else insJ js (tellAt js r.num) (tellJ r)
theorem idx_bare {p : JbV → Bool} (hp : ∀ j, p j.bare = p j) (js : List JbV) : idxI p (js.map JbV.bare) = idxI p js := by
  unfold idxI
  rw [List.findIdx?_map]
  have : (p ∘ JbV.bare) = p := funext hp
  rw [this]
theorem any_bare {p : JbV → Bool} (hp : ∀ j, p j.bare = p j) (js : List JbV) : (js.map JbV.bare).any p = js.any p := by
  rw [List.any_map]
  have : (p ∘ JbV.bare) = p := funext hp
  rw [this]
theorem tellNo_bare (next : Int) (js : List JbV) (r : RcP) : tellNo next (js.map JbV.bare) r = tellNo next js r := by
  unfold tellNo
  rw [any_bare (fun _ => rfl), List.length_map]
theorem insJ_bare (js : List JbV) (i : Nat) (x : JbV) : (insJ js i x).map JbV.bare = insJ (js.map JbV.bare) i x.bare := by
  unfold insJ
  rw [List.map_append, List.map_cons, List.map_take, List.map_drop]
theorem tellAt_bare (js : List JbV) (n : Int) : tellAt (js.map JbV.bare) n = tellAt js n := by
  unfold tellAt
  rw [idx_bare (fun _ => rfl), List.length_map]
theorem ne_of_apart' {x y : Value} (h : Apart x y) : y.ownBlock = none ∨ y.ownBlock ≠ x.ownBlock := by
  cases e : y.ownBlock with
  | none => exact Or.inl rfl
  | some q => exact Or.inr (fun e2 => h q e2.symm e)
theorem JobsMem.insert {w Z : World} {B : Nat} {a a6 : Option Addr} {n c c6 i : Nat} {js : List JbV} {x : JbV} (h : JobsMem w B a n c js) (hx : x.ta = none ∧ x.tl = 0 ∧ x.tc = 0 ∧ x.tasks = []) (ho : w.ownsRow B 3 1 (.slice x.aa x.al x.ac) x.al (flat inCell x.asked)) (hl : x.asked.length = x.al) (hap : Apart (.slice a n c) (.slice x.aa x.al x.ac)) (hi : i ≤ n)
    (own6 : Z.ownsRow B 64 6 (.slice a6 (n + 1) c6) (n + 1) (flat JbV.cells (insJ js i x))) {V : World} (bV : Below w.heap.size w V) (gr6 : V.grownBy Z (Value.slice a n c).ownBlock) (at6 : (Value.slice a6 (n + 1) c6).ownBlock = (Value.slice a n c).ownBlock ∨ (Value.slice a6 (n + 1) c6).ownBlock = some V.heap.size) : JobsMem Z B a6 (insJ js i x).length c6 (insJ js i x) ∧ (insJ js i x).length = n + 1 := by
  have hlen : (insJ js i x).length = n + 1 := by
    unfold insJ
    simp [h.len]
    omega
  have hm : ∀ j ∈ insJ js i x, j = x ∨ j ∈ js := fun j hj => by
    unfold insJ at hj
    rcases List.mem_append.1 hj with h8 | h8
    · exact Or.inr (List.mem_of_mem_take h8)
    · rcases List.mem_cons.1 h8 with h9 | h9
      · exact Or.inl h9
      · exact Or.inr (List.mem_of_mem_drop h9)
  have hin : ∀ {y : Value} {m : Nat} {ys : List Value}, w.ownsRow B 3 1 y m ys → Apart (.slice a n c) y → Z.ownsRow B 3 1 y m ys ∧ Apart (.slice a6 (n + 1) c6) y := fun {y m ys} h8 h9 => by
    have h7 := own_below h8 bV
    refine ⟨h7.kept gr6 (ne_of_apart' h9), fun q e1 e2 => ?_⟩
    rcases at6 with e | e
    · exact h9 q (e ▸ e1) e2
    · rw [e] at e1
      cases e1
      have := (h7.lt _ e2).2
      omega
  refine ⟨?_, hlen⟩
  rw [hlen]
  refine ⟨own6, hlen, fun j hj => ?_, fun j hj => ?_⟩
  · rcases hm j hj with rfl | h8
    · exact hx
    · exact h.bare j h8
  · rcases hm j hj with rfl | h8
    · exact ⟨(hin ho hap).1, hl, (hin ho hap).2⟩
    · have h9 := h.ask j h8
      exact ⟨(hin h9.1 h9.2.2).1, h9.2.1, (hin h9.1 h9.2.2).2⟩
/-- A record's sites. -/
def IsSt (w : World) (a : Option Addr) (n c : Nat) (zs : List Int) : Prop := zs.length = n ∧ n ≤ c ∧ c ≤ maxLen ∧ (0 < n → IsSites w a n c zs)
theorem IsSt.below {w w' : World} {a : Option Addr} {n c : Nat} {zs : List Int} (h : IsSt w a n c zs) (hb : Below w.heap.size w w') : IsSt w' a n c zs := ⟨h.1, h.2.1, h.2.2.1, fun h0 => (h.2.2.2 h0).below hb⟩
def TellIs (w w' : World) (e : Ending) (B : Nat) (a : Option Addr) (n c : Nat) (js : List JbV) (P : List JbV) : Prop :=
  ∃ (a' : Option Addr) (c' : Nat) (js' : List JbV), e = .returned (.slice a' js'.length c') ∧ JobsMem w' B a' js'.length c' js' ∧ js'.map JbV.bare = P ∧ w.grownBy w' (Value.slice a n c).ownBlock
set_option maxRecDepth 100000 in
set_option maxHeartbeats 8000000 in
theorem tell_rec (next : Int) (B : Nat) (a : Option Addr) (n c : Nat) (js : List JbV) (r : RcP) (sa : Option Addr) (sl sc : Nat) (w : World) (h : JobsMem w B a n c js) (hB : B ≤ w.heap.size) (hn : n ≤ 6) (hs : IsSt w sa sl sc r.zs) (hsl : sl ≤ 100) :
    Calls Tryz.prog 29 #[.agg #[.int .i64 next, .slice a n c], .agg #[.int .i64 r.kind, .int .i64 r.site, .int .i64 r.num, .int .i64 r.key, .int .i64 r.value, .int .i64 r.ask, .bool r.yes, .slice sa sl sc]] w fun e w' => TellIs w w' e B a n c js (tellP next (js.map JbV.bare) r) := by
  obtain ⟨kind, site, num, key, value, ask, yes, zs⟩ := r
  have hzl : zs.length = sl := hs.1
  have hscm : sl ≤ sc ∧ sc ≤ maxLen := ⟨hs.2.1, hs.2.2.1⟩
  unfold maxLen at hscm
  have HW : Hid (∀ U, Below w.heap.size w U → JobsMem U B a n c js ∧ IsSt U sa sl sc zs) := fun U hU => ⟨h.below hU, hs.below hU⟩
  have HN : Hid (tellNo next js ⟨kind, site, num, key, value, ask, yes, zs⟩ = (decide (next ≤ num) || (decide (sl = 0) || (decide (6 ≤ n) || js.any (isNr num))))) := by
    show _ = _
    unfold tellNo
    simp only [hzl, h.len]
  have HP : Hid (tellP next (js.map JbV.bare) ⟨kind, site, num, key, value, ask, yes, zs⟩ = if tellNo next js ⟨kind, site, num, key, value, ask, yes, zs⟩ then js.map JbV.bare else insJ (js.map JbV.bare) (tellAt js num) (tellJ ⟨kind, site, num, key, value, ask, yes, zs⟩)) := by
    show _ = _
    unfold tellP
    rw [tellNo_bare, tellAt_bare]
  rw [HN.out] at HP
  clear HN
  obtain ⟨P, eP⟩ : ∃ P, P = tellP next (js.map JbV.bare) ⟨kind, site, num, key, value, ask, yes, zs⟩ := ⟨_, rfl⟩
  rw [← eP] at HP ⊢
  clear eP
  have hrow := h.row
  have hcm : n ≤ c ∧ c ≤ maxLen := ⟨hrow.2.1, hrow.2.2.1⟩
  unfold maxLen at hcm
  have HL : Hid (js.length = n ∧ zs.length = sl) := ⟨h.len, hzl⟩
  clear hrow hzl h hs
  obtain ⟨W, hW⟩ : ∃ W : World, W = ((w.alloc (.cells #[.int .i64 next, .slice a n c] 34)).alloc (.cells #[.int .i64 kind, .int .i64 site, .int .i64 num, .int .i64 key, .int .i64 value, .int .i64 ask, .bool yes, .slice sa sl sc] 54)).alloc (.cells #[.int .i64 num] 3) := ⟨_, rfl⟩
  have bW : Below w.heap.size w W := by rw [hW]; exact (((Below.refl _ _).alloc (Nat.le_refl _) _).alloc (by simp) _).alloc (by simp; omega) _
  have zW : W.heap.size = w.heap.size + 3 := by rw [hW]; simp
  have db : BoxN W w.heap.size 2 [.int .i64 next, .slice a n c] := by
    rw [hW]
    have h8 := boxn_new w #[.int .i64 next, .slice a n c] 34 2 rfl
    exact (h8.below ((Below.refl _ _).alloc (Nat.le_refl _) _) h8.lt).below ((Below.refl _ _).alloc (Nat.le_refl _) _) (Nat.lt_of_lt_of_le h8.lt (by simp))
  have rb : BoxN W (w.heap.size + 1) 8 [.int .i64 kind, .int .i64 site, .int .i64 num, .int .i64 key, .int .i64 value, .int .i64 ask, .bool yes, .slice sa sl sc] := by
    rw [hW]
    have h8 := boxn_new (w.alloc (.cells #[.int .i64 next, .slice a n c] 34)) #[.int .i64 kind, .int .i64 site, .int .i64 num, .int .i64 key, .int .i64 value, .int .i64 ask, .bool yes, .slice sa sl sc] 54 8 rfl
    have h9 := h8.below ((Below.refl _ _).alloc (Nat.le_refl _) (.cells #[.int .i64 num] 3)) h8.lt
    simpa using h9
  have nb : BoxN W (w.heap.size + 2) 1 [.int .i64 num] := by
    rw [hW]
    have h8 := boxn_new ((w.alloc (.cells #[.int .i64 next, .slice a n c] 34)).alloc (.cells #[.int .i64 kind, .int .i64 site, .int .i64 num, .int .i64 key, .int .i64 value, .int .i64 ask, .bool yes, .slice sa sl sc] 54)) #[.int .i64 num] 3 1 rfl
    simpa using h8
  have KC : Hid (∀ U, Below W.heap.size W U → (U.cell? ⟨w.heap.size, 0, none⟩ = some (.int .i64 next) ∧ U.cell? ⟨w.heap.size, 1, none⟩ = some (.slice a n c) ∧ U.cell? ⟨w.heap.size + 1, 7, none⟩ = some (.slice sa sl sc) ∧ U.cell? ⟨w.heap.size + 2, 0, none⟩ = some (.int .i64 num)) ∧ w.heap.size < U.heap.size ∧ w.heap.size + 1 < U.heap.size ∧ w.heap.size + 2 < U.heap.size) := fun U hU => by
    have hz := hU.size
    exact ⟨⟨((db.below hU (by omega)).c 0 (by decide)).1, ((db.below hU (by omega)).c 1 (by decide)).1, ((rb.below hU (by omega)).c 7 (by decide)).1, ((nb.below hU (by omega)).c 0 (by decide)).1⟩, by omega, by omega, by omega⟩
  have HZ : Hid (W.heap.size = w.heap.size + 3) := zW
  clear zW db rb nb
  go_enter Tryz.func29, Tryz.ntmps29
  go_upto_region 2 with (fail)
  rw [← hW]
  clear hW
  obtain ⟨R, eR⟩ : ∃ R, R = (decide (next ≤ num) || (decide (sl = 0) || (decide (6 ≤ n) || js.any (isNr num)))) := ⟨_, rfl⟩
  rw [← eR] at HP
  have HR : Hid (R = (decide (next ≤ num) || (decide (sl = 0) || (decide (6 ≤ n) || js.any (isNr num))))) := eR
  clear eR
  obtain ⟨⟨x0, x1, x2, x3⟩, y0, y1, y2⟩ := KC.out W (Below.refl _ _)
  go_cut [33] (fun s33 wc => s33 = .bool R ∧ Below W.heap.size W wc)
  case first =>
    by_cases h1 : next ≤ num
    · have hR : R = true := by rw [HR.out]; simp [h1]
      clear HR HP
      subst hR
      go_quiet (fail)
      go_wp2_with fail
      go_meet
      case rel => exact ⟨rfl, ⟨rfl, rfl, rfl, Nat.le_refl _, fun _ _ => rfl⟩⟩
    · have h1' : decide (next ≤ num) = false := by simpa using h1
      by_cases h2 : sl = 0
      · have hR : R = true := by rw [HR.out]; simp [h2]
        clear HR HP
        subst hR
        subst h2
        go_quiet (fail)
        go_wp2_with fail
        go_meet
        case rel => exact ⟨rfl, ⟨rfl, rfl, rfl, Nat.le_refl _, fun _ _ => rfl⟩⟩
      · have h2' : ((sl : Int) == 0) = false := by simp; omega
        by_cases h3 : 6 ≤ n
        · have hR : R = true := by rw [HR.out]; simp [h3]
          clear HR HP
          subst hR
          have h3' : decide ((6 : Int) ≤ (n : Int)) = true := by simp; omega
          go_quiet (fail)
          go_wp2_with fail
          go_meet
          case rel => exact ⟨rfl, ⟨rfl, rfl, rfl, Nat.le_refl _, fun _ _ => rfl⟩⟩
        · have h3' : decide ((6 : Int) ≤ (n : Int)) = false := by simp; omega
          have hA : ∀ fn cps U, IsJobRow U a n c js → Asks fn cps JbV.val (isNr num) U → Calls Tryz.prog 51 #[.slice a n c, .func (.func fn) #[] cps] U fun e w' => e = .returned (.bool R) ∧ Below U.heap.size U w' := fun fn cps U g1 g2 => by
            have h8 := containsJob_any fn cps (isNr num) a n c js U g1 g2
            have h9 : js.any (isNr num) = R := by rw [HR.out]; simp [h1', h2, show ¬ 6 ≤ n from h3]
            rw [h9] at h8
            exact h8
          have KQ : Hid (∀ U, Below W.heap.size W U → (U.cell? ⟨w.heap.size, 0, none⟩ = some (.int .i64 next) ∧ U.cell? ⟨w.heap.size, 1, none⟩ = some (.slice a n c) ∧ U.cell? ⟨w.heap.size + 1, 7, none⟩ = some (.slice sa sl sc) ∧ U.cell? ⟨w.heap.size + 2, 0, none⟩ = some (.int .i64 num)) ∧ IsJobRow U a n c js) := fun U hU => ⟨(KC.out U hU).1, ((HW.out U (bW.trans (hU.mono bW.size))).1).row⟩
          clear HR HP h1 h2 h3 HW
          go_region_held3 (fun U => U.cell? ⟨w.heap.size, 0, none⟩ = some (.int .i64 next) ∧ U.cell? ⟨w.heap.size, 1, none⟩ = some (.slice a n c) ∧ U.cell? ⟨w.heap.size + 1, 7, none⟩ = some (.slice sa sl sc) ∧ U.cell? ⟨w.heap.size + 2, 0, none⟩ = some (.int .i64 num))
            (first | exact (KQ.out _ ((Below.refl _ _).drew)).1 | exact (KQ.out _ hu2).1 | exact (KQ.out _ hu1).1)
            (first
              | (go_at_call 31; refine (renum_any num _).mono ?_; rintro e u1 ⟨b0, rfl, hc0, ⟨hb0, hb0'⟩, hb1⟩; have hu1 : Below W.heap.size W u1 := (Below.refl W.heap.size W).drew.trans (hb1.mono (Nat.le_refl _)))
              | (go_at_call 51; refine (hA _ _ _ (KQ.out _ hu1).2 (renum_asks b0 num _ hc0 hb0')).mono ?_; rintro e u2 ⟨rfl, hb2⟩; have hu2 : Below W.heap.size W u2 := hu1.trans (hb2.mono hu1.size)))
          all_goals
            go_wp2_with fail
            go_meet
            case rel => exact ⟨rfl, hu2⟩
  case rest =>
    obtain ⟨rfl, bF⟩ := hcut
    obtain ⟨Y, eY⟩ : ∃ Y, Y = wc := ⟨_, rfl⟩
    rw [← eY] at bF ⊢
    clear eY x0 x1 x2 x3 y0 y1 y2
    obtain ⟨⟨x0, x1, x2, x3⟩, y0, y1, y2⟩ := KC.out Y bF
    have hwY := bW.trans (bF.mono bW.size)
    cases R with
    | true =>
      have HF : Hid (TellIs w Y (.returned (.slice a n c)) B a n c js P) := by
        have h8 := (HW.out Y hwY).1
        refine ⟨a, c, js, by rw [HL.out.1], by rw [HL.out.1]; exact h8, by rw [HP.out]; rfl, grown_below hwY _⟩
      clear HP HR HW KC
      go_wp2
      go_ret
      exact HF.out
    | false =>
      have hmem := (HW.out Y hwY).1
      have hix := fun fn cps g2 => indexJob_any fn cps (isAb num) a n c js Y hmem.row g2
      have hlt := idxI_lt (p := isAb num) (l := js)
      rw [HL.out.1] at hlt
      have HT : Hid (tellAt js num = if idxI (isAb num) js = -1 then n else (idxI (isAb num) js).toNat) := by
        show _ = _
        unfold tellAt
        rw [HL.out.1]
      obtain ⟨I, eI⟩ : ∃ I, I = idxI (isAb num) js := ⟨_, rfl⟩
      rw [← eI] at hix hlt HT
      clear eI
      have hask := above_asks (w.heap.size + 2) num Y x3 y2
      have hcall := hix _ _ hask
      clear hix hask
      have hsl0 : 0 < sl := by
        rcases Nat.eq_zero_or_pos sl with e | e
        · have := HR.out
          rw [e] at this
          simp at this
        · exact e
      obtain ⟨iI, EI⟩ := inElem
      go_upto_region 5 with (go_at_call 52; refine hcall.mono ?_; rintro e U ⟨rfl, hbU⟩)
      have bFU : Below W.heap.size W U := bF.trans (hbU.mono bF.size)
      have hwU := bW.trans (bFU.mono bW.size)
      obtain ⟨⟨u0, u1, u2, u3⟩, v0, v1, v2⟩ := KC.out U bFU
      obtain ⟨hmU, hsU⟩ := HW.out U hwU
      replace hsU := hsU.2.2.2 hsl0
      have hBU : B ≤ U.heap.size := Nat.le_trans hB hwU.size
      clear hcall hmem x0 x1 x2 x3 y0 y1 y2 HR
      by_cases hneg : I = -1
      · subst hneg
        have hgo : Hid (tellAt js num = n) := by show _ = _; rw [HT.out]; simp
        have hile : n ≤ n := Nat.le_refl _
        clear HT hlt KC HW
        go_upto_region 8 with (refine wpList_append_row EI (by rfl) _ _ (by rfl) B (.slice none 0 0) 0 [] (by rfl) (World.ownsRow_nil _ _ _ _) _ sl sc zs (by rfl) hsU (by unfold maxLen; omega) (by omega) hBU ?_; intro a5 c5 w5 own5 gr5 at5)
        simp only [Nat.zero_add, List.nil_append] at own5 at5
        have b5 : Below U.heap.size U w5 := grownNone gr5
        have hm5 := hmU.below b5
        have z1 : w5.cell? ⟨w.heap.size, 1, none⟩ = some (.slice a n c) := (b5.cell (p := ⟨w.heap.size, 1, none⟩) v0).trans u1
        have z3 : w5.cell? ⟨w.heap.size + 2, 0, none⟩ = some (.int .i64 num) := (b5.cell (p := ⟨w.heap.size + 2, 0, none⟩) v2).trans u3
        have zz0 := Nat.lt_of_lt_of_le v0 b5.size
        have zz2 := Nat.lt_of_lt_of_le v2 b5.size
        obtain ⟨V, hV⟩ : ∃ V : World, V = w5.alloc (.cells #[.int .i64 num, .int .i64 3, .slice none 0 0, .slice a5 sl c5, .int .i64 0, .int .i64 0] 64) := ⟨_, rfl⟩
        have hins := insertJ_any B a n c n js ⟨num, 3, none, 0, 0, a5, sl, c5, 0, 0, [], zs⟩ w5 V hV hm5.own (Nat.le_trans hBU b5.size) hile (by omega)
        have HF : Hid (∀ (a6 : Option Addr) (c6 : Nat) (Z : World), Z.ownsRow B 64 6 (.slice a6 (n + 1) c6) (n + 1) (flat JbV.cells (insJ js n ⟨num, 3, none, 0, 0, a5, sl, c5, 0, 0, [], zs⟩)) → V.grownBy Z (Value.slice a n c).ownBlock → ((Value.slice a6 (n + 1) c6).ownBlock = (Value.slice a n c).ownBlock ∨ (Value.slice a6 (n + 1) c6).ownBlock = some V.heap.size) → TellIs w Z (.returned (.slice a6 (n + 1) c6)) B a n c js P) := fun a6 c6 Z own6 gr6 at6 => by
          have bV : Below w5.heap.size w5 V := by rw [hV]; exact (Below.refl _ _).alloc (Nat.le_refl _) _
          have hap : Apart (.slice a n c) (.slice a5 sl c5) := fun q e1 e2 => by
            have e3 := (hmU.own.lt q e1).2
            rcases at5 with e | e
            · rw [e] at e2; cases e2
            · rw [e] at e2; cases e2; omega
          obtain ⟨h6, h7⟩ := hm5.insert (x := ⟨num, 3, none, 0, 0, a5, sl, c5, 0, 0, [], zs⟩) ⟨rfl, rfl, rfl, rfl⟩ own5 HL.out.2 hap hile own6 bV gr6 at6
          refine ⟨a6, c6, _, by rw [h7], h6, ?_, ?_⟩
          · rw [insJ_bare, HP.out, hgo.out]; rfl
          · exact grown_trans (grown_below (hwU.trans ((b5.trans (bV.mono b5.size)).mono hwU.size)) _) gr6
        clear own5 gr5 at5 b5 hm5 hmU hsU HP
        go_upto_region 9 with (rw [← hV]; clear hV; go_at_call 54; refine hins.mono ?_; rintro e Z ⟨a6, c6, rfl, own6, gr6, at6⟩)
        go_wp2
        go_ret
        exact HF.out a6 c6 Z own6 gr6 at6
      · obtain ⟨i, rfl⟩ : ∃ i : Nat, I = (i : Int) := ⟨I.toNat, by omega⟩
        have hnn : decide ((i : Int) < 0) = false := by simp
        have hgo : Hid (tellAt js num = i) := by show _ = _; rw [HT.out]; simp [hneg]
        have hile : i ≤ n := by omega
        clear HT hlt KC HW
        go_upto_region 8 with (refine wpList_append_row EI (by rfl) _ _ (by rfl) B (.slice none 0 0) 0 [] (by rfl) (World.ownsRow_nil _ _ _ _) _ sl sc zs (by rfl) hsU (by unfold maxLen; omega) (by omega) hBU ?_; intro a5 c5 w5 own5 gr5 at5)
        simp only [Nat.zero_add, List.nil_append] at own5 at5
        have b5 : Below U.heap.size U w5 := grownNone gr5
        have hm5 := hmU.below b5
        have z1 : w5.cell? ⟨w.heap.size, 1, none⟩ = some (.slice a n c) := (b5.cell (p := ⟨w.heap.size, 1, none⟩) v0).trans u1
        have z3 : w5.cell? ⟨w.heap.size + 2, 0, none⟩ = some (.int .i64 num) := (b5.cell (p := ⟨w.heap.size + 2, 0, none⟩) v2).trans u3
        have zz0 := Nat.lt_of_lt_of_le v0 b5.size
        have zz2 := Nat.lt_of_lt_of_le v2 b5.size
        obtain ⟨V, hV⟩ : ∃ V : World, V = w5.alloc (.cells #[.int .i64 num, .int .i64 3, .slice none 0 0, .slice a5 sl c5, .int .i64 0, .int .i64 0] 64) := ⟨_, rfl⟩
        have hins := insertJ_any B a n c i js ⟨num, 3, none, 0, 0, a5, sl, c5, 0, 0, [], zs⟩ w5 V hV hm5.own (Nat.le_trans hBU b5.size) hile (by omega)
        have HF : Hid (∀ (a6 : Option Addr) (c6 : Nat) (Z : World), Z.ownsRow B 64 6 (.slice a6 (n + 1) c6) (n + 1) (flat JbV.cells (insJ js i ⟨num, 3, none, 0, 0, a5, sl, c5, 0, 0, [], zs⟩)) → V.grownBy Z (Value.slice a n c).ownBlock → ((Value.slice a6 (n + 1) c6).ownBlock = (Value.slice a n c).ownBlock ∨ (Value.slice a6 (n + 1) c6).ownBlock = some V.heap.size) → TellIs w Z (.returned (.slice a6 (n + 1) c6)) B a n c js P) := fun a6 c6 Z own6 gr6 at6 => by
          have bV : Below w5.heap.size w5 V := by rw [hV]; exact (Below.refl _ _).alloc (Nat.le_refl _) _
          have hap : Apart (.slice a n c) (.slice a5 sl c5) := fun q e1 e2 => by
            have e3 := (hmU.own.lt q e1).2
            rcases at5 with e | e
            · rw [e] at e2; cases e2
            · rw [e] at e2; cases e2; omega
          obtain ⟨h6, h7⟩ := hm5.insert (x := ⟨num, 3, none, 0, 0, a5, sl, c5, 0, 0, [], zs⟩) ⟨rfl, rfl, rfl, rfl⟩ own5 HL.out.2 hap hile own6 bV gr6 at6
          refine ⟨a6, c6, _, by rw [h7], h6, ?_, ?_⟩
          · rw [insJ_bare, HP.out, hgo.out]; rfl
          · exact grown_trans (grown_below (hwU.trans ((b5.trans (bV.mono b5.size)).mono hwU.size)) _) gr6
        clear own5 gr5 at5 b5 hm5 hmU hsU HP
        go_upto_region 9 with (rw [← hV]; clear hV; go_at_call 54; refine hins.mono ?_; rintro e Z ⟨a6, c6, rfl, own6, gr6, at6⟩)
        go_wp2
        go_ret
        exact HF.out a6 c6 Z own6 gr6 at6
end Go.Proofs.YtekglahigjblkaaGreatDoor.Co
