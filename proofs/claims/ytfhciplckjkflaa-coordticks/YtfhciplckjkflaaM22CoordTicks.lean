/- Texts of this claim, one behind the other. -/
import Derived.Test.YtfhciplckjkflaaM21CoordTicks
import Derived.Test.YtfhciplckjkflaaM20CoordTicks
/- The clerk's check: what a job has read is asked after, ahead of committing it. -/
namespace Go.Proofs.Ytfhciplckjkflaa.Co
open Go.ChangeShapes Go.WideShapes Go.ChangeAt Go.RowKit
open Go.Proofs.Ytfhciplckjkflaa.St (BoxN boxn_new own_below grown_setCell IsRow Elem flat flat_append own_isRow)
set_option linter.unusedVariables false

def chkM (s : Int) (ls : List (Int × Int)) (p me n : Int) (t : TkV) : MV := ⟨3, me, homeNum s ls p t.key, me, n, t.label, t.key, 0, t.version, 0, false, 0⟩
def unsure (t : TkV) : Bool := !t.write && !t.sure
def chkMs (s : Int) (ls : List (Int × Int)) (p me n : Int) (ts : List TkV) : List MV := (ts.filter unsure).map (chkM s ls p me n)
theorem chkMs_at {s : Int} {ls : List (Int × Int)} {p me n : Int} {ts : List TkV} {k : Nat} (hk : k < ts.length) : chkMs s ls p me n (ts.take (k + 1)) = chkMs s ls p me n (ts.take k) ++ (if unsure (ts.getD k default) = true then [chkM s ls p me n (ts.getD k default)] else []) := by
  have e1 : ts.take (k + 1) = ts.take k ++ [ts.getD k default] := by rw [List.take_add_one]; simp [List.getD, hk]
  unfold chkMs
  rw [e1, List.filter_append, List.map_append]
  congr 1
  generalize ts.getD k default = t
  cases h : unsure t <;> simp [h]
theorem chkMs_len {s : Int} {ls : List (Int × Int)} {p me n : Int} {ts : List TkV} {k : Nat} : (chkMs s ls p me n (ts.take k)).length ≤ k := by
  unfold chkMs
  rw [List.length_map]
  exact Nat.le_trans (List.length_filter_le _ _) (List.length_take_le _ _)
/-- The clerk while a job's reads are asked after. -/
def chkV (v : CkV) (i : Nat) (n : Int) (ma : Option Addr) (mc : Nat) (ms : List MV) : CkV := { v with sure := n, js := v.js.set i { v.js.getD i default with state := 2, age := 0 }, ma := ma, ml := v.ml + ms.length, mc := mc, ms := v.ms ++ ms }
theorem chk_fit {a b : Nat} (hn : (a + 1048577) * 96 ≤ 140737488355328) (hz : b ≤ 1048576) : (a + b + 1) * 96 ≤ 140737488355328 := fit_nat rfl hn hz
def CheckIs (w X' : World) (B q : Nat) (v : CkV) (i : Nat) (n : Int) (ls : List (Int × Int)) (ix : List (Nat × Nat)) (more : List Rw) (e : Ending) : Prop :=
  e = .returned (.tuple #[]) ∧ (allSure (v.js.getD i default).tasks = true → ComIs w X' B q { v with sure := n } i n (handsOf v.s ls v.p v.l (v.js.getD i default).tasks) ((v.js.getD i default).tasks.any fun t => t.write) (.returned (.tuple #[]))) ∧ (allSure (v.js.getD i default).tasks = false → ∃ ma mc, Clerk w X' B q (chkV v i n ma mc (chkMs v.s ls v.p v.me n (v.js.getD i default).tasks)) ix more)
set_option maxRecDepth 100000 in
set_option maxHeartbeats 4000000 in
theorem check_clerk {w : World} {B q : Nat} {v : CkV} {ix : List (Nat × Nat)} {more : List Rw} (X : World) (h : Clerk w X B q v ix more) (ls : List (Int × Int)) {i g : Nat} (hi : i < v.jl) (eg : v.ja = some ⟨g, 0, none⟩) (hs : v.s ≤ 1048576) (htl : (v.js.getD i default).tl ≤ 1048576) (hm : (v.ml + 1048577) * 96 ≤ 140737488355328) (hr : (v.rl + 1) * 80 ≤ 140737488355328) (hp : (v.pl + 1) * 48 ≤ 140737488355328)
    (hL : ∀ (U : World) (u : CkV) (iy : List (Nat × Nat)) (m' : List Rw), Clerk w U B q u iy m' → IsLabs U v.a v.len v.cap ls) :
    Calls Try.prog 23 #[.pointer (some ⟨q, 0, none⟩), .pointer (some ⟨g, i * 6, none⟩)] X fun e X' => CheckIs w X' B q v i (v.js.getD i default).n ls ix more e := by
  obtain ⟨g', eg', -, zg, -, hc, hfz⟩ := h.jobAt hi
  obtain rfl := ptrEq eg eg'
  clear eg'
  have hi' : i < v.js.length := by have := h.lens.1; omega
  have bx := h.held.box
  have zq := bx.lt
  have q10 : X.cell? ⟨q, 10, none⟩ = some (.int .i64 v.sure) := (bx.c 10 (by decide)).1
  have f10 := (bx.c 10 (by decide)).2
  have x0 : X.cell? ⟨g, i * 6, none⟩ = some (.int .i64 (v.js.getD i default).n) := by simpa [JbV.cells] using hc 0 (by decide)
  have hX1 := h.sure (v.js.getD i default).n
  obtain ⟨JN, eJN⟩ : ∃ JN, JN = (v.js.getD i default).n := ⟨_, rfl⟩
  rw [← eJN]
  rw [← eJN] at x0 hX1
  have HJN : Hid (JN = (v.js.getD i default).n) := eJN
  have Hm : Hid ((v.ml + 1048577) * 96 ≤ 140737488355328) := hm
  have HL : Hid (∀ (U : World) (u : CkV) (iy : List (Nat × Nat)) (m' : List Rw), Clerk w U B q u iy m' → IsLabs U v.a v.len v.cap ls) := hL
  obtain ⟨X1, eX1⟩ : ∃ X1, X1 = X.setCell ⟨q, 10, none⟩ (.int .i64 JN) := ⟨_, rfl⟩
  rw [← eX1] at hX1
  have hT1 := hX1.isTasks (i := i) hi
  obtain ⟨g2, eg2, -, zg1, -, hc1, hf1⟩ := hX1.jobAt (i := i) hi
  obtain rfl := ptrEq eg (by exact eg2)
  clear eg2
  have y2 : X1.cell? ⟨g, i * 6 + 2, none⟩ = some (.slice (v.js.getD i default).ta (v.js.getD i default).tl (v.js.getD i default).tc) := by simpa [JbV.cells] using hc1 2 (by decide)
  have HSu : Hid (Calls Try.prog 52 #[.slice (v.js.getD i default).ta (v.js.getD i default).tl (v.js.getD i default).tc] X1 fun e w' => e = .returned (.bool (allSure (v.js.getD i default).tasks)) ∧ Below X1.heap.size X1 w') := isSure_any _ _ _ _ X1 hT1
  have HCom : Hid (∀ U, Below X1.heap.size X1 U → Calls Try.prog 53 #[.pointer (some ⟨q, 0, none⟩), .pointer (some ⟨g, i * 6, none⟩)] U fun e X' => e = .returned (.tuple #[]) ∧ ComIs w X' B q { v with sure := JN } i JN (handsOf v.s ls v.p v.l (v.js.getD i default).tasks) ((v.js.getD i default).tasks.any fun t => t.write) (.returned (.tuple #[]))) := fun U hU => by
    have := commit_any U (hX1.below hU) ls (i := i) (g := g) hi eg hs hm hr hp hL
    refine this.mono ?_
    rintro e u hu
    obtain rfl := hu.1
    simp only [] at hu
    rw [← HJN.out] at hu
    exact ⟨rfl, hu⟩
  have hY := (hX1.jcell (i := i) (g := g) hi eg 1 (by decide) (.int .i64 2) { v.js.getD i default with state := 2 } rfl ⟨rfl, rfl, rfl, rfl, rfl, rfl, rfl, rfl⟩)
  obtain ⟨AS, eAS⟩ : ∃ b, b = allSure (v.js.getD i default).tasks := ⟨_, rfl⟩
  have HC1 : Hid (Clerk w X1 B q { v with sure := JN } ix more) := hX1
  have HAS : Hid (AS = allSure (v.js.getD i default).tasks) := eAS
  have HTL : Hid ((v.js.getD i default).tasks.length = (v.js.getD i default).tl) := hT1.1
  rw [← eAS] at HSu
  obtain ⟨JT, eJT⟩ : ∃ JT, JT = (v.js.getD i default).tasks := ⟨_, rfl⟩
  obtain ⟨ta, eta⟩ : ∃ x, x = (v.js.getD i default).ta := ⟨_, rfl⟩
  obtain ⟨tl, etl⟩ : ∃ x, x = (v.js.getD i default).tl := ⟨_, rfl⟩
  obtain ⟨tc, etc⟩ : ∃ x, x = (v.js.getD i default).tc := ⟨_, rfl⟩
  rw [← eta, ← etl, ← etc] at HSu y2
  rw [← eJT, ← etl] at HTL
  rw [← etl] at htl
  have HJT : Hid (JT = (v.js.getD i default).tasks) := eJT
  have HTa : Hid (ta = (v.js.getD i default).ta ∧ tl = (v.js.getD i default).tl ∧ tc = (v.js.getD i default).tc) := ⟨eta, etl, etc⟩
  clear eJT eta etl etc
  cases AS with
  | true =>
    clear eAS hm hr hp hL hc bx h hX1 eJN hY hc1 hf1 hfz hT1
    go_enter Try.func23, Try.ntmps23
    go_upto_region 1 with (fail)
    rw [← eX1]
    clear eX1 q10 f10 x0
    go_wp2_with (first | (go_at_call 52; refine HSu.out.mono ?_; rintro e U ⟨rfl, hbU⟩) | (go_at_call 53; refine (HCom.out _ hbU).mono ?_; rintro e w9 ⟨rfl, h9⟩))
    exact bodyPost_ret (v := .tuple #[]) (by simp [results, Try.results23, go_sem]) rfl (show CheckIs w w9 B q v i JN ls ix more (.returned (.tuple #[])) from ⟨rfl, fun _ => h9, (fun e => by rw [← HAS.out] at e; cases e)⟩)
  | false =>
    clear eAS hr hp hL hc bx h hX1 eJN hY hc1 hf1 hfz hT1 HCom
    go_enter Try.func23, Try.ntmps23
    go_upto_region 1 with (fail)
    rw [← eX1]
    clear eX1 q10 f10 x0
    go_upto_region 3 with (go_at_call 52; refine HSu.out.mono ?_; rintro e U ⟨rfl, hbU⟩)
    have hCU := HC1.out.below hbU
    obtain ⟨g2, eg2, -, zgU, -, hcU, hfU⟩ := hCU.jobAt (i := i) hi
    obtain rfl := ptrEq eg (by exact eg2)
    clear eg2
    have u1 : U.cell? ⟨g, i * 6 + 1, none⟩ = some (.int .i64 (v.js.getD i default).state) := by simpa [JbV.cells] using hcU 1 (by decide)
    have u2 : U.cell? ⟨g, i * 6 + 2, none⟩ = some (.slice (v.js.getD i default).ta (v.js.getD i default).tl (v.js.getD i default).tc) := by simpa [JbV.cells] using hcU 2 (by decide)
    have u5 : U.cell? ⟨g, i * 6 + 5, none⟩ = some (.int .i64 (v.js.getD i default).age) := by simpa [JbV.cells] using hcU 5 (by decide)
    have v1 := hfU 1 (by decide)
    have v5 := hfU 5 (by decide)
    have hP := hCU.jcell (i := i) (g := g) hi eg 1 (by decide) (.int .i64 2) { v.js.getD i default with state := 2 } rfl ⟨rfl, rfl, rfl, rfl, rfl, rfl, rfl, rfl⟩
    have hP2 := hP.jcell (i := i) (g := g) hi eg 5 (by decide) (.int .i64 0) { v.js.getD i default with state := 2, age := 0 } (by simp only []; rw [set_getD _ _ _ hi']; rfl) (by simp only []; rw [set_getD _ _ _ hi']; exact ⟨rfl, rfl, rfl, rfl, rfl, rfl, rfl, rfl⟩)
    simp only [List.set_set] at hP2
    have HP : Hid (Clerk w ((U.setCell ⟨g, i * 6 + 1, none⟩ (.int .i64 2)).setCell ⟨g, i * 6 + 5, none⟩ (.int .i64 0)) B q (chkV v i JN v.ma v.mc []) ix more) := by
      have e : ({ v with sure := JN, js := v.js.set i { v.js.getD i default with state := 2, age := 0 } } : CkV) = chkV v i JN v.ma v.mc [] := by unfold chkV; simp
      rw [← e]
      exact hP2
    clear hP hP2 hCU hcU hfU HSu y2
    obtain ⟨Y, eY⟩ : ∃ Y, Y = (U.setCell ⟨g, i * 6 + 1, none⟩ (.int .i64 2)).setCell ⟨g, i * 6 + 5, none⟩ (.int .i64 0) := ⟨_, rfl⟩
    rw [← eY] at HP
    /- what a clerk of the loop knows of its job -/
    have HJ : Hid (∀ (U : World) (ma : Option Addr) (mc : Nat) (ms : List MV), Clerk w U B q (chkV v i JN ma mc ms) ix more → U.cell? ⟨g, i * 6, none⟩ = some (.int .i64 JN) ∧ U.cell? ⟨g, i * 6 + 2, none⟩ = some (.slice (v.js.getD i default).ta (v.js.getD i default).tl (v.js.getD i default).tc) ∧ g < U.heap.size ∧ IsTasks U (v.js.getD i default).ta (v.js.getD i default).tl (v.js.getD i default).tc (v.js.getD i default).tasks) := fun U ma mc ms hU => by
      obtain ⟨g2, eg2, -, zg2, -, hc2, hf2⟩ := hU.jobAt (i := i) hi
      obtain rfl := ptrEq eg (by exact eg2)
      have hT := hU.isTasks (i := i) hi
      have e1 : (chkV v i JN ma mc ms).js.getD i default = { v.js.getD i default with state := 2, age := 0 } := set_getD _ _ _ hi'
      rw [e1] at hc2 hT
      exact ⟨by rw [HJN.out]; simpa [JbV.cells] using hc2 0 (by decide), by simpa [JbV.cells] using hc2 2 (by decide), zg2, hT⟩
    have HHm : Hid (∀ (U : World) (ma : Option Addr) (mc : Nat) (ms : List MV) (key : Int), Clerk w U B q (chkV v i JN ma mc ms) ix more → Calls Try.prog 51 #[.pointer (some ⟨q, 0, none⟩), .int .i64 key] U fun e U' => e = .returned (.int .i64 (homeNum v.s ls v.p key)) ∧ Below U.heap.size U U') := fun U ma mc ms key hU => clerkHome_any U hU ls (HL.out _ _ _ _ hU) key
    have HSd : Hid (∀ (U : World) (ma : Option Addr) (mc : Nat) (ms : List MV) (t : TkV), ms.length ≤ 1048576 → Clerk w U B q (chkV v i JN ma mc ms) ix more → Calls Try.prog 50 #[.pointer (some ⟨q, 0, none⟩), .int .i64 JN, .int .i64 (homeNum v.s ls v.p t.key), .agg #[.int .i64 3, .int .i64 0, .int .i64 0, .int .i64 0, .int .i64 0, .int .i64 t.label, .int .i64 t.key, .int .i64 0, .int .i64 t.version, .int .i64 0, .bool false, .int .i64 0]] U fun e X' => e = .returned (.tuple #[]) ∧ ∃ ma' mc', Clerk w X' B q (chkV v i JN ma' mc' (ms ++ [chkM v.s ls v.p v.me JN t])) ix more) := fun U ma mc ms t hms hU => by
      have := send_any U hU JN (homeNum v.s ls v.p t.key) ⟨3, 0, 0, 0, 0, t.label, t.key, 0, t.version, 0, false, 0⟩ (chk_fit Hm.out hms)
      refine this.mono ?_
      rintro e u ⟨rfl, m5, k5, h5⟩
      refine ⟨rfl, m5, k5, ?_⟩
      have e5 : chkV v i JN m5 k5 (ms ++ [chkM v.s ls v.p v.me JN t]) = { chkV v i JN ma mc ms with ma := m5, ml := (chkV v i JN ma mc ms).ml + 1, mc := k5, ms := (chkV v i JN ma mc ms).ms ++ [⟨3, (chkV v i JN ma mc ms).me, homeNum v.s ls v.p t.key, (chkV v i JN ma mc ms).me, JN, t.label, t.key, 0, t.version, 0, false, 0⟩] } := by
        unfold chkV chkM
        simp [Nat.add_assoc]
      rw [e5]
      exact h5
    have HFin : Hid (∀ (U : World) (ma : Option Addr) (mc : Nat), Clerk w U B q (chkV v i JN ma mc (chkMs v.s ls v.p v.me JN JT)) ix more → CheckIs w U B q v i JN ls ix more (.returned (.tuple #[]))) := fun U ma mc hU => by
      refine ⟨rfl, fun e => ?_, fun _ => ⟨ma, mc, ?_⟩⟩
      · rw [← HAS.out] at e; cases e
      · rw [← HJT.out]; exact hU
    rw [← HJT.out, ← HTa.out.1, ← HTa.out.2.1, ← HTa.out.2.2] at HJ
    rw [← HTa.out.1, ← HTa.out.2.1, ← HTa.out.2.2] at u2
    clear HAS hm
    go_upto_region 4 with (fail)
    rw [← eY]
    clear eY u1 u2 u5 v1 v5
    obtain ⟨y0, y2, zgY, -⟩ := HJ.out Y v.ma v.mc [] HP.out
    have htl' : (tl : Int) ≤ 1048576 := by omega
    go_upto_region 5 with (fail)
    go_loopw [5, 33] (fun _ s33 wr => ∃ (k : Nat) (m1 : Option Addr) (k1 : Nat), s33 = .int .i64 (k : Int) ∧ k ≤ tl ∧ Clerk w wr B q (chkV v i JN m1 k1 (chkMs v.s ls v.p v.me JN (JT.take k))) ix more) (fun _ s33 _ => tl - (intOf s33).toNat)
    case atStart => exact ⟨0, v.ma, v.mc, rfl, Nat.zero_le _, HP.out⟩
    case round =>
      clear y0 y2 zgY HP
      obtain ⟨k, m1, k1, rfl, hk, hC⟩ := hrel
      by_cases hlt : k < tl
      · have hlt' : (k : Int) < (tl : Int) := by omega
        obtain ⟨j0, -, zj, hT⟩ := HJ.out _ _ _ _ hC
        obtain ⟨b, off, rfl, zb, hcr⟩ := hT.2.2.2.2 (by omega)
        have hktc : k < tc := Nat.lt_of_lt_of_le hlt hT.2.1
        have hcells := hcr k hlt
        have Hk : Hid (k < JT.length) := by show _ < _; rw [HTL.out]; exact hlt
        have HAt : Hid (chkMs v.s ls v.p v.me JN (JT.take (k + 1)) = chkMs v.s ls v.p v.me JN (JT.take k) ++ (if unsure (JT.getD k default) = true then [chkM v.s ls v.p v.me JN (JT.getD k default)] else [])) := chkMs_at Hk.out
        have HLn : Hid ((chkMs v.s ls v.p v.me JN (JT.take k)).length ≤ 1048576) := Nat.le_trans chkMs_len (Nat.le_trans hk htl)
        obtain ⟨t, et⟩ : ∃ t, t = JT.getD k default := ⟨_, rfl⟩
        rw [← et] at hcells HAt
        clear et hcr hT
        obtain ⟨write, label, key, value, version, ask, done, sure⟩ := t
        have a0 := hcells 0 (by decide)
        have a1 := hcells 1 (by decide)
        have a2 := hcells 2 (by decide)
        have a3 := hcells 3 (by decide)
        have a4 := hcells 4 (by decide)
        have a5 := hcells 5 (by decide)
        have a6 := hcells 6 (by decide)
        have a7 := hcells 7 (by decide)
        simp [TkV.cells] at a0 a1 a2 a3 a4 a5 a6 a7
        clear hcells
        obtain ⟨V, hV⟩ : ∃ V : World, V = wr.alloc (.cells #[.bool write, .int .i64 label, .int .i64 key, .int .i64 value, .int .i64 version, .int .i64 ask, .bool done, .bool sure] 73) := ⟨_, rfl⟩
        have bV : Below wr.heap.size wr V := by rw [hV]; exact (Below.refl _ _).alloc (Nat.le_refl _) _
        have bxV : BoxN V wr.heap.size 8 [.bool write, .int .i64 label, .int .i64 key, .int .i64 value, .int .i64 version, .int .i64 ask, .bool done, .bool sure] := by rw [hV]; exact boxn_new wr #[.bool write, .int .i64 label, .int .i64 key, .int .i64 value, .int .i64 version, .int .i64 ask, .bool done, .bool sure] 73 8 rfl
        have HCV : Hid (∀ U, Below V.heap.size V U → Clerk w U B q (chkV v i JN m1 k1 (chkMs v.s ls v.p v.me JN (JT.take k))) ix more) := fun U hU => (hC.below bV).below hU
        have zV := bxV.lt
        have HUn : Hid (∀ U, Calls Try.prog 54 #[.agg #[.bool write, .int .i64 label, .int .i64 key, .int .i64 value, .int .i64 version, .int .i64 ask, .bool done, .bool sure]] U fun e w' => e = .returned (.bool (unsure ⟨write, label, key, value, version, ask, done, sure⟩)) ∧ Below U.heap.size U w') := fun U => isUnsure_any ⟨write, label, key, value, version, ask, done, sure⟩ U
        obtain ⟨UN, eUN⟩ : ∃ b, b = unsure ⟨write, label, key, value, version, ask, done, sure⟩ := ⟨_, rfl⟩
        rw [← eUN] at HUn HAt
        clear eUN
        have l0 : V.cell? ⟨wr.heap.size, 0, none⟩ = some (.bool write) := (bxV.c 0 (by decide)).1
        have l1 : V.cell? ⟨wr.heap.size, 1, none⟩ = some (.int .i64 label) := (bxV.c 1 (by decide)).1
        have l2 : V.cell? ⟨wr.heap.size, 2, none⟩ = some (.int .i64 key) := (bxV.c 2 (by decide)).1
        have l3 : V.cell? ⟨wr.heap.size, 3, none⟩ = some (.int .i64 value) := (bxV.c 3 (by decide)).1
        have l4 : V.cell? ⟨wr.heap.size, 4, none⟩ = some (.int .i64 version) := (bxV.c 4 (by decide)).1
        have l5 : V.cell? ⟨wr.heap.size, 5, none⟩ = some (.int .i64 ask) := (bxV.c 5 (by decide)).1
        have l6 : V.cell? ⟨wr.heap.size, 6, none⟩ = some (.bool done) := (bxV.c 6 (by decide)).1
        have l7 : V.cell? ⟨wr.heap.size, 7, none⟩ = some (.bool sure) := (bxV.c 7 (by decide)).1
        go_upto_region 7 with (fail)
        rw [← hV]
        clear hV a0 a1 a2 a3 a4 a5 a6 a7
        cases UN with
        | false =>
          have HZ : Hid (chkMs v.s ls v.p v.me JN (JT.take (k + 1)) = chkMs v.s ls v.p v.me JN (JT.take k)) := by show _ = _; rw [HAt.out]; simp
          clear HAt
          go_wp2_with (go_at_call 54; refine (HUn.out _).mono ?_; rintro e w5 ⟨rfl, hb5⟩)
          go_roundw
          case rel => exact ⟨k + 1, m1, k1, by go_num, by omega, by rw [HZ.out]; exact HCV.out _ hb5⟩
          case measure => simp [intOf]; omega
        | true =>
          have HZ : Hid (chkMs v.s ls v.p v.me JN (JT.take (k + 1)) = chkMs v.s ls v.p v.me JN (JT.take k) ++ [chkM v.s ls v.p v.me JN ⟨write, label, key, value, version, ask, done, sure⟩]) := by show _ = _; rw [HAt.out]; simp
          clear HAt
          go_upto_region 8 with (go_at_call 54; refine (HUn.out _).mono ?_; rintro e Y5 ⟨rfl, hb5⟩)
          have KC : Hid (∀ U, Below Y5.heap.size Y5 U → U.cell? ⟨g, i * 6, none⟩ = some (.int .i64 JN) ∧ U.cell? ⟨wr.heap.size, 1, none⟩ = some (.int .i64 label) ∧ U.cell? ⟨wr.heap.size, 2, none⟩ = some (.int .i64 key) ∧ U.cell? ⟨wr.heap.size, 4, none⟩ = some (.int .i64 version)) := fun U hU => by
            have hVU := hb5.trans (hU.mono hb5.size)
            exact ⟨(HJ.out _ _ _ _ (HCV.out U hVU)).1, (hVU.cell (p := ⟨wr.heap.size, 1, none⟩) zV).trans l1, (hVU.cell (p := ⟨wr.heap.size, 2, none⟩) zV).trans l2, (hVU.cell (p := ⟨wr.heap.size, 4, none⟩) zV).trans l4⟩
          have HH : Hid (∀ U, Below Y5.heap.size Y5 U → Calls Try.prog 51 #[.pointer (some ⟨q, 0, none⟩), .int .i64 key] U fun e U' => e = .returned (.int .i64 (homeNum v.s ls v.p key)) ∧ Below U.heap.size U U') := fun U hU => HHm.out U _ _ _ key (HCV.out U (hb5.trans (hU.mono hb5.size)))
          obtain ⟨D, eD⟩ : ∃ D : World → Prop, D = fun u => ∃ (ma : Option Addr) (mc : Nat), Clerk w u B q (chkV v i JN ma mc (chkMs v.s ls v.p v.me JN (JT.take (k + 1)))) ix more := ⟨_, rfl⟩
          have HD : Hid (∀ u, D u → ∃ (ma : Option Addr) (mc : Nat), Clerk w u B q (chkV v i JN ma mc (chkMs v.s ls v.p v.me JN (JT.take (k + 1)))) ix more) := fun u hu => by rw [eD] at hu; exact hu
          have HS2 : Hid (∀ U, Below Y5.heap.size Y5 U → Calls Try.prog 50 #[.pointer (some ⟨q, 0, none⟩), .int .i64 JN, .int .i64 (homeNum v.s ls v.p key), .agg #[.int .i64 3, .int .i64 0, .int .i64 0, .int .i64 0, .int .i64 0, .int .i64 label, .int .i64 key, .int .i64 0, .int .i64 version, .int .i64 0, .bool false, .int .i64 0]] U fun e U' => e = .returned (.tuple #[]) ∧ D U') := fun U hU => by
            refine (HSd.out U _ _ _ ⟨write, label, key, value, version, ask, done, sure⟩ HLn.out (HCV.out U (hb5.trans (hU.mono hb5.size)))).mono ?_
            rintro e u ⟨rfl, m5, k5, h5⟩
            refine ⟨rfl, ?_⟩
            rw [eD, HZ.out]
            exact ⟨m5, k5, h5⟩
          obtain ⟨H, eH⟩ : ∃ H, H = homeNum v.s ls v.p key := ⟨_, rfl⟩
          rw [← eH] at HH HS2
          clear eD eH HZ l0 l1 l2 l3 l4 l5 l6 l7 bxV hC j0
          refine wp_region_inv (by kernel_rfl) [39, 40, 41, 42, 43, 44, 45, 46, 47, 48, 49, 50, 51, 52, 53, 54, 55] (fun L T u => True ∧ (L 0 = true → T 39 = .pointer (some ⟨q, 0, none⟩)) ∧ (L 1 = true → T 40 = .pointer (some ⟨g, i * 6, none⟩)) ∧ (L 2 = true → T 41 = .pointer (some ⟨g, i * 6, none⟩)) ∧ (L 3 = true → T 42 = .pointer (some ⟨g, i * 6, none⟩)) ∧ (L 4 = true → T 43 = .int .i64 JN) ∧ (L 5 = true → T 44 = .pointer (some ⟨q, 0, none⟩)) ∧ (L 6 = true → T 45 = .pointer (some ⟨wr.heap.size, 2, none⟩)) ∧ (L 7 = true → T 46 = .int .i64 key) ∧ (L 8 = true → T 47 = .int .i64 H) ∧ (L 9 = true → T 48 = .pointer (some ⟨wr.heap.size, 1, none⟩)) ∧ (L 10 = true → T 49 = .int .i64 label) ∧ (L 11 = true → T 50 = .pointer (some ⟨wr.heap.size, 2, none⟩)) ∧ (L 12 = true → T 51 = .int .i64 key) ∧ (L 13 = true → T 52 = .pointer (some ⟨wr.heap.size, 4, none⟩)) ∧ (L 14 = true → T 53 = .int .i64 version) ∧ (L 15 = true → T 54 = .agg #[.int .i64 3, .int .i64 0, .int .i64 0, .int .i64 0, .int .i64 0, .int .i64 label, .int .i64 key, .int .i64 0, .int .i64 version, .int .i64 0, .bool false, .int .i64 0]) ∧ (L 16 = false → Below Y5.heap.size Y5 u) ∧ (L 16 = true → D u)) (by decide) (by kernel_rfl) (by kernel_rfl) ?_ ?_ ?_
          · exact ⟨trivial, nofun, nofun, nofun, nofun, nofun, nofun, nofun, nofun, nofun, nofun, nofun, nofun, nofun, nofun, nofun, nofun, fun _ => (Below.refl _ _).drew, nofun⟩
          · refine ⟨?_, ?_, ?_, ?_, ?_, ?_, ?_, ?_, ?_, ?_, ?_, ?_, ?_, ?_, ?_, ?_, ?_, trivial⟩
            · rintro L T u hd hk hcl ⟨hb, p0, p1, p2, p3, p4, p5, p6, p7, p8, p9, p10, p11, p12, p13, p14, p15, c1, c2⟩ K hK
              simp only [fr, Act.put, List.setIfInBounds_toArray, List.set_cons_zero, List.set_cons_succ, updO] at hK ⊢
              simp [Region.binds] at hd
              rw [if_pos (by rfl)]
              simp only [Oper.wpv]
              go_simp
              exact hK _ _ ⟨hb, fun _ => rfl, p1, p2, p3, p4, p5, p6, p7, p8, p9, p10, p11, p12, p13, p14, p15, c1, c2⟩
            · rintro L T u hd hk hcl ⟨hb, p0, p1, p2, p3, p4, p5, p6, p7, p8, p9, p10, p11, p12, p13, p14, p15, c1, c2⟩ K hK
              simp only [fr, Act.put, List.setIfInBounds_toArray, List.set_cons_zero, List.set_cons_succ, updO] at hK ⊢
              simp [Region.binds] at hd
              rw [if_pos (by rfl)]
              simp only [Oper.wpv]
              go_simp
              exact hK _ _ ⟨hb, p0, fun _ => rfl, p2, p3, p4, p5, p6, p7, p8, p9, p10, p11, p12, p13, p14, p15, c1, c2⟩
            · rintro L T u hd hk hcl ⟨hb, p0, p1, p2, p3, p4, p5, p6, p7, p8, p9, p10, p11, p12, p13, p14, p15, c1, c2⟩ K hK
              simp only [fr, Act.put, List.setIfInBounds_toArray, List.set_cons_zero, List.set_cons_succ, updO] at hK ⊢
              simp [Region.binds] at hd
              have g1 := p1 (by simp [hd])
              rw [if_pos (by rfl)]
              simp only [Oper.wpv]
              go_simp
              exact hK _ _ ⟨hb, p0, p1, fun _ => rfl, p3, p4, p5, p6, p7, p8, p9, p10, p11, p12, p13, p14, p15, c1, c2⟩
            · rintro L T u hd hk hcl ⟨hb, p0, p1, p2, p3, p4, p5, p6, p7, p8, p9, p10, p11, p12, p13, p14, p15, c1, c2⟩ K hK
              simp only [fr, Act.put, List.setIfInBounds_toArray, List.set_cons_zero, List.set_cons_succ, updO] at hK ⊢
              simp [Region.binds] at hd
              have g2 := p2 (by simp [hd])
              rw [if_pos (by rfl)]
              simp only [Oper.wpv]
              go_simp
              exact hK _ _ ⟨hb, p0, p1, p2, fun _ => rfl, p4, p5, p6, p7, p8, p9, p10, p11, p12, p13, p14, p15, c1, c2⟩
            · rintro L T u hd hk hcl ⟨hb, p0, p1, p2, p3, p4, p5, p6, p7, p8, p9, p10, p11, p12, p13, p14, p15, c1, c2⟩ K hK
              simp only [fr, Act.put, List.setIfInBounds_toArray, List.set_cons_zero, List.set_cons_succ, updO] at hK ⊢
              simp [Region.binds] at hd
              have g3 := p3 (by simp [hd])
              have k16 := hcl 16 _ rfl
              simp [Region.binds] at k16
              have hE : L 16 = false := by cases h : L 16 with | false => rfl | true => have a16 := k16 h; simp [hk] at a16
              obtain ⟨xn, xl, xk, xv⟩ := KC.out u (c1 hE)
              rw [if_pos (by rfl)]
              simp only [Oper.wpv]
              go_simp
              exact hK _ _ ⟨hb, p0, p1, p2, p3, fun _ => rfl, p5, p6, p7, p8, p9, p10, p11, p12, p13, p14, p15, c1, c2⟩
            · rintro L T u hd hk hcl ⟨hb, p0, p1, p2, p3, p4, p5, p6, p7, p8, p9, p10, p11, p12, p13, p14, p15, c1, c2⟩ K hK
              simp only [fr, Act.put, List.setIfInBounds_toArray, List.set_cons_zero, List.set_cons_succ, updO] at hK ⊢
              simp [Region.binds] at hd
              rw [if_pos (by rfl)]
              simp only [Oper.wpv]
              go_simp
              exact hK _ _ ⟨hb, p0, p1, p2, p3, p4, fun _ => rfl, p6, p7, p8, p9, p10, p11, p12, p13, p14, p15, c1, c2⟩
            · rintro L T u hd hk hcl ⟨hb, p0, p1, p2, p3, p4, p5, p6, p7, p8, p9, p10, p11, p12, p13, p14, p15, c1, c2⟩ K hK
              simp only [fr, Act.put, List.setIfInBounds_toArray, List.set_cons_zero, List.set_cons_succ, updO] at hK ⊢
              simp [Region.binds] at hd
              rw [if_pos (by rfl)]
              simp only [Oper.wpv]
              go_simp
              exact hK _ _ ⟨hb, p0, p1, p2, p3, p4, p5, fun _ => rfl, p7, p8, p9, p10, p11, p12, p13, p14, p15, c1, c2⟩
            · rintro L T u hd hk hcl ⟨hb, p0, p1, p2, p3, p4, p5, p6, p7, p8, p9, p10, p11, p12, p13, p14, p15, c1, c2⟩ K hK
              simp only [fr, Act.put, List.setIfInBounds_toArray, List.set_cons_zero, List.set_cons_succ, updO] at hK ⊢
              simp [Region.binds] at hd
              have g6 := p6 (by simp [hd])
              have k16 := hcl 16 _ rfl
              simp [Region.binds] at k16
              have k8 := hcl 8 _ rfl
              simp [Region.binds] at k8
              have hE : L 16 = false := by cases h : L 16 with | false => rfl | true => have a16 := k16 h; have a8 := k8 (by simp [a16]); simp [hk] at a8
              obtain ⟨xn, xl, xk, xv⟩ := KC.out u (c1 hE)
              rw [if_pos (by rfl)]
              simp only [Oper.wpv]
              go_simp
              exact hK _ _ ⟨hb, p0, p1, p2, p3, p4, p5, p6, fun _ => rfl, p8, p9, p10, p11, p12, p13, p14, p15, c1, c2⟩
            · rintro L T u hd hk hcl ⟨hb, p0, p1, p2, p3, p4, p5, p6, p7, p8, p9, p10, p11, p12, p13, p14, p15, c1, c2⟩ K hK
              simp only [fr, Act.put, List.setIfInBounds_toArray, List.set_cons_zero, List.set_cons_succ, updO] at hK ⊢
              simp [Region.binds] at hd
              have g5 := p5 (by simp [hd])
              have g7 := p7 (by simp [hd])
              have k16 := hcl 16 _ rfl
              simp [Region.binds] at k16
              have hE : L 16 = false := by cases h : L 16 with | false => rfl | true => have a16 := k16 h; simp [hk] at a16
              rw [if_pos (by rfl)]
              simp only [Oper.wpv]
              go_simp
              refine (HH.out _ (c1 hE)).mono ?_
              rintro e u1 ⟨rfl, hg⟩
              exact hK _ _ ⟨hb, p0, p1, p2, p3, p4, p5, p6, p7, fun _ => rfl, p9, p10, p11, p12, p13, p14, p15, fun _ => nT (c1 hE) hg, fun h => absurd (show L 16 = true from h) (by simp [hE])⟩
            · rintro L T u hd hk hcl ⟨hb, p0, p1, p2, p3, p4, p5, p6, p7, p8, p9, p10, p11, p12, p13, p14, p15, c1, c2⟩ K hK
              simp only [fr, Act.put, List.setIfInBounds_toArray, List.set_cons_zero, List.set_cons_succ, updO] at hK ⊢
              simp [Region.binds] at hd
              rw [if_pos (by rfl)]
              simp only [Oper.wpv]
              go_simp
              exact hK _ _ ⟨hb, p0, p1, p2, p3, p4, p5, p6, p7, p8, fun _ => rfl, p10, p11, p12, p13, p14, p15, c1, c2⟩
            · rintro L T u hd hk hcl ⟨hb, p0, p1, p2, p3, p4, p5, p6, p7, p8, p9, p10, p11, p12, p13, p14, p15, c1, c2⟩ K hK
              simp only [fr, Act.put, List.setIfInBounds_toArray, List.set_cons_zero, List.set_cons_succ, updO] at hK ⊢
              simp [Region.binds] at hd
              have g9 := p9 (by simp [hd])
              have k16 := hcl 16 _ rfl
              simp [Region.binds] at k16
              have k15 := hcl 15 _ rfl
              simp [Region.binds] at k15
              have hE : L 16 = false := by cases h : L 16 with | false => rfl | true => have a16 := k16 h; have a15 := k15 (by simp [a16]); simp [hk] at a15
              obtain ⟨xn, xl, xk, xv⟩ := KC.out u (c1 hE)
              rw [if_pos (by rfl)]
              simp only [Oper.wpv]
              go_simp
              exact hK _ _ ⟨hb, p0, p1, p2, p3, p4, p5, p6, p7, p8, p9, fun _ => rfl, p11, p12, p13, p14, p15, c1, c2⟩
            · rintro L T u hd hk hcl ⟨hb, p0, p1, p2, p3, p4, p5, p6, p7, p8, p9, p10, p11, p12, p13, p14, p15, c1, c2⟩ K hK
              simp only [fr, Act.put, List.setIfInBounds_toArray, List.set_cons_zero, List.set_cons_succ, updO] at hK ⊢
              simp [Region.binds] at hd
              rw [if_pos (by rfl)]
              simp only [Oper.wpv]
              go_simp
              exact hK _ _ ⟨hb, p0, p1, p2, p3, p4, p5, p6, p7, p8, p9, p10, fun _ => rfl, p12, p13, p14, p15, c1, c2⟩
            · rintro L T u hd hk hcl ⟨hb, p0, p1, p2, p3, p4, p5, p6, p7, p8, p9, p10, p11, p12, p13, p14, p15, c1, c2⟩ K hK
              simp only [fr, Act.put, List.setIfInBounds_toArray, List.set_cons_zero, List.set_cons_succ, updO] at hK ⊢
              simp [Region.binds] at hd
              have g11 := p11 (by simp [hd])
              have k16 := hcl 16 _ rfl
              simp [Region.binds] at k16
              have k15 := hcl 15 _ rfl
              simp [Region.binds] at k15
              have hE : L 16 = false := by cases h : L 16 with | false => rfl | true => have a16 := k16 h; have a15 := k15 (by simp [a16]); simp [hk] at a15
              obtain ⟨xn, xl, xk, xv⟩ := KC.out u (c1 hE)
              rw [if_pos (by rfl)]
              simp only [Oper.wpv]
              go_simp
              exact hK _ _ ⟨hb, p0, p1, p2, p3, p4, p5, p6, p7, p8, p9, p10, p11, fun _ => rfl, p13, p14, p15, c1, c2⟩
            · rintro L T u hd hk hcl ⟨hb, p0, p1, p2, p3, p4, p5, p6, p7, p8, p9, p10, p11, p12, p13, p14, p15, c1, c2⟩ K hK
              simp only [fr, Act.put, List.setIfInBounds_toArray, List.set_cons_zero, List.set_cons_succ, updO] at hK ⊢
              simp [Region.binds] at hd
              rw [if_pos (by rfl)]
              simp only [Oper.wpv]
              go_simp
              exact hK _ _ ⟨hb, p0, p1, p2, p3, p4, p5, p6, p7, p8, p9, p10, p11, p12, fun _ => rfl, p14, p15, c1, c2⟩
            · rintro L T u hd hk hcl ⟨hb, p0, p1, p2, p3, p4, p5, p6, p7, p8, p9, p10, p11, p12, p13, p14, p15, c1, c2⟩ K hK
              simp only [fr, Act.put, List.setIfInBounds_toArray, List.set_cons_zero, List.set_cons_succ, updO] at hK ⊢
              simp [Region.binds] at hd
              have g13 := p13 (by simp [hd])
              have k16 := hcl 16 _ rfl
              simp [Region.binds] at k16
              have k15 := hcl 15 _ rfl
              simp [Region.binds] at k15
              have hE : L 16 = false := by cases h : L 16 with | false => rfl | true => have a16 := k16 h; have a15 := k15 (by simp [a16]); simp [hk] at a15
              obtain ⟨xn, xl, xk, xv⟩ := KC.out u (c1 hE)
              rw [if_pos (by rfl)]
              simp only [Oper.wpv]
              go_simp
              exact hK _ _ ⟨hb, p0, p1, p2, p3, p4, p5, p6, p7, p8, p9, p10, p11, p12, p13, fun _ => rfl, p15, c1, c2⟩
            · rintro L T u hd hk hcl ⟨hb, p0, p1, p2, p3, p4, p5, p6, p7, p8, p9, p10, p11, p12, p13, p14, p15, c1, c2⟩ K hK
              simp only [fr, Act.put, List.setIfInBounds_toArray, List.set_cons_zero, List.set_cons_succ, updO] at hK ⊢
              simp [Region.binds] at hd
              have g10 := p10 (by simp [hd])
              have g12 := p12 (by simp [hd])
              have g14 := p14 (by simp [hd])
              rw [if_pos (by rfl)]
              simp only [Oper.wpv]
              go_simp
              exact hK _ _ ⟨hb, p0, p1, p2, p3, p4, p5, p6, p7, p8, p9, p10, p11, p12, p13, p14, fun _ => rfl, c1, c2⟩
            · rintro L T u hd hk hcl ⟨hb, p0, p1, p2, p3, p4, p5, p6, p7, p8, p9, p10, p11, p12, p13, p14, p15, c1, c2⟩ K hK
              simp only [fr, Act.put, List.setIfInBounds_toArray, List.set_cons_zero, List.set_cons_succ, updO] at hK ⊢
              simp [Region.binds] at hd
              have g0 := p0 (by simp [hd])
              have g4 := p4 (by simp [hd])
              have g8 := p8 (by simp [hd])
              have g15 := p15 (by simp [hd])
              have hE : L 16 = false := hk
              rw [if_pos (by rfl)]
              simp only [Oper.wpv]
              go_simp
              refine (HS2.out _ (c1 hE)).mono ?_
              rintro e u1 ⟨rfl, hg⟩
              exact hK _ _ ⟨hb, p0, p1, p2, p3, p4, p5, p6, p7, p8, p9, p10, p11, p12, p13, p14, p15, fun h => Bool.noConfusion (show true = false from h), fun _ => hg⟩
          · rintro L T u hl ⟨hb, p0, p1, p2, p3, p4, p5, p6, p7, p8, p9, p10, p11, p12, p13, p14, p15, c1, c2⟩
            simp only [fr, Act.put, List.setIfInBounds_toArray, List.set_cons_zero, List.set_cons_succ]
            obtain ⟨m5, k5, h5⟩ := HD.out _ (c2 (hl 16 (by decide)))
            clear p0 p1 p2 p3 p4 p5 p6 p7 p8 p9 p10 p11 p12 p13 p14 p15 c1 c2 HD HS2 HH KC HUn HCV
            go_wp2
            go_roundw
            case rel => exact ⟨k + 1, m5, k5, by go_num, by omega, h5⟩
            case measure => simp [intOf]; omega
      · have HkN : Hid (k = tl) := by show _ = _; omega
        have hlt' : ¬ (k : Int) < (tl : Int) := by omega
        have h6 : CheckIs w wr B q v i JN ls ix more (.returned (.tuple #[])) := by
          refine HFin.out wr m1 k1 ?_
          rw [List.take_of_length_le (by rw [HkN.out, HTL.out]; exact Nat.le_refl _)] at hC
          exact hC
        clear hk hlt hC
        go_wp2
        exact bodyPost_end (v := .tuple #[]) (by simp [results, Try.results23, go_sem]) rfl h6
end Go.Proofs.Ytfhciplckjkflaa.Co
/- The clerk's get: a read is put behind a job's tasks, and the key's home is asked. -/
namespace Go.Proofs.Ytfhciplckjkflaa.Co
open Go.ChangeShapes Go.WideShapes Go.ChangeAt Go.RowKit
open Go.Proofs.Ytfhciplckjkflaa.St (BoxN boxn_new own_below grown_setCell IsRow Elem flat flat_append own_isRow)
set_option linter.unusedVariables false

/-- The clerk behind a task that was put, and the message that asks for it. -/
def askV (v : CkV) (i : Nat) (t : TkV) (a5 : Option Addr) (c5 : Nat) (ma : Option Addr) (mc : Nat) (m : MV) : CkV := { v with js := v.js.set i (addJob (v.js.getD i default) a5 c5 t), ma := ma, ml := v.ml + 1, mc := mc, ms := v.ms ++ [m] }
def AskIs (w X' : World) (B q : Nat) (v : CkV) (i : Nat) (t : TkV) (m : MV) (ix : List (Nat × Nat)) (e : Ending) : Prop := e = .returned (.tuple #[]) ∧ ∃ (a5 : Option Addr) (c5 : Nat) (ma : Option Addr) (mc : Nat) (more : List Rw), Clerk w X' B q (askV v i t a5 c5 ma mc m) ix more
def getM (s : Int) (ls : List (Int × Int)) (p me : Int) (x : ClV) (j : JbV) : MV := ⟨1, me, homeNum s ls p x.key, me, j.n, x.label, x.key, 0, 0, j.asks + 1, false, 0⟩
set_option maxRecDepth 100000 in
set_option maxHeartbeats 4000000 in
theorem get_any {w : World} {B q : Nat} {v : CkV} {ix : List (Nat × Nat)} {more : List Rw} (X : World) (h : Clerk w X B q v ix more) (ls : List (Int × Int)) {i g : Nat} (hi : i < v.jl) (eg : v.ja = some ⟨g, 0, none⟩) (x : ClV) (h0 : 0 ≤ (v.js.getD i default).asks) (h1 : (v.js.getD i default).asks ≤ 1048576) (hn : ((v.js.getD i default).tl + 1) * 56 ≤ 140737488355328) (hm : (v.ml + 1) * 96 ≤ 140737488355328)
    (hL : ∀ (U : World) (u : CkV) (iy : List (Nat × Nat)) (m' : List Rw), Clerk w U B q u iy m' → IsLabs U v.a v.len v.cap ls) :
    Calls Try.prog 21 #[.pointer (some ⟨q, 0, none⟩), .pointer (some ⟨g, i * 6, none⟩), x.val] X fun e X' => AskIs w X' B q v i ⟨false, x.label, x.key, 0, 0, 0, false, false⟩ (getM v.s ls v.p v.me x (v.js.getD i default)) ix e := by
  obtain ⟨kind, n, label, key, value⟩ := x
  obtain ⟨W, hW⟩ : ∃ W : World, W = X.alloc (.cells #[.int .i64 kind, .int .i64 n, .int .i64 label, .int .i64 key, .int .i64 value] 29) := ⟨_, rfl⟩
  have bW : Below X.heap.size X W := by rw [hW]; exact (Below.refl _ _).alloc (Nat.le_refl _) _
  have zW : X.heap.size < W.heap.size := by rw [hW]; simp
  have x2 : W.cell? ⟨X.heap.size, 2, none⟩ = some (.int .i64 label) := by rw [hW]; go_simp
  have x3 : W.cell? ⟨X.heap.size, 3, none⟩ = some (.int .i64 key) := by rw [hW]; go_simp
  have hCW : Clerk w W B q v ix (more ++ [⟨29, 5, .slice (some ⟨X.heap.size, 0, none⟩) 1 1, 1, [.int .i64 kind, .int .i64 n, .int .i64 label, .int .i64 key, .int .i64 value]⟩]) := h.add bW (by rw [hW]; exact box_row X _ _ 5 rfl)
  have hi' : i < v.js.length := by have := h.lens.1; omega
  have HAdd : Hid (Calls Try.prog 49 #[.pointer (some ⟨g, i * 6, none⟩), .agg #[.bool false, .int .i64 label, .int .i64 key, .int .i64 0, .int .i64 0, .int .i64 0, .bool false, .bool false]] W fun e X' => AddIs w X' B q v i ⟨false, label, key, 0, 0, 0, false, false⟩ ix (more ++ [⟨29, 5, .slice (some ⟨X.heap.size, 0, none⟩) 1 1, 1, [.int .i64 kind, .int .i64 n, .int .i64 label, .int .i64 key, .int .i64 value]⟩]) e) := add_any W hCW hi eg ⟨false, label, key, 0, 0, 0, false, false⟩ h0 h1 hn
  obtain ⟨A, eA⟩ : ∃ A, A = (v.js.getD i default).asks + 1 := ⟨_, rfl⟩
  have HAdd2 : Hid (Calls Try.prog 49 #[.pointer (some ⟨g, i * 6, none⟩), .agg #[.bool false, .int .i64 label, .int .i64 key, .int .i64 0, .int .i64 0, .int .i64 0, .bool false, .bool false]] W fun e X' => e = .returned (.int .i64 A) ∧ AddIs w X' B q v i ⟨false, label, key, 0, 0, 0, false, false⟩ ix (more ++ [⟨29, 5, .slice (some ⟨X.heap.size, 0, none⟩) 1 1, 1, [.int .i64 kind, .int .i64 n, .int .i64 label, .int .i64 key, .int .i64 value]⟩]) (.returned (.int .i64 A))) := by
    refine HAdd.out.mono ?_
    rintro e u ⟨rfl, hu⟩
    exact ⟨by rw [eA], by rw [eA], hu⟩
  have HEA : Hid (A = (v.js.getD i default).asks + 1) := eA
  clear eA HAdd
  have HKM : Hid (∀ (k y : Nat), ix[i]? = some (k, y) → k < more.length) := fun k y e => by
    obtain ⟨z, ez, e1, _⟩ := h.jobs.at hi'
    rw [ez] at e
    obtain rfl := Option.some.inj e
    exact (List.getElem?_eq_some_iff.1 e1).1
  have Hm : Hid ((v.ml + 1) * 96 ≤ 140737488355328) := hm
  have HL : Hid (∀ (U : World) (u : CkV) (iy : List (Nat × Nat)) (m' : List Rw), Clerk w U B q u iy m' → IsLabs U v.a v.len v.cap ls) := hL
  clear hn hm h0 h1 h hCW hL
  simp only [ClV.val]
  go_enter Try.func21, Try.ntmps21
  go_upto_region 1 with (fail)
  rw [← hW]
  clear hW
  go_upto_region 2 with (go_at_call 49; refine HAdd2.out.mono ?_; rintro e Y ⟨rfl, _, a5, c5, kx, rx, ⟨ky, hky⟩, hC⟩)
  have hkm := HKM.out kx ky hky
  have eb : ((more ++ [(⟨29, 5, .slice (some ⟨X.heap.size, 0, none⟩) 1 1, 1, [.int .i64 kind, .int .i64 n, .int .i64 label, .int .i64 key, .int .i64 value]⟩ : Rw)]).set kx rx)[more.length]? = some (⟨29, 5, .slice (some ⟨X.heap.size, 0, none⟩) 1 1, 1, [.int .i64 kind, .int .i64 n, .int .i64 label, .int .i64 key, .int .i64 value]⟩ : Rw) := by
    rw [List.getElem?_set_ne (by omega)]
    simp
  have ob := hC.held.own.own _ _ (more_get eb)
  have y2 : Y.cell? ⟨X.heap.size, 2, none⟩ = some (.int .i64 label) := (own_at ob (j := 2) (by show 2 < 1 * 5; decide)).1
  have y3 : Y.cell? ⟨X.heap.size, 3, none⟩ = some (.int .i64 key) := (own_at ob (j := 3) (by show 3 < 1 * 5; decide)).1
  have zb : X.heap.size < Y.heap.size := (own_at ob (j := 2) (by show 2 < 1 * 5; decide)).2
  obtain ⟨g2, eg2, _, zgY, _, hcY, _⟩ := hC.jobAt (i := i) hi
  have e3 : g = g2 := by
    have e4 : v.ja = some ⟨g2, 0, none⟩ := eg2
    rw [eg] at e4
    simpa using e4
  subst e3
  have yn : Y.cell? ⟨g, i * 6, none⟩ = some (.int .i64 (v.js.getD i default).n) := by
    have := hcY 0 (by decide)
    simp only [] at this
    rw [set_getD _ _ _ hi'] at this
    exact this
  have KC : Hid (∀ U, Below Y.heap.size Y U → U.cell? ⟨g, i * 6, none⟩ = some (.int .i64 (v.js.getD i default).n) ∧ U.cell? ⟨X.heap.size, 2, none⟩ = some (.int .i64 label) ∧ U.cell? ⟨X.heap.size, 3, none⟩ = some (.int .i64 key)) := fun U hU => ⟨(hU.cell (p := ⟨g, i * 6, none⟩) zgY).trans yn, (hU.cell (p := ⟨X.heap.size, 2, none⟩) zb).trans y2, (hU.cell (p := ⟨X.heap.size, 3, none⟩) zb).trans y3⟩
  have HH : Hid (∀ U, Below Y.heap.size Y U → Calls Try.prog 51 #[.pointer (some ⟨q, 0, none⟩), .int .i64 key] U fun e U' => e = .returned (.int .i64 (homeNum v.s ls v.p key)) ∧ Below U.heap.size U U') := fun U hU => clerkHome_any U (hC.below hU) ls (HL.out _ _ _ _ (hC.below hU)) key
  obtain ⟨H, eH⟩ : ∃ H, H = homeNum v.s ls v.p key := ⟨_, rfl⟩
  obtain ⟨JN, eJN⟩ : ∃ JN, JN = (v.js.getD i default).n := ⟨_, rfl⟩
  have HS : Hid (∀ U, Below Y.heap.size Y U → Calls Try.prog 50 #[.pointer (some ⟨q, 0, none⟩), .int .i64 JN, .int .i64 H, .agg #[.int .i64 1, .int .i64 0, .int .i64 0, .int .i64 0, .int .i64 0, .int .i64 label, .int .i64 key, .int .i64 0, .int .i64 0, .int .i64 A, .bool false, .int .i64 0]] U fun e U' => AskIs w U' B q v i ⟨false, label, key, 0, 0, 0, false, false⟩ (getM v.s ls v.p v.me ⟨kind, n, label, key, value⟩ (v.js.getD i default)) ix e) := fun U hU => by
    have := send_any U (hC.below hU) JN H ⟨1, 0, 0, 0, 0, label, key, 0, 0, A, false, 0⟩ Hm.out
    simp only [MV.val] at this
    refine this.mono ?_
    rintro e u ⟨rfl, m5, k5, h5⟩
    refine ⟨rfl, a5, c5, m5, k5, (more ++ [(⟨29, 5, .slice (some ⟨X.heap.size, 0, none⟩) 1 1, 1, [.int .i64 kind, .int .i64 n, .int .i64 label, .int .i64 key, .int .i64 value]⟩ : Rw)]).set kx rx, ?_⟩
    rw [HEA.out, eH, eJN] at h5
    exact h5
  rw [← eJN] at KC
  rw [← eH] at HH
  obtain ⟨D, eD⟩ : ∃ D : World → Prop, D = fun u => AskIs w u B q v i ⟨false, label, key, 0, 0, 0, false, false⟩ (getM v.s ls v.p v.me ⟨kind, n, label, key, value⟩ (v.js.getD i default)) ix (.returned (.tuple #[])) := ⟨_, rfl⟩
  have HD : Hid (∀ u, D u → AskIs w u B q v i ⟨false, label, key, 0, 0, 0, false, false⟩ (getM v.s ls v.p v.me ⟨kind, n, label, key, value⟩ (v.js.getD i default)) ix (.returned (.tuple #[]))) := fun u hu => by rw [eD] at hu; exact hu
  have HS2 : Hid (∀ U, Below Y.heap.size Y U → Calls Try.prog 50 #[.pointer (some ⟨q, 0, none⟩), .int .i64 JN, .int .i64 H, .agg #[.int .i64 1, .int .i64 0, .int .i64 0, .int .i64 0, .int .i64 0, .int .i64 label, .int .i64 key, .int .i64 0, .int .i64 0, .int .i64 A, .bool false, .int .i64 0]] U fun e U' => e = .returned (.tuple #[]) ∧ D U') := fun U hU => by
    refine (HS.out U hU).mono ?_
    rintro e u ⟨rfl, hu⟩
    exact ⟨rfl, by rw [eD]; exact ⟨rfl, hu⟩⟩
  clear HS eD eH eJN hC yn y2 y3 hcY ob x2 x3
  refine wp_region_inv (by kernel_rfl) [14, 15, 16, 17, 18, 19, 20, 21, 22, 23, 24, 25, 26, 27, 28, 29] (fun L T u => True ∧ (L 0 = true → T 14 = .pointer (some ⟨q, 0, none⟩)) ∧ (L 1 = true → T 15 = .pointer (some ⟨g, i * 6, none⟩)) ∧ (L 2 = true → T 16 = .pointer (some ⟨g, i * 6, none⟩)) ∧ (L 3 = true → T 17 = .pointer (some ⟨g, i * 6, none⟩)) ∧ (L 4 = true → T 18 = .int .i64 JN) ∧ (L 5 = true → T 19 = .pointer (some ⟨q, 0, none⟩)) ∧ (L 6 = true → T 20 = .pointer (some ⟨X.heap.size, 3, none⟩)) ∧ (L 7 = true → T 21 = .int .i64 key) ∧ (L 8 = true → T 22 = .int .i64 H) ∧ (L 9 = true → T 23 = .pointer (some ⟨X.heap.size, 2, none⟩)) ∧ (L 10 = true → T 24 = .int .i64 label) ∧ (L 11 = true → T 25 = .pointer (some ⟨X.heap.size, 3, none⟩)) ∧ (L 12 = true → T 26 = .int .i64 key) ∧ (L 13 = true → T 27 = .int .i64 A) ∧ (L 14 = true → T 28 = .agg #[.int .i64 1, .int .i64 0, .int .i64 0, .int .i64 0, .int .i64 0, .int .i64 label, .int .i64 key, .int .i64 0, .int .i64 0, .int .i64 A, .bool false, .int .i64 0]) ∧ (L 15 = false → Below Y.heap.size Y u) ∧ (L 15 = true → D u)) (by decide) (by kernel_rfl) (by kernel_rfl) ?_ ?_ ?_
  · exact ⟨trivial, nofun, nofun, nofun, nofun, nofun, nofun, nofun, nofun, nofun, nofun, nofun, nofun, nofun, nofun, nofun, fun _ => (Below.refl _ _).drew, nofun⟩
  · refine ⟨?_, ?_, ?_, ?_, ?_, ?_, ?_, ?_, ?_, ?_, ?_, ?_, ?_, ?_, ?_, ?_, trivial⟩
    · rintro L T u hd hk hcl ⟨hb, p0, p1, p2, p3, p4, p5, p6, p7, p8, p9, p10, p11, p12, p13, p14, c1, c2⟩ K hK
      simp only [fr, Act.put, List.setIfInBounds_toArray, List.set_cons_zero, List.set_cons_succ, updO] at hK ⊢
      simp [Region.binds] at hd
      rw [if_pos (by rfl)]
      simp only [Oper.wpv]
      go_simp
      exact hK _ _ ⟨hb, fun _ => rfl, p1, p2, p3, p4, p5, p6, p7, p8, p9, p10, p11, p12, p13, p14, c1, c2⟩
    · rintro L T u hd hk hcl ⟨hb, p0, p1, p2, p3, p4, p5, p6, p7, p8, p9, p10, p11, p12, p13, p14, c1, c2⟩ K hK
      simp only [fr, Act.put, List.setIfInBounds_toArray, List.set_cons_zero, List.set_cons_succ, updO] at hK ⊢
      simp [Region.binds] at hd
      rw [if_pos (by rfl)]
      simp only [Oper.wpv]
      go_simp
      exact hK _ _ ⟨hb, p0, fun _ => rfl, p2, p3, p4, p5, p6, p7, p8, p9, p10, p11, p12, p13, p14, c1, c2⟩
    · rintro L T u hd hk hcl ⟨hb, p0, p1, p2, p3, p4, p5, p6, p7, p8, p9, p10, p11, p12, p13, p14, c1, c2⟩ K hK
      simp only [fr, Act.put, List.setIfInBounds_toArray, List.set_cons_zero, List.set_cons_succ, updO] at hK ⊢
      simp [Region.binds] at hd
      have g1 := p1 (by simp [hd])
      rw [if_pos (by rfl)]
      simp only [Oper.wpv]
      go_simp
      exact hK _ _ ⟨hb, p0, p1, fun _ => rfl, p3, p4, p5, p6, p7, p8, p9, p10, p11, p12, p13, p14, c1, c2⟩
    · rintro L T u hd hk hcl ⟨hb, p0, p1, p2, p3, p4, p5, p6, p7, p8, p9, p10, p11, p12, p13, p14, c1, c2⟩ K hK
      simp only [fr, Act.put, List.setIfInBounds_toArray, List.set_cons_zero, List.set_cons_succ, updO] at hK ⊢
      simp [Region.binds] at hd
      have g2 := p2 (by simp [hd])
      rw [if_pos (by rfl)]
      simp only [Oper.wpv]
      go_simp
      exact hK _ _ ⟨hb, p0, p1, p2, fun _ => rfl, p4, p5, p6, p7, p8, p9, p10, p11, p12, p13, p14, c1, c2⟩
    · rintro L T u hd hk hcl ⟨hb, p0, p1, p2, p3, p4, p5, p6, p7, p8, p9, p10, p11, p12, p13, p14, c1, c2⟩ K hK
      simp only [fr, Act.put, List.setIfInBounds_toArray, List.set_cons_zero, List.set_cons_succ, updO] at hK ⊢
      simp [Region.binds] at hd
      have g3 := p3 (by simp [hd])
      have k15 := hcl 15 _ rfl
      simp [Region.binds] at k15
      have h15 : L 15 = false := by cases h : L 15 with | false => rfl | true => have := k15 h; simp [hk] at this
      obtain ⟨xn, xl, xk⟩ := KC.out u (c1 h15)
      rw [if_pos (by rfl)]
      simp only [Oper.wpv]
      go_simp
      exact hK _ _ ⟨hb, p0, p1, p2, p3, fun _ => rfl, p5, p6, p7, p8, p9, p10, p11, p12, p13, p14, c1, c2⟩
    · rintro L T u hd hk hcl ⟨hb, p0, p1, p2, p3, p4, p5, p6, p7, p8, p9, p10, p11, p12, p13, p14, c1, c2⟩ K hK
      simp only [fr, Act.put, List.setIfInBounds_toArray, List.set_cons_zero, List.set_cons_succ, updO] at hK ⊢
      simp [Region.binds] at hd
      rw [if_pos (by rfl)]
      simp only [Oper.wpv]
      go_simp
      exact hK _ _ ⟨hb, p0, p1, p2, p3, p4, fun _ => rfl, p6, p7, p8, p9, p10, p11, p12, p13, p14, c1, c2⟩
    · rintro L T u hd hk hcl ⟨hb, p0, p1, p2, p3, p4, p5, p6, p7, p8, p9, p10, p11, p12, p13, p14, c1, c2⟩ K hK
      simp only [fr, Act.put, List.setIfInBounds_toArray, List.set_cons_zero, List.set_cons_succ, updO] at hK ⊢
      simp [Region.binds] at hd
      rw [if_pos (by rfl)]
      simp only [Oper.wpv]
      go_simp
      exact hK _ _ ⟨hb, p0, p1, p2, p3, p4, p5, fun _ => rfl, p7, p8, p9, p10, p11, p12, p13, p14, c1, c2⟩
    · rintro L T u hd hk hcl ⟨hb, p0, p1, p2, p3, p4, p5, p6, p7, p8, p9, p10, p11, p12, p13, p14, c1, c2⟩ K hK
      simp only [fr, Act.put, List.setIfInBounds_toArray, List.set_cons_zero, List.set_cons_succ, updO] at hK ⊢
      simp [Region.binds] at hd
      have g6 := p6 (by simp [hd])
      have k15 := hcl 15 _ rfl
      simp [Region.binds] at k15
      have k8 := hcl 8 _ rfl
      simp [Region.binds] at k8
      have h15 : L 15 = false := by cases h : L 15 with | false => rfl | true => have a := k15 h; have b := k8 (by simp [a]); simp [hk] at b
      obtain ⟨xn, xl, xk⟩ := KC.out u (c1 h15)
      rw [if_pos (by rfl)]
      simp only [Oper.wpv]
      go_simp
      exact hK _ _ ⟨hb, p0, p1, p2, p3, p4, p5, p6, fun _ => rfl, p8, p9, p10, p11, p12, p13, p14, c1, c2⟩
    · rintro L T u hd hk hcl ⟨hb, p0, p1, p2, p3, p4, p5, p6, p7, p8, p9, p10, p11, p12, p13, p14, c1, c2⟩ K hK
      simp only [fr, Act.put, List.setIfInBounds_toArray, List.set_cons_zero, List.set_cons_succ, updO] at hK ⊢
      simp [Region.binds] at hd
      have g5 := p5 (by simp [hd])
      have g7 := p7 (by simp [hd])
      have k15 := hcl 15 _ rfl
      simp [Region.binds] at k15
      have h15 : L 15 = false := by cases h : L 15 with | false => rfl | true => have := k15 h; simp [hk] at this
      rw [if_pos (by rfl)]
      simp only [Oper.wpv]
      go_simp
      refine (HH.out _ (c1 h15)).mono ?_
      rintro e u1 ⟨rfl, hg⟩
      exact hK _ _ ⟨hb, p0, p1, p2, p3, p4, p5, p6, p7, fun _ => rfl, p9, p10, p11, p12, p13, p14, fun _ => nT (c1 h15) hg, fun h => absurd (show L 15 = true from h) (by simp [h15])⟩
    · rintro L T u hd hk hcl ⟨hb, p0, p1, p2, p3, p4, p5, p6, p7, p8, p9, p10, p11, p12, p13, p14, c1, c2⟩ K hK
      simp only [fr, Act.put, List.setIfInBounds_toArray, List.set_cons_zero, List.set_cons_succ, updO] at hK ⊢
      simp [Region.binds] at hd
      rw [if_pos (by rfl)]
      simp only [Oper.wpv]
      go_simp
      exact hK _ _ ⟨hb, p0, p1, p2, p3, p4, p5, p6, p7, p8, fun _ => rfl, p10, p11, p12, p13, p14, c1, c2⟩
    · rintro L T u hd hk hcl ⟨hb, p0, p1, p2, p3, p4, p5, p6, p7, p8, p9, p10, p11, p12, p13, p14, c1, c2⟩ K hK
      simp only [fr, Act.put, List.setIfInBounds_toArray, List.set_cons_zero, List.set_cons_succ, updO] at hK ⊢
      simp [Region.binds] at hd
      have g9 := p9 (by simp [hd])
      have k15 := hcl 15 _ rfl
      simp [Region.binds] at k15
      have k14 := hcl 14 _ rfl
      simp [Region.binds] at k14
      have h15 : L 15 = false := by cases h : L 15 with | false => rfl | true => have a := k15 h; have b := k14 (by simp [a]); simp [hk] at b
      obtain ⟨xn, xl, xk⟩ := KC.out u (c1 h15)
      rw [if_pos (by rfl)]
      simp only [Oper.wpv]
      go_simp
      exact hK _ _ ⟨hb, p0, p1, p2, p3, p4, p5, p6, p7, p8, p9, fun _ => rfl, p11, p12, p13, p14, c1, c2⟩
    · rintro L T u hd hk hcl ⟨hb, p0, p1, p2, p3, p4, p5, p6, p7, p8, p9, p10, p11, p12, p13, p14, c1, c2⟩ K hK
      simp only [fr, Act.put, List.setIfInBounds_toArray, List.set_cons_zero, List.set_cons_succ, updO] at hK ⊢
      simp [Region.binds] at hd
      rw [if_pos (by rfl)]
      simp only [Oper.wpv]
      go_simp
      exact hK _ _ ⟨hb, p0, p1, p2, p3, p4, p5, p6, p7, p8, p9, p10, fun _ => rfl, p12, p13, p14, c1, c2⟩
    · rintro L T u hd hk hcl ⟨hb, p0, p1, p2, p3, p4, p5, p6, p7, p8, p9, p10, p11, p12, p13, p14, c1, c2⟩ K hK
      simp only [fr, Act.put, List.setIfInBounds_toArray, List.set_cons_zero, List.set_cons_succ, updO] at hK ⊢
      simp [Region.binds] at hd
      have g11 := p11 (by simp [hd])
      have k15 := hcl 15 _ rfl
      simp [Region.binds] at k15
      have k14 := hcl 14 _ rfl
      simp [Region.binds] at k14
      have h15 : L 15 = false := by cases h : L 15 with | false => rfl | true => have a := k15 h; have b := k14 (by simp [a]); simp [hk] at b
      obtain ⟨xn, xl, xk⟩ := KC.out u (c1 h15)
      rw [if_pos (by rfl)]
      simp only [Oper.wpv]
      go_simp
      exact hK _ _ ⟨hb, p0, p1, p2, p3, p4, p5, p6, p7, p8, p9, p10, p11, fun _ => rfl, p13, p14, c1, c2⟩
    · rintro L T u hd hk hcl ⟨hb, p0, p1, p2, p3, p4, p5, p6, p7, p8, p9, p10, p11, p12, p13, p14, c1, c2⟩ K hK
      simp only [fr, Act.put, List.setIfInBounds_toArray, List.set_cons_zero, List.set_cons_succ, updO] at hK ⊢
      simp [Region.binds] at hd
      rw [if_pos (by rfl)]
      simp only [Oper.wpv]
      go_simp
      exact hK _ _ ⟨hb, p0, p1, p2, p3, p4, p5, p6, p7, p8, p9, p10, p11, p12, fun _ => rfl, p14, c1, c2⟩
    · rintro L T u hd hk hcl ⟨hb, p0, p1, p2, p3, p4, p5, p6, p7, p8, p9, p10, p11, p12, p13, p14, c1, c2⟩ K hK
      simp only [fr, Act.put, List.setIfInBounds_toArray, List.set_cons_zero, List.set_cons_succ, updO] at hK ⊢
      simp [Region.binds] at hd
      have g10 := p10 (by simp [hd])
      have g12 := p12 (by simp [hd])
      have g13 := p13 (by simp [hd])
      rw [if_pos (by rfl)]
      simp only [Oper.wpv]
      go_simp
      exact hK _ _ ⟨hb, p0, p1, p2, p3, p4, p5, p6, p7, p8, p9, p10, p11, p12, p13, fun _ => rfl, c1, c2⟩
    · rintro L T u hd hk hcl ⟨hb, p0, p1, p2, p3, p4, p5, p6, p7, p8, p9, p10, p11, p12, p13, p14, c1, c2⟩ K hK
      simp only [fr, Act.put, List.setIfInBounds_toArray, List.set_cons_zero, List.set_cons_succ, updO] at hK ⊢
      simp [Region.binds] at hd
      have g0 := p0 (by simp [hd])
      have g4 := p4 (by simp [hd])
      have g8 := p8 (by simp [hd])
      have g14 := p14 (by simp [hd])
      rw [if_pos (by rfl)]
      simp only [Oper.wpv]
      go_simp
      refine (HS2.out _ (c1 hk)).mono ?_
      rintro e u1 ⟨rfl, hg⟩
      exact hK _ _ ⟨hb, p0, p1, p2, p3, p4, p5, p6, p7, p8, p9, p10, p11, p12, p13, p14, fun h => Bool.noConfusion (show true = false from h), fun _ => hg⟩
  · rintro L T u hl ⟨hb, p0, p1, p2, p3, p4, p5, p6, p7, p8, p9, p10, p11, p12, p13, p14, c1, c2⟩
    simp only [fr, Act.put, List.setIfInBounds_toArray, List.set_cons_zero, List.set_cons_succ]
    have hH := c2 (hl 15 (by decide))
    clear p0 p1 p2 p3 p4 p5 p6 p7 p8 p9 p10 p11 p12 p13 p14 c1 c2
    exact bodyPost_end (v := .tuple #[]) (by simp [results, Try.results21, go_sem]) rfl (HD.out _ hH)
end Go.Proofs.Ytfhciplckjkflaa.Co
/- The clerk's put: a write is put behind a job's tasks, and the key's home is asked. -/
namespace Go.Proofs.Ytfhciplckjkflaa.Co
open Go.ChangeShapes Go.WideShapes Go.ChangeAt Go.RowKit
open Go.Proofs.Ytfhciplckjkflaa.St (BoxN boxn_new own_below grown_setCell IsRow Elem flat flat_append own_isRow)
set_option linter.unusedVariables false

def putM (s : Int) (ls : List (Int × Int)) (p me : Int) (x : ClV) (j : JbV) : MV := ⟨2, me, homeNum s ls p x.key, me, j.n, 0, x.key, x.value, 0, j.asks + 1, false, 0⟩
set_option maxRecDepth 100000 in
set_option maxHeartbeats 4000000 in
theorem put_any {w : World} {B q : Nat} {v : CkV} {ix : List (Nat × Nat)} {more : List Rw} (X : World) (h : Clerk w X B q v ix more) (ls : List (Int × Int)) {i g : Nat} (hi : i < v.jl) (eg : v.ja = some ⟨g, 0, none⟩) (x : ClV) (h0 : 0 ≤ (v.js.getD i default).asks) (h1 : (v.js.getD i default).asks ≤ 1048576) (hn : ((v.js.getD i default).tl + 1) * 56 ≤ 140737488355328) (hm : (v.ml + 1) * 96 ≤ 140737488355328)
    (hL : ∀ (U : World) (u : CkV) (iy : List (Nat × Nat)) (m' : List Rw), Clerk w U B q u iy m' → IsLabs U v.a v.len v.cap ls) :
    Calls Try.prog 22 #[.pointer (some ⟨q, 0, none⟩), .pointer (some ⟨g, i * 6, none⟩), x.val] X fun e X' => AskIs w X' B q v i ⟨true, v.l, x.key, x.value, 0, 0, false, false⟩ (putM v.s ls v.p v.me x (v.js.getD i default)) ix e := by
  obtain ⟨kind, n, label, key, value⟩ := x
  obtain ⟨W, hW⟩ : ∃ W : World, W = X.alloc (.cells #[.int .i64 kind, .int .i64 n, .int .i64 label, .int .i64 key, .int .i64 value] 29) := ⟨_, rfl⟩
  have bW : Below X.heap.size X W := by rw [hW]; exact (Below.refl _ _).alloc (Nat.le_refl _) _
  have zW : X.heap.size < W.heap.size := by rw [hW]; simp
  have x3 : W.cell? ⟨X.heap.size, 3, none⟩ = some (.int .i64 key) := by rw [hW]; go_simp
  have x4 : W.cell? ⟨X.heap.size, 4, none⟩ = some (.int .i64 value) := by rw [hW]; go_simp
  have hCW : Clerk w W B q v ix (more ++ [⟨29, 5, .slice (some ⟨X.heap.size, 0, none⟩) 1 1, 1, [.int .i64 kind, .int .i64 n, .int .i64 label, .int .i64 key, .int .i64 value]⟩]) := h.add bW (by rw [hW]; exact box_row X _ _ 5 rfl)
  have hi' : i < v.js.length := by have := h.lens.1; omega
  obtain ⟨L1, eL1⟩ : ∃ L1, L1 = v.l := ⟨_, rfl⟩
  have zq := hCW.held.box.lt
  have c3 : W.cell? ⟨q, 3, none⟩ = some (.int .i64 L1) := by rw [eL1]; exact (hCW.held.box.c 3 (by decide)).1
  obtain ⟨A, eA⟩ : ∃ A, A = (v.js.getD i default).asks + 1 := ⟨_, rfl⟩
  obtain ⟨D, eD⟩ : ∃ D : World → Prop, D = fun u => AddIs w u B q v i ⟨true, L1, key, value, 0, 0, false, false⟩ ix (more ++ [⟨29, 5, .slice (some ⟨X.heap.size, 0, none⟩) 1 1, 1, [.int .i64 kind, .int .i64 n, .int .i64 label, .int .i64 key, .int .i64 value]⟩]) (.returned (.int .i64 A)) := ⟨_, rfl⟩
  have HAdd : Hid (∀ U, Below W.heap.size W U → Calls Try.prog 49 #[.pointer (some ⟨g, i * 6, none⟩), .agg #[.bool true, .int .i64 L1, .int .i64 key, .int .i64 value, .int .i64 0, .int .i64 0, .bool false, .bool false]] U fun e X' => e = .returned (.int .i64 A) ∧ D X') := fun U hU => by
    have := add_any U (hCW.below hU) hi eg ⟨true, L1, key, value, 0, 0, false, false⟩ h0 h1 hn
    refine this.mono ?_
    rintro e u ⟨rfl, hu⟩
    refine ⟨by rw [eA], ?_⟩
    rw [eD]
    exact ⟨by rw [eA], hu⟩
  have HD : Hid (∀ u, D u → AddIs w u B q v i ⟨true, L1, key, value, 0, 0, false, false⟩ ix (more ++ [⟨29, 5, .slice (some ⟨X.heap.size, 0, none⟩) 1 1, 1, [.int .i64 kind, .int .i64 n, .int .i64 label, .int .i64 key, .int .i64 value]⟩]) (.returned (.int .i64 A))) := fun u hu => by rw [eD] at hu; exact hu
  have HEA : Hid (A = (v.js.getD i default).asks + 1) := eA
  have HEL : Hid (L1 = v.l) := eL1
  have HKM : Hid (∀ (k y : Nat), ix[i]? = some (k, y) → k < more.length) := fun k y e => by
    obtain ⟨z, ez, e1, _⟩ := h.jobs.at hi'
    rw [ez] at e
    obtain rfl := Option.some.inj e
    exact (List.getElem?_eq_some_iff.1 e1).1
  have Hm : Hid ((v.ml + 1) * 96 ≤ 140737488355328) := hm
  have HL : Hid (∀ (U : World) (u : CkV) (iy : List (Nat × Nat)) (m' : List Rw), Clerk w U B q u iy m' → IsLabs U v.a v.len v.cap ls) := hL
  have KC : Hid (∀ U, Below W.heap.size W U → U.cell? ⟨q, 3, none⟩ = some (.int .i64 L1) ∧ U.cell? ⟨X.heap.size, 3, none⟩ = some (.int .i64 key) ∧ U.cell? ⟨X.heap.size, 4, none⟩ = some (.int .i64 value)) := fun U hU => ⟨(hU.cell (p := ⟨q, 3, none⟩) zq).trans c3, (hU.cell (p := ⟨X.heap.size, 3, none⟩) zW).trans x3, (hU.cell (p := ⟨X.heap.size, 4, none⟩) zW).trans x4⟩
  rw [← eL1]
  clear hn hm h0 h1 h hCW hL eA eL1 eD x3 x4 c3
  simp only [ClV.val]
  go_enter Try.func22, Try.ntmps22
  go_upto_region 1 with (fail)
  rw [← hW]
  clear hW
  refine wp_region_inv (by kernel_rfl) [7, 8, 9, 10, 11, 12, 13, 14, 15, 16, 17, 6] (fun L T u => True ∧ (L 0 = true → T 7 = .pointer (some ⟨g, i * 6, none⟩)) ∧ (L 1 = true → T 8 = .pointer (some ⟨q, 0, none⟩)) ∧ (L 2 = true → T 9 = .pointer (some ⟨q, 0, none⟩)) ∧ (L 3 = true → T 10 = .pointer (some ⟨q, 3, none⟩)) ∧ (L 4 = true → T 11 = .int .i64 L1) ∧ (L 5 = true → T 12 = .pointer (some ⟨X.heap.size, 3, none⟩)) ∧ (L 6 = true → T 13 = .int .i64 key) ∧ (L 7 = true → T 14 = .pointer (some ⟨X.heap.size, 4, none⟩)) ∧ (L 8 = true → T 15 = .int .i64 value) ∧ (L 9 = true → T 16 = .agg #[.bool true, .int .i64 L1, .int .i64 key, .int .i64 value, .int .i64 0, .int .i64 0, .bool false, .bool false]) ∧ (L 10 = true → T 17 = .int .i64 A) ∧ (L 11 = true → T 6 = .int .i64 A) ∧ (L 10 = false → Below W.heap.size W u) ∧ (L 10 = true → D u)) (by decide) (by kernel_rfl) (by kernel_rfl) ?_ ?_ ?_
  · exact ⟨trivial, nofun, nofun, nofun, nofun, nofun, nofun, nofun, nofun, nofun, nofun, nofun, nofun, fun _ => (Below.refl _ _).drew, nofun⟩
  · refine ⟨?_, ?_, ?_, ?_, ?_, ?_, ?_, ?_, ?_, ?_, ?_, ?_, trivial⟩
    · rintro L T u hd hk hcl ⟨hb, p0, p1, p2, p3, p4, p5, p6, p7, p8, p9, p10, p11, c1, c2⟩ K hK
      simp only [fr, Act.put, List.setIfInBounds_toArray, List.set_cons_zero, List.set_cons_succ, updO] at hK ⊢
      simp [Region.binds] at hd
      rw [if_pos (by rfl)]
      simp only [Oper.wpv]
      go_simp
      exact hK _ _ ⟨hb, fun _ => rfl, p1, p2, p3, p4, p5, p6, p7, p8, p9, p10, p11, c1, c2⟩
    · rintro L T u hd hk hcl ⟨hb, p0, p1, p2, p3, p4, p5, p6, p7, p8, p9, p10, p11, c1, c2⟩ K hK
      simp only [fr, Act.put, List.setIfInBounds_toArray, List.set_cons_zero, List.set_cons_succ, updO] at hK ⊢
      simp [Region.binds] at hd
      rw [if_pos (by rfl)]
      simp only [Oper.wpv]
      go_simp
      exact hK _ _ ⟨hb, p0, fun _ => rfl, p2, p3, p4, p5, p6, p7, p8, p9, p10, p11, c1, c2⟩
    · rintro L T u hd hk hcl ⟨hb, p0, p1, p2, p3, p4, p5, p6, p7, p8, p9, p10, p11, c1, c2⟩ K hK
      simp only [fr, Act.put, List.setIfInBounds_toArray, List.set_cons_zero, List.set_cons_succ, updO] at hK ⊢
      simp [Region.binds] at hd
      have g1 := p1 (by simp [hd])
      rw [if_pos (by rfl)]
      simp only [Oper.wpv]
      go_simp
      exact hK _ _ ⟨hb, p0, p1, fun _ => rfl, p3, p4, p5, p6, p7, p8, p9, p10, p11, c1, c2⟩
    · rintro L T u hd hk hcl ⟨hb, p0, p1, p2, p3, p4, p5, p6, p7, p8, p9, p10, p11, c1, c2⟩ K hK
      simp only [fr, Act.put, List.setIfInBounds_toArray, List.set_cons_zero, List.set_cons_succ, updO] at hK ⊢
      simp [Region.binds] at hd
      have g2 := p2 (by simp [hd])
      rw [if_pos (by rfl)]
      simp only [Oper.wpv]
      go_simp
      exact hK _ _ ⟨hb, p0, p1, p2, fun _ => rfl, p4, p5, p6, p7, p8, p9, p10, p11, c1, c2⟩
    · rintro L T u hd hk hcl ⟨hb, p0, p1, p2, p3, p4, p5, p6, p7, p8, p9, p10, p11, c1, c2⟩ K hK
      simp only [fr, Act.put, List.setIfInBounds_toArray, List.set_cons_zero, List.set_cons_succ, updO] at hK ⊢
      simp [Region.binds] at hd
      have g3 := p3 (by simp [hd])
      have k10 := hcl 10 _ rfl
      simp [Region.binds] at k10
      have k9 := hcl 9 _ rfl
      simp [Region.binds] at k9
      have hE : L 10 = false := by cases h : L 10 with | false => rfl | true => have a10 := k10 h; have a9 := k9 (by simp [a10]); simp [hk] at a9
      obtain ⟨xl, xk, xv⟩ := KC.out u (c1 hE)
      rw [if_pos (by rfl)]
      simp only [Oper.wpv]
      go_simp
      exact hK _ _ ⟨hb, p0, p1, p2, p3, fun _ => rfl, p5, p6, p7, p8, p9, p10, p11, c1, c2⟩
    · rintro L T u hd hk hcl ⟨hb, p0, p1, p2, p3, p4, p5, p6, p7, p8, p9, p10, p11, c1, c2⟩ K hK
      simp only [fr, Act.put, List.setIfInBounds_toArray, List.set_cons_zero, List.set_cons_succ, updO] at hK ⊢
      simp [Region.binds] at hd
      rw [if_pos (by rfl)]
      simp only [Oper.wpv]
      go_simp
      exact hK _ _ ⟨hb, p0, p1, p2, p3, p4, fun _ => rfl, p6, p7, p8, p9, p10, p11, c1, c2⟩
    · rintro L T u hd hk hcl ⟨hb, p0, p1, p2, p3, p4, p5, p6, p7, p8, p9, p10, p11, c1, c2⟩ K hK
      simp only [fr, Act.put, List.setIfInBounds_toArray, List.set_cons_zero, List.set_cons_succ, updO] at hK ⊢
      simp [Region.binds] at hd
      have g5 := p5 (by simp [hd])
      have k10 := hcl 10 _ rfl
      simp [Region.binds] at k10
      have k9 := hcl 9 _ rfl
      simp [Region.binds] at k9
      have hE : L 10 = false := by cases h : L 10 with | false => rfl | true => have a10 := k10 h; have a9 := k9 (by simp [a10]); simp [hk] at a9
      obtain ⟨xl, xk, xv⟩ := KC.out u (c1 hE)
      rw [if_pos (by rfl)]
      simp only [Oper.wpv]
      go_simp
      exact hK _ _ ⟨hb, p0, p1, p2, p3, p4, p5, fun _ => rfl, p7, p8, p9, p10, p11, c1, c2⟩
    · rintro L T u hd hk hcl ⟨hb, p0, p1, p2, p3, p4, p5, p6, p7, p8, p9, p10, p11, c1, c2⟩ K hK
      simp only [fr, Act.put, List.setIfInBounds_toArray, List.set_cons_zero, List.set_cons_succ, updO] at hK ⊢
      simp [Region.binds] at hd
      rw [if_pos (by rfl)]
      simp only [Oper.wpv]
      go_simp
      exact hK _ _ ⟨hb, p0, p1, p2, p3, p4, p5, p6, fun _ => rfl, p8, p9, p10, p11, c1, c2⟩
    · rintro L T u hd hk hcl ⟨hb, p0, p1, p2, p3, p4, p5, p6, p7, p8, p9, p10, p11, c1, c2⟩ K hK
      simp only [fr, Act.put, List.setIfInBounds_toArray, List.set_cons_zero, List.set_cons_succ, updO] at hK ⊢
      simp [Region.binds] at hd
      have g7 := p7 (by simp [hd])
      have k10 := hcl 10 _ rfl
      simp [Region.binds] at k10
      have k9 := hcl 9 _ rfl
      simp [Region.binds] at k9
      have hE : L 10 = false := by cases h : L 10 with | false => rfl | true => have a10 := k10 h; have a9 := k9 (by simp [a10]); simp [hk] at a9
      obtain ⟨xl, xk, xv⟩ := KC.out u (c1 hE)
      rw [if_pos (by rfl)]
      simp only [Oper.wpv]
      go_simp
      exact hK _ _ ⟨hb, p0, p1, p2, p3, p4, p5, p6, p7, fun _ => rfl, p9, p10, p11, c1, c2⟩
    · rintro L T u hd hk hcl ⟨hb, p0, p1, p2, p3, p4, p5, p6, p7, p8, p9, p10, p11, c1, c2⟩ K hK
      simp only [fr, Act.put, List.setIfInBounds_toArray, List.set_cons_zero, List.set_cons_succ, updO] at hK ⊢
      simp [Region.binds] at hd
      have g4 := p4 (by simp [hd])
      have g6 := p6 (by simp [hd])
      have g8 := p8 (by simp [hd])
      rw [if_pos (by rfl)]
      simp only [Oper.wpv]
      go_simp
      exact hK _ _ ⟨hb, p0, p1, p2, p3, p4, p5, p6, p7, p8, fun _ => rfl, p10, p11, c1, c2⟩
    · rintro L T u hd hk hcl ⟨hb, p0, p1, p2, p3, p4, p5, p6, p7, p8, p9, p10, p11, c1, c2⟩ K hK
      simp only [fr, Act.put, List.setIfInBounds_toArray, List.set_cons_zero, List.set_cons_succ, updO] at hK ⊢
      simp [Region.binds] at hd
      have g0 := p0 (by simp [hd])
      have g9 := p9 (by simp [hd])
      have hE : L 10 = false := hk
      rw [if_pos (by rfl)]
      simp only [Oper.wpv]
      go_simp
      refine (HAdd.out _ (c1 hE)).mono ?_
      rintro e u1 ⟨rfl, hg⟩
      exact hK _ _ ⟨hb, p0, p1, p2, p3, p4, p5, p6, p7, p8, p9, fun _ => rfl, p11, fun h => Bool.noConfusion (show true = false from h), fun _ => hg⟩
    · rintro L T u hd hk hcl ⟨hb, p0, p1, p2, p3, p4, p5, p6, p7, p8, p9, p10, p11, c1, c2⟩ K hK
      simp only [fr, Act.put, List.setIfInBounds_toArray, List.set_cons_zero, List.set_cons_succ, updO] at hK ⊢
      simp [Region.binds] at hd
      have g10 := p10 (by simp [hd])
      rw [if_pos (by rfl)]
      simp only [Oper.wpv]
      go_simp
      exact hK _ _ ⟨hb, p0, p1, p2, p3, p4, p5, p6, p7, p8, p9, p10, fun _ => rfl, c1, c2⟩
  · rintro L T u hl ⟨hb, p0, p1, p2, p3, p4, p5, p6, p7, p8, p9, p10, p11, c1, c2⟩
    simp only [fr, Act.put, List.setIfInBounds_toArray, List.set_cons_zero, List.set_cons_succ]
    have hH := HD.out _ (c2 (hl 10 (by decide)))
    have h6 := p11 (hl 11 (by decide))
    clear p0 p1 p2 p3 p4 p5 p6 p7 p8 p9 p10 p11 c1 c2 HD HAdd KC
    obtain ⟨_, a5, c5, kx, rx, ⟨ky, hky⟩, hC⟩ := hH
    rw [h6]
    obtain ⟨Y, eY⟩ : ∃ Y : World, Y = u := ⟨_, rfl⟩
    rw [← eY] at hC ⊢
    clear eY u h6 D
    have hkm := HKM.out kx ky hky
    have eb : ((more ++ [(⟨29, 5, .slice (some ⟨X.heap.size, 0, none⟩) 1 1, 1, [.int .i64 kind, .int .i64 n, .int .i64 label, .int .i64 key, .int .i64 value]⟩ : Rw)]).set kx rx)[more.length]? = some (⟨29, 5, .slice (some ⟨X.heap.size, 0, none⟩) 1 1, 1, [.int .i64 kind, .int .i64 n, .int .i64 label, .int .i64 key, .int .i64 value]⟩ : Rw) := by
      rw [List.getElem?_set_ne (by omega)]
      simp
    have ob := hC.held.own.own _ _ (more_get eb)
    have y3 : Y.cell? ⟨X.heap.size, 3, none⟩ = some (.int .i64 key) := (own_at ob (j := 3) (by show 3 < 1 * 5; decide)).1
    have y4 : Y.cell? ⟨X.heap.size, 4, none⟩ = some (.int .i64 value) := (own_at ob (j := 4) (by show 4 < 1 * 5; decide)).1
    have zb : X.heap.size < Y.heap.size := (own_at ob (j := 2) (by show 2 < 1 * 5; decide)).2
    obtain ⟨g2, eg2, _, zgY, _, hcY, _⟩ := hC.jobAt (i := i) hi
    have e3 : g = g2 := by
      have e4 : v.ja = some ⟨g2, 0, none⟩ := eg2
      rw [eg] at e4
      simpa using e4
    subst e3
    have yn : Y.cell? ⟨g, i * 6, none⟩ = some (.int .i64 (v.js.getD i default).n) := by
      have := hcY 0 (by decide)
      simp only [] at this
      rw [set_getD _ _ _ hi'] at this
      exact this
    have KC : Hid (∀ U, Below Y.heap.size Y U → U.cell? ⟨g, i * 6, none⟩ = some (.int .i64 (v.js.getD i default).n) ∧ U.cell? ⟨X.heap.size, 3, none⟩ = some (.int .i64 key) ∧ U.cell? ⟨X.heap.size, 4, none⟩ = some (.int .i64 value)) := fun U hU => ⟨(hU.cell (p := ⟨g, i * 6, none⟩) zgY).trans yn, (hU.cell (p := ⟨X.heap.size, 3, none⟩) zb).trans y3, (hU.cell (p := ⟨X.heap.size, 4, none⟩) zb).trans y4⟩
    have HH : Hid (∀ U, Below Y.heap.size Y U → Calls Try.prog 51 #[.pointer (some ⟨q, 0, none⟩), .int .i64 key] U fun e U' => e = .returned (.int .i64 (homeNum v.s ls v.p key)) ∧ Below U.heap.size U U') := fun U hU => clerkHome_any U (hC.below hU) ls (HL.out _ _ _ _ (hC.below hU)) key
    obtain ⟨H, eH⟩ : ∃ H, H = homeNum v.s ls v.p key := ⟨_, rfl⟩
    obtain ⟨JN, eJN⟩ : ∃ JN, JN = (v.js.getD i default).n := ⟨_, rfl⟩
    obtain ⟨D, eD⟩ : ∃ D : World → Prop, D = fun u => AskIs w u B q v i ⟨true, L1, key, value, 0, 0, false, false⟩ (putM v.s ls v.p v.me ⟨kind, n, label, key, value⟩ (v.js.getD i default)) ix (.returned (.tuple #[])) := ⟨_, rfl⟩
    have HD : Hid (∀ u, D u → AskIs w u B q v i ⟨true, L1, key, value, 0, 0, false, false⟩ (putM v.s ls v.p v.me ⟨kind, n, label, key, value⟩ (v.js.getD i default)) ix (.returned (.tuple #[]))) := fun u hu => by rw [eD] at hu; exact hu
    have HS2 : Hid (∀ U, Below Y.heap.size Y U → Calls Try.prog 50 #[.pointer (some ⟨q, 0, none⟩), .int .i64 JN, .int .i64 H, .agg #[.int .i64 2, .int .i64 0, .int .i64 0, .int .i64 0, .int .i64 0, .int .i64 0, .int .i64 key, .int .i64 value, .int .i64 0, .int .i64 A, .bool false, .int .i64 0]] U fun e U' => e = .returned (.tuple #[]) ∧ D U') := fun U hU => by
      have := send_any U (hC.below hU) JN H ⟨2, 0, 0, 0, 0, 0, key, value, 0, A, false, 0⟩ Hm.out
      simp only [MV.val] at this
      refine this.mono ?_
      rintro e u ⟨rfl, m5, k5, h5⟩
      refine ⟨rfl, ?_⟩
      rw [eD]
      refine ⟨rfl, a5, c5, m5, k5, (more ++ [(⟨29, 5, .slice (some ⟨X.heap.size, 0, none⟩) 1 1, 1, [.int .i64 kind, .int .i64 n, .int .i64 label, .int .i64 key, .int .i64 value]⟩ : Rw)]).set kx rx, ?_⟩
      rw [HEA.out, eH, eJN] at h5
      exact h5
    rw [← eJN] at KC
    rw [← eH] at HH
    clear eD eH eJN hC yn y3 y4 hcY ob
    go_upto_region 2 with (fail)
    refine wp_region_inv (by kernel_rfl) [18, 19, 20, 21, 22, 23, 24, 25, 26, 27, 28, 29, 30, 31, 32, 33] (fun L T u => True ∧ (L 0 = true → T 18 = .pointer (some ⟨q, 0, none⟩)) ∧ (L 1 = true → T 19 = .pointer (some ⟨g, i * 6, none⟩)) ∧ (L 2 = true → T 20 = .pointer (some ⟨g, i * 6, none⟩)) ∧ (L 3 = true → T 21 = .pointer (some ⟨g, i * 6, none⟩)) ∧ (L 4 = true → T 22 = .int .i64 JN) ∧ (L 5 = true → T 23 = .pointer (some ⟨q, 0, none⟩)) ∧ (L 6 = true → T 24 = .pointer (some ⟨X.heap.size, 3, none⟩)) ∧ (L 7 = true → T 25 = .int .i64 key) ∧ (L 8 = true → T 26 = .int .i64 H) ∧ (L 9 = true → T 27 = .pointer (some ⟨X.heap.size, 3, none⟩)) ∧ (L 10 = true → T 28 = .int .i64 key) ∧ (L 11 = true → T 29 = .pointer (some ⟨X.heap.size, 4, none⟩)) ∧ (L 12 = true → T 30 = .int .i64 value) ∧ (L 13 = true → T 31 = .int .i64 A) ∧ (L 14 = true → T 32 = .agg #[.int .i64 2, .int .i64 0, .int .i64 0, .int .i64 0, .int .i64 0, .int .i64 0, .int .i64 key, .int .i64 value, .int .i64 0, .int .i64 A, .bool false, .int .i64 0]) ∧ (L 15 = false → Below Y.heap.size Y u) ∧ (L 15 = true → D u)) (by decide) (by kernel_rfl) (by kernel_rfl) ?_ ?_ ?_
    · exact ⟨trivial, nofun, nofun, nofun, nofun, nofun, nofun, nofun, nofun, nofun, nofun, nofun, nofun, nofun, nofun, nofun, fun _ => (Below.refl _ _).drew, nofun⟩
    · refine ⟨?_, ?_, ?_, ?_, ?_, ?_, ?_, ?_, ?_, ?_, ?_, ?_, ?_, ?_, ?_, ?_, trivial⟩
      · rintro L T u hd hk hcl ⟨hb, p0, p1, p2, p3, p4, p5, p6, p7, p8, p9, p10, p11, p12, p13, p14, c1, c2⟩ K hK
        simp only [fr, Act.put, List.setIfInBounds_toArray, List.set_cons_zero, List.set_cons_succ, updO] at hK ⊢
        simp [Region.binds] at hd
        rw [if_pos (by rfl)]
        simp only [Oper.wpv]
        go_simp
        exact hK _ _ ⟨hb, fun _ => rfl, p1, p2, p3, p4, p5, p6, p7, p8, p9, p10, p11, p12, p13, p14, c1, c2⟩
      · rintro L T u hd hk hcl ⟨hb, p0, p1, p2, p3, p4, p5, p6, p7, p8, p9, p10, p11, p12, p13, p14, c1, c2⟩ K hK
        simp only [fr, Act.put, List.setIfInBounds_toArray, List.set_cons_zero, List.set_cons_succ, updO] at hK ⊢
        simp [Region.binds] at hd
        rw [if_pos (by rfl)]
        simp only [Oper.wpv]
        go_simp
        exact hK _ _ ⟨hb, p0, fun _ => rfl, p2, p3, p4, p5, p6, p7, p8, p9, p10, p11, p12, p13, p14, c1, c2⟩
      · rintro L T u hd hk hcl ⟨hb, p0, p1, p2, p3, p4, p5, p6, p7, p8, p9, p10, p11, p12, p13, p14, c1, c2⟩ K hK
        simp only [fr, Act.put, List.setIfInBounds_toArray, List.set_cons_zero, List.set_cons_succ, updO] at hK ⊢
        simp [Region.binds] at hd
        have g1 := p1 (by simp [hd])
        rw [if_pos (by rfl)]
        simp only [Oper.wpv]
        go_simp
        exact hK _ _ ⟨hb, p0, p1, fun _ => rfl, p3, p4, p5, p6, p7, p8, p9, p10, p11, p12, p13, p14, c1, c2⟩
      · rintro L T u hd hk hcl ⟨hb, p0, p1, p2, p3, p4, p5, p6, p7, p8, p9, p10, p11, p12, p13, p14, c1, c2⟩ K hK
        simp only [fr, Act.put, List.setIfInBounds_toArray, List.set_cons_zero, List.set_cons_succ, updO] at hK ⊢
        simp [Region.binds] at hd
        have g2 := p2 (by simp [hd])
        rw [if_pos (by rfl)]
        simp only [Oper.wpv]
        go_simp
        exact hK _ _ ⟨hb, p0, p1, p2, fun _ => rfl, p4, p5, p6, p7, p8, p9, p10, p11, p12, p13, p14, c1, c2⟩
      · rintro L T u hd hk hcl ⟨hb, p0, p1, p2, p3, p4, p5, p6, p7, p8, p9, p10, p11, p12, p13, p14, c1, c2⟩ K hK
        simp only [fr, Act.put, List.setIfInBounds_toArray, List.set_cons_zero, List.set_cons_succ, updO] at hK ⊢
        simp [Region.binds] at hd
        have g3 := p3 (by simp [hd])
        have k15 := hcl 15 _ rfl
        simp [Region.binds] at k15
        have hE : L 15 = false := by cases h : L 15 with | false => rfl | true => have a15 := k15 h; simp [hk] at a15
        obtain ⟨xn, xk, xv⟩ := KC.out u (c1 hE)
        rw [if_pos (by rfl)]
        simp only [Oper.wpv]
        go_simp
        exact hK _ _ ⟨hb, p0, p1, p2, p3, fun _ => rfl, p5, p6, p7, p8, p9, p10, p11, p12, p13, p14, c1, c2⟩
      · rintro L T u hd hk hcl ⟨hb, p0, p1, p2, p3, p4, p5, p6, p7, p8, p9, p10, p11, p12, p13, p14, c1, c2⟩ K hK
        simp only [fr, Act.put, List.setIfInBounds_toArray, List.set_cons_zero, List.set_cons_succ, updO] at hK ⊢
        simp [Region.binds] at hd
        rw [if_pos (by rfl)]
        simp only [Oper.wpv]
        go_simp
        exact hK _ _ ⟨hb, p0, p1, p2, p3, p4, fun _ => rfl, p6, p7, p8, p9, p10, p11, p12, p13, p14, c1, c2⟩
      · rintro L T u hd hk hcl ⟨hb, p0, p1, p2, p3, p4, p5, p6, p7, p8, p9, p10, p11, p12, p13, p14, c1, c2⟩ K hK
        simp only [fr, Act.put, List.setIfInBounds_toArray, List.set_cons_zero, List.set_cons_succ, updO] at hK ⊢
        simp [Region.binds] at hd
        rw [if_pos (by rfl)]
        simp only [Oper.wpv]
        go_simp
        exact hK _ _ ⟨hb, p0, p1, p2, p3, p4, p5, fun _ => rfl, p7, p8, p9, p10, p11, p12, p13, p14, c1, c2⟩
      · rintro L T u hd hk hcl ⟨hb, p0, p1, p2, p3, p4, p5, p6, p7, p8, p9, p10, p11, p12, p13, p14, c1, c2⟩ K hK
        simp only [fr, Act.put, List.setIfInBounds_toArray, List.set_cons_zero, List.set_cons_succ, updO] at hK ⊢
        simp [Region.binds] at hd
        have g6 := p6 (by simp [hd])
        have k15 := hcl 15 _ rfl
        simp [Region.binds] at k15
        have k8 := hcl 8 _ rfl
        simp [Region.binds] at k8
        have hE : L 15 = false := by cases h : L 15 with | false => rfl | true => have a15 := k15 h; have a8 := k8 (by simp [a15]); simp [hk] at a8
        obtain ⟨xn, xk, xv⟩ := KC.out u (c1 hE)
        rw [if_pos (by rfl)]
        simp only [Oper.wpv]
        go_simp
        exact hK _ _ ⟨hb, p0, p1, p2, p3, p4, p5, p6, fun _ => rfl, p8, p9, p10, p11, p12, p13, p14, c1, c2⟩
      · rintro L T u hd hk hcl ⟨hb, p0, p1, p2, p3, p4, p5, p6, p7, p8, p9, p10, p11, p12, p13, p14, c1, c2⟩ K hK
        simp only [fr, Act.put, List.setIfInBounds_toArray, List.set_cons_zero, List.set_cons_succ, updO] at hK ⊢
        simp [Region.binds] at hd
        have g5 := p5 (by simp [hd])
        have g7 := p7 (by simp [hd])
        have k15 := hcl 15 _ rfl
        simp [Region.binds] at k15
        have hE : L 15 = false := by cases h : L 15 with | false => rfl | true => have a15 := k15 h; simp [hk] at a15
        rw [if_pos (by rfl)]
        simp only [Oper.wpv]
        go_simp
        refine (HH.out _ (c1 hE)).mono ?_
        rintro e u1 ⟨rfl, hg⟩
        exact hK _ _ ⟨hb, p0, p1, p2, p3, p4, p5, p6, p7, fun _ => rfl, p9, p10, p11, p12, p13, p14, fun _ => nT (c1 hE) hg, fun h => absurd (show L 15 = true from h) (by simp [hE])⟩
      · rintro L T u hd hk hcl ⟨hb, p0, p1, p2, p3, p4, p5, p6, p7, p8, p9, p10, p11, p12, p13, p14, c1, c2⟩ K hK
        simp only [fr, Act.put, List.setIfInBounds_toArray, List.set_cons_zero, List.set_cons_succ, updO] at hK ⊢
        simp [Region.binds] at hd
        rw [if_pos (by rfl)]
        simp only [Oper.wpv]
        go_simp
        exact hK _ _ ⟨hb, p0, p1, p2, p3, p4, p5, p6, p7, p8, fun _ => rfl, p10, p11, p12, p13, p14, c1, c2⟩
      · rintro L T u hd hk hcl ⟨hb, p0, p1, p2, p3, p4, p5, p6, p7, p8, p9, p10, p11, p12, p13, p14, c1, c2⟩ K hK
        simp only [fr, Act.put, List.setIfInBounds_toArray, List.set_cons_zero, List.set_cons_succ, updO] at hK ⊢
        simp [Region.binds] at hd
        have g9 := p9 (by simp [hd])
        have k15 := hcl 15 _ rfl
        simp [Region.binds] at k15
        have k14 := hcl 14 _ rfl
        simp [Region.binds] at k14
        have hE : L 15 = false := by cases h : L 15 with | false => rfl | true => have a15 := k15 h; have a14 := k14 (by simp [a15]); simp [hk] at a14
        obtain ⟨xn, xk, xv⟩ := KC.out u (c1 hE)
        rw [if_pos (by rfl)]
        simp only [Oper.wpv]
        go_simp
        exact hK _ _ ⟨hb, p0, p1, p2, p3, p4, p5, p6, p7, p8, p9, fun _ => rfl, p11, p12, p13, p14, c1, c2⟩
      · rintro L T u hd hk hcl ⟨hb, p0, p1, p2, p3, p4, p5, p6, p7, p8, p9, p10, p11, p12, p13, p14, c1, c2⟩ K hK
        simp only [fr, Act.put, List.setIfInBounds_toArray, List.set_cons_zero, List.set_cons_succ, updO] at hK ⊢
        simp [Region.binds] at hd
        rw [if_pos (by rfl)]
        simp only [Oper.wpv]
        go_simp
        exact hK _ _ ⟨hb, p0, p1, p2, p3, p4, p5, p6, p7, p8, p9, p10, fun _ => rfl, p12, p13, p14, c1, c2⟩
      · rintro L T u hd hk hcl ⟨hb, p0, p1, p2, p3, p4, p5, p6, p7, p8, p9, p10, p11, p12, p13, p14, c1, c2⟩ K hK
        simp only [fr, Act.put, List.setIfInBounds_toArray, List.set_cons_zero, List.set_cons_succ, updO] at hK ⊢
        simp [Region.binds] at hd
        have g11 := p11 (by simp [hd])
        have k15 := hcl 15 _ rfl
        simp [Region.binds] at k15
        have k14 := hcl 14 _ rfl
        simp [Region.binds] at k14
        have hE : L 15 = false := by cases h : L 15 with | false => rfl | true => have a15 := k15 h; have a14 := k14 (by simp [a15]); simp [hk] at a14
        obtain ⟨xn, xk, xv⟩ := KC.out u (c1 hE)
        rw [if_pos (by rfl)]
        simp only [Oper.wpv]
        go_simp
        exact hK _ _ ⟨hb, p0, p1, p2, p3, p4, p5, p6, p7, p8, p9, p10, p11, fun _ => rfl, p13, p14, c1, c2⟩
      · rintro L T u hd hk hcl ⟨hb, p0, p1, p2, p3, p4, p5, p6, p7, p8, p9, p10, p11, p12, p13, p14, c1, c2⟩ K hK
        simp only [fr, Act.put, List.setIfInBounds_toArray, List.set_cons_zero, List.set_cons_succ, updO] at hK ⊢
        simp [Region.binds] at hd
        rw [if_pos (by rfl)]
        simp only [Oper.wpv]
        go_simp
        exact hK _ _ ⟨hb, p0, p1, p2, p3, p4, p5, p6, p7, p8, p9, p10, p11, p12, fun _ => rfl, p14, c1, c2⟩
      · rintro L T u hd hk hcl ⟨hb, p0, p1, p2, p3, p4, p5, p6, p7, p8, p9, p10, p11, p12, p13, p14, c1, c2⟩ K hK
        simp only [fr, Act.put, List.setIfInBounds_toArray, List.set_cons_zero, List.set_cons_succ, updO] at hK ⊢
        simp [Region.binds] at hd
        have g10 := p10 (by simp [hd])
        have g12 := p12 (by simp [hd])
        have g13 := p13 (by simp [hd])
        rw [if_pos (by rfl)]
        simp only [Oper.wpv]
        go_simp
        exact hK _ _ ⟨hb, p0, p1, p2, p3, p4, p5, p6, p7, p8, p9, p10, p11, p12, p13, fun _ => rfl, c1, c2⟩
      · rintro L T u hd hk hcl ⟨hb, p0, p1, p2, p3, p4, p5, p6, p7, p8, p9, p10, p11, p12, p13, p14, c1, c2⟩ K hK
        simp only [fr, Act.put, List.setIfInBounds_toArray, List.set_cons_zero, List.set_cons_succ, updO] at hK ⊢
        simp [Region.binds] at hd
        have g0 := p0 (by simp [hd])
        have g4 := p4 (by simp [hd])
        have g8 := p8 (by simp [hd])
        have g14 := p14 (by simp [hd])
        have hE : L 15 = false := hk
        rw [if_pos (by rfl)]
        simp only [Oper.wpv]
        go_simp
        refine (HS2.out _ (c1 hE)).mono ?_
        rintro e u1 ⟨rfl, hg⟩
        exact hK _ _ ⟨hb, p0, p1, p2, p3, p4, p5, p6, p7, p8, p9, p10, p11, p12, p13, p14, fun h => Bool.noConfusion (show true = false from h), fun _ => hg⟩
    · rintro L T u hl ⟨hb, p0, p1, p2, p3, p4, p5, p6, p7, p8, p9, p10, p11, p12, p13, p14, c1, c2⟩
      simp only [fr, Act.put, List.setIfInBounds_toArray, List.set_cons_zero, List.set_cons_succ]
      have hH := c2 (hl 15 (by decide))
      clear p0 p1 p2 p3 p4 p5 p6 p7 p8 p9 p10 p11 p12 p13 p14 c1 c2
      exact bodyPost_end (v := .tuple #[]) (by simp [results, Try.results22, go_sem]) rfl (HD.out _ hH)
end Go.Proofs.Ytfhciplckjkflaa.Co
