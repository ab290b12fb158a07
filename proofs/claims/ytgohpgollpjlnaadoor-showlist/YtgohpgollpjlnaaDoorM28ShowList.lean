/- Texts of this claim, one behind the other. -/
import Derived.Test.YtgohpgollpjlnaaDoorM27ShowList
import Derived.Test.YtgohpgollpjlnaaDoorA15ShowList
import Derived.Test.YtgohpgollpjlnaaDoorM18ShowList
import Derived.Test.YtgohpgollpjlnaaDoorM22ShowList
import Derived.Test.YtgohpgollpjlnaaDoorM23ShowList
/- console.Show. -/
namespace Go.Proofs.YtgohpgollpjlnaaDoor.Cn
open Go.ChangeShapes Go.WideShapes Go.ChangeAt Go.RowKit
open Go.Proofs.YtgohpgollpjlnaaDoor.St (BoxN boxn_new SV IsStore IsRow DbV storeOK TxWf own_below txOK)
open Go.Proofs.YtgohpgollpjlnaaDoor.Pt (IsStores NV IsNotes)
set_option linter.unusedVariables false

def showErr (s : Int) (ls : List (Int × Int)) (p l : Int) (ss : List SV) (nl : List NL) (x : Cmd) : Int := if shErr s ls p l ss nl = 0 then kindErr x.kind else shErr s ls p l ss nl
def showOut (s : Int) (ls : List (Int × Int)) (p l : Int) (ss : List SV) (nl : List NL) (x : Cmd) : ByteArray := if shErr s ls p l ss nl = 0 then showTxt ls l ss nl x else ⟨#[]⟩
set_option maxRecDepth 100000 in
set_option maxHeartbeats 4000000 in
theorem show_any (s p : Int) (a : Option Addr) (len cap : Nat) (ls : List (Int × Int)) (l : Int) (sa : Option Addr) (n sc : Nat) (ss : List SV) (na : Option Addr) (m nc : Nat) (nl : List NL) (xk xl xs xn : Int) (xy : Bool) (w : World) (hl : IsLabs w a len cap ls) (hS : IsStores w sa n sc ss) (hN : IsNLs w na m nc nl)
    (hZ : xk = 4 → (auditGo ls l 0 nl).length ≤ 140737488355328) (hT : ∀ U, Below w.heap.size w U → Lib.TabIs Tryd.prog U "internal/strconv.uint64pow10" .u64 Lib.pow10Tab) :
    Calls Tryd.prog 11 #[.agg #[.int .i64 s, .slice a len cap, .int .i64 p], .int .i64 l, .slice sa n sc, .slice na m nc, .agg #[.int .i64 xk, .int .i64 xl, .int .i64 xs, .int .i64 xn, .bool xy]] w fun e w' => e = .returned (.tuple #[.string (showOut s ls p l ss nl ⟨xk, xl, xs, xn, xy⟩), .int .i64 (showErr s ls p l ss nl ⟨xk, xl, xs, xn, xy⟩)]) ∧ Below w.heap.size w w' := by
  obtain ⟨W, hW⟩ : ∃ W : World, W = (w.alloc (.cells #[.int .i64 s, .slice a len cap, .int .i64 p] 32)).alloc (.cells #[.int .i64 xk, .int .i64 xl, .int .i64 xs, .int .i64 xn, .bool xy] 25) := ⟨_, rfl⟩
  have oC : ObAt W w.heap.size #[.int .i64 s, .slice a len cap, .int .i64 p] 32 := by rw [hW]; exact (ObAt.new w _ _).below ((Below.refl _ _).alloc (Nat.le_refl _) _)
  have oX : ObAt W (w.heap.size + 1) #[.int .i64 xk, .int .i64 xl, .int .i64 xs, .int .i64 xn, .bool xy] 25 := by rw [hW]; have h8 := ObAt.new (w.alloc (.cells #[.int .i64 s, .slice a len cap, .int .i64 p] 32)) #[.int .i64 xk, .int .i64 xl, .int .i64 xs, .int .i64 xn, .bool xy] 25; simpa using h8
  have bW : Below w.heap.size w W := by rw [hW]; exact ((Below.refl _ _).alloc (Nat.le_refl _) _).alloc (by simp) _
  have hRf := refuse_any s p a len cap ls l sa n sc ss na m nc nl W (hl.below bW) (hS.below bW) (hN.below bW)
  have HZr : Hid (∀ {e : Int}, e = shErr s ls p l ss nl → e = 0 → cfgFault s ls p = 0 ∧ (0 ≤ l ∧ l < (ls.length : Int)) ∧ ss.length = ls.length ∧ nl.length = ls.length ∧ okAll ss nl ls.length) := fun {e} h1 h2 => sh_zero (h1.symm.trans h2)
  have HO : Hid (showOut s ls p l ss nl ⟨xk, xl, xs, xn, xy⟩ = if shErr s ls p l ss nl = 0 then showTxt ls l ss nl ⟨xk, xl, xs, xn, xy⟩ else ⟨#[]⟩) := rfl
  have HE : Hid (showErr s ls p l ss nl ⟨xk, xl, xs, xn, xy⟩ = if shErr s ls p l ss nl = 0 then kindErr xk else shErr s ls p l ss nl) := rfl
  have KV : Hid (∀ U, Below W.heap.size W U → ObAt U w.heap.size #[.int .i64 s, .slice a len cap, .int .i64 p] 32 ∧ ObAt U (w.heap.size + 1) #[.int .i64 xk, .int .i64 xl, .int .i64 xs, .int .i64 xn, .bool xy] 25 ∧ IsLabs U a len cap ls ∧ IsStores U sa n sc ss ∧ IsNLs U na m nc nl ∧ Below w.heap.size w U) := fun U hU => ⟨oC.below hU, oX.below hU, (hl.below bW).below hU, (hS.below bW).below hU, (hN.below bW).below hU, bW.trans (hU.mono bW.size)⟩
  have HTb : Hid (∀ U, Below W.heap.size W U → ∀ Z, Below U.heap.size U Z → Lib.TabIs Tryd.prog Z "internal/strconv.uint64pow10" .u64 Lib.pow10Tab) := fun U hU Z hZ => hT Z ((KV.out U hU).2.2.2.2.2.trans (hZ.mono (KV.out U hU).2.2.2.2.2.size))
  have HZl : Hid (xk = 4 → (auditGo ls l 0 nl).length ≤ 140737488355328) := hZ
  have hlen := hl.1
  have hsl := hS.row.1
  have hnl := hN.row.1
  obtain ⟨OUT, eOUT⟩ : ∃ x, x = showOut s ls p l ss nl ⟨xk, xl, xs, xn, xy⟩ := ⟨_, rfl⟩
  obtain ⟨ERR, eERR⟩ : ∃ x, x = showErr s ls p l ss nl ⟨xk, xl, xs, xn, xy⟩ := ⟨_, rfl⟩
  rw [← eOUT] at HO ⊢
  rw [← eERR] at HE ⊢
  have HEq : ∃ E, E = shErr s ls p l ss nl := ⟨_, rfl⟩
  obtain ⟨E, eE⟩ := HEq
  have HZ1 := HZr.out eE
  rw [← eE] at hRf HO HE
  clear eOUT eERR eE HZr hZ hT hl hS hN
  have HZ2 : Hid (E = 0 → cfgFault s ls p = 0 ∧ (0 ≤ l ∧ l < (ls.length : Int)) ∧ ss.length = ls.length ∧ nl.length = ls.length ∧ okAll ss nl ls.length) := HZ1
  clear HZ1
  have c0 : W.cell? ⟨w.heap.size, 0, none⟩ = some (.int .i64 s) := oC.cell 0
  have c1 : W.cell? ⟨w.heap.size, 1, none⟩ = some (.slice a len cap) := oC.cell 1
  have c2 : W.cell? ⟨w.heap.size, 2, none⟩ = some (.int .i64 p) := oC.cell 2
  have zc := oC.lt
  clear oC oX
  go_enter Tryd.func11, Tryd.ntmps11
  go_upto_region 1 with (fail)
  rw [← hW]
  clear hW
  go_upto_region 2 with (go_at_call 23; refine hRf.mono ?_; rintro e u ⟨rfl, hb⟩)
  clear hRf c0 c1 c2 zc bW
  obtain ⟨oC, oX, hl, hS, hN, hwu⟩ := KV.out u hb
  have HTu : Hid (∀ Z, Below u.heap.size u Z → Lib.TabIs Tryd.prog Z "internal/strconv.uint64pow10" .u64 Lib.pow10Tab) := HTb.out u hb
  clear KV HTb
  by_cases hE : E = 0
  · subst hE
    rw [if_pos rfl] at HO HE
    obtain ⟨hcf, ⟨hl0, hl1⟩, h3, h4, h5⟩ := HZ2.out rfl
    have h6 := (cfg_zero hcf).2.2.2.1
    have c0 : u.cell? ⟨w.heap.size, 0, none⟩ = some (.int .i64 s) := oC.cell 0
    have c1 : u.cell? ⟨w.heap.size, 1, none⟩ = some (.slice a len cap) := oC.cell 1
    have c2 : u.cell? ⟨w.heap.size, 2, none⟩ = some (.int .i64 p) := oC.cell 2
    have d0 : u.cell? ⟨w.heap.size + 1, 0, none⟩ = some (.int .i64 xk) := oX.cell 0
    have d1 : u.cell? ⟨w.heap.size + 1, 1, none⟩ = some (.int .i64 xl) := oX.cell 1
    have d2 : u.cell? ⟨w.heap.size + 1, 2, none⟩ = some (.int .i64 xs) := oX.cell 2
    have d3 : u.cell? ⟨w.heap.size + 1, 3, none⟩ = some (.int .i64 xn) := oX.cell 3
    have d4 : u.cell? ⟨w.heap.size + 1, 4, none⟩ = some (.bool xy) := oX.cell 4
    have zc := oC.lt
    have zx := oX.lt
    by_cases k1 : xk = 1
    · subst k1
      have hL := list_any s p a len cap ls l sa n sc ss u hl (by omega) hl0 (by omega) hS (by omega) (fun i hi d hd => ok_i64 (h5 i (by omega)).1 d hd) (by
        have h8 := listGo_len (ls := ls) (l := l) ss 0 (by omega) (fun x hx => by
          obtain ⟨i, hi, rfl⟩ := List.getElem_of_mem hx
          have e9 : ss.getD i default = ss[i] := by simp [List.getD, hi]
          have h9 := (h5 i (by omega)).1
          rw [e9] at h9
          have h10 := (hS.each i (by omega)).1
          rw [e9] at h10
          have h11 := (St.ok_sizes h9 h10).2.2
          have h12 := h10.doubts.1
          exact ⟨by omega, ok_i64 h9⟩)
        omega) HTu.out
      have HO2 : Hid (OUT = ⟨(listGo ls l 0 ss).toArray⟩) := HO
      have HE2 : Hid (ERR = 0) := HE
      clear HO HE HZ2 HTu HZl h5 hcf
      go_wp2_with (go_at_call 24; refine hL.mono ?_; rintro e u2 ⟨rfl, hb2⟩)
      go_ret2
      exact ⟨by rw [HO2.out, HE2.out]; rfl, hwu.trans (hb2.mono hwu.size)⟩
    by_cases k2 : xk = 2
    · subst k2
      have hL := status_any s p a len cap ls l sa n sc ss 2 xl xs xn xy u hl (by omega) hl0 (by omega) hS (by omega)
      have HO2 : Hid (OUT = stText ls l ss xl xs xn) := HO
      have HE2 : Hid (ERR = 0) := HE
      clear HO HE HZ2 HTu HZl h5 hcf k1
      go_wp2_with (go_at_call 25; refine hL.mono ?_; rintro e u2 ⟨rfl, hb2⟩)
      go_ret2
      exact ⟨by rw [HO2.out, HE2.out]; rfl, hwu.trans (hb2.mono hwu.size)⟩
    by_cases k4 : xk = 4
    · subst k4
      have hL := audit_any s p a len cap ls l na m nc nl u hl (by omega) hl0 (by omega) hN (by omega) (fun i hi x hx => by
        have h8 := (h5 i (by omega)).2
        unfold notesOK at h8
        have h9 := tx_i64 (List.all_eq_true.1 h8 x hx)
        exact h9) (HZl.out rfl) HTu.out
      have HO2 : Hid (OUT = ⟨(auditGo ls l 0 nl).toArray⟩) := HO
      have HE2 : Hid (ERR = 0) := HE
      clear HO HE HZ2 HTu HZl h5 hcf k1 k2
      go_wp2_with (go_at_call 26; refine hL.mono ?_; rintro e u2 ⟨rfl, hb2⟩)
      go_ret2
      exact ⟨by rw [HO2.out, HE2.out]; rfl, hwu.trans (hb2.mono hwu.size)⟩
    · have HO2 : Hid (OUT = ⟨#[]⟩) := by show _ = _; rw [HO.out]; unfold showTxt; rw [if_neg k1, if_neg k2, if_neg k4]
      have HE2 : Hid (ERR = 3) := by show _ = _; rw [HE.out]; unfold kindErr; rw [if_neg (by omega)]
      have e1 : ((xk : Int) == 1) = false := by simpa using k1
      have e2 : ((xk : Int) == 2) = false := by simpa using k2
      have e4 : ((xk : Int) == 4) = false := by simpa using k4
      clear HO HE HZ2 HTu HZl h5 hcf k1 k2 k4
      go_wp2
      go_ret2
      exact ⟨by rw [HO2.out, HE2.out]; rfl, hwu⟩
  · have HO2 : Hid (OUT = ⟨#[]⟩) := by show _ = _; rw [HO.out, if_neg hE]
    have HE2 : Hid (ERR = E) := by show _ = _; rw [HE.out, if_neg hE]
    have hE2 : ((E : Int) != 0) = true := by simpa using hE
    clear HO HE HZ2 HTu HZl hE
    go_wp2
    go_ret2
    exact ⟨by rw [HO2.out, HE2.out]; rfl, hwu⟩
end Go.Proofs.YtgohpgollpjlnaaDoor.Cn
/- A config of one label; lines end once. -/
namespace Go.Proofs.YtgohpgollpjlnaaDoor.Cn
open Go.ChangeShapes Go.WideShapes Go.ChangeAt Go.RowKit
open Go.Proofs.YtgohpgollpjlnaaDoor.St (BoxN boxn_new SV IsStore IsRow DbV storeOK TxWf own_below txOK)
open Go.Proofs.YtgohpgollpjlnaaDoor.Pt (IsStores NV IsNotes)
set_option linter.unusedVariables false

def LS1 : List (Int × Int) := [(0, 0)]
theorem cfg_one : cfgFault 1 LS1 3 = 0 := by decide
set_option maxRecDepth 100000 in
theorem lone_any (w : World) :
    Calls Tryd.prog 17 #[] w fun e w' => ∃ g, e = .returned (.agg #[.int .i64 1, .slice (some ⟨g, 0, none⟩) 1 1, .int .i64 3]) ∧ IsLabs w' (some ⟨g, 0, none⟩) 1 1 LS1 ∧ Below w.heap.size w w' := by
  go_enter Tryd.func17, Tryd.ntmps17
  go_wp2
  obtain ⟨X, eX⟩ : ∃ X : World, X = (w.alloc (.cells #[.int .i64 1, .slice (some ⟨w.heap.size + 1, 0, none⟩) 1 1, .int .i64 3] 32)).alloc (.cells #[.int .i64 0, .int .i64 0] 80) := ⟨_, rfl⟩
  have hb : Below w.heap.size w X := by rw [eX]; exact ((Below.refl _ _).alloc (Nat.le_refl _) _).alloc (by simp) _
  have c0 : X.cell? ⟨w.heap.size + 1, 0, none⟩ = some (.int .i64 0) := by rw [eX]; go_simp
  have c1 : X.cell? ⟨w.heap.size + 1, 1, none⟩ = some (.int .i64 0) := by rw [eX]; go_simp
  have q0 : X.cell? ⟨w.heap.size, 0, none⟩ = some (.int .i64 1) := by rw [eX]; go_simp
  have q1 : X.cell? ⟨w.heap.size, 1, none⟩ = some (.slice (some ⟨w.heap.size + 1, 0, none⟩) 1 1) := by rw [eX]; go_simp
  have q2 : X.cell? ⟨w.heap.size, 2, none⟩ = some (.int .i64 3) := by rw [eX]; go_simp
  have zX : w.heap.size + 1 < X.heap.size := by rw [eX]; simp
  rw [← eX]
  clear eX
  refine bodyPost_ret (v := .agg #[.int .i64 1, .slice (some ⟨w.heap.size + 1, 0, none⟩) 1 1, .int .i64 3]) (by simp [results, Tryd.results17, go_sem, q0, q1, q2]) rfl ⟨w.heap.size + 1, rfl, ?_, hb⟩
  refine ⟨rfl, Nat.le_refl _, by unfold maxLen; omega, fun _ => ⟨w.heap.size + 1, 0, rfl, zX, fun i hi => ?_⟩⟩
  have hi2 : i = 0 := by simp [LS1] at hi; omega
  subst hi2
  exact ⟨c0, c1⟩
theorem sees_one : seesP LS1 0 0 = true := by decide
theorem mem_join {xs : List (List UInt8)} {sep : List UInt8} {c : UInt8} (h : c ∈ Lib.join xs sep) : c ∈ sep ∨ ∃ x ∈ xs, c ∈ x := by
  cases xs with
  | nil => simp [Lib.join_nil] at h
  | cons x r =>
    rw [Lib.join_cons] at h
    rcases List.mem_append.1 h with h | h
    · exact Or.inr ⟨x, by simp, h⟩
    · unfold Lib.joinTail at h
      obtain ⟨l, hl, hc⟩ := List.mem_flatten.1 h
      obtain ⟨y, hy, rfl⟩ := List.mem_map.1 hl
      rcases List.mem_append.1 hc with hc | hc
      · exact Or.inl hc
      · exact Or.inr ⟨y, by simp [hy], hc⟩
theorem itoa_no10 {v : Int} (h0 : 0 ≤ v) : ∀ c ∈ Lib.itoa v, c ≠ 10 := by
  obtain ⟨u, rfl⟩ : ∃ u : Nat, v = (u : Int) := ⟨v.toNat, by omega⟩
  rw [Lib.itoa_nonneg u]
  intro c hc e
  have := dec_digit u u (Nat.le_refl _) c hc
  subst e
  simp at this
theorem line_ends {p t1 t2 : Int} {rest : List ByteArray} (hp : 0 ≤ p) (h1 : 0 ≤ t1) (h2 : 0 ≤ t2) (hr : ∀ x ∈ rest, ∀ c ∈ x.data.toList, c ≠ 10) : (lineBy p t1 t2 rest).data.toList.count 10 = 1 := by
  have h3 : (Lib.join ([Lib.itoa p, Lib.itoa t1, Lib.itoa t2] ++ rest.map (·.data.toList)) [32]).count 10 = 0 := by
    rw [List.count_eq_zero]
    intro hc
    rcases mem_join hc with h | ⟨x, hx, hcx⟩
    · simp at h
    · simp only [List.cons_append, List.nil_append, List.mem_cons, List.mem_map] at hx
      rcases hx with rfl | rfl | rfl | ⟨y, hy, rfl⟩
      · exact itoa_no10 hp _ hcx rfl
      · exact itoa_no10 h1 _ hcx rfl
      · exact itoa_no10 h2 _ hcx rfl
      · exact hr y hy _ hcx rfl
  unfold lineBy
  simp only [ByteArray.data_append, Array.toList_append, List.count_append, h3]
  rfl
theorem ok_nn {s : SV} (h : storeOK s = true) : ∀ d ∈ s.doubts, 0 ≤ d.t.1 ∧ 0 ≤ d.t.2 ∧ 0 ≤ d.age ∧ txOK d.t = true := by
  intro d hd
  unfold storeOK at h
  simp only [Bool.and_eq_true] at h
  have h1 := h.2
  unfold St.doubtsOK at h1
  rw [Bool.and_eq_true] at h1
  obtain ⟨h2, h3⟩ := doubts_all _ _ _ _ h1.1 d hd
  obtain ⟨k, hk, he⟩ := List.any_eq_true.1 h3
  have h4 := h.1.1.2
  unfold St.locksOK at h4
  rw [Bool.and_eq_true] at h4
  have h5 := locks_all _ _ h4.2 k hk
  unfold St.lockOK at h5
  simp only [Bool.and_eq_true] at h5
  have h6 := h5.1.1.1.1
  unfold St.ofT at he
  have he2 : k.t = d.t := by simpa using he
  rw [he2] at h6
  have h7 := h6
  unfold txOK at h7
  rw [Bool.and_eq_true] at h7
  have h8 := inR_bd h7.1
  have h9 := inR_bd h7.2
  have h10 := inR_bd h2
  exact ⟨h8.1, by omega, h10.1, h6⟩
def prepN (s : SV) (ds : List DbV) : Nat := (ds.filter fun d => prepB s d.t).length
theorem list_ends {k : Int} {s : SV} (hk : 0 ≤ k) : ∀ (ds : List DbV), (∀ d ∈ ds, 0 ≤ d.t.1 ∧ 0 ≤ d.t.2 ∧ 0 ≤ d.age ∧ txOK d.t = true) → (listDb k s ds).count 10 = prepN s ds := by
  intro ds
  induction ds with
  | nil => intro _; rfl
  | cons d r ih =>
    intro h
    have h1 := h d (by simp)
    have h2 := ih (fun x hx => h x (by simp [hx]))
    have h3 : (dbLine k d).count 10 = 1 := line_ends hk h1.1 h1.2.1 (fun x hx c hc => by simp at hx; subst hx; exact itoa_no10 h1.2.2.1 c hc)
    unfold prepN at h2 ⊢
    rw [listDb, List.count_append, h2, List.filter_cons]
    cases prepB s d.t with
    | true => simp only [if_true, List.length_cons, h3]; omega
    | false => simp
theorem prepN_at {s : SV} {ds : List DbV} {i : Nat} (hi : i < ds.length) : prepN s (ds.take (i + 1)) = prepN s (ds.take i) + (if prepB s (ds.getD i default).t then 1 else 0) := by
  have e : ds.take (i + 1) = ds.take i ++ [ds.getD i default] := by
    rw [List.take_succ_eq_append_getElem hi]; simp [List.getD, hi]
  unfold prepN
  rw [e, List.filter_append, List.length_append]
  congr 1
  rw [List.filter_cons]
  cases prepB s (ds.getD i default).t <;> rfl
theorem prep_writes {s : SV} {t : Int × Int} (h : storeOK s = true) (ht : txOK t = true) : St.cntErr s t = 0 ∧ prepB s t = decide (0 < St.cntIs s t) := by
  have e1 : St.cntErr s t = 0 := by unfold St.cntErr; rw [h, ht]; rfl
  have h' : storeOK (noOv s) = true := by
    unfold storeOK at h ⊢
    simp only [Bool.and_eq_true] at h ⊢
    refine ⟨⟨⟨h.1.1.1, h.1.1.2⟩, rfl⟩, ?_⟩
    have h2 := h.2
    unfold St.doubtsOK at h2 ⊢
    rw [Bool.and_eq_true] at h2 ⊢
    refine ⟨?_, h2.2⟩
    have key : ∀ (l seen : List DbV) (ls : List St.LkV) (ov : List (Int × Int)), St.doubtsGo ls ov seen l = true → St.doubtsGo ls [] seen l = true := by
      intro l
      induction l with
      | nil => intro seen ls ov _; rfl
      | cons x r ih =>
        intro seen ls ov h
        rw [St.doubtsGo] at h ⊢
        simp only [Bool.and_eq_true] at h ⊢
        exact ⟨⟨⟨⟨h.1.1.1.1, h.1.1.1.2⟩, h.1.1.2⟩, by simp⟩, ih _ ls ov h.2⟩
    exact key _ _ _ _ h2.1
  have e2 : St.cntErr (noOv s) t = 0 := by unfold St.cntErr; rw [h', ht]; rfl
  have e3 : St.cntIs (noOv s) t = St.cntIs s t := by unfold St.cntIs; rw [e1, e2]; rfl
  refine ⟨e1, ?_⟩
  unfold prepB
  rw [e2, e3]
  simp
end Go.Proofs.YtgohpgollpjlnaaDoor.Cn
/- The walk of the law ShowList: at any numbers it returns true and leaves what was in memory. -/
namespace Go.Proofs.YtgohpgollpjlnaaDoor.Cn
open Go.ChangeShapes Go.WideShapes Go.ChangeAt Go.RowKit
open Go.Proofs.YtgohpgollpjlnaaDoor.St (BoxN boxn_new SV IsStore IsRow DbV storeOK TxWf own_below txOK OwnStore Gd IsRaws)
open Go.Proofs.YtgohpgollpjlnaaDoor.Pt (IsStores NV IsNotes)
set_option linter.unusedVariables false

/-- One store, and no notes, in slices that were just made. -/
theorem one_store {u : World} {r : SV} (h : IsStore u r) (hw : ∀ t ∈ r.over, TxWf t) : IsStores (u.alloc (.cells #[.slice r.ia r.il r.ic, .slice r.la r.ll r.lc, .slice r.da r.dl r.dc, .slice r.oa r.ol r.oc] 55)) (some ⟨u.heap.size, 0, none⟩) 1 1 [r] := by
  have hb : (u.alloc (.cells #[.slice r.ia r.il r.ic, .slice r.la r.ll r.lc, .slice r.da r.dl r.dc, .slice r.oa r.ol r.oc] 55)).heap[u.heap.size]? = some (.cells #[.slice r.ia r.il r.ic, .slice r.la r.ll r.lc, .slice r.da r.dl r.dc, .slice r.oa r.ol r.oc] 55 (0, 0)) := heap_alloc_new u _
  refine ⟨⟨rfl, Nat.le_refl _, by unfold maxLen; omega, fun e => by simp at e, fun _ => ⟨u.heap.size, 0, rfl, by simp, fun i hi j hj => ?_⟩⟩, fun i hi => ?_⟩
  · rw [cell_of_row _ u.heap.size _ _ 55 (0, 0) hb]
    obtain rfl : i = 0 := by omega
    rcases (by omega : j = 0 ∨ j = 1 ∨ j = 2 ∨ j = 3) with rfl | rfl | rfl | rfl <;> rfl
  · obtain rfl : i = 0 := by omega
    exact ⟨h.below ((Below.refl _ _).alloc (Nat.le_refl _) _), hw⟩
theorem no_notes (u : World) (q : Nat) (hq : q = u.heap.size) : IsNLs (u.alloc (.cells #[.slice none 0 0] 49)) (some ⟨q, 0, none⟩) 1 1 [⟨none, 0, 0, []⟩] := by
  subst hq
  have hb : (u.alloc (.cells #[.slice none 0 0] 49)).heap[u.heap.size]? = some (.cells #[.slice none 0 0] 49 (0, 0)) := heap_alloc_new u _
  refine ⟨⟨rfl, Nat.le_refl _, by unfold maxLen; omega, fun e => by simp at e, fun _ => ⟨u.heap.size, 0, rfl, by simp, fun i hi j hj => ?_⟩⟩, fun i hi => ?_⟩
  · rw [cell_of_row _ u.heap.size _ _ 49 (0, 0) hb]
    obtain rfl : i = 0 := by omega
    obtain rfl : j = 0 := by omega
    rfl
  · obtain rfl : i = 0 := by omega
    exact St.isRow_nil _ _ _
theorem sh_one {r : SV} (h : storeOK r = true) : shErr 1 LS1 3 0 [r] [⟨none, 0, 0, []⟩] = 0 := by
  unfold shErr
  rw [if_pos cfg_one, if_pos (by decide), if_pos ⟨rfl, rfl⟩, if_pos]
  intro i hi
  have hi2 : i = 0 := by simp [LS1] at hi; omega
  subst hi2
  exact ⟨h, rfl⟩
/-- What is told of the one store. -/
theorem show_one (g0 : Nat) (r : SV) (u : World) (hl : IsLabs u (some ⟨g0, 0, none⟩) 1 1 LS1) (h : IsStore u r) (hw : ∀ t ∈ r.over, TxWf t) (hok : storeOK r = true) (xk xs xn : Int) (hk : xk ≠ 4) (hT : ∀ U, Below u.heap.size u U → Lib.TabIs Tryd.prog U "internal/strconv.uint64pow10" .u64 Lib.pow10Tab) :
    Calls Tryd.prog 11 #[.agg #[.int .i64 1, .slice (some ⟨g0, 0, none⟩) 1 1, .int .i64 3], .int .i64 0, .slice (some ⟨u.heap.size, 0, none⟩) 1 1, .slice (some ⟨u.heap.size + 1, 0, none⟩) 1 1, .agg #[.int .i64 xk, .int .i64 0, .int .i64 xs, .int .i64 xn, .bool false]] ((u.alloc (.cells #[.slice r.ia r.il r.ic, .slice r.la r.ll r.lc, .slice r.da r.dl r.dc, .slice r.oa r.ol r.oc] 55)).alloc (.cells #[.slice none 0 0] 49)) fun e w' => e = .returned (.tuple #[.string (showTxt LS1 0 [r] [⟨none, 0, 0, []⟩] ⟨xk, 0, xs, xn, false⟩), .int .i64 (kindErr xk)]) ∧ Below u.heap.size u w' := by
  have b1 : Below u.heap.size u (u.alloc (.cells #[.slice r.ia r.il r.ic, .slice r.la r.ll r.lc, .slice r.da r.dl r.dc, .slice r.oa r.ol r.oc] 55)) := (Below.refl _ _).alloc (Nat.le_refl _) _
  have b2 : Below u.heap.size u ((u.alloc (.cells #[.slice r.ia r.il r.ic, .slice r.la r.ll r.lc, .slice r.da r.dl r.dc, .slice r.oa r.ol r.oc] 55)).alloc (.cells #[.slice none 0 0] 49)) := b1.alloc (by simp) _
  have hS := (one_store h hw).below (w' := (u.alloc (.cells #[.slice r.ia r.il r.ic, .slice r.la r.ll r.lc, .slice r.da r.dl r.dc, .slice r.oa r.ol r.oc] 55)).alloc (.cells #[.slice none 0 0] 49)) ((Below.refl _ _).alloc (Nat.le_refl _) _)
  have hN := no_notes (u.alloc (.cells #[.slice r.ia r.il r.ic, .slice r.la r.ll r.lc, .slice r.da r.dl r.dc, .slice r.oa r.ol r.oc] 55)) (u.heap.size + 1) (by simp)
  refine (show_any 1 3 (some ⟨g0, 0, none⟩) 1 1 LS1 0 (some ⟨u.heap.size, 0, none⟩) 1 1 [r] (some ⟨u.heap.size + 1, 0, none⟩) 1 1 [⟨none, 0, 0, []⟩] xk 0 xs xn false _ (hl.below b2) hS hN (fun e => absurd e hk) (fun U hU => hT U (b2.trans (hU.mono b2.size)))).mono ?_
  rintro e w' ⟨rfl, h2⟩
  refine ⟨?_, b2.trans (h2.mono b2.size)⟩
  unfold showOut showErr
  rw [sh_one hok, if_pos rfl, if_pos rfl]
theorem list_one (r : SV) (xs xn : Int) : showTxt LS1 0 [r] [⟨none, 0, 0, []⟩] ⟨1, 0, xs, xn, false⟩ = ⟨(listDb 0 r r.doubts).toArray⟩ := by
  unfold showTxt
  rw [if_pos rfl]
  have : listGo LS1 0 0 [r] = listDb 0 r r.doubts := by
    simp only [listGo]
    rw [show ((0 : Nat) : Int) = 0 from rfl, sees_one]
    simp
  rw [this]
theorem stat_one (r : SV) (xs xn : Int) : showTxt LS1 0 [r] [⟨none, 0, 0, []⟩] ⟨2, 0, xs, xn, false⟩ = if prepB r (xs, xn) then ⟨#[112, 114, 101, 112, 97, 114, 101, 100, 10]⟩ else ⟨#[117, 110, 107, 110, 111, 119, 110, 10]⟩ := by
  unfold showTxt
  rw [if_neg (by simp), if_pos rfl]
  unfold stText
  rw [sees_one, Bool.true_and]
  rfl
theorem byte_at {l : List UInt8} {i : Nat} (h : i < l.length) (w : World) : (Instr.index 9 (.string ⟨l.toArray⟩) (.int .i64 (i : Int))).run Tryd.prog w = .ok (.int .u8 ((l.getD i 0).toNat : Int)) w := by
  have hs : (⟨l.toArray⟩ : ByteArray).size = l.length := by show l.toArray.size = _; simp
  have hi : 0 ≤ (i : Int) ∧ (i : Int) < ((⟨l.toArray⟩ : ByteArray).size : Int) := ⟨by omega, by rw [hs]; omega⟩
  rw [run_index_string w 9 ⟨l.toArray⟩ .i64 (i : Int) Tryd.underlying9, dif_pos hi]
  have e : (⟨l.toArray⟩ : ByteArray)[(i : Int).toNat]'(by rw [hs]; simpa using h) = l.getD i 0 := by
    show l.toArray[(i : Int).toNat]'_ = _
    simp [List.getD, h]
  rw [e]
theorem count_at {l : List UInt8} {i : Nat} (h : i < l.length) : (l.take (i + 1)).count 10 = (l.take i).count 10 + (if l.getD i 0 = 10 then 1 else 0) := by
  have e : l.take (i + 1) = l.take i ++ [l.getD i 0] := by
    rw [List.take_succ_eq_append_getElem h]; simp [List.getD, h]
  rw [e, List.count_append]
  congr 1
  rw [List.count_singleton]
  by_cases h10 : l.getD i 0 = 10
  · rw [if_pos h10, h10]; rfl
  · rw [if_neg h10]; simp only [beq_iff_eq, if_neg h10]
set_option maxRecDepth 100000 in
set_option maxHeartbeats 8000000 in
theorem showList_walk (a : Option Addr) (len cap : Nat) (rs : List St.RV) (w : World) (hr : IsRaws w a len cap rs) (hT : ∀ U, Below w.heap.size w U → Lib.TabIs Tryd.prog U "internal/strconv.uint64pow10" .u64 Lib.pow10Tab) :
    Calls Tryd.prog 8 #[.slice a len cap] w fun e w' => e = .returned (.bool true) ∧ Below w.heap.size w w' := by
  have HT : Hid (∀ U, Below w.heap.size w U → Lib.TabIs Tryd.prog U "internal/strconv.uint64pow10" .u64 Lib.pow10Tab) := hT
  clear hT
  have hLo := lone_any w
  go_enter Tryd.func8, Tryd.ntmps8
  go_upto_region 2 with (go_at_call 17; refine hLo.mono ?_; rintro e w1 ⟨g0, rfl, hl, hb1⟩)
  clear hLo
  obtain ⟨X1, eX1⟩ : ∃ X : World, X = w1.alloc (.cells #[.int .i64 1, .slice (some ⟨g0, 0, none⟩) 1 1, .int .i64 3] 32) := ⟨_, rfl⟩
  have oC : ObAt X1 w1.heap.size #[.int .i64 1, .slice (some ⟨g0, 0, none⟩) 1 1, .int .i64 3] 32 := by rw [eX1]; exact ObAt.new w1 _ _
  have bX1 : Below w1.heap.size w1 X1 := by rw [eX1]; exact (Below.refl _ _).alloc (Nat.le_refl _) _
  rw [← eX1]
  clear eX1
  have bwX := hb1.trans (bX1.mono hb1.size)
  have hSt := St.store_made a len cap rs 25 X1 (hr.below bwX) (by omega)
  go_upto_region 3 with (go_at_call 16; refine hSt.mono ?_; rintro e w2 ⟨⟨ra0, rn0, rc0, ra1, rn1, rc1, ra2, rn2, rc2, ra3, rn3, rc3, ri, rl, rd, ro⟩, rfl, hO, hG, hb2⟩; simp only [SV.val])
  clear hSt hr
  obtain ⟨X2, eX2⟩ : ∃ X : World, X = w2.alloc (.cells #[.slice ra0 rn0 rc0, .slice ra1 rn1 rc1, .slice ra2 rn2 rc2, .slice ra3 rn3 rc3] 55) := ⟨_, rfl⟩
  have oS : ObAt X2 w2.heap.size #[.slice ra0 rn0 rc0, .slice ra1 rn1 rc1, .slice ra2 rn2 rc2, .slice ra3 rn3 rc3] 55 := by rw [eX2]; exact ObAt.new w2 _ _
  have bX2 : Below w2.heap.size w2 X2 := by rw [eX2]; exact (Below.refl _ _).alloc (Nat.le_refl _) _
  rw [← eX2]
  clear eX2
  have bX12 : Below X1.heap.size X1 X2 := hb2.trans (bX2.mono hb2.size)
  have bw2 : Below w.heap.size w X2 := bwX.trans (bX12.mono bwX.size)
  have hok : storeOK ⟨ra0, rn0, rc0, ra1, rn1, rc1, ra2, rn2, rc2, ra3, rn3, rc3, ri, rl, rd, ro⟩ = true := hG.ok.ok
  have hwf := hG.wf
  have hIS : IsStore X2 ⟨ra0, rn0, rc0, ra1, rn1, rc1, ra2, rn2, rc2, ra3, rn3, rc3, ri, rl, rd, ro⟩ := hO.isStore.below bX2
  have oC2 := oC.below bX12
  have KV : Hid (∀ U, Below X2.heap.size X2 U → ObAt U w1.heap.size #[.int .i64 1, .slice (some ⟨g0, 0, none⟩) 1 1, .int .i64 3] 32 ∧ ObAt U w2.heap.size #[.slice ra0 rn0 rc0, .slice ra1 rn1 rc1, .slice ra2 rn2 rc2, .slice ra3 rn3 rc3] 55 ∧ IsLabs U (some ⟨g0, 0, none⟩) 1 1 LS1 ∧ IsStore U ⟨ra0, rn0, rc0, ra1, rn1, rc1, ra2, rn2, rc2, ra3, rn3, rc3, ri, rl, rd, ro⟩ ∧ Below w.heap.size w U) := fun U hU => ⟨oC2.below hU, oS.below hU, ((hl.below bX1).below bX12).below hU, hIS.below hU, bw2.trans (hU.mono bw2.size)⟩
  have KS : Hid (∀ U, Below X2.heap.size X2 U → ∀ xk xs xn : Int, xk ≠ 4 → Calls Tryd.prog 11 #[.agg #[.int .i64 1, .slice (some ⟨g0, 0, none⟩) 1 1, .int .i64 3], .int .i64 0, .slice (some ⟨U.heap.size, 0, none⟩) 1 1, .slice (some ⟨U.heap.size + 1, 0, none⟩) 1 1, .agg #[.int .i64 xk, .int .i64 0, .int .i64 xs, .int .i64 xn, .bool false]] ((U.alloc (.cells #[.slice ra0 rn0 rc0, .slice ra1 rn1 rc1, .slice ra2 rn2 rc2, .slice ra3 rn3 rc3] 55)).alloc (.cells #[.slice none 0 0] 49)) fun e w' => e = .returned (.tuple #[.string (showTxt LS1 0 [⟨ra0, rn0, rc0, ra1, rn1, rc1, ra2, rn2, rc2, ra3, rn3, rc3, ri, rl, rd, ro⟩] [⟨none, 0, 0, []⟩] ⟨xk, 0, xs, xn, false⟩), .int .i64 (kindErr xk)]) ∧ Below U.heap.size U w') := fun U hU xk xs xn hk => by
    obtain ⟨-, -, h1, h2, h3⟩ := KV.out U hU
    exact show_one g0 ⟨ra0, rn0, rc0, ra1, rn1, rc1, ra2, rn2, rc2, ra3, rn3, rc3, ri, rl, rd, ro⟩ U h1 h2 hwf hok xk xs xn hk (fun Z hZ => HT.out Z (h3.trans (hZ.mono h3.size)))
  have KW : Hid (∀ U, Below X2.heap.size X2 U → ∀ t1 t2 : Int, Calls Tryd.prog 18 #[.agg #[.slice ra0 rn0 rc0, .slice ra1 rn1 rc1, .slice ra2 rn2 rc2, .slice ra3 rn3 rc3], .agg #[.int .i64 t1, .int .i64 t2]] U fun e w' => e = .returned (.tuple #[.int .i64 (St.cntIs ⟨ra0, rn0, rc0, ra1, rn1, rc1, ra2, rn2, rc2, ra3, rn3, rc3, ri, rl, rd, ro⟩ (t1, t2)), .int .i64 (St.cntErr ⟨ra0, rn0, rc0, ra1, rn1, rc1, ra2, rn2, rc2, ra3, rn3, rc3, ri, rl, rd, ro⟩ (t1, t2))]) ∧ Below U.heap.size U w') := fun U hU t1 t2 => St.writes_count ⟨ra0, rn0, rc0, ra1, rn1, rc1, ra2, rn2, rc2, ra3, rn3, rc3, ri, rl, rd, ro⟩ (t1, t2) U (KV.out U hU).2.2.2.1 hwf
  have hnn := ok_nn hok
  have HP : Hid (∀ d ∈ rd, St.cntErr ⟨ra0, rn0, rc0, ra1, rn1, rc1, ra2, rn2, rc2, ra3, rn3, rc3, ri, rl, rd, ro⟩ d.t = 0 ∧ prepB ⟨ra0, rn0, rc0, ra1, rn1, rc1, ra2, rn2, rc2, ra3, rn3, rc3, ri, rl, rd, ro⟩ d.t = decide (0 < St.cntIs ⟨ra0, rn0, rc0, ra1, rn1, rc1, ra2, rn2, rc2, ra3, rn3, rc3, ri, rl, rd, ro⟩ d.t)) := fun d hd => prep_writes hok (hnn d hd).2.2.2
  obtain ⟨TX, eTX⟩ : ∃ l, l = listDb 0 ⟨ra0, rn0, rc0, ra1, rn1, rc1, ra2, rn2, rc2, ra3, rn3, rc3, ri, rl, rd, ro⟩ rd := ⟨_, rfl⟩
  have hcnt : TX.count 10 = prepN ⟨ra0, rn0, rc0, ra1, rn1, rc1, ra2, rn2, rc2, ra3, rn3, rc3, ri, rl, rd, ro⟩ rd := by rw [eTX]; exact list_ends (by omega) rd hnn
  have hsz := St.ok_sizes hok hIS
  have hdl : rn2 ≤ 24 := hsz.2.2
  have hrl : rd.length = rn2 := hIS.doubts.1
  have htl : TX.length ≤ 6000 := by
    have := listDb_len (k := 0) (s := ⟨ra0, rn0, rc0, ra1, rn1, rc1, ra2, rn2, rc2, ra3, rn3, rc3, ri, rl, rd, ro⟩) (by unfold i64; omega) rd (ok_i64 hok)
    rw [eTX]
    have h9 : rd.length ≤ 24 := by omega
    omega
  have hL1 : ∀ xs xn, showTxt LS1 0 [⟨ra0, rn0, rc0, ra1, rn1, rc1, ra2, rn2, rc2, ra3, rn3, rc3, ri, rl, rd, ro⟩] [⟨none, 0, 0, []⟩] ⟨1, 0, xs, xn, false⟩ = ⟨TX.toArray⟩ := fun xs xn => by rw [eTX]; exact list_one ⟨ra0, rn0, rc0, ra1, rn1, rc1, ra2, rn2, rc2, ra3, rn3, rc3, ri, rl, rd, ro⟩ xs xn
  have HPre : Hid (∀ i, i < rn2 → prepN ⟨ra0, rn0, rc0, ra1, rn1, rc1, ra2, rn2, rc2, ra3, rn3, rc3, ri, rl, rd, ro⟩ (rd.take (i + 1)) = prepN ⟨ra0, rn0, rc0, ra1, rn1, rc1, ra2, rn2, rc2, ra3, rn3, rc3, ri, rl, rd, ro⟩ (rd.take i) + (if prepB ⟨ra0, rn0, rc0, ra1, rn1, rc1, ra2, rn2, rc2, ra3, rn3, rc3, ri, rl, rd, ro⟩ (rd.getD i default).t then 1 else 0)) := fun i hi => prepN_at (by omega)
  have HN0 : Hid (prepN ⟨ra0, rn0, rc0, ra1, rn1, rc1, ra2, rn2, rc2, ra3, rn3, rc3, ri, rl, rd, ro⟩ (rd.take 0) = 0) := rfl
  have HNt : Hid (prepN ⟨ra0, rn0, rc0, ra1, rn1, rc1, ra2, rn2, rc2, ra3, rn3, rc3, ri, rl, rd, ro⟩ (rd.take rn2) = TX.count 10) := by show _ = _; rw [hcnt, List.take_of_length_le (by omega)]
  clear eTX hcnt hsz hG hO hnn hIS
  have c0 : X2.cell? ⟨w1.heap.size, 0, none⟩ = some (.int .i64 1) := oC2.cell 0
  have c1 : X2.cell? ⟨w1.heap.size, 1, none⟩ = some (.slice (some ⟨g0, 0, none⟩) 1 1) := oC2.cell 1
  have c2 : X2.cell? ⟨w1.heap.size, 2, none⟩ = some (.int .i64 3) := oC2.cell 2
  have zc := oC2.lt
  have s0 : X2.cell? ⟨w2.heap.size, 0, none⟩ = some (.slice ra0 rn0 rc0) := oS.cell 0
  have s1 : X2.cell? ⟨w2.heap.size, 1, none⟩ = some (.slice ra1 rn1 rc1) := oS.cell 1
  have s2 : X2.cell? ⟨w2.heap.size, 2, none⟩ = some (.slice ra2 rn2 rc2) := oS.cell 2
  have s3 : X2.cell? ⟨w2.heap.size, 3, none⟩ = some (.slice ra3 rn3 rc3) := oS.cell 3
  have zs := oS.lt
  have hSh := KS.out X2 (Below.refl _ _) 1 0 0 (by decide)
  rw [hL1, show kindErr 1 = 0 from rfl] at hSh
  clear oC oC2 oS hl
  go_upto_region 4 with (go_at_call 11; refine hSh.mono ?_; rintro e w3 ⟨rfl, hb3⟩)
  clear hSh c0 c1 c2 zc s0 s1 s2 s3 zs hL1
  have oS3 := (KV.out w3 hb3).2.1
  have s2 : w3.cell? ⟨w2.heap.size, 2, none⟩ = some (.slice ra2 rn2 rc2) := oS3.cell 2
  have zs := oS3.lt
  go_upto_region 6 with (fail)
  clear s2 zs oS3
  have hb30 : Below X2.heap.size X2 w3 := hb3
  go_loopw [32, 7, 9] (fun s32 s7 _ wr => ∃ (k : Nat), s32 = .int .i64 (k : Int) ∧ k ≤ rn2 ∧ s7 = .int .i64 (prepN ⟨ra0, rn0, rc0, ra1, rn1, rc1, ra2, rn2, rc2, ra3, rn3, rc3, ri, rl, rd, ro⟩ (rd.take k) : Int) ∧ Below X2.heap.size X2 wr ∧ Hid (prepN ⟨ra0, rn0, rc0, ra1, rn1, rc1, ra2, rn2, rc2, ra3, rn3, rc3, ri, rl, rd, ro⟩ (rd.take k) ≤ k)) (fun s32 _ _ _ => rn2 - (intOf s32).toNat)
  case atStart => exact ⟨0, rfl, by omega, rfl, hb30, by show _ ≤ _; exact Nat.le_refl 0⟩
  case round =>
    obtain ⟨k, rfl, hk, rfl, hbw, hIk⟩ := hrel
    clear hb30 hb3 HN0
    by_cases hlt : k < rn2
    · have hlt' : (k : Int) < (rn2 : Int) := by omega
      have HJ : Hid (k + 1 ≤ rn2) := hlt
      have hST := (KV.out wr hbw).2.2.2.1
      obtain ⟨b2, o2, rfl, zb2, hc⟩ := hST.doubts.2.2.2.2 (by show 0 < rn2; omega)
      have e0 := hc k hlt 0 (by decide)
      have e1 := hc k hlt 1 (by decide)
      have e2 := hc k hlt 2 (by decide)
      have HPk := HP.out (rd.getD k default) (by rw [List.getD, List.getElem?_eq_getElem (by omega)]; exact List.getElem_mem _)
      have HQ := HPre.out k hlt
      simp only [] at e0 e1 e2
      obtain ⟨d, ed⟩ : ∃ d, d = rd.getD k default := ⟨_, rfl⟩
      rw [← ed] at e0 e1 e2 HPk HQ
      clear ed hc hST
      obtain ⟨⟨t1, t2⟩, ag⟩ := d
      simp only [DbV.cells, List.getElem?_cons_zero, List.getElem?_cons_succ, Nat.add_zero] at e0 e1 e2 HPk HQ
      obtain ⟨HP1, HP2⟩ := HPk
      go_upto_region 8 with (fail)
      obtain ⟨Y, eY⟩ : ∃ X : World, X = wr.alloc (.cells #[.int .i64 t1, .int .i64 t2, .int .i64 ag] 60) := ⟨_, rfl⟩
      have oD : ObAt Y wr.heap.size #[.int .i64 t1, .int .i64 t2, .int .i64 ag] 60 := by rw [eY]; exact ObAt.new wr _ _
      have bY : Below wr.heap.size wr Y := by rw [eY]; exact (Below.refl _ _).alloc (Nat.le_refl _) _
      rw [← eY]
      clear eY e0 e1 e2
      have bYX := hbw.trans (bY.mono hbw.size)
      have KD : Hid (∀ U, Below Y.heap.size Y U → ObAt U wr.heap.size #[.int .i64 t1, .int .i64 t2, .int .i64 ag] 60) := fun U hU => oD.below hU
      obtain ⟨oCy, oSy, -, -, -⟩ := KV.out Y bYX
      have f0 : Y.cell? ⟨wr.heap.size, 0, none⟩ = some (.int .i64 t1) := oD.cell 0
      have f1 : Y.cell? ⟨wr.heap.size, 1, none⟩ = some (.int .i64 t2) := oD.cell 1
      have zf := oD.lt
      have s0 : Y.cell? ⟨w2.heap.size, 0, none⟩ = some (.slice ra0 rn0 rc0) := oSy.cell 0
      have s1 : Y.cell? ⟨w2.heap.size, 1, none⟩ = some (.slice ra1 rn1 rc1) := oSy.cell 1
      have s2 : Y.cell? ⟨w2.heap.size, 2, none⟩ = some (.slice (some ⟨b2, o2, none⟩) rn2 rc2) := oSy.cell 2
      have s3 : Y.cell? ⟨w2.heap.size, 3, none⟩ = some (.slice ra3 rn3 rc3) := oSy.cell 3
      have zs := oSy.lt
      have hWr := KW.out Y bYX t1 t2
      rw [HP1] at hWr
      obtain ⟨CN, eCN⟩ : ∃ x, x = St.cntIs ⟨ra0, rn0, rc0, ra1, rn1, rc1, some ⟨b2, o2, none⟩, rn2, rc2, ra3, rn3, rc3, ri, rl, rd, ro⟩ (t1, t2) := ⟨_, rfl⟩
      rw [← eCN] at hWr HP2
      obtain ⟨PB, ePB⟩ : ∃ x, x = prepB ⟨ra0, rn0, rc0, ra1, rn1, rc1, some ⟨b2, o2, none⟩, rn2, rc2, ra3, rn3, rc3, ri, rl, rd, ro⟩ (t1, t2) := ⟨_, rfl⟩
      rw [← ePB] at HP2 HQ
      clear eCN oD oCy oSy HP1
      go_upto_region 9 with (go_at_call 18; refine hWr.mono ?_; rintro e Z ⟨rfl, hbZ⟩)
      clear f0 f1 zf s0 s1 s2 s3 zs hWr
      have bZX := bYX.trans (hbZ.mono bYX.size)
      obtain ⟨oCz, oSz, -, -, -⟩ := KV.out Z bZX
      have oDz := KD.out Z hbZ
      have f0 : Z.cell? ⟨wr.heap.size, 0, none⟩ = some (.int .i64 t1) := oDz.cell 0
      have f1 : Z.cell? ⟨wr.heap.size, 1, none⟩ = some (.int .i64 t2) := oDz.cell 1
      have zf := oDz.lt
      have s0 : Z.cell? ⟨w2.heap.size, 0, none⟩ = some (.slice ra0 rn0 rc0) := oSz.cell 0
      have s1 : Z.cell? ⟨w2.heap.size, 1, none⟩ = some (.slice ra1 rn1 rc1) := oSz.cell 1
      have s2 : Z.cell? ⟨w2.heap.size, 2, none⟩ = some (.slice (some ⟨b2, o2, none⟩) rn2 rc2) := oSz.cell 2
      have s3 : Z.cell? ⟨w2.heap.size, 3, none⟩ = some (.slice ra3 rn3 rc3) := oSz.cell 3
      have zs := oSz.lt
      have c0 : Z.cell? ⟨w1.heap.size, 0, none⟩ = some (.int .i64 1) := oCz.cell 0
      have c1 : Z.cell? ⟨w1.heap.size, 1, none⟩ = some (.slice (some ⟨g0, 0, none⟩) 1 1) := oCz.cell 1
      have c2 : Z.cell? ⟨w1.heap.size, 2, none⟩ = some (.int .i64 3) := oCz.cell 2
      have zc := oCz.lt
      have hSh := KS.out Z bZX 2 t1 t2 (by decide)
      rw [stat_one, ← ePB, show kindErr 2 = 0 from rfl] at hSh
      clear oCz oSz oDz KD ePB
      have hwn : IntKind.i64.wrap ((prepN ⟨ra0, rn0, rc0, ra1, rn1, rc1, some ⟨b2, o2, none⟩, rn2, rc2, ra3, rn3, rc3, ri, rl, rd, ro⟩ (rd.take k) : Int) + 1) = ((prepN ⟨ra0, rn0, rc0, ra1, rn1, rc1, some ⟨b2, o2, none⟩, rn2, rc2, ra3, rn3, rc3, ri, rl, rd, ro⟩ (rd.take k) + 1 : Nat) : Int) := by have := hIk.out; simp [IntKind.wrap, IntKind.bits, IntKind.signed]; omega
      obtain ⟨PN, ePN⟩ : ∃ x, x = prepN ⟨ra0, rn0, rc0, ra1, rn1, rc1, some ⟨b2, o2, none⟩, rn2, rc2, ra3, rn3, rc3, ri, rl, rd, ro⟩ (rd.take k) := ⟨_, rfl⟩
      rw [← ePN] at hIk HQ hwn ⊢
      clear ePN
      cases PB with
      | true =>
        have hpos : (0 : Int) < CN := by simpa using HP2.symm
        simp only [if_true] at HQ hSh
        have HQ2 : Hid (prepN ⟨ra0, rn0, rc0, ra1, rn1, rc1, some ⟨b2, o2, none⟩, rn2, rc2, ra3, rn3, rc3, ri, rl, rd, ro⟩ (rd.take (k + 1)) = PN + 1) := HQ
        clear HP2 HQ
        go_wp2_with (go_at_call 11; refine hSh.mono ?_; rintro e Z2 ⟨rfl, hbZ2⟩)
        go_roundw
        case rel => exact ⟨k + 1, by go_num, HJ.out, by rw [HQ2.out]; simp, bZX.trans (hbZ2.mono bZX.size), by show _ ≤ _; rw [HQ2.out]; have := hIk.out; omega⟩
        case measure => have := HJ.out; simp [intOf]; omega
      | false =>
        have hpos : ¬ (0 : Int) < CN := by simpa using HP2.symm
        simp only [Bool.false_eq_true, if_false, Nat.add_zero] at HQ hSh
        have HQ2 : Hid (prepN ⟨ra0, rn0, rc0, ra1, rn1, rc1, some ⟨b2, o2, none⟩, rn2, rc2, ra3, rn3, rc3, ri, rl, rd, ro⟩ (rd.take (k + 1)) = PN) := HQ
        clear HP2 HQ hwn
        go_wp2_with (go_at_call 11; refine hSh.mono ?_; rintro e Z2 ⟨rfl, hbZ2⟩)
        go_roundw
        case rel => exact ⟨k + 1, by go_num, HJ.out, by rw [HQ2.out], bZX.trans (hbZ2.mono bZX.size), by show _ ≤ _; rw [HQ2.out]; have := hIk.out; omega⟩
        case measure => have := HJ.out; simp [intOf]; omega
    · obtain rfl : k = rn2 := by omega
      have hnl : ¬ ((k : Int) < (k : Int)) := by omega
      rw [HNt.out] at hIk ⊢
      clear HPre HP KW
      obtain ⟨wo, ewo⟩ : ∃ X : World, X = wr := ⟨_, rfl⟩
      subst ewo
      have HCT : Hid (∀ i, i < TX.length → (TX.take (i + 1)).count 10 = (TX.take i).count 10 + (if TX.getD i 0 = 10 then 1 else 0)) := fun i hi => count_at hi
      have HCe : Hid ((TX.take TX.length).count 10 = TX.count 10) := by show _ = _; rw [List.take_length]
      have HC0 : Hid ((TX.take 0).count 10 = 0) := rfl
      have HCl : Hid (∀ i, (TX.take i).count 10 ≤ TX.count 10) := fun i => List.Sublist.count_le _ (List.take_sublist i TX)
      have HBy : Hid (∀ i, i < TX.length → ∀ U : World, (Instr.index 9 (.string ⟨TX.toArray⟩) (.int .i64 (i : Int))).run Tryd.prog U = .ok (.int .u8 ((TX.getD i 0).toNat : Int)) U) := fun i hi U => byte_at hi U
      have hTs : (⟨TX.toArray⟩ : ByteArray).size = TX.length := by show TX.toArray.size = _; simp
      obtain ⟨TS, eTS⟩ : ∃ x : ByteArray, x = ⟨TX.toArray⟩ := ⟨_, rfl⟩
      rw [← eTS] at hTs HBy ⊢
      obtain ⟨CT, eCT⟩ : ∃ x, x = TX.count 10 := ⟨_, rfl⟩
      rw [← eCT] at hIk HCe HCl ⊢
      obtain ⟨TL, eTL⟩ : ∃ x, x = TX.length := ⟨_, rfl⟩
      rw [← eTL] at hTs htl HCT HCe HBy
      clear eTS eCT HNt
      have hct : CT ≤ 24 := by have := hIk.out; omega
      go_upto_region 18 with (fail)
      go_loopw [14, 7] (fun s14 s7 wr => ∃ (i : Nat), s14 = .int .i64 (i : Int) ∧ i ≤ TL ∧ s7 = .int .i64 ((CT - (TX.take i).count 10 : Nat) : Int) ∧ wr = wo) (fun s14 _ _ => TL - (intOf s14).toNat)
      case atStart => exact ⟨0, rfl, by omega, by rw [HC0.out]; rfl, rfl⟩
      case round =>
        obtain ⟨i, rfl, hi, rfl, rfl⟩ := hrel
        by_cases hlt2 : i < TL
        · have hlt3 : (i : Int) < (TL : Int) := by omega
          have HJ : Hid (i + 1 ≤ TL) := hlt2
          have hB := HBy.out i hlt2 wr
          have HQ := HCT.out i hlt2
          have hle := HCl.out (i + 1)
          obtain ⟨c, ec⟩ : ∃ c, c = TX.getD i 0 := ⟨_, rfl⟩
          rw [← ec] at hB HQ
          clear ec
          obtain ⟨A, eA⟩ : ∃ x, x = (TX.take i).count 10 := ⟨_, rfl⟩
          rw [← eA] at HQ ⊢
          clear eA
          by_cases h10 : c = 10
          · subst h10
            rw [if_pos rfl] at HQ
            have hwn : IntKind.i64.wrap (((CT - A : Nat) : Int) - 1) = ((CT - (A + 1) : Nat) : Int) := by rw [HQ] at hle; simp [IntKind.wrap, IntKind.bits, IntKind.signed]; omega
            have HQ2 : Hid ((TX.take (i + 1)).count 10 = A + 1) := HQ
            clear HQ hle
            have e10 : (((10 : UInt8).toNat : Nat) : Int) = 10 := rfl
            rw [e10] at hB
            go_wp2
            go_roundw
            case rel => exact ⟨i + 1, by go_num, HJ.out, by rw [HQ2.out], trivial⟩
            case measure => have := HJ.out; simp [intOf]; omega
          · rw [if_neg h10] at HQ
            have hne : (((c.toNat : Nat) : Int) == 10) = false := by
              have : c.toNat ≠ 10 := fun e => h10 (UInt8.toNat_inj.1 (by rw [e]; rfl))
              simp; omega
            have HQ2 : Hid ((TX.take (i + 1)).count 10 = A) := HQ
            clear HQ hle h10
            go_wp2
            go_roundw
            case rel => exact ⟨i + 1, by go_num, HJ.out, by rw [HQ2.out], trivial⟩
            case measure => have := HJ.out; simp [intOf]; omega
        · obtain rfl : i = TL := by omega
          have hnl2 : ¬ ((i : Int) < (i : Int)) := by omega
          rw [HCe.out, Nat.sub_self]
          obtain ⟨oCz, oSz, -, -, -⟩ := KV.out wr hbw
          have s0 : wr.cell? ⟨w2.heap.size, 0, none⟩ = some (.slice ra0 rn0 rc0) := oSz.cell 0
          have s1 : wr.cell? ⟨w2.heap.size, 1, none⟩ = some (.slice ra1 rn1 rc1) := oSz.cell 1
          have s2 : wr.cell? ⟨w2.heap.size, 2, none⟩ = some (.slice ra2 k rc2) := oSz.cell 2
          have s3 : wr.cell? ⟨w2.heap.size, 3, none⟩ = some (.slice ra3 rn3 rc3) := oSz.cell 3
          have zs := oSz.lt
          have c0 : wr.cell? ⟨w1.heap.size, 0, none⟩ = some (.int .i64 1) := oCz.cell 0
          have c1 : wr.cell? ⟨w1.heap.size, 1, none⟩ = some (.slice (some ⟨g0, 0, none⟩) 1 1) := oCz.cell 1
          have c2 : wr.cell? ⟨w1.heap.size, 2, none⟩ = some (.int .i64 3) := oCz.cell 2
          have zc := oCz.lt
          have hSh := KS.out wr hbw 3 0 0 (by decide)
          rw [show kindErr 3 = 3 from rfl] at hSh
          obtain ⟨T3, eT3⟩ : ∃ x, x = showTxt LS1 0 [⟨ra0, rn0, rc0, ra1, rn1, rc1, ra2, k, rc2, ra3, rn3, rc3, ri, rl, rd, ro⟩] [⟨none, 0, 0, []⟩] ⟨3, 0, 0, 0, false⟩ := ⟨_, rfl⟩
          rw [← eT3] at hSh
          have hwF := (KV.out wr hbw).2.2.2.2
          clear eT3 oCz oSz HCT HCe HC0 HCl HBy KV KS
          go_wp2_with (go_at_call 11; refine hSh.mono ?_; rintro e Z2 ⟨rfl, hbZ2⟩)
          go_ret
          exact ⟨rfl, hwF.trans (hbZ2.mono hwF.size)⟩
end Go.Proofs.YtgohpgollpjlnaaDoor.Cn
