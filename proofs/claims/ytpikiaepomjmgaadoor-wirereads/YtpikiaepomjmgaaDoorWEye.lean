/- The document's reader in memory, held against the program's reader on plain data: stop, num, yes, first. -/
import Derived.Test.YtpikiaepomjmgaaDoorWRead
import Derived.Test.YtpikiaepomjmgaaDoorFault
namespace Go.Proofs.YtpikiaepomjmgaaDoor
open Go.ChangeShapes Go.WideShapes Go.ChangeAt Go.RowKit
set_option linter.unusedVariables false

theorem IsB.grown0 {w w' : World} {a : Option Addr} {len cap : Nat} {bs : List Int} {row : Option Nat} (h : IsB w a len cap bs) (hg : w.grownBy w' row) (hne : ∀ b off, 0 < len → a = some ⟨b, off, none⟩ → some b ≠ row) : IsB w' a len cap bs := by
  obtain ⟨h1, h2, h3, hbd, hn, h4⟩ := h
  refine ⟨h1, h2, h3, hbd, hn, fun hp => ?_⟩
  obtain ⟨b, off, e, hlt, hl⟩ := h4 hp
  refine ⟨b, off, e, Nat.lt_of_lt_of_le hlt hg.size, fun i hi => ?_⟩
  rw [World.cell?_of_block (a := ⟨b, off + i, none⟩) (hg.block b hlt (hne b off hp e))]
  exact hl i hi
theorem IsB.set0 {w : World} {a : Option Addr} {len cap : Nat} {bs : List Int} (h : IsB w a len cap bs) (p : Addr) (v : Value) (hne : ∀ b off, 0 < len → a = some ⟨b, off, none⟩ → b ≠ p.block) : IsB (w.setCell p v) a len cap bs := by
  obtain ⟨h1, h2, h3, hbd, hn, h4⟩ := h
  refine ⟨h1, h2, h3, hbd, hn, fun hp => ?_⟩
  obtain ⟨b, off, e, hlt, hl⟩ := h4 hp
  refine ⟨b, off, e, by simpa using hlt, fun i hi => ?_⟩
  rw [World.cell?_of_block (a := ⟨b, off + i, none⟩) (Below.heap_setCell w p v b (hne b off hp e))]
  exact hl i hi
/-- The document's reader lies at R; its error is the reader's, and as long as there is none, what it has not read yet is the reader's rest. -/
structure EyeAt (w : World) (R L : Nat) (bs : List Int) (a : Option Addr) (len cap pos : Nat) (st : RS) : Prop where
  c0 : w.cell? ⟨R, 0, none⟩ = some (.slice a len cap)
  c1 : w.cell? ⟨R, 1, none⟩ = some (.int .i64 (pos : Int))
  c2 : w.cell? ⟨R, 2, none⟩ = some (.int .i64 st.wrong)
  f1 : w.frozen? ⟨R, 1, none⟩ = false
  f2 : w.frozen? ⟨R, 2, none⟩ = false
  isb : IsB w a len cap bs
  hat : pos ≤ len
  rel : st.wrong = 0 → st.rest = bs.drop pos
  far : ∀ b off, 0 < len → a = some ⟨b, off, none⟩ → b < L
  hL : L ≤ R
  e0 : 0 ≤ st.wrong ∧ st.wrong ≤ 100
  big : len ≤ 140737488355328
def EyeTo (w : World) (R L : Nat) (bs : List Int) (st : RS) : Prop := ∃ a len cap pos, EyeAt w R L bs a len cap pos st
theorem EyeAt.lt {w : World} {R L : Nat} {bs : List Int} {a : Option Addr} {len cap pos : Nat} {st : RS} (h : EyeAt w R L bs a len cap pos st) : R < w.heap.size := World.block_lt_of_cell? w _ h.c0
theorem EyeTo.lt {w : World} {R L : Nat} {bs : List Int} {st : RS} (h : EyeTo w R L bs st) : R < w.heap.size := by obtain ⟨a, len, cap, pos, h⟩ := h; exact h.lt
theorem EyeTo.grown {w w' : World} {R L : Nat} {bs : List Int} {st : RS} {row : Option Nat} (h : EyeTo w R L bs st) (hg : w.grownBy w' row) (hr : ∀ k, row = some k → L ≤ k ∧ k ≠ R) : EyeTo w' R L bs st := by
  obtain ⟨a, len, cap, pos, h⟩ := h
  have hb := hg.block R h.lt (fun e => (hr R e.symm).2 rfl)
  refine ⟨a, len, cap, pos, ?_, ?_, ?_, ?_, ?_, h.isb.grown0 hg (fun b off hl e e' => ?_), h.hat, h.rel, h.far, h.hL, h.e0, h.big⟩
  · rw [World.cell?_of_block (a := ⟨R, 0, none⟩) hb]; exact h.c0
  · rw [World.cell?_of_block (a := ⟨R, 1, none⟩) hb]; exact h.c1
  · rw [World.cell?_of_block (a := ⟨R, 2, none⟩) hb]; exact h.c2
  · rw [World.frozen?_of_block (a := ⟨R, 1, none⟩) hb]; exact h.f1
  · rw [World.frozen?_of_block (a := ⟨R, 2, none⟩) hb]; exact h.f2
  · have := h.far b off hl e
    have := (hr b e'.symm).1
    omega
theorem EyeTo.below {w w' : World} {R L : Nat} {bs : List Int} {st : RS} (h : EyeTo w R L bs st) (hb : Below w.heap.size w w') : EyeTo w' R L bs st := by
  obtain ⟨a, len, cap, pos, h⟩ := h
  have hlt := h.lt
  exact ⟨a, len, cap, pos, (hb.cell (p := ⟨R, 0, none⟩) hlt).trans h.c0, (hb.cell (p := ⟨R, 1, none⟩) hlt).trans h.c1, (hb.cell (p := ⟨R, 2, none⟩) hlt).trans h.c2, (hb.frozen (p := ⟨R, 1, none⟩) hlt).trans h.f1, (hb.frozen (p := ⟨R, 2, none⟩) hlt).trans h.f2, h.isb.below hb, h.hat, h.rel, h.far, h.hL, h.e0, h.big⟩

theorem stop_any (R L : Nat) (bs : List Int) (st : RS) (e : Int) (w : World) (h : EyeTo w R L bs st) (he : 0 < e ∧ e ≤ 100) :
    Calls Tryd.prog 50 #[.pointer (some ⟨R, 0, none⟩), .int .i64 e] w fun r w' => r = .returned (.tuple #[]) ∧ EyeTo w' R L bs (st.refuse e) ∧ w.grownBy w' (some R) := by
  obtain ⟨a, len, cap, pos, c0, c1, c2, f1, f2, hI, hat, hrl, hfar, hLR, he0, hbig⟩ := h
  have hfar' : ∀ b off, 0 < len → a = some ⟨b, off, none⟩ → b ≠ R := fun b off hl e => by have := hfar b off hl e; omega
  by_cases hw : st.wrong = 0
  · have es : st.refuse e = ⟨st.rest, e⟩ := by simp [RS.refuse, hw]
    rw [es]
    rw [hw] at c2
    clear es
    go_enter Tryd.func50, Tryd.ntmps50
    go_wp2
    refine bodyPost_end (v := .tuple #[]) (by simp [results, Tryd.results50, go_sem]) rfl ⟨rfl, ⟨a, len, cap, pos, by go_simp, by go_simp, by go_simp, by go_simp, by go_simp, hI.set0 _ _ hfar', hat, fun h0 => absurd h0 (by simp only []; omega), hfar, hLR, by simp only []; omega, hbig⟩, grown_set (grownR_refl _ _)⟩
  · have es : st.refuse e = st := by simp [RS.refuse, hw]
    rw [es]
    clear es
    go_enter Tryd.func50, Tryd.ntmps50
    go_wp2
    exact bodyPost_end (v := .tuple #[]) (by simp [results, Tryd.results50, go_sem]) rfl ⟨rfl, ⟨a, len, cap, pos, c0, c1, c2, f1, f2, hI, hat, hrl, hfar, hLR, he0, hbig⟩, grownR_refl _ _⟩
theorem num_stays {st : RS} {k : Nat} (h : st.wrong ≠ 0) : st.num k = (0, st) := by
  have hs : st.short k = st := by
    unfold RS.short RS.refuse
    split <;> simp
  unfold RS.num
  rw [hs, if_neg h]
end Go.Proofs.YtpikiaepomjmgaaDoor
