/- The walk of the law HomeOne: at any raw numbers it returns true and leaves what was in memory. -/
import Derived.Test.YtppnhcnkcbhbiaaConfig
import Derived.Test.YtppnhcnkcbhbiaaHome
namespace Go.Proofs.Ytppnhcnkcbhbiaa
open Go.ChangeShapes Go.WideShapes Go.ChangeAt Go.RowKit
set_option linter.unusedVariables false

theorem isLabs_of {w : World} {g cp : Nat} {ls : List (Int × Int)} (h : Labs w g 0 ls) (h1 : ls.length ≤ cp) (h2 : cp ≤ maxLen) : IsLabs w (some ⟨g, 0, none⟩) ls.length cp ls :=
  ⟨rfl, h1, h2, fun _ => ⟨g, 0, rfl, h⟩⟩

theorem homeOne_walk (s : Int) (a : Option Addr) (len cap : Nat) (zs : List Int) (p k : Int) (w : World) (hs : (Lit.int .i64 s).wf = true) (h : IsInts w a len cap zs) (hp : (Lit.int .i64 p).wf = true) (hk : (Lit.int .i64 k).wf = true) :
    Calls Try.prog 4 #[.int .i64 s, .slice a len cap, .int .i64 p, .int .i64 k] w fun e w' => e = .returned (.bool true) ∧ Below w.heap.size w w' := by
  have hs' := i64_bd hs
  have hp' := i64_bd hp
  have hk' := i64_bd hk
  have hN := pk_bd k 8 (by decide)
  have bs := cfgS_bd s
  have bp := cfgP_bd p
  have hg := good_labs zs
  have hF : cfgFault (cfgS s) (cfgLabs zs) (cfgP p) = 0 := cfgFault_good hg.1 hg.2 (by omega) (by omega)
  obtain ⟨N, eN⟩ : ∃ N, N = pk k 8 := ⟨_, rfl⟩
  obtain ⟨S, eS⟩ : ∃ S, S = cfgS s := ⟨_, rfl⟩
  obtain ⟨P, eP⟩ : ∃ P, P = cfgP p := ⟨_, rfl⟩
  rw [← eN] at hN
  rw [← eS] at bs
  rw [← eS, ← eP] at hF
  have o1 := home_ok (key := N) hF hN.1 (by omega)
  have o2 := home_key (key := 8 + N) hF (by omega)
  obtain ⟨R, eR⟩ : ∃ R, R = N % S := ⟨_, rfl⟩
  have hdiv : N - R = S * (N / S) := by rw [eR]; have := Int.emod_add_mul_ediv N S; omega
  have hq : 0 ≤ S * (N / S) := Int.mul_nonneg (by omega) (Int.ediv_nonneg hN.1 (by omega))
  have r0 : 0 ≤ R := by rw [eR]; exact Int.emod_nonneg _ (by omega)
  have r1 : R < S := by rw [eR]; exact Int.emod_lt_of_pos _ (by omega)
  have r2 : R ≤ N := by omega
  have r3 : (N - R) % S = 0 := by rw [hdiv]; exact Int.mul_emod_right _ _
  rw [← eR] at o1
  clear hdiv hq eR hF bp hk
  obtain ⟨o3, o4⟩ := o1
  obtain ⟨o5, o6⟩ := o2
  obtain ⟨n0, n8⟩ := hN
  obtain ⟨s1, s3⟩ := bs
  have t1 : True := trivial
  have hCfg := fun w' h' => config_any s p a len cap zs w' hs' hp' h'
  rw [← eS, ← eP] at hCfg
  have hPk := fun w' => picked_any k 8 w' hk' (by decide) (by decide)
  rw [← eN] at hPk
  clear eN eS eP
  go_enter Try.func4, Try.ntmps4
  go_wp2_with (first
    | (go_at_call 8; refine (hCfg _ h).mono ?_; rintro e w1 ⟨g, cp, rfl, hg1, hg2, hg3, hg4, hb1⟩; have hL1 := isLabs_of hg4 hg2 hg3)
    | (go_at_call 10; refine (hPk _).mono ?_; rintro e w2 ⟨rfl, rfl⟩)
    | (go_at_call 11; have _t := t1; refine (home_any _ _ _ _ _ (cfgLabs zs) _ _ (hL1.below ((Below.refl _ _).alloc (Nat.le_refl _) _))).mono ?_; rintro e w3 ⟨rfl, hb3⟩; clear t1
       have hL3 := (hL1.below ((Below.refl _ _).alloc (Nat.le_refl _) _)).below hb3
       have hB := (hb1.alloc hb1.size _).trans (hb3.mono (by have := hb1.size; simp; omega))
       have z3 : w1.heap.size < w3.heap.size := by have := hb3.size; simp at this; omega
       obtain ⟨hc3, hf3⟩ := bcell hb3)
    | (go_at_call 11; refine (home_any _ _ _ _ _ (cfgLabs zs) _ _ hL3).mono ?_; rintro e w4 ⟨rfl, hb4⟩
       have hB := hB.trans (hb4.mono hB.size)
       have z4 : w1.heap.size < w4.heap.size := by have := hb4.size; omega
       obtain ⟨hc4, hf4⟩ := bcell hb4))
  go_ret
  exact ⟨rfl, hB⟩
end Go.Proofs.Ytppnhcnkcbhbiaa
