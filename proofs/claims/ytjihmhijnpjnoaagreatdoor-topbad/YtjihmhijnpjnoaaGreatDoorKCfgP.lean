/- A config made of raw numbers, whatever its patience. -/
import Derived.Test.YtjihmhijnpjnoaaGreatDoorConfig
namespace Go.Proofs.YtjihmhijnpjnoaaGreatDoor
open Go.ChangeShapes Go.WideShapes Go.ChangeAt Go.RowKit
set_option linter.unusedVariables false

namespace Kp
/-- A config that may be, and where its labels lie. -/
structure GoodC (w : World) (S P : Int) (g n cp : Nat) (L : List (Int × Int)) : Prop where
  labs : IsLabs w (some ⟨g, 0, none⟩) n cp L
  ok : cfgFault S L P = 0
  s1 : 1 ≤ S
  s3 : S ≤ 3
  n1 : 1 ≤ n
  n4 : n ≤ 4
  nl : Hid (n = L.length)

theorem GoodC.below {w w' : World} {S P : Int} {g n cp : Nat} {L : List (Int × Int)} (h : GoodC w S P g n cp L) (hb : Below w.heap.size w w') : GoodC w' S P g n cp L :=
  ⟨h.labs.below hb, h.ok, h.s1, h.s3, h.n1, h.n4, h.nl⟩

theorem cfg_goodP (s p : Int) (a : Option Addr) (len cap : Nat) (zs : List Int) (w : World) (hs : -9223372036854775808 ≤ s ∧ s ≤ 9223372036854775807) (hp : -9223372036854775808 ≤ p ∧ p ≤ 9223372036854775807) (h : IsInts w a len cap zs) :
    Calls Tryz.prog 4 #[.int .i64 s, .slice a len cap, .int .i64 p] w fun e w' => ∃ (S P : Int) (g n cp : Nat) (L : List (Int × Int)), e = .returned (.agg #[.int .i64 S, .slice (some ⟨g, 0, none⟩) n cp, .int .i64 P]) ∧ GoodC w' S P g n cp L ∧ Below w.heap.size w w' := by
  refine (config_any s p a len cap zs w hs hp h).mono ?_
  rintro e w' ⟨g, cp, rfl, h1, h2, h3, h4, hb⟩
  have bs := cfgS_bd s
  have bp := cfgP_bd p
  obtain ⟨hgood, hn1⟩ := good_labs zs
  refine ⟨cfgS s, cfgP p, g, (cfgLabs zs).length, cp, cfgLabs zs, rfl, ⟨⟨rfl, h2, h3, fun _ => ⟨g, 0, rfl, h4⟩⟩, cfgFault_good hgood hn1 (by omega) (by omega), bs.1, bs.2, hn1, hgood.len, rfl⟩, hb⟩
end Kp
end Go.Proofs.YtjihmhijnpjnoaaGreatDoor
