/- Messages made of raw numbers, for a config made of raw numbers. -/
import Derived.Test.YtdjnaahkcnklhabDoorA39CommitAsks
import Derived.Test.YtdjnaahkcnklhabDoorA41CommitAsks
namespace Go.Proofs.YtdjnaahkcnklhabDoor
open Go.ChangeShapes Go.WideShapes Go.ChangeAt Go.RowKit
set_option linter.unusedVariables false

theorem msg_good (S P : Int) (g n cp : Nat) (L : List (Int × Int)) (kd ra rb rc rd re : Int) (w : World) (hC : GoodC w S P g n cp L)
    (hkd : Bd kd) (hra : Bd ra) (hrb : Bd rb) (hrc : Bd rc) (hrd : Bd rd) (hre : Bd re) :
    Calls Tryd.prog 34 #[.agg #[.int .i64 S, .slice (some ⟨g, 0, none⟩) n cp, .int .i64 P], .agg #[.int .i64 kd, .int .i64 ra, .int .i64 rb, .int .i64 rc, .int .i64 rd, .int .i64 re]] w fun e w' => ∃ m : MV, e = .returned m.val ∧ msgFault S L P m = 0 ∧ Below w.heap.size w w' := by
  obtain ⟨hl, hok, s1, s3, n1, n4, nl⟩ := hC
  refine (message_any S P _ n cp kd ra rb rc rd re w ⟨s1, by omega⟩ ⟨n1, by omega⟩ hkd hra hrb hrc hrd hre).mono ?_
  rintro e w' ⟨m, rfl, ⟨m1, m2, m3⟩, hb⟩
  exact ⟨m, rfl, mf_ok hok m1 (by rw [← nl.out]; exact m2) m3, hb⟩
end Go.Proofs.YtdjnaahkcnklhabDoor
