/-
  What an instruction does in an environment is what it does in a copy of it: plain.
-/
import Derived.Test.YtkodmpcnndbngaaGreatDoorKSt19
namespace Go.Proofs.YtkodmpcnndbngaaGreatDoor
open Go.RowKit
set_option maxRecDepth 20000

theorem SameT.allO {T G : List Cl} (h : SameT T G) : ∀ (l m : List Nat), Go.Proofs.YtkodmpcnndbngaaGreatDoor.allO G l m = Go.Proofs.YtkodmpcnndbngaaGreatDoor.allO T l m := by
  intro l m
  unfold Go.Proofs.YtkodmpcnndbngaaGreatDoor.allO
  congr 1
  funext x
  exact h.sub _ _
theorem SameSp.tkD {s t : Sp} (h : SameSp s t) : Go.Proofs.YtkodmpcnndbngaaGreatDoor.tkD t = Go.Proofs.YtkodmpcnndbngaaGreatDoor.tkD s := by
  unfold Go.Proofs.YtkodmpcnndbngaaGreatDoor.tkD
  rw [h.op, h.tk]
theorem SameSp.miss {s t : Sp} (h : SameSp s t) : missD t = missD s := by
  unfold missD unkD
  rw [h.op, h.f, h.a, h.unk]
theorem SameSp.frS {s t : Sp} (h : SameSp s t) : Go.Proofs.YtkodmpcnndbngaaGreatDoor.frS t = Go.Proofs.YtkodmpcnndbngaaGreatDoor.frS s := by
  unfold Go.Proofs.YtkodmpcnndbngaaGreatDoor.frS
  rw [h.tkD, h.op, h.f, h.a]
theorem SameSp.applyS {s t : Sp} (h : SameSp s t) : Go.Proofs.YtkodmpcnndbngaaGreatDoor.applyS t = Go.Proofs.YtkodmpcnndbngaaGreatDoor.applyS s := by
  unfold Go.Proofs.YtkodmpcnndbngaaGreatDoor.applyS alD gvD
  rw [h.miss, h.tkD, h.f, h.tab.allO, h.op, h.al, h.frS, h.gv]
theorem SameSp.applyD {s t : Sp} (h : SameSp s t) : Go.Proofs.YtkodmpcnndbngaaGreatDoor.applyD t = Go.Proofs.YtkodmpcnndbngaaGreatDoor.applyD s := by
  unfold Go.Proofs.YtkodmpcnndbngaaGreatDoor.applyD begE
  rw [canD_same h.tab h.sgs, h.fn, h.tab.1, h.f, h.applyS]
end Go.Proofs.YtkodmpcnndbngaaGreatDoor
