/-
  Contracts of provisoref02's word, isWord, Valid, Stored and has: each answers what the plain function says, in the same world. Conditions: a type is a byte; the fields fit.
-/
import Derived.Test.YtplfpcbheijdlaaCls
namespace Go.Proofs.Ytplfpcbheijdlaa
open Go.RowKit

def wordD : Nat → ByteArray
  | 0 => ⟨#[116, 111, 112]⟩
  | 1 => ⟨#[105, 110, 116]⟩
  | 2 => ⟨#[98, 111, 111, 108]⟩
  | 3 => ⟨#[110, 117, 108, 108]⟩
  | 4 => ⟨#[105, 110, 116, 115]⟩
  | 5 => ⟨#[97, 110, 121]⟩
  | _ => ⟨#[]⟩
def isWordD (s : ByteArray) : Bool := (List.range 6).any fun t => (wordD t).toList == s.toList

theorem validD_lo {n t : Nat} (h : t ≤ 5) : validD n t = true := decide_eq_true (Or.inl h)
theorem validD_hi {n t : Nat} (h1 : 16 ≤ t) (h2 : t - 16 < n) : validD n t = true := decide_eq_true (Or.inr ⟨h1, h2⟩)
theorem validD_no {n t : Nat} (h1 : ¬ t ≤ 5) (h2 : ¬ (16 ≤ t ∧ t - 16 < n)) : validD n t = false := decide_eq_false (fun h => by omega)

theorem hasD_snoc {fs : List Fl} {k : Nat} (s : ByteArray) (h : k < fs.length) : hasD (fs.take (k + 1)) s = (hasD (fs.take k) s || (fs[k].nm.toList == s.toList)) := by
  unfold hasD
  rw [← List.take_append_getElem h, List.any_append]
  simp
theorem hasD_found {fs : List Fl} {k : Nat} {s : ByteArray} (h : k < fs.length) (hb : (fs[k].nm.toList == s.toList) = true) : hasD fs s = true := by
  unfold hasD
  rw [List.any_eq_true]
  exact ⟨_, List.getElem_mem h, hb⟩

end Go.Proofs.Ytplfpcbheijdlaa
