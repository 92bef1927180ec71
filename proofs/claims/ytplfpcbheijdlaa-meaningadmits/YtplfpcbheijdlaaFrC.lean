/-
  The contract of frames.trimmed: nothing stands behind the entries. Conditions: a frame's shape can be.
-/
import Derived.Test.YtplfpcbheijdlaaFrB
namespace Go.Proofs.Ytplfpcbheijdlaa
open Go.RowKit

def zeroFrom (l : List Nat) (n : Nat) : Nat → List Nat
  | 0 => l
  | m + 1 => zeroFrom (l.set n 0) (n + 1) m
theorem zeroFrom_eq : ∀ (m n : Nat) (l : List Nat), n + m ≤ l.length → zeroFrom l n m = l.take n ++ List.replicate m 0 ++ l.drop (n + m)
  | 0, n, l, h => by simp [zeroFrom]
  | m + 1, n, l, h => by
    unfold zeroFrom
    rw [zeroFrom_eq m (n + 1) (l.set n 0) (by simp; omega)]
    apply List.ext_getElem?
    intro i
    simp only [List.append_assoc, List.getElem?_append, List.length_take, List.length_set, List.length_replicate, List.getElem?_take, List.getElem?_drop, List.getElem?_replicate, List.getElem?_set]
    have h1 : min (n + 1) l.length = n + 1 := by omega
    have h2 : min n l.length = n := by omega
    rw [h1, h2]
    by_cases c1 : i < n
    · rw [if_pos (by omega), if_pos (by omega), if_neg (by omega), if_pos (by omega), if_pos (by omega)]
    · by_cases c2 : i = n
      · subst c2
        rw [if_pos (by omega), if_pos (by omega), if_pos rfl, if_pos (by omega), if_neg (by omega), if_pos (by omega), if_pos (by omega)]
      · rw [if_neg (show ¬ i < n + 1 by omega)]
        by_cases c3 : i - (n + 1) < m
        · rw [if_pos c3, if_pos c3, if_neg (show ¬ i < n by omega), if_pos (show i - n < m + 1 by omega), if_pos (show i - n < m + 1 by omega)]
        · rw [if_neg c3, if_neg (show ¬ n = n + 1 + m + (i - (n + 1) - m) by omega), if_neg (show ¬ i < n by omega), if_neg (show ¬ i - n < m + 1 by omega)]
          congr 1
          omega
theorem zeroFrom_trim {l : List Nat} {n : Nat} (h : l.length = 24) (hn : n ≤ 24) : zeroFrom l n (24 - n) = trimL n l := by
  rw [zeroFrom_eq _ _ _ (by omega), List.drop_of_length_le (by omega), List.append_nil]
  rfl
theorem below_cells {B g : Nat} (hg : B ≤ g) : ∀ (vs : List Value) (o : Nat) {a W : World}, Below B a W → Below B a (W.setCells g o vs)
  | [], _, _, _, h => h
  | v :: vs, o, _, _, h => below_cells hg vs (o + 1) (h.setCell (p := ⟨g, o, none⟩) hg v)

theorem sizeEq {f g : Fr} (hf : FrOk f) (hg : FrOk g) : (frA f).size = (frA g).size := by rw [frA_size hf, frA_size hg]

theorem zeroTy : ∀ w, (zeroValue 23).run Try.prog w = .ok (.int .u8 0) w := (zero_of_info (n := 1) (by kernel_rfl)).1

/-- Where the slots from n on lie. -/
def fromA (g n : Nat) : Addr := if n = 24 then ⟨g, 2, none⟩ else ⟨g, 2 + n, none⟩
end Go.Proofs.Ytplfpcbheijdlaa
