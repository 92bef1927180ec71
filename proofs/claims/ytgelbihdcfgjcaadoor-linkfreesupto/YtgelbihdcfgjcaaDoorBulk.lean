/-
  What the second form's bound gives of slices. No Go in it.
-/
import Derived.Test.YtgelbihdcfgjcaaDoorRows
namespace Go.Proofs.YtgelbihdcfgjcaaDoor
set_option maxRecDepth 20000

theorem bulk_pos {H : Type} (d : DataW H) : 1 ≤ Rows.uptoBulk d := by
  cases d with
  | lit l => cases l <;> simp [Rows.uptoBulk]
  | _ => simp [Rows.uptoBulk]
theorem bulk_count {H : Type} : ∀ l : List (DataW H), l.length ≤ Rows.uptoBulkAll l
  | [] => Nat.zero_le _
  | x :: r => by
    have h1 := bulk_pos x
    have h2 := bulk_count r
    rw [Rows.uptoBulkAll, List.length_cons]
    omega
theorem bulk_row {H : Type} (es sp : List (DataW H)) : es.length + 1 ≤ Rows.uptoBulk (.slice es sp) := by
  have h := bulk_count es
  rw [Rows.uptoBulk]
  omega
end Go.Proofs.YtgelbihdcfgjcaaDoor
