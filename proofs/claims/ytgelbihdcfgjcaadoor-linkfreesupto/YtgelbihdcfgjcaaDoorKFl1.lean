/-
  The set of the places where jumps lead, and of those behind ends: the contracts of flow.targets, of the map's list in order, and of the plain lists that the reference makes. Conditions: the instructions lie there, their operands are numbers of the machine.
-/
import Derived.Test.YtgelbihdcfgjcaaDoorKNr
import Derived.Test.YtgelbihdcfgjcaaDoorJIN
import Derived.Maps.OwnSet
import Derived.Maps.RangeWalk
import Derived.Maps.AppendAt
namespace Go.Proofs.YtgelbihdcfgjcaaDoor
open Go.RowKit Go.Maps
set_option maxRecDepth 20000

theorem rows_grownJ {w w' : World} {base : Nat} {v : Value} {l : List Int} {row : Option Nat} (h : OwnJ w base v l) (hg : w.grownBy w' row) (hne : ∀ g, v.ownBlock = some g → row ≠ some g) : OwnJ w' base v l :=
  World.ownsRow.kept h hg (by
    cases hv : v.ownBlock with
    | none => exact .inl rfl
    | some g => exact .inr (fun e => hne g hv e.symm))
theorem lawK : Keyed Tryd.prog 3 := int_keyed Tryd.underlying3
/-- A set of numbers. -/
def SetAt (W : World) (b n : Nat) (ks : List Int) : Prop := W.ownsMap Tryd.prog 3 (unitElem (H := Unit)) b n (setOf (.agg []) (ks.map (Lit.int .i64)))
theorem wf_of {x : Int} (h : -9223372036854775808 ≤ x ∧ x ≤ 9223372036854775807) : (Lit.int .i64 x).wf = true := WalkArith.wf_i64 (by omega)
/-- Where jumps lead, in the list's order. -/
def tgs (l : List Ix) : List Int := (l.filter fun x => jmpD x.op).map fun x => x.a
theorem tgs_snoc (l : List Ix) (x : Ix) : tgs (l ++ [x]) = if jmpD x.op then tgs l ++ [x.a] else tgs l := by
  unfold tgs
  rw [List.filter_append]
  by_cases h : jmpD x.op
  · simp [h]
  · simp [h]
theorem tgs_len (l : List Ix) : (tgs l).length ≤ l.length := by unfold tgs; rw [List.length_map]; exact List.length_filter_le _ _
theorem take_snoc {α : Type} {l : List α} {k : Nat} {x : α} (h : l[k]? = some x) : l.take (k + 1) = l.take k ++ [x] := by
  rw [List.take_add_one, h]
  rfl
theorem set_snoc (ks : List Int) (x : Int) : setOf (H := Unit) (.agg []) ((ks ++ [x]).map (Lit.int .i64)) = (setOf (.agg []) (ks.map (Lit.int .i64))).put (.int .i64 x) (.agg []) := by
  rw [List.map_append]
  exact setOf_snoc _ _ _

theorem has_set {ks : List Int} (x : Int) : Maps.has (setOf (H := Unit) (.agg []) (ks.map (Lit.int .i64))) (Lit.int .i64 x) = true ↔ x ∈ ks := by
  rw [has_setOf _ _ _ (fun y hy => by obtain ⟨z, _, rfl⟩ := List.mem_map.1 hy; trivial), List.any_eq_true]
  constructor
  · rintro ⟨y, hy, he⟩
    obtain ⟨z, hz, rfl⟩ := List.mem_map.1 hy
    have : z = x := by simpa [Lit.sameKey] using he
    exact this ▸ hz
  · intro h
    exact ⟨.int .i64 x, List.mem_map.2 ⟨x, h, rfl⟩, by simp [Lit.sameKey]⟩

theorem srt_asc {l : List Int} (h : l.Nodup) : AscJ (srtJ l) := ((srtJ_sorted l).and ((srtJ_perm l).nodup_iff.2 h)).imp (fun ⟨a, b⟩ => by omega)
theorem OwnJ.mono {w : World} {b b' : Nat} {v : Value} {l : List Int} (h : OwnJ w b v l) (hb : b' ≤ b) : OwnJ w b' v l := by
  rcases h with ⟨h1, h2 | ⟨g, cap, cur, a, h3, rest⟩⟩
  · exact ⟨h1, .inl h2⟩
  · exact ⟨h1, .inr ⟨g, cap, cur, a, Nat.le_trans hb h3, rest⟩⟩

end Go.Proofs.YtgelbihdcfgjcaaDoor
