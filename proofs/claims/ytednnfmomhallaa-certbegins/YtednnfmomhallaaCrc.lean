/-
  The contract of provisoref06.Told, where the head is well. Conditions: lengths fit.
-/
import Derived.Test.YtednnfmomhallaaCrb
import Derived.Deep.Cut
namespace Go.Proofs.Ytednnfmomhallaa
open Go.RowKit

def enS (A : List (En × Nat)) : List En := A.map Prod.fst
def plS (A : List (En × Nat)) : List Int := A.map fun x => (x.2 : Int)
def Apart (v u : Value) : Prop := ∀ g, v.ownBlock = some g → u.ownBlock ≠ some g
theorem OwnE.below {w w' : World} {base : Nat} {v : Value} {l : List En} (h : OwnE w base v l) (hb : Below w.heap.size w w') : OwnE w' base v l := rowBelowJ h hb
theorem OwnE.slice {w : World} {base : Nat} {v : Value} {l : List En} (h : OwnE w base v l) : ∃ ao cap, v = .slice ao l.length cap := by
  rcases h.2 with ⟨h1, h2⟩ | ⟨g, cap, cur, hv, _⟩
  · exact ⟨none, 0, by rw [h1, h2]⟩
  · exact ⟨_, cap, hv⟩
theorem fold_row : ∀ (vs old pre : List Value) (k : Nat), old.length = vs.length → pre.length = k → (vs.zipIdx k).foldl (fun cs x => cs.setIfInBounds x.2 x.1) (pre ++ old).toArray = (pre ++ vs).toArray
  | [], old, pre, k, hl, _ => by
    have : old = [] := List.eq_nil_of_length_eq_zero hl
    subst this
    rfl
  | v :: vs, [], pre, k, hl, _ => by simp at hl
  | v :: vs, u :: old, pre, k, hl, hp => by
    rw [List.zipIdx_cons, List.foldl_cons]
    have e1 : (pre ++ u :: old).toArray.setIfInBounds k v = ((pre ++ [v]) ++ old).toArray := by rw [← hp]; simp
    rw [e1, fold_row vs old (pre ++ [v]) (k + 1) (by simpa using hl) (by simp [hp])]
    simp
theorem slice_fold {x : En} (hx : FrOk x.fr) : Array.foldl (fun cs (x : Value × Nat) => cs.setIfInBounds x.snd x.fst) (#[.int .i64 0, .bool false, .int .i64 0, .int .i64 0, .int .u8 0, .int .u8 0, .int .u8 0, .int .u8 0, .int .u8 0, .int .u8 0, .int .u8 0, .int .u8 0, .int .u8 0, .int .u8 0, .int .u8 0, .int .u8 0, .int .u8 0, .int .u8 0, .int .u8 0, .int .u8 0, .int .u8 0, .int .u8 0, .int .u8 0, .int .u8 0, .int .u8 0, .int .u8 0, .int .u8 0, .int .u8 0] : Array Value) (enA x).zipIdx 0 28 = enA x := by
  have hz : ((enA x).zipIdx).size = 28 := by simp [enA_size hx]
  have h1 : Array.foldl (fun cs (x : Value × Nat) => cs.setIfInBounds x.snd x.fst) (#[.int .i64 0, .bool false, .int .i64 0, .int .i64 0, .int .u8 0, .int .u8 0, .int .u8 0, .int .u8 0, .int .u8 0, .int .u8 0, .int .u8 0, .int .u8 0, .int .u8 0, .int .u8 0, .int .u8 0, .int .u8 0, .int .u8 0, .int .u8 0, .int .u8 0, .int .u8 0, .int .u8 0, .int .u8 0, .int .u8 0, .int .u8 0, .int .u8 0, .int .u8 0, .int .u8 0, .int .u8 0] : Array Value) (enA x).zipIdx 0 28 = Array.foldl (fun cs (x : Value × Nat) => cs.setIfInBounds x.snd x.fst) (#[.int .i64 0, .bool false, .int .i64 0, .int .i64 0, .int .u8 0, .int .u8 0, .int .u8 0, .int .u8 0, .int .u8 0, .int .u8 0, .int .u8 0, .int .u8 0, .int .u8 0, .int .u8 0, .int .u8 0, .int .u8 0, .int .u8 0, .int .u8 0, .int .u8 0, .int .u8 0, .int .u8 0, .int .u8 0, .int .u8 0, .int .u8 0, .int .u8 0, .int .u8 0, .int .u8 0, .int .u8 0] : Array Value) (enA x).zipIdx := by rw [hz]
  rw [h1, ← Array.foldl_toList, Array.toList_zipIdx]
  exact fold_row (enL x) (enL enZ) [] 0 (by rw [enL_len hx, enL_len enZ_ok]) rfl
theorem slt_ok {L : List UInt8} : ∀ n q, (sltE L n q).2 = 0 → q ≤ L.length → q + n ≤ L.length
  | 0, q, _, h => by omega
  | n + 1, q, h, hq => by
    have e : sltE L (n + 1) q = if L.length ≤ q then (L.length, 2) else if isCd (at8 L q) = false then (q, 62) else sltE L n (q + 1) := rfl
    rw [e] at h
    split at h
    · simp at h
    · split at h
      · simp at h
      · have := slt_ok n (q + 1) h (by omega)
        omega
theorem one_ok {L : List UInt8} {lo p : Nat} {ahead : Int} (h : (oneE L lo p ahead).2 = 0) (hlo : lo ≤ 16) : FrOk (oneX L lo p).fr ∧ oneN L lo p ≤ L.length := by
  unfold oneE at h
  split at h
  · simp at h
  · split at h
    · rename_i h1
      exact absurd h h1
    · split at h
      · simp at h
      · rename_i h1 _ h2
        unfold oneX oneN
        split at h
        · rename_i h3
          rw [if_pos h3, if_pos h3]
          exact ⟨frZ_ok, by omega⟩
        · rename_i h3
          rw [if_neg h3, if_neg h3]
          split at h
          · unfold frE at h
            split at h
            · simp at h
            · split at h
              · simp at h
              · rename_i h5 h6
                have hx : at8 L (p + 3) = ((L.getD (p + 3) 0).toNat : Int) := rfl
                have hb := (L.getD (p + 3) 0).toNat_lt
                have hs := slt_ok _ _ h (by omega)
                refine ⟨⟨sltD_len (by omega) (by omega), sltD_byte, ⟨by show _ ≤ (lo : Int); omega, by show (lo : Int) ≤ _; omega⟩, ⟨by show _ ≤ at8 L (p + 3); omega, by show at8 L (p + 3) ≤ _; omega⟩⟩, ?_⟩
                unfold frN
                omega
          · simp at h
theorem rows_grown {w w' : World} {base : Nat} {t : TypeId} {s : Nat} {v : Value} {n : Nat} {cs : List Value} {row : Option Nat} (h : w.ownsRow base t s v n cs) (hg : w.grownBy w' row) (hne : ∀ g, v.ownBlock = some g → row ≠ some g) : w'.ownsRow base t s v n cs := by
  refine ⟨h.1, ?_⟩
  rcases h.2 with h1 | ⟨g, cap, cur, hv, hbg, hh, r⟩
  · exact Or.inl h1
  · refine Or.inr ⟨g, cap, cur, hv, hbg, ?_, r⟩
    rw [hg.block g (Array.getElem?_eq_some_iff.1 hh).1 (fun e => hne g (by rw [hv]; rfl) e.symm)]
    exact hh
theorem tol_end {L : List UInt8} {lo p : Nat} {ahead : Int} : tolD L lo 0 p ahead = ([], if p < L.length then (p, 3) else (0, 0)) := rfl
theorem tol_good {L : List UInt8} {lo n p : Nat} {ahead : Int} (h : (oneE L lo p ahead).2 = 0) : tolD L lo (n + 1) p ahead = ((oneX L lo p, oneN L lo p) :: (tolD L lo n (oneN L lo p) (oneX L lo p).at_).1, (tolD L lo n (oneN L lo p) (oneX L lo p).at_).2) := if_pos h
theorem tol_bad {L : List UInt8} {lo n p : Nat} {ahead : Int} (h : (oneE L lo p ahead).2 ≠ 0) : tolD L lo (n + 1) p ahead = ([], oneE L lo p ahead) := if_neg h

end Go.Proofs.Ytednnfmomhallaa
