/-
  provisoplain.Env and SameEnv: an environment's copy in memory of its own, the same but for where it lies. Conditions: lengths fit.
-/
import Derived.Test.YtibgfdjopikafaaGreatDoorKSg1
import Derived.Deep.RegionHeld3
import Derived.Deep.AppendLies
import Derived.Deep.DeepCutAuto
import Derived.Deep.RegionLaw
namespace Go.Proofs.YtibgfdjopikafaaGreatDoor
open Go.RowKit
set_option maxRecDepth 20000

structure SameS (x y : Sg) : Prop where
  ps : y.ps = x.ps
  rt : y.rt = x.rt
def SameL (L M : List Sg) : Prop := M.length = L.length ∧ ∀ (i : Nat) x y, L[i]? = some x → M[i]? = some y → SameS x y
def scells (y : Sg) : List Value := [.slice y.po y.ps.length y.pc, .int .u8 (y.rt : Int)]
def svals (G : List Sg) : List Value := G.flatMap scells
theorem svals_length (l : List Sg) : (svals l).length = l.length * 2 := by
  unfold svals
  induction l with
  | nil => rfl
  | cons f l ih => rw [List.flatMap_cons, List.length_append, ih]; simp [scells]; omega
theorem svals_snoc (l : List Sg) (y : Sg) : svals (l ++ [y]) = svals l ++ scells y := by unfold svals; simp
theorem svals_get : ∀ {l : List Sg} {i : Nat} {f : Sg}, l[i]? = some f → (svals l)[i * 2]? = some (.slice f.po f.ps.length f.pc) ∧ (svals l)[i * 2 + 1]? = some (.int .u8 (f.rt : Int))
  | [], i, f, h => by simp at h
  | g :: l, 0, f, h => by
    simp at h
    subst h
    unfold svals
    rw [List.flatMap_cons]
    exact ⟨rfl, rfl⟩
  | g :: l, i + 1, f, h => by
    have h' : l[i]? = some f := by simpa using h
    obtain ⟨h1, h2⟩ := svals_get h'
    unfold svals at h1 h2 ⊢
    rw [List.flatMap_cons]
    refine ⟨?_, ?_⟩
    · rw [List.getElem?_append_right (by simp [scells]; omega)]
      rw [← h1]; congr 1; simp [scells]; omega
    · rw [List.getElem?_append_right (by simp [scells]; omega)]
      rw [← h2]; congr 1; simp [scells]; omega
theorem infoSg : (Tryz.prog.info? 42).map (fun i => (i.zero, i.size, i.bytes)) = some (some (.agg #[.slice none 0 0, .int .u8 0]), 2, 32) := by kernel_rfl
def OwnS (w : World) (base : Nat) (v : Value) (G : List Sg) : Prop := w.ownsRow base 42 2 v G.length (svals G)
structure CopyS (w : World) (base : Nat) (x y : Sg) : Prop where
  same : SameS x y
  own : OwnP w base (.slice y.po y.ps.length y.pc) y.ps
theorem CopyS.grown {w w' : World} {base : Nat} {x y : Sg} {v : Value} {n : Nat} {cs : List Value} (h : CopyS w base x y) (hv : w.ownsRow base 42 2 v n cs) (hg : w.grownBy w' v.ownBlock) : CopyS w' base x y := by
  refine ⟨h.same, rows_grownG h.own hg ?_⟩
  intro g hb e
  obtain ⟨c1, g1⟩ := rowTy h.own g hb
  obtain ⟨c2, g2⟩ := rowTy hv g e
  rw [g1] at g2
  simp at g2
theorem CopyS.below {w w' : World} {base : Nat} {x y : Sg} (h : CopyS w base x y) (hb : Below w.heap.size w w') : CopyS w' base x y := ⟨h.same, rowBelow h.own hb⟩
theorem CopyS.box {w w' : World} {base k : Nat} {x y : Sg} (h : CopyS w base x y) (hg : w.grownBy w' (some k)) (hk : k < base) : CopyS w' base x y :=
  ⟨h.same, rows_grownG h.own hg (fun g e e2 => by have := (World.ownsRow.lt h.own g e).1; injection e2 with e2; omega)⟩
theorem copy_sigs {w w0 : World} {base : Nat} {ao : Option Addr} {L M : List Sg} {v : Value} (hL : SgsAt w0 ao L) (hO : OwnS w base v M) (hl : M.length = L.length) (hc : ∀ (i : Nat) x y, L[i]? = some x → M[i]? = some y → CopyS w base x y) : ∃ sa sc, v = .slice sa M.length sc ∧ SgsAt w sa M ∧ SameL L M := by
  have hs : SameL L M := ⟨hl, fun i x y hx hy => (hc i x y hx hy).same⟩
  rcases hO.2 with ⟨h1, h2⟩ | ⟨g, cap, cur, rfl, hb, hh, hn, hm, hsz, ht⟩
  · have := List.eq_nil_of_length_eq_zero h2
    subst this
    exact ⟨none, 0, h1, fun i x hx => by simp at hx, hs⟩
  · refine ⟨_, cap, rfl, fun i y hy => ⟨g, 0, rfl, ?_⟩, hs⟩
    have hi := (List.getElem?_eq_some_iff.1 hy).1
    have hx := List.getElem?_eq_getElem (show i < L.length by omega)
    have hcy := hc i _ y hx hy
    obtain ⟨_, _, _, hxa⟩ := hL i _ hx
    obtain ⟨h1, h2⟩ := svals_get hy
    obtain ⟨fa, fc, ef, hfa, hfb⟩ := hcy.own.at
    injection ef with ef1 _ ef2
    rw [← ef1] at hfa
    refine ⟨?_, ?_, hfa, ?_, by rw [hcy.same.ps]; exact hxa.ok.bts, by rw [hcy.same.ps]; exact hxa.ok.fit, by rw [hcy.same.rt]; exact hxa.ok.res⟩
    · rw [Nat.zero_add, World.ownsRow.cellAt hO (i * 2) (by omega)]; exact h1
    · rw [Nat.zero_add, World.ownsRow.cellAt hO (i * 2 + 1) (by omega)]; exact h2
    · intro e
      cases hps : y.ps with
      | nil => rfl
      | cons t l =>
        obtain ⟨b, off, e', _⟩ := hfa 0 t (by rw [hps]; rfl)
        rw [e] at e'
        cases e'
/-- A table stays where a block is written in which there is no text. -/
theorem TabAt.grownK {W W' : World} {ao : Option Addr} {T : List Cl} {k : Nat} (h : TabAt W ao T) (hg : W.grownBy W' (some k)) (hne : ∀ o s, W.cell? ⟨k, o, none⟩ ≠ some (.string s)) : TabAt W' ao T := fun i x hx => by
  obtain ⟨b, off, e, hc⟩ := h i x hx
  have hb : b ≠ k := fun e => hne _ _ (by rw [← e]; exact hc.c0)
  have hl : b < W.heap.size := World.block_lt_of_cell? W _ hc.c0
  have kk : ∀ j, W'.cell? ⟨b, j, none⟩ = W.cell? ⟨b, j, none⟩ := fun j => hg.cell_far ⟨b, j, none⟩ hl (fun e => hb (by injection e))
  refine ⟨b, off, e, ⟨(kk _).trans hc.c0, (kk _).trans hc.c1, (kk _).trans hc.c2, ?_, hc.nil, hc.cap, hc.fit, hc.name, hc.par⟩⟩
  intro i f hf'
  obtain ⟨b', off', e', hfl⟩ := hc.flds i f hf'
  have hb' : b' ≠ k := fun e => hne _ _ (by rw [← e]; exact hfl.c0)
  have hl' : b' < W.heap.size := World.block_lt_of_cell? W _ hfl.c0
  have k' : ∀ j, W'.cell? ⟨b', j, none⟩ = W.cell? ⟨b', j, none⟩ := fun j => hg.cell_far ⟨b', j, none⟩ hl' (fun e => hb' (by injection e))
  exact ⟨b', off', e', ⟨(k' _).trans hfl.c0, (k' _).trans hfl.c1, hfl.name, hfl.ty⟩⟩
theorem grownBy_more {W0 W W' : World} {k : Nat} {row : Option Nat} (h : W0.grownBy W (some k)) (hg : W.grownBy W' row) (hr : ∀ q, row = some q → W0.heap.size ≤ q ∨ q = k) : W0.grownBy W' (some k) :=
  ⟨hg.os.trans h.os, hg.tape.trans h.tape, hg.output.trans h.output, Nat.le_trans h.size hg.size, fun j hj hn => (hg.block j (Nat.lt_of_lt_of_le hj h.size) (fun e => by
    rcases hr j e.symm with h1 | h1
    · omega
    · exact hn (by rw [h1]))).trans (h.block j hj hn)⟩
theorem grownBy_sets (W : World) (b : Nat) (x y z : Value) : W.grownBy (((W.setCell ⟨b, 0, none⟩ x).setCell ⟨b, 1, none⟩ y).setCell ⟨b, 2, none⟩ z) (some b) :=
  grownBy_more (grownBy_more (grownBy_set W b 0 x) (grownBy_set _ b 1 y) (fun q e => .inr (by injection e with e; omega))) (grownBy_set _ b 2 z) (fun q e => .inr (by injection e with e; omega))
theorem OwnS.slice {w : World} {base : Nat} {v : Value} {G : List Sg} (h : OwnS w base v G) : ∃ va vc, v = .slice va G.length vc := by
  rcases h.2 with ⟨h1, h2⟩ | ⟨g, cap, cur, rfl, _⟩
  · exact ⟨none, 0, by rw [h1, h2]⟩
  · exact ⟨_, _, rfl⟩
theorem scells_one (y : Sg) : ∀ u ∈ scells y, u.oneCell' = true := by
  intro u hu
  simp only [scells, List.mem_cons, List.mem_nil_iff, or_false] at hu
  rcases hu with rfl | rfl <;> rfl
theorem grown_ofBelow {w w' : World} (h : Below w.heap.size w w') (row : Option Nat) : w.grownBy w' row := ⟨h.os, h.tape, h.output, h.size, fun k hk _ => h.block k hk⟩
end Go.Proofs.YtibgfdjopikafaaGreatDoor

namespace Go.Proofs.YtibgfdjopikafaaGreatDoor
open Go.RowKit

end Go.Proofs.YtibgfdjopikafaaGreatDoor

namespace Go.Proofs.YtibgfdjopikafaaGreatDoor
open Go.RowKit

end Go.Proofs.YtibgfdjopikafaaGreatDoor
