/-
  Signatures: how they lie in a world; provisoplain.Sig and SameSig; infer.areStored, checkSig and provisoref02.SigMay. Conditions: lengths fit.
-/
import Derived.Test.YtjccomjgmejnhaaKFrU
import Derived.Test.YtjccomjgmejnhaaKPlain3
import Derived.Deep.Cut
namespace Go.Proofs.Ytjccomjgmejnhaa
open Go.RowKit

structure Sg where
  po : Option Addr
  pc : Nat
  ps : List Nat
  rt : Nat
structure SgOk (W : World) (x : Sg) : Prop where
  prm : PAt W x.po x.ps
  nil : x.po = none → x.ps = []
  bts : ∀ t ∈ x.ps, t < 256
  fit : x.ps.length ≤ 140737488351232
  res : x.rt < 256
structure SgAt (W : World) (b o : Nat) (x : Sg) : Prop where
  c0 : W.cell? ⟨b, o, none⟩ = some (.slice x.po x.ps.length x.pc)
  c1 : W.cell? ⟨b, o + 1, none⟩ = some (.int .u8 (x.rt : Int))
  ok : SgOk W x
def SgsAt (W : World) (ao : Option Addr) (L : List Sg) : Prop := ∀ i x, L[i]? = some x → ∃ b off, ao = some ⟨b, off, none⟩ ∧ SgAt W b (off + i * 2) x
theorem SgOk.below {W w : World} {x : Sg} (h : SgOk W x) (hb : Below W.heap.size W w) : SgOk w x := ⟨h.prm.below hb, h.nil, h.bts, h.fit, h.res⟩
theorem SgAt.below {W w : World} {b o : Nat} {x : Sg} (h : SgAt W b o x) (hb : Below W.heap.size W w) : SgAt w b o x := by
  have hl : b < W.heap.size := World.block_lt_of_cell? W _ h.c0
  exact ⟨(hb.cell (p := ⟨b, o, none⟩) hl).trans h.c0, (hb.cell (p := ⟨b, o + 1, none⟩) hl).trans h.c1, h.ok.below hb⟩
theorem SgsAt.below {W w : World} {ao : Option Addr} {L : List Sg} (h : SgsAt W ao L) (hb : Below W.heap.size W w) : SgsAt w ao L := fun i x hx => by
  obtain ⟨b, off, e, h1⟩ := h i x hx
  exact ⟨b, off, e, h1.below hb⟩

/-! ### Boxes -/
theorem results_cellG {fn : Func} {p : Tmp} {ty : TypeId} (h : fn.results = #[.cell p ty]) (tmps : Array Value) (P : Program) (w : World) :
    (results fn tmps).run P w = ((asAddr (tmps.getD p undef)).run P w).andThen fun a w₁ => (loadVar ty a).run P w₁ := by
  simp only [results, h]
  simp [Sem.run_bind, Result.andThen]
theorem start_okG {n : Nat} {ps : List Nat} (hp : ∀ t ∈ ps, t < 256) (lo : Int) : FrOk (startD n ps lo).1 := by
  unfold startD
  by_cases h : lo < 0 ∨ 16 < lo ∨ 8 < ps.length ∨ lo < (ps.length : Int)
  · rw [if_pos h]; exact frZ_ok
  · rw [if_neg h]
    by_cases h2 : ps.all (storedD n) = true
    · rw [if_pos h2]; exact startTo_ok (by omega) (by omega) hp _
    · rw [if_neg h2]; exact frZ_ok

/-! ### Rows of types -/
theorem rows_grownG {w w' : World} {base : Nat} {t : TypeId} {s : Nat} {v : Value} {n : Nat} {cs : List Value} {row : Option Nat} (h : w.ownsRow base t s v n cs) (hg : w.grownBy w' row) (hne : ∀ g, v.ownBlock = some g → row ≠ some g) : w'.ownsRow base t s v n cs := by
  refine ⟨h.1, ?_⟩
  rcases h.2 with h1 | ⟨g, cap, cur, hv, hbg, hh, r⟩
  · exact Or.inl h1
  · refine Or.inr ⟨g, cap, cur, hv, hbg, ?_, r⟩
    rw [hg.block g (Array.getElem?_eq_some_iff.1 hh).1 (fun e => hne g (by rw [hv]; rfl) e.symm)]
    exact hh
theorem grown_row {W : World} (k : Nat) (cs : Array Value) : W.grownBy (W.setRow k cs) (some k) := ⟨rfl, rfl, rfl, by simp, fun j _ hj => setRow_other W k j cs (fun e => hj (by rw [e]))⟩
end Go.Proofs.Ytjccomjgmejnhaa

namespace Go.Proofs.Ytjccomjgmejnhaa
open Go.RowKit

/-- Is a signature of stored types (its result may be none)? -/
def sgD (n : Nat) (ps : List Nat) (rt : Nat) : Bool := ps.all (storedD n) && (rt == 0 || storedD n rt)
/-- What a signature's check says. -/
def sgE (n : Nat) (ps : List Nat) (rt : Nat) : Int := if 8 < ps.length then 4 else if sgD n ps rt = true then 0 else 22
theorem start16 {n : Nat} {ps : List Nat} (h : ps.length ≤ 8) : ((startD n ps 16).2 == 0) = ps.all (storedD n) := by
  unfold startD
  rw [if_neg (by omega)]
  cases ps.all (storedD n) <;> rfl

theorem ret_boolG {a b : Bool} (h : a = b) : Ending.returned (.bool a) = .returned (.bool b) := by rw [h]
end Go.Proofs.Ytjccomjgmejnhaa
