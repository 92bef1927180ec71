/-
  The reference's Decode, At and Find of a certificate. Conditions: lengths fit.
-/
import Derived.Test.YtednnfmomhallaaCrd
import Derived.Test.YtednnfmomhallaaCrz
namespace Go.Proofs.Ytednnfmomhallaa
open Go.RowKit

/-- Place and error of a decoded certificate, and its entries. -/
def cdE (L : List UInt8) (lo n : Nat) : Nat × Int := if (hdE L).2 ≠ 0 then hdE L else if (tolD L lo n 6 (-1)).2.2 ≠ 0 then (tolD L lo n 6 (-1)).2 else (0, 0)
def cdS (L : List UInt8) (lo n : Nat) : List En := if (cdE L lo n).2 = 0 then enS (tolD L lo n 6 (-1)).1 else []
def cdL (L : List UInt8) (lo n : Nat) : Int := if (cdE L lo n).2 = 0 then lo else 0
/-- A certificate, in a block. -/
def CAt (W : World) (g : Nat) (l : Int) (v : Value) : Prop := W.heap[g]? = some (.cells #[.int .i64 l, v] 24 (0, 0))
theorem CAt.lt {W : World} {g : Nat} {l : Int} {v : Value} (h : CAt W g l v) : g < W.heap.size := (Array.getElem?_eq_some_iff.1 h).1
theorem CAt.c0 {W : World} {g : Nat} {l : Int} {v : Value} (h : CAt W g l v) : W.cell? ⟨g, 0, none⟩ = some (.int .i64 l) := cell_of_row _ _ 0 _ _ _ h
theorem CAt.c1 {W : World} {g : Nat} {l : Int} {v : Value} (h : CAt W g l v) : W.cell? ⟨g, 1, none⟩ = some v := cell_of_row _ _ 1 _ _ _ h
theorem CAt.f {W : World} {g : Nat} {l : Int} {v : Value} (h : CAt W g l v) (i : Nat) : W.frozen? ⟨g, i, none⟩ = false := frozen_of_row _ _ _ _ _ h
theorem run_loadC {W : World} {g : Nat} {l : Int} {v : Value} (h : CAt W g l v) : (loadVar 24 ⟨g, 0, none⟩).run Try.prog W = .ok (.agg #[.int .i64 l, v]) W :=
  run_loadVar_row W g 24 24 #[.int .i64 l, v] (0, 0) _ h Try.underlying24 rfl (by kernel_rfl)
theorem results_c2 {fn : Func} {p u v : Tmp} (h : fn.results = #[.cell p 24, .tmp u, .tmp v]) (tmps : Array Value) (W : World) (g : Nat) (l : Int) (s : Value)
    (hp : tmps.getD p undef = .pointer (some ⟨g, 0, none⟩)) (hg : CAt W g l s) :
    (results fn tmps).run Try.prog W = .ok (.tuple #[.agg #[.int .i64 l, s], tmps.getD u undef, tmps.getD v undef]) W := by
  rw [results_cell_tmp2 h, hp, run_addr, Result.andThen_ok, run_loadC hg, Result.andThen_ok]

theorem OwnE.mono {w : World} {b b' : Nat} {v : Value} {l : List En} (h : OwnE w b v l) (hb : b' ≤ b) : OwnE w b' v l := by
  rcases h with ⟨h1, h2 | ⟨g, cap, cur, a, h3, rest⟩⟩
  · exact ⟨h1, .inl h2⟩
  · exact ⟨h1, .inr ⟨g, cap, cur, a, Nat.le_trans hb h3, rest⟩⟩
theorem OwnE.rowBelow {w : World} {b : Nat} {v : Value} {l : List En} (h : OwnE w b v l) {k : Nat} (hk : k < b) (cs : Array Value) : OwnE (w.setRow k cs) b v l :=
  rows_grown h (⟨rfl, rfl, rfl, by simp, fun j _ hj => setRow_other w k j cs (fun e => hj (by rw [e]))⟩ : w.grownBy (w.setRow k cs) (some k)) (fun g e e2 => by have := (h.lt g e).1; injection e2 with e2; omega)

end Go.Proofs.Ytednnfmomhallaa
