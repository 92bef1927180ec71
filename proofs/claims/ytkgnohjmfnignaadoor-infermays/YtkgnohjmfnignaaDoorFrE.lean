/-
  Contracts of frames.Empty, Push, Store and Pop: what the plain functions say; nothing old is turned.
-/
import Derived.Test.YtkgnohjmfnignaaDoorFrD
import Derived.Laws.ResultCell
namespace Go.Proofs.YtkgnohjmfnignaaDoor
open Go.RowKit
set_option maxRecDepth 20000

def frTwo (p : Fr × Int) : Value := .tuple #[.agg (frA p.1), .int .i64 p.2]
def frThree (p : Fr × Nat × Int) : Value := .tuple #[.agg (frA p.1), .int .u8 (p.2.1 : Int), .int .i64 p.2.2]
theorem run_addr (g : Nat) (w : World) : (asAddr (.pointer (some ⟨g, 0, none⟩))).run Tryd.prog w = .ok ⟨g, 0, none⟩ w := by simp [asAddr]
theorem results_fr2 {fn : Func} {p u : Tmp} (h : fn.results = #[.cell p 39, .tmp u]) (tmps : Array Value) (W : World) (g : Nat) (f : Fr) (e : Int) (hf : FrOk f)
    (hp : tmps.getD p undef = .pointer (some ⟨g, 0, none⟩)) (hu : tmps.getD u undef = .int .i64 e) (hg : FAt W g f) : (results fn tmps).run Tryd.prog W = .ok (frTwo (f, e)) W := by
  rw [results_cell_tmp h, hp, hu, run_addr, Result.andThen_ok, run_loadVar_row W g 39 39 (frA f) (0, 0) _ hg Tryd.underlying39 rfl (sizeFr hf), Result.andThen_ok]
  rfl
theorem results_cell_tmp2 {fn : Func} {p u v : Tmp} {ty : TypeId} (h : fn.results = #[.cell p ty, .tmp u, .tmp v]) (tmps : Array Value) (P : Program) (w : World) :
    (results fn tmps).run P w =
      ((asAddr (tmps.getD p undef)).run P w).andThen fun a w₁ => ((loadVar ty a).run P w₁).andThen fun x w₂ => .ok (.tuple #[x, tmps.getD u undef, tmps.getD v undef]) w₂ := by
  simp only [results, h]
  simp [Sem.run_bind, Result.andThen]
theorem results_fr3 {fn : Func} {p u v : Tmp} (h : fn.results = #[.cell p 39, .tmp u, .tmp v]) (tmps : Array Value) (W : World) (g : Nat) (f : Fr) (t : Nat) (e : Int) (hf : FrOk f)
    (hp : tmps.getD p undef = .pointer (some ⟨g, 0, none⟩)) (hu : tmps.getD u undef = .int .u8 (t : Int)) (hv : tmps.getD v undef = .int .i64 e) (hg : FAt W g f) : (results fn tmps).run Tryd.prog W = .ok (frThree (f, t, e)) W := by
  rw [results_cell_tmp2 h, hp, hu, hv, run_addr, Result.andThen_ok, run_loadVar_row W g 39 39 (frA f) (0, 0) _ hg Tryd.underlying39 rfl (sizeFr hf), Result.andThen_ok]
  rfl
theorem run_buildZ (w : World) : (Instr.build 39 #[]).run Tryd.prog w = .ok (.agg (frA frZ)) w := run_build w 39 _ _ (by kernel_rfl)

def pushD (f : Fr) (t : Nat) : Fr × Int :=
  if shapeD f = false then (frZ, 32) else if nF f = 24 then (frZ, 31) else (⟨f.lo, f.he + 1, (trimL (nF f) f.sl).set (nF f) t⟩, 0)
theorem set_ok {f : Fr} (hf : FrOk f) {i t : Nat} (ht : t < 256) : FrOk { f with sl := f.sl.set i t } := by
  refine ⟨by simp [hf.len], fun x hx => ?_, hf.lo, hf.he⟩
  rcases List.mem_or_eq_of_mem_set hx with h | h
  · exact hf.byte x h
  · rw [h]; exact ht

end Go.Proofs.YtkgnohjmfnignaaDoor
