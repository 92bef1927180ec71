/-
  Contracts of frames.Empty, Push, Store and Pop: what the plain functions say; nothing old is turned.
-/
import Derived.Test.YtplfpcbheijdlaaFrD
import Derived.Laws.ResultCell
namespace Go.Proofs.Ytplfpcbheijdlaa
open Go.RowKit

def frTwo (p : Fr × Int) : Value := .tuple #[.agg (frA p.1), .int .i64 p.2]
def frThree (p : Fr × Nat × Int) : Value := .tuple #[.agg (frA p.1), .int .u8 (p.2.1 : Int), .int .i64 p.2.2]
theorem run_addr (g : Nat) (w : World) : (asAddr (.pointer (some ⟨g, 0, none⟩))).run Try.prog w = .ok ⟨g, 0, none⟩ w := by simp [asAddr]
theorem results_cell_tmp2 {fn : Func} {p u v : Tmp} {ty : TypeId} (h : fn.results = #[.cell p ty, .tmp u, .tmp v]) (tmps : Array Value) (P : Program) (w : World) :
    (results fn tmps).run P w =
      ((asAddr (tmps.getD p undef)).run P w).andThen fun a w₁ => ((loadVar ty a).run P w₁).andThen fun x w₂ => .ok (.tuple #[x, tmps.getD u undef, tmps.getD v undef]) w₂ := by
  simp only [results, h]
  simp [Sem.run_bind, Result.andThen]
def pushD (f : Fr) (t : Nat) : Fr × Int :=
  if shapeD f = false then (frZ, 32) else if nF f = 24 then (frZ, 31) else (⟨f.lo, f.he + 1, (trimL (nF f) f.sl).set (nF f) t⟩, 0)
theorem set_ok {f : Fr} (hf : FrOk f) {i t : Nat} (ht : t < 256) : FrOk { f with sl := f.sl.set i t } := by
  refine ⟨by simp [hf.len], fun x hx => ?_, hf.lo, hf.he⟩
  rcases List.mem_or_eq_of_mem_set hx with h | h
  · exact hf.byte x h
  · rw [h]; exact ht

end Go.Proofs.Ytplfpcbheijdlaa
