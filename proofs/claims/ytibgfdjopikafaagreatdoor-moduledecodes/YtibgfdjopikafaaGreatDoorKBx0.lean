/-
  What a call answers out of a box. No Go in it.
-/
import Derived.Test.YtibgfdjopikafaaGreatDoorKSg2
import Derived.Test.YtibgfdjopikafaaGreatDoorBx1
namespace Go.Proofs.YtibgfdjopikafaaGreatDoor
open Go.RowKit
set_option maxRecDepth 20000

theorem results_bx {fn : Func} {p : Tmp} {t : TypeId} (h : fn.results = #[.cell p t]) (tmps : Array Value) (W : World) (g : Nat) (cs : Array Value) (hp : tmps.getD p undef = .pointer (some ⟨g, 0, none⟩)) (hl : (loadVar t ⟨g, 0, none⟩).run Tryz.prog W = .ok (.agg cs) W) :
    (results fn tmps).run Tryz.prog W = .ok (.agg cs) W := by
  rw [results_cellG h, hp, run_addr, Result.andThen_ok, hl]

end Go.Proofs.YtibgfdjopikafaaGreatDoor
