/-
  flow.Blocks: what the plain function says, in rows of its own.
-/
import Derived.Test.YtdpfinnclnapbaaBk1
import Derived.Test.YtdpfinnclnapbaaSc1
import Derived.Deep.AppendLies
import Derived.Deep.DeepAppendWide
namespace Go.Proofs.Ytdpfinnclnapbaa
open Go.RowKit Go.Maps

theorem ownK_mono {w : World} {b b' : Nat} {v : Value} {l : List Bx} (h : OwnK w b v l) (hb : b' ≤ b) : OwnK w b' v l := by
  rcases h with ⟨h1, h2 | ⟨g, cap, cur, a, h3, rest⟩⟩
  · exact ⟨h1, .inl h2⟩
  · exact ⟨h1, .inr ⟨g, cap, cur, a, Nat.le_trans hb h3, rest⟩⟩
/-- While blocks are told. -/
structure KRun (w3 wr : World) (l : List Ix) (ls : List Nat) (v : Value) (M : List Bx) (k : Nat) : Prop where
  own : OwnK wr w3.heap.size v M
  nxs : ∀ y ∈ M, NxOwn wr w3.heap.size y
  bel : Below w3.heap.size w3 wr
  pls : M.map Bx.pl = (List.range k).map (blkN l ls)
theorem KRun.len {w3 wr : World} {l : List Ix} {ls : List Nat} {v : Value} {M : List Bx} {k : Nat} (h : KRun w3 wr l ls v M k) : M.length = k := by
  have := congrArg List.length h.pls
  simpa using this
theorem KRun.step {w3 wr w6 w7 : World} {l : List Ix} {ls : List Nat} {v v' : Value} {M : List Bx} {k : Nat} {y : Bx} {b6 : Nat} {obj : Obj} (h : KRun w3 wr l ls v M k) (hB : Below wr.heap.size wr w6) (hO : OwnJ w6 b6 (.slice y.no y.nx.length y.nc) y.nx) (hb6 : w3.heap.size ≤ b6) (hy : y.pl = blkN l ls k) (hown : w7.ownsRow w3.heap.size 25 3 v' (M.length + 1) (kvals M ++ kcells y)) (hg : (w6.alloc obj).grownBy w7 v.ownBlock) : KRun w3 w7 l ls v' (M ++ [y]) (k + 1) := by
  have hB3 : Below wr.heap.size wr (w6.alloc obj) := hB.alloc hB.size _
  have hS3 : OwnK (w6.alloc obj) w3.heap.size v M := rowBelowJ h.own hB3
  refine ⟨?_, ?_, ?_, ?_⟩
  · unfold OwnK
    rw [kvals_snoc, List.length_append]
    exact hown
  · intro z hz
    rcases List.mem_append.1 hz with hz | hz
    · exact ((h.nxs z hz).below hB3).grown hS3 hg
    · simp at hz
      subst hz
      have h1 : NxOwn (w6.alloc obj) w3.heap.size z := ownJ_mono (World.ownsRow.alloc hO _) hb6
      exact h1.grown hS3 hg
  · exact (h.bel.trans (hB3.mono h.bel.size)).grown hg (Nat.le_trans h.bel.size hB3.size) (fun q e => (World.ownsRow.lt h.own q e).1)
  · rw [List.map_append, h.pls, List.range_succ, List.map_append]
    simp [hy]

end Go.Proofs.Ytdpfinnclnapbaa
