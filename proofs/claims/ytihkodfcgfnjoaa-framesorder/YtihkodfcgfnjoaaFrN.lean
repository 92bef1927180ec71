/-
  The contract of frames.Sub: what the plain function 'subF' says; nothing old is turned. Conditions: the table lies there.
-/
import Derived.Test.YtihkodfcgfnjoaaFrM
namespace Go.Proofs.Ytihkodfcgfnjoaa
open Go.RowKit

def subF (T : List Cl) (a b : Fr) : Bool := (mergeF T a b).2 == 0 && frEq (mergeF T a b).1 b

set_option maxHeartbeats 2000000 in
theorem SubF_any (ao : Option Addr) (cap : Nat) (T : List Cl) (a b : Fr) (w : World) (hT : TabAt w ao T) (ha : FrOk a) (hb : FrOk b) :
    Calls Try.prog 17 #[.slice ao T.length cap, .agg (frA a), .agg (frA b)] w fun e w' => e = .returned (.bool (subF T a b)) ∧ Below w.heap.size w w' := by
  have HA := hide ha
  have HB := hide hb
  have hal1 : Below w.heap.size w (w.alloc (.cells (frA a) 27)) := (Below.refl _ _).alloc (Nat.le_refl _) _
  have fa1 := FAt.new w a
  have fb1 : FAt ((w.alloc (.cells (frA a) 27)).alloc (.cells (frA b) 27)) (w.heap.size + 1) b := by
    have := FAt.new (w.alloc (.cells (frA a) 27)) b
    rw [World.size_alloc] at this
    exact this
  have fa2 : FAt ((w.alloc (.cells (frA a) 27)).alloc (.cells (frA b) 27)) w.heap.size a := fa1.below ((Below.refl _ _).alloc (Nat.le_refl _) _) (by simp)
  have hal2 : Below w.heap.size w ((w.alloc (.cells (frA a) 27)).alloc (.cells (frA b) 27)) := hal1.alloc (by simp) _
  have F1 := hide fa2
  have F2 := hide fb1
  have HB0 := hide hal2
  have HT := hide hT
  have HX := hide (merge_ok (T := T) ha hb)
  have hq : ∀ W, (binOp .eql 27 (.agg (frA (mergeF T a b).1)) (.agg (frA b))).run Try.prog W = .ok (.bool (frEq (mergeF T a b).1 b)) W := fun W => run_eqlFr W (merge_ok (T := T) ha hb) hb
  obtain ⟨R, HR⟩ : ∃ R, Hid (subF T a b = R) := ⟨_, hide rfl⟩
  have HU : Hid (((mergeF T a b).2 == 0 && frEq (mergeF T a b).1 b) = R) := hide (unhide HR)
  clear hT hal1 hal2 fa1 fa2 fb1 ha hb
  go_enter Try.func17, Try.ntmps17
  go_wp2_with (first | (refine wpList_load_row rfl 27 _ rfl w.heap.size rfl 27 (frA a) (0, 0) _ (unhide F1) Try.underlying27 rfl (sizeFr (unhide HA)) ?_) | (refine wpList_load_row rfl 27 _ rfl (w.heap.size + 1) rfl 27 (frA b) (0, 0) _ (unhide F2) Try.underlying27 rfl (sizeFr (unhide HB)) ?_))
  generalize ((w.alloc (.cells (frA a) 27)).alloc (.cells (frA b) 27)) = W at F1 F2 HB0 ⊢
  refine (MergeF_any ao cap T a b _ ((unhide HT).below (unhide HB0)) (unhide HA) (unhide HB)).mono ?_
  rintro e W21 ⟨rfl, hB22⟩
  have F23 := hide ((unhide F1).below hB22 (unhide F1).lt)
  have F24 := hide ((unhide F2).below hB22 (unhide F2).lt)
  have HB25 := hide ((unhide HB0).trans (hB22.mono (unhide HB0).size))
  clear hB22 F1 F2 HB0 W
  have HP : Hid (frTwo (mergeF T a b) = .tuple #[.agg (frA (mergeF T a b).1), .int .i64 (mergeF T a b).2]) := hide rfl
  generalize (mergeF T a b).2 = e1 at HP HU
  generalize (mergeF T a b).1 = X at HP HX hq HU
  rw [unhide HP]
  have o_a_m : w.heap.size < W21.heap.size := (unhide F23).lt
  have o_b_m : (w.heap.size + 1) < W21.heap.size := (unhide F24).lt
  have Z26 : Hid (FAt (W21.alloc (.cells (frA frZ) 27)) W21.heap.size frZ) := hide (FAt.new W21 frZ)
  have hal : Below W21.heap.size W21 (W21.alloc (.cells (frA frZ) 27)) := (Below.refl _ _).alloc (Nat.le_refl _) _
  have F27 : Hid (FAt ((W21.alloc (.cells (frA frZ) 27)).setRow W21.heap.size (frA X)) w.heap.size a) := hide (((unhide F23).below hal (unhide F23).lt).rowOther X (Nat.ne_of_lt (unhide F23).lt))
  have F28 : Hid (FAt ((W21.alloc (.cells (frA frZ) 27)).setRow W21.heap.size (frA X)) (w.heap.size + 1) b) := hide (((unhide F24).below hal (unhide F24).lt).rowOther X (Nat.ne_of_lt (unhide F24).lt))
  have F29 : Hid (FAt ((W21.alloc (.cells (frA frZ) 27)).setRow W21.heap.size (frA X)) W21.heap.size X) := hide ((unhide Z26).row X)
  have HB30 : Hid (Below w.heap.size w ((W21.alloc (.cells (frA frZ) 27)).setRow W21.heap.size (frA X))) := hide (below_setRow' ((unhide HB25).trans (hal.mono (unhide HB25).size)) (unhide HB25).size _)
  by_cases e0 : e1 = 0
  · have b1 : (e1 == 0) = true := beq_t e0
    have HV : Hid (frEq X b = R) := hide (by rw [← unhide HU, b1]; rfl)
    clear e0
    go_wp2_with (first | (refine wpList_store_row rfl 27 _ _ rfl W21.heap.size (frA X) rfl rfl 27 (frA frZ) (unhide Z26) (sizeFr (unhide HX)) (sizeEq frZ_ok (unhide HX)) (frA_one _) ?_) | (refine wpList_load_rowG rfl 27 _ rfl W21.heap.size rfl 27 (frA X) (0, 0) _ (unhide F29) Try.underlying27 rfl (sizeFr (unhide HX)) ?_) | (refine wpList_load_rowG rfl 27 _ rfl (w.heap.size + 1) rfl 27 (frA b) (0, 0) _ (unhide F28) Try.underlying27 rfl (sizeFr (unhide HB)) ?_))
    go_ret
    exact ⟨by rw [unhide HR]; exact ret_bool (unhide HV), unhide HB30⟩
  · have b1 : (e1 == 0) = false := beq_f e0
    have HV : Hid (false = R) := hide (by rw [← unhide HU, b1]; rfl)
    clear e0
    go_wp2_with (first | (refine wpList_store_row rfl 27 _ _ rfl W21.heap.size (frA X) rfl rfl 27 (frA frZ) (unhide Z26) (sizeFr (unhide HX)) (sizeEq frZ_ok (unhide HX)) (frA_one _) ?_) | (refine wpList_load_rowG rfl 27 _ rfl W21.heap.size rfl 27 (frA X) (0, 0) _ (unhide F29) Try.underlying27 rfl (sizeFr (unhide HX)) ?_) | (refine wpList_load_rowG rfl 27 _ rfl (w.heap.size + 1) rfl 27 (frA b) (0, 0) _ (unhide F28) Try.underlying27 rfl (sizeFr (unhide HB)) ?_))
    go_ret
    exact ⟨by rw [unhide HR]; exact ret_bool (unhide HV), unhide HB30⟩
end Go.Proofs.Ytihkodfcgfnjoaa
