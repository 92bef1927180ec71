/-
  The walk of the law FlowNexts: it returns true for every instruction, and writes nothing that was there. Conditions: the widths lie there.
-/
import Derived.Test.YtelbajcfdecaoaaDoorNr
import Derived.Deep.RegionHeld
import Derived.Deep.RegionHeld3
import Derived.Deep.WholeRow
namespace Go.Proofs.YtelbajcfdecaoaaDoor
open Go.RowKit
set_option maxRecDepth 20000

theorem yieldsIf_load_in {ops : Array Oper} {S : World → Prop} {o : Oper} {c : Act} (hw : Region.wanted o (yielded ops c.tmps) = true) (x : Operand) (ho : o.op = .load 45 x)
    (g : Nat) (hx : c.eval x = .pointer (some ⟨g, 0, none⟩)) (p : Int) (op : Nat) (a b : Int) (hS : ∀ w, S w → IAt w g p op a b) : YieldsIf Tryd.prog ops S o (.agg #[.int .i64 p, .int .u8 (op : Int), .int .i64 a, .int .i64 b]) c :=
  .inl ⟨hw, fun w hw' => by
    unfold execOp
    simp only [ho, hx, Instr.loadAt, Instr.sureAddr, Sem.run_bind, Sem.run_pure, Result.andThen_ok, run_loadVar_row w g 45 45 #[.int .i64 p, .int .u8 (op : Int), .int .i64 a, .int .i64 b] (0, 0) _ (hS w hw') Tryd.underlying45 rfl (by kernel_rfl)]⟩

set_option maxHeartbeats 1000000 in
theorem walkFlowNexts {w : World} (hW : WidAt w) (p : Int) (op : Nat) (a b : Int) (ho : op < 256) (_ : -9223372036854775808 ≤ a ∧ a ≤ 9223372036854775807) (_ : -9223372036854775808 ≤ b ∧ b ≤ 9223372036854775807) :
    Calls Tryd.prog 5 #[.agg #[.int .i64 p, .int .u8 (op : Int), .int .i64 a, .int .i64 b]] w fun e w' => e = .returned (.bool true) ∧ Below w.heap.size w w' := by
  have I0 := hide (IAt.new' w p op a b)
  have hal := ((Below.refl w.heap.size w).alloc (Nat.le_refl _) (.cells #[.int .i64 p, .int .u8 (op : Int), .int .i64 a, .int .i64 b] 45))
  have B0 := hide hal
  have D0 := hide (hW.below hal)
  clear hal hW
  go_enter Tryd.func5, Tryd.ntmps5
  go_wp2_with fail
  generalize (w.alloc (.cells #[.int .i64 p, .int .u8 (op : Int), .int .i64 a, .int .i64 b] 45)) = W0 at I0 B0 D0 ⊢
  have K0 : Hid (Below W0.heap.size W0 W0.drew) := hide ⟨rfl, rfl, rfl, Nat.le_refl _, fun _ _ => rfl⟩
  refine wp_region_held_drew (S := fun w' => IAt w' w.heap.size p op a b) (by kernel_rfl) (unhide I0) (fun hS => ?_)
  generalize W0.drew = W1 at K0 hS ⊢
  refine wpAnyH_take (i := 0) (v := .agg #[.int .i64 p, .int .u8 (op : Int), .int .i64 a, .int .i64 b]) rfl (by kernel_rfl) (by kernel_rfl) (by kernel_rfl) (fun _ _ _ h => h) (yieldsIf_load_in (by rfl) _ rfl w.heap.size rfl p op a b (fun _ h => h)) hS ?_
  refine wpAnyH_take (i := 2) (v := .agg #[.int .i64 p, .int .u8 (op : Int), .int .i64 a, .int .i64 b]) rfl (by kernel_rfl) (by kernel_rfl) (by kernel_rfl) (fun _ _ _ h => h) (yieldsIf_load_in (by rfl) _ rfl w.heap.size rfl p op a b (fun _ h => h)) hS ?_
  refine wpAnyH_ready (rs := [1]) (by kernel_rfl) (by simp) ?_
  refine AllReadyH.cons rfl (fun K hK => ?_) AllReadyH.nil
  go_simp
  go_wp2_with (go_at_call 26; refine (Next_any p op a b _ ((unhide D0).below (unhide K0)) ho).mono ?_; rintro e W2 ⟨v2, rfl, hO2, hB2⟩)
  have K2 := hide ((unhide K0).trans (hB2.mono (unhide K0).size))
  obtain ⟨ao, ac, rfl, hJ2, _⟩ := hO2.at
  have J2 := hide hJ2
  clear hO2 hJ2 hB2 K0
  refine hK.out _ _ ((unhide I0).below (unhide K2)) (fun hS2 => ?_)
  clear hK K hS
  refine wpAnyH_ready (rs := [3]) (by kernel_rfl) (by simp) ?_
  refine AllReadyH.cons rfl (fun K hK => ?_) AllReadyH.nil
  go_simp
  go_wp2_with (go_at_call 27; refine (refNext_any p op a b _).mono ?_; rintro e W3 ⟨v3, rfl, hO3, hB3⟩)
  have K3 := hide ((unhide K2).trans (hB3.mono (unhide K2).size))
  obtain ⟨bo, bc, rfl, hJ3, _⟩ := hO3.at
  have J3 := hide hJ3
  have J4 := hide ((unhide J2).below hB3)
  clear hO3 hJ3 hB3 K2 J2
  refine hK.out _ _ ((unhide I0).below (unhide K3)) (fun hS3 => ?_)
  clear hK K hS2
  have hn := nextD_len p op a
  obtain ⟨l, HL⟩ : ∃ l, Hid (nextD p op a = l) := ⟨_, hide rfl⟩
  rw [unhide HL] at J3 J4 hn ⊢
  refine wpAnyH_ready (rs := [4]) (by kernel_rfl) (by simp) ?_
  refine AllReadyH.cons rfl (fun K hK => ?_) AllReadyH.nil
  go_simp
  go_wp2_with (go_at_call 25; refine (EqualJ_same (unhide J4) (unhide J3) (by omega)).mono ?_; rintro e W4 ⟨rfl, q, rfl⟩)
  refine hK.out _ _ ((unhide I0).below (belowD' (unhide K3) q)) (fun hS4 => ?_)
  clear hK K hS3
  refine wpAnyH_ready (rs := [5]) (by kernel_rfl) (by simp) ?_
  refine AllReadyH.cons rfl (fun K hK => ?_) AllReadyH.nil
  go_simp
  refine hK.out _ _ hS4 (fun hS5 => ?_)
  refine wpAnyH_done (by kernel_rfl) ?_ _
  go_wp2
  go_ret
  exact ⟨rfl, (unhide B0).trans ((belowD' (unhide K3) q).mono (unhide B0).size)⟩
end Go.Proofs.YtelbajcfdecaoaaDoor
