/-
  The laws' small helpers: awake, blank.
-/
import Derived.Test.YtgnipgcligmpiaaDoorLx15
namespace Go.Proofs.YtgnipgcligmpiaaDoor
open Go.RowKit
set_option maxRecDepth 20000

set_option maxRecDepth 20000 in
theorem awake_said : scD ⟨#[97, 60, 61, 55]⟩ = ([⟨1, 0, 1, 0, ⟨#[97]⟩⟩, ⟨40, 1, 3, 0, ⟨#[]⟩⟩, ⟨2, 3, 4, 7, ⟨#[]⟩⟩], 0, 0) := by kernel_rfl

set_option maxRecDepth 20000 in
set_option maxHeartbeats 2000000 in
theorem awake_any (w : World) (hW : SpAt w) : Calls Tryd.prog 12 #[] w fun e w' => e = .returned (.bool true) ∧ Below w.heap.size w w' := by
  have HS := hide (ScanT_any ⟨#[97, 60, 61, 55]⟩ w hW (by decide))
  rw [awake_said] at HS
  rw [show ftV 0 0 = .nilIface from if_pos rfl] at HS
  clear hW
  go_enter Tryd.func12, Tryd.ntmps12
  go_wp2_with fail
  refine (unhide HS).mono ?_
  rintro e w1 ⟨v, rfl, hO, hB⟩
  obtain ⟨ao, ac, rfl, hT⟩ := hO.at
  obtain ⟨b, off, rfl, hc1⟩ := hT 1 _ rfl
  obtain ⟨b2, off2, e2, hc2⟩ := hT 2 _ rfl
  injection e2 with e2
  injection e2 with e2 e3
  subst e2 e3
  have HB := hide hB
  have c0 := hc1.c0
  have c3 := hc2.c3
  simp only [Nat.reduceMul] at c0 c3
  clear hO hB hT hc1 hc2 HS
  go_wp2
  go_ret
  exact ⟨rfl, unhide HB⟩
theorem lawBlank_any (s : ByteArray) (w : World) (hs : s.size ≤ 140737488351232) (hb : blD s 0 = s.size) : Calls Tryd.prog 13 #[.string s] w fun e w' => e = .returned (.bool true) ∧ w' = w := by
  have HC := hide (refBlanks_any s 0 w (Nat.zero_le _) hs)
  rw [hb] at HC
  have b1 : (((s.size : Nat) : Int) == ((s.size : Nat) : Int)) = true := beq_iff_eq.2 rfl
  clear hb
  go_enter Tryd.func13, Tryd.ntmps13
  go_wp2_with fail
  refine (unhide HC).mono ?_
  rintro e w1 ⟨rfl, rfl⟩
  go_wp2
  go_ret
  exact ⟨rfl, rfl⟩
end Go.Proofs.YtgnipgcligmpiaaDoor
