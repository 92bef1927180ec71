/-
  The walk of the law CodeDecodes: it returns true for all bytes and every place, and writes nothing that was there.
-/
import Derived.Test.YtihkodfcgfnjoabDoorIn13
import Derived.Test.YtihkodfcgfnjoabDoorRoom
namespace Go.Proofs.YtihkodfcgfnjoabDoor
open Go.RowKit

set_option maxHeartbeats 2000000 in
theorem walkCodeDecodes {w : World} (hW : WidAt w) (ao : Option Addr) (c : Nat) (l : List UInt8) (hl : BAt w ao l) (hn : ao = none → l = []) (hb : l.length ≤ 140737488351232) (hc : l.length ≤ c) (p : Int) (_ : (Lit.int .i64 p).wf = true) :
    Calls Tryd.prog 5 #[.slice ao l.length c, .int .i64 p] w fun e w' => e = .returned (.bool true) ∧ Below w.heap.size w w' := by
  obtain ⟨q, op, a, b, _, hV⟩ := dcV_shape l p
  have HV := hide hV
  have HL := hide hl
  have HW := hide hW
  clear hl hW hV
  go_enter Tryd.func5, Tryd.ntmps5
  go_wp2_with fail
  with_reducible refine (Roomy_any ao c l _ (unhide HL) hn hb).mono ?_
  rintro e w1 ⟨g, cap, rfl, hg, hO, hB⟩
  have HB := hide hB
  have HL1 := hide ((unhide HL).below' hB)
  have HW1 := hide ((unhide HW).below hB)
  obtain ⟨hcap, HR⟩ : l.length + 4 ≤ cap ∧ Hid (BAt w1 (some ⟨g, 0, none⟩) (roomy l)) := by
    rcases hO.shape with ⟨h1, _⟩ | ⟨g', cap', h1, _, _, h4, _, h6⟩
    · injection h1 with h1
      cases h1
    · injection h1 with h1 h2 h3
      injection h1 with h1
      injection h1 with h1
      subst h1 h3
      rw [roomy_length] at h4
      exact ⟨h4, hide h6⟩
  clear hO hB HL HW
  go_wp2_with fail
  have hR := unhide HR
  unfold roomy at hR
  have D := Decode_any (some ⟨g, 0, none⟩) cap l p w1 hR.take (unhide HW1) (by omega) (by omega)
  rw [unhide HV] at D
  clear hR
  with_reducible refine D.mono ?_
  clear D
  rintro e w2 ⟨rfl, hB2⟩
  have HB2 := hide ((unhide HB).trans (hB2.mono (unhide HB).size))
  have HL2 := hide ((unhide HL1).below' hB2)
  have HR2 := hide ((unhide HR).below' hB2)
  clear hB2 HB HL1 HW1 HR
  have hal : Below w2.heap.size w2 (w2.alloc (.cells #[.int .i64 q, .int .u8 (op : Int), .int .i64 a, .int .i64 b] 29)) := (Below.refl _ _).alloc (Nat.le_refl _) _
  have HI3 : Hid (IAt (w2.alloc (.cells #[.int .i64 q, .int .u8 (op : Int), .int .i64 a, .int .i64 b] 29)) w2.heap.size q op a b) := hide (heap_alloc_new w2 _)
  have HB3 : Hid (Below w.heap.size w (w2.alloc (.cells #[.int .i64 q, .int .u8 (op : Int), .int .i64 a, .int .i64 b] 29))) := hide ((unhide HB2).trans (hal.mono (unhide HB2).size))
  have HL3 : Hid (BAt (w2.alloc (.cells #[.int .i64 q, .int .u8 (op : Int), .int .i64 a, .int .i64 b] 29)) ao l) := hide ((unhide HL2).below' hal)
  have HR3 : Hid (BAt (w2.alloc (.cells #[.int .i64 q, .int .u8 (op : Int), .int .i64 a, .int .i64 b] 29)) (some ⟨g, 0, none⟩) (roomy l)) := hide ((unhide HR2).below' hal)
  clear hal HB2 HL2 HR2
  go_wp2_with fail
  generalize (w2.alloc (.cells #[.int .i64 q, .int .u8 (op : Int), .int .i64 a, .int .i64 b] 29)) = w3 at HI3 HB3 HL3 HR3 ⊢
  generalize w2.heap.size = g2 at HI3 ⊢
  clear w2
  have D := refDecode_any ao c l p w3 (unhide HL3) (by omega) hc
  rw [unhide HV] at D
  with_reducible refine D.mono ?_
  clear D
  rintro e w4 ⟨rfl, hB4⟩
  have hal : Below w4.heap.size w4 (w4.alloc (.cells #[.int .i64 q, .int .u8 (op : Int), .int .i64 a, .int .i64 b] 29)) := (Below.refl _ _).alloc (Nat.le_refl _) _
  have HI5 : Hid (IAt (w4.alloc (.cells #[.int .i64 q, .int .u8 (op : Int), .int .i64 a, .int .i64 b] 29)) g2 q op a b) := hide (((unhide HI3).below hB4).below hal)
  have HJ5 : Hid (IAt (w4.alloc (.cells #[.int .i64 q, .int .u8 (op : Int), .int .i64 a, .int .i64 b] 29)) w4.heap.size q op a b) := hide (heap_alloc_new w4 _)
  have HB5 : Hid (Below w.heap.size w (w4.alloc (.cells #[.int .i64 q, .int .u8 (op : Int), .int .i64 a, .int .i64 b] 29))) := hide (((unhide HB3).trans (hB4.mono (unhide HB3).size)).trans (hal.mono (Nat.le_trans (unhide HB3).size hB4.size)))
  have HL5 : Hid (BAt (w4.alloc (.cells #[.int .i64 q, .int .u8 (op : Int), .int .i64 a, .int .i64 b] 29)) ao l) := hide (((unhide HL3).below' hB4).below' hal)
  have HR5 : Hid (BAt (w4.alloc (.cells #[.int .i64 q, .int .u8 (op : Int), .int .i64 a, .int .i64 b] 29)) (some ⟨g, 0, none⟩) (roomy l)) := hide (((unhide HR3).below' hB4).below' hal)
  clear hal HB3 HL3 HR3 HI3 hB4
  generalize dcE l p = er
  obtain ⟨c1, c2, c3⟩ := (unhide HI5).c
  have c0 := (unhide HI5).c0
  obtain ⟨j1, j2, j3⟩ := (unhide HJ5).c
  have j0 := (unhide HJ5).c0
  have U := hide (fun W h1 h2 => Untouched_yes g cap ao c l W h1 h2 hcap (by omega))
  go_wp2_with (go_at_call 23; with_reducible refine (unhide U _ (unhide HR5) (unhide HL5)).mono ?_; rintro e w6 ⟨rfl, k, rfl⟩)
  go_ret
  exact ⟨ret_bool (by simp), belowD (unhide HB5) _⟩
end Go.Proofs.YtihkodfcgfnjoabDoor
