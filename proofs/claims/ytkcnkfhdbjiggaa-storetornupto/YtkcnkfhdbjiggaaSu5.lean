/-
  Contracts of the document's record: the same bytes as the store's, in new memory.
-/
import Derived.Test.YtkcnkfhdbjiggaaSu4
import Derived.Test.YtkcnkfhdbjiggaaRPut
namespace Go.Proofs.Ytkcnkfhdbjiggaa
open Go.RowKit
set_option maxRecDepth 20000

theorem lit_own {w : World} (xs : List UInt8) (cs : Array Value) (hc : cs.toList = bvals xs) (hx : xs.length ≤ 100) : OwnB (w.alloc (.cells cs 5)) w.heap.size (.slice (some ⟨w.heap.size, 0, none⟩) xs.length xs.length) xs :=
  ⟨by rw [bvals_length, Nat.mul_one], Or.inr ⟨w.heap.size, xs.length, cs, rfl, Nat.le_refl _, heap_alloc_new w _, Nat.le_refl _, by unfold maxLen; omega, by rw [← Array.length_toList, hc, bvals_length, Nat.mul_one], by rw [hc, Nat.mul_one, List.take_of_length_le (by rw [bvals_length]; exact Nat.le_refl _)]⟩⟩
theorem be_cells {n : Nat} (h : n ≤ 4096) : (#[Value.int .u8 ((n : Int) / 256), Value.int .u8 ((n : Int) % 256)]).toList = bvals (be (n : Int) 2) := by
  have e : be (n : Int) 2 = [byteOf (n : Int) 1, byteOf (n : Int) 0] := by unfold be; rfl
  have h1 : ((byteOf (n : Int) 1).toNat : Int) = (n : Int) / 256 := by rw [byteOf_eq]; omega
  have h0 : ((byteOf (n : Int) 0).toNat : Int) = (n : Int) % 256 := by rw [byteOf_eq]; omega
  rw [e]
  unfold bvals
  simp [h1, h0]
set_option maxHeartbeats 2000000 in
theorem record2_any (s : ByteArray) (w : World) (hs : nameB s = true) :
    Calls Try.prog 38 #[.int .u8 2, .string s, .slice none 0 0] w fun e w' => ∃ v, e = .returned v ∧ OwnB w' w.heap.size v (recD s) ∧ Below w.heap.size w w' := by
  obtain ⟨hs1, hs24⟩ := name_24 hs
  have hsz : (s.size : Int) % 256 = (s.size : Int) := by omega
  have hx : ((s.size : Nat) : Int) = ((UInt8.ofNat s.size).toNat : Int) := by rw [UInt8.toNat_ofNat_of_lt' (by show _ < 256; omega)]
  have hcv := fun (w : World) => run_bytes_of_string (P := Try.prog) w 9 25 5 s Try.underlying9 Try.underlying25 Try.underlying5
  have hln : s.data.toList.length = s.size := by simp
  obtain ⟨Z1, hZ1⟩ : ∃ Z1, Z1 = (w.alloc (.cells #[.int .u8 2, .int .u8 (s.size : Int)] 5)) := ⟨_, rfl⟩
  have hs1z : Z1.heap.size = w.heap.size + 1 := by rw [hZ1]; simp
  obtain ⟨Z2, hZ2⟩ : ∃ Z2, Z2 = Z1.drew.alloc (.cells (bytesRow s (grownCap Z1 s.size 0 5)) 5 ((bytesRow s (grownCap Z1 s.size 0 5)).size, (bytesRow s (grownCap Z1 s.size 0 5)).size + 1)) := ⟨_, rfl⟩
  have b1 : Below w.heap.size w Z1 := by rw [hZ1]; exact (Below.refl _ _).alloc (Nat.le_refl _) _
  have b2 : Below Z1.heap.size Z1 Z2 := by rw [hZ2]; exact ⟨rfl, rfl, rfl, by simp, fun k hk => heap_alloc_old Z1.drew _ hk⟩
  have HO1 : Hid (OwnB Z2 w.heap.size (.slice (some ⟨w.heap.size, 0, none⟩) 2 2) [2, UInt8.ofNat s.size]) := hide (by
    have h : OwnB Z1 w.heap.size (.slice (some ⟨w.heap.size, 0, none⟩) 2 2) [2, UInt8.ofNat s.size] := by
      rw [hZ1]
      exact lit_own [2, UInt8.ofNat s.size] _ (by rw [hx]; rfl) (by simp)
    exact h.below b2)
  have HSB : Hid (SrcB Z2 (.slice (some ⟨w.heap.size + 1, 0, none⟩) s.size (grownCap Z1 s.size 0 5)) s.data.toList) := hide (Or.inr ⟨_, _, by rw [hln], by
    have := BAt.ofString Z1.drew s (grownCap Z1 s.size 0 5) ((bytesRow s (grownCap Z1 s.size 0 5)).size, (bytesRow s (grownCap Z1 s.size 0 5)).size + 1) 5
    rw [← hZ2] at this
    rw [← hs1z]
    exact this⟩)
  have HB2 := hide (b1.trans (b2.mono b1.size))
  have HZ2 : Hid (Z2 = ((w.alloc (.cells #[.int .u8 2, .int .u8 (s.size : Int)] 5)).alloc (.cells (bytesRow s (grownCap (w.alloc (.cells #[.int .u8 2, .int .u8 (s.size : Int)] 5)) s.size 0 5)) 5 ((bytesRow s (grownCap (w.alloc (.cells #[.int .u8 2, .int .u8 (s.size : Int)] 5)) s.size 0 5)).size, (bytesRow s (grownCap (w.alloc (.cells #[.int .u8 2, .int .u8 (s.size : Int)] 5)) s.size 0 5)).size + 1))).drew) := hide (by rw [hZ2, hZ1]; rfl)
  rw [hZ1] at HSB
  clear hZ2 hs1z b1 b2 hx hln hZ1
  go_enter Try.func38, Try.ntmps38
  go_wp2_with (at_builtin; rw [← unhide HZ2]; refine wpList_appendB rfl (.tmp 12) (.tmp 14) rfl w.heap.size (.slice (some ⟨w.heap.size, 0, none⟩) 2 2) [2, UInt8.ofNat s.size] rfl (unhide HO1) _ s.data.toList rfl (unhide HSB) ?z6 ?z4 ?_)
  case z6 => simp; omega
  try (case z4 => exact (unhide HB2).size)
  intro v3 w3 hO3 hG3 hF3 hF4
  have HB3 := hide ((unhide HB2).grown hG3 (unhide HB2).size (fun q e => (World.ownsRow.lt (unhide HO1) q e).1))
  have HO3 : Hid (OwnB w3 w.heap.size v3 ([2] ++ nb s)) := hide hO3
  obtain ⟨R, hR⟩ : ∃ R : List UInt8, R = [2] ++ nb s := ⟨_, rfl⟩
  have hRL : R.length ≤ 100 := by rw [hR, List.length_append, nb_len]; simp; omega
  rw [← hR] at HO3
  obtain ⟨a3, c3, hv3, -⟩ := (unhide HO3).at
  subst hv3
  have HRR := hide hR
  clear hO3 hG3 hF3 hF4 HZ2 hcv HO1 HSB hR HB2
  go_wp2
  go_ret
  exact ⟨_, rfl, by unfold recD; rw [← unhide HRR]; exact unhide HO3, unhide HB3⟩
set_option maxHeartbeats 2000000 in
theorem record1_any (s : ByteArray) (ao : Option Addr) (c : Nat) (m : List UInt8) (w : World) (hs : nameB s = true) (hb : BAt w ao m) (hn : ao = none → m = [] ∧ c = 0) (hm : m.length ≤ 4096) :
    Calls Try.prog 38 #[.int .u8 1, .string s, .slice ao m.length c] w fun e w' => ∃ v, e = .returned v ∧ OwnB w' w.heap.size v (recK s m) ∧ Below w.heap.size w w' := by
  obtain ⟨hs1, hs24⟩ := name_24 hs
  have hsz : (s.size : Int) % 256 = (s.size : Int) := by omega
  have hx : ((s.size : Nat) : Int) = ((UInt8.ofNat s.size).toNat : Int) := by rw [UInt8.toNat_ofNat_of_lt' (by show _ < 256; omega)]
  have hcv := fun (w : World) => run_bytes_of_string (P := Try.prog) w 9 25 5 s Try.underlying9 Try.underlying25 Try.underlying5
  have hln : s.data.toList.length = s.size := by simp
  obtain ⟨Z1, hZ1⟩ : ∃ Z1, Z1 = (w.alloc (.cells #[.int .u8 1, .int .u8 (s.size : Int)] 5)) := ⟨_, rfl⟩
  have hs1z : Z1.heap.size = w.heap.size + 1 := by rw [hZ1]; simp
  obtain ⟨Z2, hZ2⟩ : ∃ Z2, Z2 = Z1.drew.alloc (.cells (bytesRow s (grownCap Z1 s.size 0 5)) 5 ((bytesRow s (grownCap Z1 s.size 0 5)).size, (bytesRow s (grownCap Z1 s.size 0 5)).size + 1)) := ⟨_, rfl⟩
  have b1 : Below w.heap.size w Z1 := by rw [hZ1]; exact (Below.refl _ _).alloc (Nat.le_refl _) _
  have b2 : Below Z1.heap.size Z1 Z2 := by rw [hZ2]; exact ⟨rfl, rfl, rfl, by simp, fun k hk => heap_alloc_old Z1.drew _ hk⟩
  have HO1 : Hid (OwnB Z2 w.heap.size (.slice (some ⟨w.heap.size, 0, none⟩) 2 2) [1, UInt8.ofNat s.size]) := hide (by
    have h : OwnB Z1 w.heap.size (.slice (some ⟨w.heap.size, 0, none⟩) 2 2) [1, UInt8.ofNat s.size] := by
      rw [hZ1]
      exact lit_own [1, UInt8.ofNat s.size] _ (by rw [hx]; rfl) (by simp)
    exact h.below b2)
  have HSB : Hid (SrcB Z2 (.slice (some ⟨w.heap.size + 1, 0, none⟩) s.size (grownCap Z1 s.size 0 5)) s.data.toList) := hide (Or.inr ⟨_, _, by rw [hln], by
    have := BAt.ofString Z1.drew s (grownCap Z1 s.size 0 5) ((bytesRow s (grownCap Z1 s.size 0 5)).size, (bytesRow s (grownCap Z1 s.size 0 5)).size + 1) 5
    rw [← hZ2] at this
    rw [← hs1z]
    exact this⟩)
  have HB2 := hide (b1.trans (b2.mono b1.size))
  have HZ2 : Hid (Z2 = ((w.alloc (.cells #[.int .u8 1, .int .u8 (s.size : Int)] 5)).alloc (.cells (bytesRow s (grownCap (w.alloc (.cells #[.int .u8 1, .int .u8 (s.size : Int)] 5)) s.size 0 5)) 5 ((bytesRow s (grownCap (w.alloc (.cells #[.int .u8 1, .int .u8 (s.size : Int)] 5)) s.size 0 5)).size, (bytesRow s (grownCap (w.alloc (.cells #[.int .u8 1, .int .u8 (s.size : Int)] 5)) s.size 0 5)).size + 1))).drew) := hide (by rw [hZ2, hZ1]; rfl)
  have HBt := hide hb
  have HNN := hide hn
  clear hb hn
  rw [hZ1] at HSB
  clear hZ2 hs1z b1 b2 hx hln hZ1
  go_enter Try.func38, Try.ntmps38
  go_wp2_with (at_builtin; rw [← unhide HZ2]; refine wpList_appendB rfl (.tmp 12) (.tmp 14) rfl w.heap.size (.slice (some ⟨w.heap.size, 0, none⟩) 2 2) [1, UInt8.ofNat s.size] rfl (unhide HO1) _ s.data.toList rfl (unhide HSB) ?z6 ?z4 ?_)
  case z6 => simp; omega
  try (case z4 => exact (unhide HB2).size)
  intro v3 w3 hO3 hG3 hF3 hF4
  have HB3 := hide ((unhide HB2).grown hG3 (unhide HB2).size (fun q e => (World.ownsRow.lt (unhide HO1) q e).1))
  have HO3 : Hid (OwnB w3 w.heap.size v3 ([1] ++ nb s)) := hide hO3
  obtain ⟨R, hR⟩ : ∃ R : List UInt8, R = [1] ++ nb s := ⟨_, rfl⟩
  have hRL : R.length ≤ 100 := by rw [hR, List.length_append, nb_len]; simp; omega
  rw [← hR] at HO3
  obtain ⟨a3, c3, hv3, -⟩ := (unhide HO3).at
  subst hv3
  have HRR := hide hR
  clear hO3 hG3 hF3 hF4 HZ2 hcv HO1 HSB hR HB2
  have hal : Below w3.heap.size w3 (w3.alloc (.cells #[.int .u8 ((m.length : Int) / 256), .int .u8 ((m.length : Int) % 256)] 5)) := (Below.refl _ _).alloc (Nat.le_refl _) _
  have HL5 : Hid (OwnB (w3.alloc (.cells #[.int .u8 ((m.length : Int) / 256), .int .u8 ((m.length : Int) % 256)] 5)) w3.heap.size (.slice (some ⟨w3.heap.size, 0, none⟩) 2 2) (be (m.length : Int) 2)) := hide (lit_own (be (m.length : Int) 2) _ (be_cells hm) (by rw [be_length]; omega))
  have HO5 := hide ((unhide HO3).below hal)
  have HB5 := hide ((unhide HB3).trans (hal.mono (unhide HB3).size))
  clear hal
  go_wp2_with (at_builtin; refine wpList_appendB rfl (.tmp 18) (.tmp 26) rfl w.heap.size (.slice a3 R.length c3) R rfl (unhide HO5) (.slice (some ⟨w3.heap.size, 0, none⟩) 2 2) (be (m.length : Int) 2) rfl (unhide HL5).src ?z6 ?z4 ?_)
  case z6 => rw [be_length]; omega
  try (case z4 => exact (unhide HB5).size)
  intro v6 w6 hO6 hG6 hF6 hF7
  have HB6 := hide ((unhide HB5).grown hG6 (unhide HB5).size (fun q e => (World.ownsRow.lt (unhide HO5) q e).1))
  obtain ⟨R6, hR6⟩ : ∃ R6, R6 = R ++ be (m.length : Int) 2 := ⟨_, rfl⟩
  have hRL6 : R6.length ≤ 200 := by rw [hR6, List.length_append, be_length]; omega
  rw [← hR6] at hO6
  have HO6 := hide hO6
  obtain ⟨a6, c6, hv6, -⟩ := hO6.at
  subst hv6
  have HR6 := hide hR6
  have HSm := hide (srcB_all ((unhide HBt).below' (unhide HB6)) (unhide HNN))
  clear hO6 hG6 hF6 hF7 hR6 HB5 HO5 HL5
  go_wp2_with (at_builtin; refine wpList_appendB rfl (.tmp 28) (.tmp 29) rfl w.heap.size (.slice a6 R6.length c6) R6 rfl (unhide HO6) (.slice ao m.length c) m rfl (unhide HSm) ?z6 ?z4 ?_)
  case z6 => omega
  try (case z4 => exact (unhide HB6).size)
  intro v7 w7 hO7 hG7 hF7 hF8
  have HB7 := hide ((unhide HB6).grown hG7 (unhide HB6).size (fun q e => (World.ownsRow.lt (unhide HO6) q e).1))
  have HO7 : Hid (OwnB w7 w.heap.size v7 (recK s m)) := hide (by unfold recK; rw [← unhide HRR, ← unhide HR6]; exact hO7)
  clear hO7 hG7 hF7 hF8
  go_wp2
  go_ret
  exact ⟨_, rfl, unhide HO7, unhide HB7⟩
end Go.Proofs.Ytkcnkfhdbjiggaa
