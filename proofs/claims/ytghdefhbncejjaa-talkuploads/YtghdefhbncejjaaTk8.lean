/-
  The contracts of provisolaw24.may and awake: may a request be packed? a program that answers something.
-/
import Derived.Test.YtghdefhbncejjaaTk7
namespace Go.Proofs.Ytghdefhbncejjaa
open Go.RowKit
set_option linter.unusedVariables false

set_option maxHeartbeats 2000000 in
theorem may_ok (cm nu : Int) (ao : Option Addr) (c : Nat) (l : List UInt8) (w : World) (h1 : 0 ≤ cm) (h2 : cm ≤ 255) (h3 : 0 ≤ nu) (h4 : nu ≤ 65535) (h5 : (l.length : Int) ≤ 255) :
    Calls Try.prog 25 #[.agg #[.int .i64 cm, .int .i64 nu, .slice ao l.length c]] w fun e w' => e = .returned (.bool true) ∧ Below w.heap.size w w' := by
  have HA : Hid (Below w.heap.size w (w.alloc (.cells #[.int .i64 cm, .int .i64 nu, .slice ao l.length c] 24))) := hide ((Below.refl _ w).alloc (Nat.le_refl _) _)
  have HR : Hid (Bx (w.alloc (.cells #[.int .i64 cm, .int .i64 nu, .slice ao l.length c] 24)) w.heap.size 24 #[.int .i64 cm, .int .i64 nu, .slice ao l.length c]) := hide (heap_alloc_new w _)
  go_enter Try.func25, Try.ntmps25
  go_upto_region 1 with fail
  generalize (w.alloc (.cells #[.int .i64 cm, .int .i64 nu, .slice ao l.length c] 24)) = W0 at HA HR ⊢
  have k0 := (unhide HR).c 0 rfl
  have k1 := (unhide HR).c 1 rfl
  have k2 := (unhide HR).c 2 rfl
  go_wp2
  go_ret
  first | exact ⟨rfl, unhide HA⟩ | exact ⟨ret_bool (by simp; omega), unhide HA⟩
set_option maxHeartbeats 2000000 in
theorem may_n1 (cm nu : Int) (ao : Option Addr) (c : Nat) (l : List UInt8) (w : World) (h1 : cm < 0) :
    Calls Try.prog 25 #[.agg #[.int .i64 cm, .int .i64 nu, .slice ao l.length c]] w fun e w' => e = .returned (.bool false) ∧ Below w.heap.size w w' := by
  have HA : Hid (Below w.heap.size w (w.alloc (.cells #[.int .i64 cm, .int .i64 nu, .slice ao l.length c] 24))) := hide ((Below.refl _ w).alloc (Nat.le_refl _) _)
  have HR : Hid (Bx (w.alloc (.cells #[.int .i64 cm, .int .i64 nu, .slice ao l.length c] 24)) w.heap.size 24 #[.int .i64 cm, .int .i64 nu, .slice ao l.length c]) := hide (heap_alloc_new w _)
  go_enter Try.func25, Try.ntmps25
  go_upto_region 1 with fail
  generalize (w.alloc (.cells #[.int .i64 cm, .int .i64 nu, .slice ao l.length c] 24)) = W0 at HA HR ⊢
  have k0 := (unhide HR).c 0 rfl
  have k1 := (unhide HR).c 1 rfl
  have k2 := (unhide HR).c 2 rfl
  go_wp2
  go_ret
  first | exact ⟨rfl, unhide HA⟩ | exact ⟨ret_bool (by simp; omega), unhide HA⟩
set_option maxHeartbeats 2000000 in
theorem may_n2 (cm nu : Int) (ao : Option Addr) (c : Nat) (l : List UInt8) (w : World) (h1 : 0 ≤ cm) (h2 : 255 < cm) :
    Calls Try.prog 25 #[.agg #[.int .i64 cm, .int .i64 nu, .slice ao l.length c]] w fun e w' => e = .returned (.bool false) ∧ Below w.heap.size w w' := by
  have HA : Hid (Below w.heap.size w (w.alloc (.cells #[.int .i64 cm, .int .i64 nu, .slice ao l.length c] 24))) := hide ((Below.refl _ w).alloc (Nat.le_refl _) _)
  have HR : Hid (Bx (w.alloc (.cells #[.int .i64 cm, .int .i64 nu, .slice ao l.length c] 24)) w.heap.size 24 #[.int .i64 cm, .int .i64 nu, .slice ao l.length c]) := hide (heap_alloc_new w _)
  go_enter Try.func25, Try.ntmps25
  go_upto_region 1 with fail
  generalize (w.alloc (.cells #[.int .i64 cm, .int .i64 nu, .slice ao l.length c] 24)) = W0 at HA HR ⊢
  have k0 := (unhide HR).c 0 rfl
  have k1 := (unhide HR).c 1 rfl
  have k2 := (unhide HR).c 2 rfl
  go_wp2
  go_ret
  first | exact ⟨rfl, unhide HA⟩ | exact ⟨ret_bool (by simp; omega), unhide HA⟩
set_option maxHeartbeats 2000000 in
theorem may_n3 (cm nu : Int) (ao : Option Addr) (c : Nat) (l : List UInt8) (w : World) (h1 : 0 ≤ cm) (h2 : cm ≤ 255) (h3 : nu < 0) :
    Calls Try.prog 25 #[.agg #[.int .i64 cm, .int .i64 nu, .slice ao l.length c]] w fun e w' => e = .returned (.bool false) ∧ Below w.heap.size w w' := by
  have HA : Hid (Below w.heap.size w (w.alloc (.cells #[.int .i64 cm, .int .i64 nu, .slice ao l.length c] 24))) := hide ((Below.refl _ w).alloc (Nat.le_refl _) _)
  have HR : Hid (Bx (w.alloc (.cells #[.int .i64 cm, .int .i64 nu, .slice ao l.length c] 24)) w.heap.size 24 #[.int .i64 cm, .int .i64 nu, .slice ao l.length c]) := hide (heap_alloc_new w _)
  go_enter Try.func25, Try.ntmps25
  go_upto_region 1 with fail
  generalize (w.alloc (.cells #[.int .i64 cm, .int .i64 nu, .slice ao l.length c] 24)) = W0 at HA HR ⊢
  have k0 := (unhide HR).c 0 rfl
  have k1 := (unhide HR).c 1 rfl
  have k2 := (unhide HR).c 2 rfl
  go_wp2
  go_ret
  first | exact ⟨rfl, unhide HA⟩ | exact ⟨ret_bool (by simp; omega), unhide HA⟩
set_option maxHeartbeats 2000000 in
theorem may_n4 (cm nu : Int) (ao : Option Addr) (c : Nat) (l : List UInt8) (w : World) (h1 : 0 ≤ cm) (h2 : cm ≤ 255) (h3 : 0 ≤ nu) (h4 : 65535 < nu) :
    Calls Try.prog 25 #[.agg #[.int .i64 cm, .int .i64 nu, .slice ao l.length c]] w fun e w' => e = .returned (.bool false) ∧ Below w.heap.size w w' := by
  have HA : Hid (Below w.heap.size w (w.alloc (.cells #[.int .i64 cm, .int .i64 nu, .slice ao l.length c] 24))) := hide ((Below.refl _ w).alloc (Nat.le_refl _) _)
  have HR : Hid (Bx (w.alloc (.cells #[.int .i64 cm, .int .i64 nu, .slice ao l.length c] 24)) w.heap.size 24 #[.int .i64 cm, .int .i64 nu, .slice ao l.length c]) := hide (heap_alloc_new w _)
  go_enter Try.func25, Try.ntmps25
  go_upto_region 1 with fail
  generalize (w.alloc (.cells #[.int .i64 cm, .int .i64 nu, .slice ao l.length c] 24)) = W0 at HA HR ⊢
  have k0 := (unhide HR).c 0 rfl
  have k1 := (unhide HR).c 1 rfl
  have k2 := (unhide HR).c 2 rfl
  go_wp2
  go_ret
  first | exact ⟨rfl, unhide HA⟩ | exact ⟨ret_bool (by simp; omega), unhide HA⟩
set_option maxHeartbeats 2000000 in
theorem may_n5 (cm nu : Int) (ao : Option Addr) (c : Nat) (l : List UInt8) (w : World) (h1 : 0 ≤ cm) (h2 : cm ≤ 255) (h3 : 0 ≤ nu) (h4 : nu ≤ 65535) (h5 : 255 < (l.length : Int)) :
    Calls Try.prog 25 #[.agg #[.int .i64 cm, .int .i64 nu, .slice ao l.length c]] w fun e w' => e = .returned (.bool false) ∧ Below w.heap.size w w' := by
  have HA : Hid (Below w.heap.size w (w.alloc (.cells #[.int .i64 cm, .int .i64 nu, .slice ao l.length c] 24))) := hide ((Below.refl _ w).alloc (Nat.le_refl _) _)
  have HR : Hid (Bx (w.alloc (.cells #[.int .i64 cm, .int .i64 nu, .slice ao l.length c] 24)) w.heap.size 24 #[.int .i64 cm, .int .i64 nu, .slice ao l.length c]) := hide (heap_alloc_new w _)
  go_enter Try.func25, Try.ntmps25
  go_upto_region 1 with fail
  generalize (w.alloc (.cells #[.int .i64 cm, .int .i64 nu, .slice ao l.length c] 24)) = W0 at HA HR ⊢
  have k0 := (unhide HR).c 0 rfl
  have k1 := (unhide HR).c 1 rfl
  have k2 := (unhide HR).c 2 rfl
  go_wp2
  go_ret
  first | exact ⟨rfl, unhide HA⟩ | exact ⟨ret_bool (by simp; omega), unhide HA⟩
theorem may_yes (cm nu : Int) (ao : Option Addr) (c : Nat) (l : List UInt8) (w : World) (h : rqE cm nu l = 0) :
    Calls Try.prog 25 #[.agg #[.int .i64 cm, .int .i64 nu, .slice ao l.length c]] w fun e w' => e = .returned (.bool true) ∧ Below w.heap.size w w' := by
  obtain ⟨h1, h2, h3⟩ := rqE_len h
  exact may_ok cm nu ao c l w (by omega) (by omega) (by omega) (by omega) (by omega)
theorem may_no (cm nu : Int) (ao : Option Addr) (c : Nat) (l : List UInt8) (w : World) (h : rqE cm nu l ≠ 0) :
    Calls Try.prog 25 #[.agg #[.int .i64 cm, .int .i64 nu, .slice ao l.length c]] w fun e w' => e = .returned (.bool false) ∧ Below w.heap.size w w' := by
  by_cases h1 : cm < 0
  · exact may_n1 cm nu ao c l w h1
  by_cases h2 : 255 < cm
  · exact may_n2 cm nu ao c l w (by omega) h2
  by_cases h3 : nu < 0
  · exact may_n3 cm nu ao c l w (by omega) (by omega) h3
  by_cases h4 : 65535 < nu
  · exact may_n4 cm nu ao c l w (by omega) (by omega) (by omega) h4
  by_cases h5 : 255 < l.length
  · exact may_n5 cm nu ao c l w (by omega) (by omega) (by omega) (by omega) (by omega)
  exfalso
  apply h
  unfold rqE
  rw [if_neg (by omega), if_neg (by omega), if_neg h5]
set_option maxHeartbeats 2000000 in
theorem awake_any (w : World) : Calls Try.prog 26 #[] w fun e w' => e = .returned (.bool true) ∧ Below w.heap.size w w' := by
  have HP : Hid (Calls Try.prog 9 #[.agg #[.int .i64 1, .int .i64 0, .slice none 0 0]] w (PkPost w (rqE 1 0 []) (rqL 1 0 []))) := hide (Pack_any 1 0 none 0 [] w (BAt.nil _ _) (fun _ => ⟨rfl, rfl⟩) (by simp))
  have hE : rqE 1 0 [] = 0 := by decide
  obtain ⟨L, hL⟩ : ∃ L, L = rqL 1 0 [] := ⟨_, rfl⟩
  have h9 : L.length = 9 := by rw [hL]; exact (rq_back hE).2.2.2.2
  have a0 : at8 L 0 = 80 := by
    rw [hL]
    exact (opE_zero (rq_back hE).1).1
  have a1 : at8 L 1 = 1 := by
    have := (rq_back hE).2.1
    unfold unC at this
    rw [if_pos (rq_back hE).1] at this
    rw [hL]; exact this
  rw [hE, ← hL] at HP
  have i9 : ((L.length : Nat) : Int) = 9 := by omega
  have HI := hide i9
  have HA0 := hide a0
  have HA1 := hide a1
  clear hL h9 a0 a1 i9 hE
  go_enter Try.func26, Try.ntmps26
  go_wp2_with fail
  refine (unhide HP).mono ?_
  rintro e W1 ⟨v, rfl, hO, hb1⟩
  obtain ⟨va, vc, rfl, hva⟩ := hO.at
  obtain ⟨b, off, rfl, hc⟩ := hva.head (by have := unhide HI; omega)
  have c0 := hc 0 (by have := unhide HI; omega)
  have c1 := hc 1 (by have := unhide HI; omega)
  rw [unhide HA0] at c0
  rw [unhide HA1] at c1
  rw [Nat.add_zero] at c0
  have i0 : (0 : Int) < ((L.length : Nat) : Int) := by have := unhide HI; omega
  have i1 : (1 : Int) < ((L.length : Nat) : Int) := by have := unhide HI; omega
  have ie : (((L.length : Nat) : Int) == 9) = true := beq_t (unhide HI)
  have HB := hide hb1
  clear hc hva hO hb1 HP
  go_wp2
  go_ret
  exact ⟨rfl, unhide HB⟩
end Go.Proofs.Ytghdefhbncejjaa
