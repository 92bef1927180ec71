/-
  The contract of provisoref04.Patch: the same plain answer as code.Patch's. Conditions: lengths fit.
-/
import Derived.Test.YtihkodfcgfnjoacDoorPt2
namespace Go.Proofs.YtihkodfcgfnjoacDoor
open Go.RowKit

set_option maxHeartbeats 2000000 in
theorem refPatch_any (ao : Option Addr) (c : Nat) (L : List UInt8) (p t : Int) (w : World) (hb : BAt w ao L) (hl : L.length ≤ 140737488355328) (hc : L.length ≤ c) :
    Calls Tryd.prog 9 #[.slice ao L.length c, .int .i64 p, .int .i64 t] w fun e w' => ∃ v, e = .returned (.tuple #[v, .int .i64 (ptE L p t)]) ∧ OwnB w' w.heap.size v (ptL L p t) ∧ Below w.heap.size w w' := by
  have HL := hide hb
  clear hb
  by_cases h4 : 4096 < L.length
  · have hE : ptE L p t = 4 := by unfold ptE; rw [if_pos h4]
    have hP : ptL L p t = [] := by unfold ptL; rw [hE]; rfl
    have d1 : decide ((4096 : Int) < (L.length : Int)) = true := decide_eq_true (by omega)
    rw [hE, hP]
    clear hE hP h4
    go_enter Tryd.func9, Tryd.ntmps9
    go_wp2
    go_ret2
    exact ⟨_, rfl, World.ownsRow_nil _ _ _ _, Below.refl _ _⟩
  have d1 : decide ((4096 : Int) < (L.length : Int)) = false := decide_eq_false (by omega)
  have hD := refDecode_any ao c L p w (unhide HL) hl hc
  by_cases h0 : dcE L p = 0
  rotate_left
  · have hE : ptE L p t = dcE L p := by unfold ptE; rw [if_neg h4, if_neg h0]
    have hP : ptL L p t = [] := by unfold ptL; rw [hE, if_neg h0]
    rw [hE, hP]
    obtain ⟨q, op, a, b, _, hV⟩ := dcV_shape L p
    rw [hV] at hD
    generalize dcE L p = er at hD h0 ⊢
    have b1 : (er != 0) = true := bne_t h0
    have HD := hide hD
    clear hE hP h4 h0 hD hV
    go_enter Tryd.func9, Tryd.ntmps9
    go_wp2_with fail
    with_reducible refine (unhide HD).mono ?_
    rintro e w1 ⟨rfl, hB1⟩
    have HB : Hid (Below w.heap.size w (w1.alloc (.cells #[.int .i64 q, .int .u8 (op : Int), .int .i64 a, .int .i64 b] 37))) := hide (hB1.alloc hB1.size _)
    clear hB1
    go_wp2
    go_ret2
    exact ⟨_, rfl, World.ownsRow_nil _ _ _ _, unhide HB⟩
  obtain ⟨k, x, tl, rfl, hdr, hop, hdE, hV⟩ := dc_good h0
  obtain ⟨h34, hsz, hin⟩ := dE_good hdE
  have hlen : L.length - k = tl.length + 1 := by have := congrArg List.length hdr; simpa using this
  rw [hV, h0] at hD
  have HD := hide hD
  have hx8 := x.toNat_lt
  generalize hA : dA x.toNat tl = va at HD
  generalize dB x.toNat tl = vb at HD
  by_cases hj : opAt L (k : Int) = 19 ∨ opAt L (k : Int) = 20
  rotate_left
  · have hE : ptE L (k : Int) t = 1 := by unfold ptE; rw [if_neg h4, if_pos h0, if_neg hj]
    have hP : ptL L (k : Int) t = [] := by unfold ptL; rw [hE]; rfl
    rw [hE, hP]
    rw [hop] at hj
    generalize x.toNat = op at HD hj hx8
    have b1 : (decide (op = 19) || decide (op = 20)) = false := by simp; omega
    clear hE hP h4 h0 hD hV hdE hin hop hA hj hsz h34
    go_enter Tryd.func9, Tryd.ntmps9
    go_wp2_with fail
    with_reducible refine (unhide HD).mono ?_
    rintro e w1 ⟨rfl, hB1⟩
    have HB : Hid (Below w.heap.size w (w1.alloc (.cells #[.int .i64 (k : Int), .int .u8 (op : Int), .int .i64 va, .int .i64 vb] 37))) := hide (hB1.alloc hB1.size _)
    clear hB1
    go_wp2_with (go_at_call 23; with_reducible refine (refJumps_any op _).mono ?_; rintro e w2 ⟨rfl, rfl⟩; rw [b1])
    go_ret2
    exact ⟨_, rfl, World.ownsRow_nil _ _ _ _, unhide HB⟩
  have hj' := hj
  rw [hop] at hj'
  have hjS := (jump_wide hj').2.2
  rw [hjS] at hsz
  have b1 : (decide (x.toNat = 19) || decide (x.toNat = 20)) = true := by simp; omega
  have hf2 : fitD t 2 = decide (0 ≤ t ∧ t ≤ 65535) := by simp [fitD]
  have HFT := hide (fun W => fits_any t 2 W)
  by_cases ht : 0 ≤ t ∧ t ≤ 65535
  rotate_left
  · have hE : ptE L (k : Int) t = 5 := by unfold ptE; rw [if_neg h4, if_pos h0, if_pos hj, if_neg ht]
    have hP : ptL L (k : Int) t = [] := by unfold ptL; rw [hE]; rfl
    rw [hE, hP]
    have b2 : fitD t 2 = false := by rw [hf2]; exact decide_eq_false ht
    rw [b2] at HFT
    generalize x.toNat = op at HD b1 hx8
    clear hE hP h4 h0 hD hV hdE hin hop hA hj hsz h34 hj' hjS hf2 b2
    go_enter Tryd.func9, Tryd.ntmps9
    go_wp2_with fail
    with_reducible refine (unhide HD).mono ?_
    rintro e w1 ⟨rfl, hB1⟩
    have HB : Hid (Below w.heap.size w (w1.alloc (.cells #[.int .i64 (k : Int), .int .u8 (op : Int), .int .i64 va, .int .i64 vb] 37))) := hide (hB1.alloc hB1.size _)
    clear hB1
    go_wp2_with (first | (go_at_call 23; with_reducible refine (refJumps_any op _).mono ?_; rintro e w2 ⟨rfl, rfl⟩; rw [b1]) | (go_at_call 24; refine (unhide HFT _).mono ?_; rintro e w3 ⟨rfl, q, rfl⟩))
    go_ret2
    exact ⟨_, rfl, World.ownsRow_nil _ _ _ _, belowD (unhide HB) _⟩
  obtain ⟨y, z, r, htl⟩ : ∃ y z r, tl = y :: z :: r := by
    match tl, hsz with
    | y :: z :: r, _ => exact ⟨y, z, r, rfl⟩
  subst htl
  have hE : ptE L (k : Int) t = 0 := by unfold ptE; rw [if_neg h4, if_pos h0, if_pos hj, if_pos ht]
  have hP : ptL L (k : Int) t = (L.set (k + 1) (byI t 1)).set (k + 2) (byI t 0) := by
    unfold ptL
    rw [if_pos hE, Int.toNat_natCast, hop, UInt8.ofNat_toNat]
    exact (set_two L k x y z r hdr _ _).symm
  rw [hE, hP]
  have b2 : fitD t 2 = true := by rw [hf2]; exact decide_eq_true ht
  rw [b2] at HFT
  generalize x.toNat = op at HD b1 hx8
  have hk2 : k + 2 < L.length := by simp at hlen; omega
  have HB1 := byI_eq t 1
  have HB0 := byI_eq t 0
  simp only [Int.pow_zero, Int.ediv_one, Int.pow_one] at HB0 HB1
  generalize byI t 1 = u1 at HB1 ⊢
  generalize byI t 0 = u0 at HB0 ⊢
  obtain ⟨ht0, ht1⟩ := ht
  clear hE hP h4 h0 hD hV hdE hin hop hA hj hsz h34 hj' hjS hf2 b2 hdr hlen
  go_enter Tryd.func9, Tryd.ntmps9
  go_wp2_with fail
  with_reducible refine (unhide HD).mono ?_
  rintro e w1 ⟨rfl, hB1⟩
  have HBx : Hid (Below w.heap.size w (w1.alloc (.cells #[.int .i64 (k : Int), .int .u8 (op : Int), .int .i64 va, .int .i64 vb] 37))) := hide (hB1.alloc hB1.size _)
  clear hB1
  obtain ⟨b0, off0, rfl, _⟩ := (unhide HL).head (by omega)
  go_wp2_with fail
  with_reducible refine (refJumps_any op _).mono ?_
  rintro e w2 ⟨rfl, rfl⟩
  rw [b1]
  go_wp2_with fail
  refine (unhide HFT _).mono ?_
  rintro e w3 ⟨rfl, q, rfl⟩
  have HBy : Hid (Below w.heap.size w ((w1.alloc (.cells #[.int .i64 (k : Int), .int .u8 (op : Int), .int .i64 va, .int .i64 vb] 37)).drewN q)) := hide (belowD (unhide HBx) _)
  generalize (w1.alloc (.cells #[.int .i64 (k : Int), .int .u8 (op : Int), .int .i64 va, .int .i64 vb] 37)).drewN q = w3 at HBy ⊢
  clear HBx HFT HD q
  have HSR : Hid (SrcB w3 (.slice (some ⟨b0, off0, none⟩) L.length c) L) := hide (.inr ⟨_, c, rfl, (unhide HL).below' (unhide HBy)⟩)
  have hbase := (unhide HBy).size
  go_wp2_with (at_builtin; refine wpList_appendB rfl _ _ rfl w.heap.size _ [] rfl (World.ownsRow_nil _ _ _ _) _ L rfl (unhide HSR) (by simp; omega) hbase ?_)
  intro v4 w4 hO4 hG4 _ _

  have HB4 : Hid (Below w.heap.size w w4) := hide ((unhide HBy).trans (below_grown hG4 hbase (fun k e => by cases e)))
  obtain ⟨g, cap, rfl, hg0⟩ : ∃ g cap, v4 = .slice (some ⟨g, 0, none⟩) L.length cap ∧ w.heap.size ≤ g := by
    rcases hO4.shape with ⟨_, e⟩ | ⟨g, cap, e, hb, _⟩
    · rw [e] at hk2; simp at hk2
    · exact ⟨g, cap, e, hb⟩
  have HO4 := hide hO4
  clear hO4 hG4 HSR HBy hbase
  have k1 : w4.cell? ⟨g, k + 1, none⟩ = some (.int .u8 (at8 L (k + 1))) := by
    have h := World.ownsRow.cellAt (unhide HO4) (k + 1) (by omega)
    rw [h, bvals_get (by omega)]
  have f1 : w4.frozen? ⟨g, k + 1, none⟩ = false := World.ownsRow.frozenAt (unhide HO4) (k + 1)
  have e1 : (u1.toNat : Int) = t / 256 := by omega
  have hS5 := (World.ownsRow.stored (unhide HO4) (k + 1) (.int .u8 (u1.toNat : Int))).1
  rw [bvals_setI, e1] at hS5
  have HO5 : Hid (OwnB (w4.setCell ⟨g, k + 1, none⟩ (.int .u8 (t / 256))) w.heap.size (.slice (some ⟨g, 0, none⟩) L.length cap) (L.set (k + 1) u1)) := hide (by unfold OwnB; rw [List.length_set]; exact hS5)
  have HB5 : Hid (Below w.heap.size w (w4.setCell ⟨g, k + 1, none⟩ (.int .u8 (t / 256)))) := hide ((unhide HB4).setCell hg0 _)
  have hl5 : (L.set (k + 1) u1).length = L.length := List.length_set
  have k2 : (w4.setCell ⟨g, k + 1, none⟩ (.int .u8 (t / 256))).cell? ⟨g, k + 2, none⟩ = some (.int .u8 (at8 (L.set (k + 1) u1) (k + 2))) := by
    have h := World.ownsRow.cellAt (n := L.length) hS5 (k + 2) (by omega)
    rw [h, bvals_get (by omega)]
  have f2 : (w4.setCell ⟨g, k + 1, none⟩ (.int .u8 (t / 256))).frozen? ⟨g, k + 2, none⟩ = false := World.ownsRow.frozenAt hS5 (k + 2)
  have e0 : (u0.toNat : Int) = t % 256 := by omega
  have hS6 := (World.ownsRow.stored hS5 (k + 2) (.int .u8 (u0.toNat : Int))).1
  rw [bvals_setI, e0] at hS6
  have HO6 : Hid (OwnB ((w4.setCell ⟨g, k + 1, none⟩ (.int .u8 (t / 256))).setCell ⟨g, k + 2, none⟩ (.int .u8 (t % 256))) w.heap.size (.slice (some ⟨g, 0, none⟩) L.length cap) ((L.set (k + 1) u1).set (k + 2) u0)) := hide (by unfold OwnB; rw [List.length_set, List.length_set]; exact hS6)
  have HB6 : Hid (Below w.heap.size w ((w4.setCell ⟨g, k + 1, none⟩ (.int .u8 (t / 256))).setCell ⟨g, k + 2, none⟩ (.int .u8 (t % 256)))) := hide ((unhide HB5).setCell hg0 _)
  clear hS5 hS6 e0 e1 HB0 HB1 HO5 HB5 HB4 HO4 hl5
  have i1 : (k : Int) + 1 < (L.length : Int) := by omega
  have i2 : (k : Int) + 2 < (L.length : Int) := by omega
  go_wp2
  go_ret2
  exact ⟨_, rfl, unhide HO6, unhide HB6⟩
end Go.Proofs.YtihkodfcgfnjoacDoor
