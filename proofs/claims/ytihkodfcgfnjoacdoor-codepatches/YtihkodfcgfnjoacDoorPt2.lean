/-
  The contracts of code.Patch and provisoref04.Patch: the same plain answer. Conditions: the widths lie there, lengths fit.
-/
import Derived.Test.YtihkodfcgfnjoacDoorPt1
import Derived.Test.YtihkodfcgfnjoacDoorIn5
namespace Go.Proofs.YtihkodfcgfnjoacDoor
open Go.RowKit

theorem size8p : (Tryd.prog.info? 5).map (·.size) = some 1 := by kernel_rfl

set_option maxHeartbeats 2000000 in
theorem Patch_any (ao : Option Addr) (c : Nat) (L : List UInt8) (p t : Int) (w : World) (hb : BAt w ao L) (hn : ao = none → L = []) (hW : WidAt w) (hl : L.length ≤ 140737488355328) (hc : L.length ≤ c) :
    Calls Tryd.prog 8 #[.slice ao L.length c, .int .i64 p, .int .i64 t] w fun e w' => ∃ v, e = .returned (.tuple #[v, .int .i64 (ptE L p t)]) ∧ OwnB w' w.heap.size v (ptL L p t) ∧ Below w.heap.size w w' := by
  have HL := hide hb
  have HW := hide hW
  clear hb hW
  by_cases h4 : 4096 < L.length
  · have hE : ptE L p t = 4 := by unfold ptE; rw [if_pos h4]
    have hP : ptL L p t = [] := by unfold ptL; rw [hE]; rfl
    have d1 : decide ((4096 : Int) < (L.length : Int)) = true := decide_eq_true (by omega)
    rw [hE, hP]
    clear hE hP h4
    go_enter Tryd.func8, Tryd.ntmps8
    go_wp2
    go_ret2
    exact ⟨_, rfl, World.ownsRow_nil _ _ _ _, Below.refl _ _⟩
  have d1 : decide ((4096 : Int) < (L.length : Int)) = false := decide_eq_false (by omega)
  have hD := Decode_any ao c L p w (unhide HL) (unhide HW) hl hc
  by_cases h0 : dcE L p = 0
  rotate_left
  · have hE : ptE L p t = dcE L p := by unfold ptE; rw [if_neg h4, if_neg h0]
    have hP : ptL L p t = [] := by unfold ptL; rw [hE, if_neg h0]
    rw [hE, hP]
    obtain ⟨q, op, a, b, _, hV⟩ := dcV_shape L p
    rw [hV] at hD
    generalize dcE L p = er at hD h0 ⊢
    have b1 : (er != 0) = true := bne_t h0
    have HD := hide hD
    clear hE hP h4 h0 hD hV
    go_enter Tryd.func8, Tryd.ntmps8
    go_wp2_with fail
    with_reducible refine (unhide HD).mono ?_
    rintro e w1 ⟨rfl, hB1⟩
    have HB : Hid (Below w.heap.size w (w1.alloc (.cells #[.int .i64 q, .int .u8 (op : Int), .int .i64 a, .int .i64 b] 37))) := hide (hB1.alloc hB1.size _)
    clear hB1
    go_wp2
    go_ret2
    exact ⟨_, rfl, World.ownsRow_nil _ _ _ _, unhide HB⟩
  obtain ⟨k, x, tl, rfl, hdr, hop, hdE, hV⟩ := dc_good h0
  obtain ⟨h34, hsz, hin⟩ := dE_good hdE
  have hlen : L.length - k = tl.length + 1 := by have := congrArg List.length hdr; simpa using this
  rw [hV, h0] at hD
  have HD := hide hD
  have hx8 := x.toNat_lt
  generalize hA : dA x.toNat tl = va at HD
  by_cases hj : opAt L (k : Int) = 19 ∨ opAt L (k : Int) = 20
  rotate_left
  · have hE : ptE L (k : Int) t = 1 := by unfold ptE; rw [if_neg h4, if_pos h0, if_neg hj]
    have hP : ptL L (k : Int) t = [] := by unfold ptL; rw [hE]; rfl
    rw [hE, hP]
    rw [hop] at hj
    generalize dB x.toNat tl = vb at HD
    generalize x.toNat = op at HD hj hx8
    have b1 : (decide (op = 19) || decide (op = 20)) = false := by simp; omega
    clear hE hP h4 h0 hD hV hdE hin hop hA hj hsz h34
    go_enter Tryd.func8, Tryd.ntmps8
    go_wp2_with fail
    with_reducible refine (unhide HD).mono ?_
    rintro e w1 ⟨rfl, hB1⟩
    have HB : Hid (Below w.heap.size w (w1.alloc (.cells #[.int .i64 (k : Int), .int .u8 (op : Int), .int .i64 va, .int .i64 vb] 37))) := hide (hB1.alloc hB1.size _)
    clear hB1
    go_wp2_with (go_at_call 21; with_reducible refine (Jumps_any op _).mono ?_; rintro e w2 ⟨rfl, rfl⟩; rw [b1])
    go_ret2
    exact ⟨_, rfl, World.ownsRow_nil _ _ _ _, unhide HB⟩
  rw [hop] at hj
  have hjB := dB_jump hj tl
  rw [hjB] at HD
  have hjE := jump_in hj t
  have hjL := jump_enc hj t
  have hjS := (jump_wide hj).2.2
  rw [hjS] at hsz
  have HP : Hid (ptE L (k : Int) t = eE x.toNat t 0) := hide (by unfold ptE; rw [if_neg h4, if_pos h0, hop, if_pos hj, hjE])
  have HQ : Hid (ptL L (k : Int) t = if eE x.toNat t 0 = 0 then splice L k (eL x.toNat t 0) else []) := hide (by
    unfold ptL
    rw [unhide HP]
    by_cases h : eE x.toNat t 0 = 0
    · rw [if_pos h, if_pos h, Int.toNat_natCast, hop]
      unfold eL
      rw [if_pos h, hjL]
    · rw [if_neg h, if_neg h])
  have HEN := hide (fun W h => Encode_any (k : Int) x.toNat t 0 W h (by omega))
  have HLE : Hid (eE x.toNat t 0 = 0 → (eL x.toNat t 0).length = 3) := hide (fun h => by unfold eL; rw [if_pos h, hjL]; rfl)
  generalize x.toNat = op at HD hj hx8 HP HQ HEN HLE
  have b1 : (decide (op = 19) || decide (op = 20)) = true := by simp; omega
  rw [unhide HP, unhide HQ]
  generalize eE op t 0 = er at HEN HLE ⊢
  generalize eL op t 0 = m at HEN HLE ⊢
  clear h4 h0 hD hV hdE hin hop hA hj HP HQ hjB hjE hjL hjS h34 hdr
  go_enter Tryd.func8, Tryd.ntmps8
  go_wp2_with fail
  with_reducible refine (unhide HD).mono ?_
  rintro e w1 ⟨rfl, hB1⟩
  have HB2 : Hid (Below w.heap.size w (w1.alloc (.cells #[.int .i64 (k : Int), .int .u8 (op : Int), .int .i64 t, .int .i64 0] 37))) := hide (hB1.alloc hB1.size _)
  clear hB1 HD
  go_wp2_with (go_at_call 21; with_reducible refine (Jumps_any op _).mono ?_; rintro e w2 ⟨rfl, rfl⟩; rw [b1])
  generalize (w1.alloc (.cells #[.int .i64 (k : Int), .int .u8 (op : Int), .int .i64 t, .int .i64 0] 37)) = w2 at HB2 ⊢
  generalize w1.heap.size = g1
  clear w1
  with_reducible refine (unhide HEN _ ((unhide HW).below (unhide HB2))).mono ?_
  rintro e w3 ⟨v3, rfl, hO3, hB3⟩
  have HB3 : Hid (Below w.heap.size w w3) := hide ((unhide HB2).trans (hB3.mono (unhide HB2).size))
  have HO3 := hide hO3
  clear hO3 hB3 HB2 HEN
  by_cases he : er = 0
  rotate_left
  · have HH := hide he
    have b2 : (er != 0) = true := bne_t he
    clear he HO3
    go_wp2
    go_ret2
    refine ⟨_, rfl, ?_, unhide HB3⟩
    first
      | exact World.ownsRow_nil _ _ _ _
      | (rw [if_neg (unhide HH)]; exact World.ownsRow_nil _ _ _ _)
  subst he
  have hm3 := unhide HLE rfl
  have CL := hide (Clone_any ao c L w3 ((unhide HL).below' (unhide HB3)) hn hl)
  clear HLE hn
  go_wp2_with (go_at_call 16; with_reducible refine (unhide CL).mono ?_; rintro e w4 ⟨v4, rfl, hO4, hB4, _⟩)
  have HB4 : Hid (Below w.heap.size w w4) := hide ((unhide HB3).trans (hB4.mono (unhide HB3).size))
  obtain ⟨g, cap, cur, rfl, hg0, hcap, hcur, hcl⟩ : ∃ g cap cur, v4 = .slice (some ⟨g, 0, none⟩) L.length cap ∧ w3.heap.size ≤ g ∧ L.length ≤ cap ∧ w4.heap[g]? = some (.cells cur 5 (0, 0)) ∧ cur.toList.length = cap := by
    rcases hO4.2 with ⟨_, e⟩ | ⟨g, cap, cur, hv, hb, hh, hn, hm, hs, ht⟩
    · omega
    · exact ⟨g, cap, cur, hv, hb, hn, hh, by simpa using hs⟩
  have HO4 := hide (hO4.mono (unhide HB3).size)
  have HS3 := hide ((unhide HO3).below hB4).src
  obtain ⟨a3, p3, rfl, hb3⟩ := ((unhide HO3).below hB4).at
  have HB3' := hide hb3
  have HC : Hid (w4.heap[g]? = some (.cells cur.toList.toArray 5 (0, 0))) := hide (by simpa using hcur)
  have HC0 := hide hcur
  have hbg := Nat.le_trans (unhide HB3).size hg0
  clear hO4 hB4 CL HO3 hb3 hcur
  have i1 : ¬ cap = k := by omega
  have i2 : (k : Int) ≤ (L.length : Int) := by omega
  have i3 : (L.length : Int) ≤ (cap : Int) := by omega
  have i4 : k ≤ L.length := by omega
  have i5 : k + 3 ≤ L.length := by omega
  have HM3 := hide hm3
  have HCL := hide hcl
  rw [hm3]
  clear hlen hm3 hcl hsz
  go_wp2_with fail
  go_simp
  go_wp2_with (refine wpList_copy_splice rfl _ _ 22 22 rfl 5 Tryd.underlying22 size8p (some ⟨g, k, none⟩) a3 (L.length - k) (cap - k) 3 p3 rfl rfl g k cur.toList 5 (unhide HC) (bvals m) ?d1 ?d2 ?d3 (bvals_one m) w.heap.size w (unhide HB4) hbg ?_)
  case d1 => rw [bvals_length, unhide HM3]; exact (Nat.min_eq_left (by omega)).symm
  case d2 =>
    intro _
    obtain ⟨b, off, rfl, hc⟩ := (unhide HB3').head (by have := unhide HM3; omega)
    refine ⟨_, rfl, fun j v hj => ?_⟩
    have hjl : j < m.length := by
      have := (List.getElem?_eq_some_iff.1 hj).1
      rw [bvals_length] at this; exact this
    rw [bvals_get hjl] at hj
    injection hj with hj
    subst hj
    rw [Addr.add_lit]
    exact hc j hjl
  case d3 => rw [bvals_length, unhide HCL, unhide HM3]; omega
  intro w5 H5 hB5
  have HO5 : Hid (OwnB w5 w.heap.size (.slice (some ⟨g, 0, none⟩) L.length cap) (splice L k m)) := hide (own_spliced (unhide HC0) (unhide HO4) (by rw [unhide HM3]; omega) (unhide H5))
  have HB5 := hide hB5
  clear hB5 H5 HC HC0 HO4 HS3 HB3' HB4 HB3
  go_wp2
  go_ret2
  refine ⟨_, rfl, ?_, unhide HB5⟩
  first
    | exact unhide HO5
    | (rw [if_pos rfl]; exact unhide HO5)
end Go.Proofs.YtihkodfcgfnjoacDoor
