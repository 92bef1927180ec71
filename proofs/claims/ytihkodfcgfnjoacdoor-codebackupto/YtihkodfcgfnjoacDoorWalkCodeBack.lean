/-
  The walk of the law CodeBack: it returns true for every instruction and all bytes ahead and behind, and writes nothing that was there. Conditions: the bytes together are not too many.
-/
import Derived.Test.YtihkodfcgfnjoacDoorIn13
import Derived.Test.YtihkodfcgfnjoacDoorFit
import Derived.Test.YtihkodfcgfnjoacDoorApp
namespace Go.Proofs.YtihkodfcgfnjoacDoor
open Go.RowKit

theorem dE_of_enc (op : Nat) (a b : Int) (h34 : op < 34) (hin : inD op a b = true) (r : List UInt8) (p : Int) : dE (encL op a b ++ r) = 0 ∧ dV p (encL op a b ++ r) = #[.int .i64 p, .int .u8 (op : Int), .int .i64 a, .int .i64 b] := by
  obtain ⟨e0, e1, e2⟩ := dec_of_enc op a b h34 hin r
  have hE : dE (encL op a b ++ r) = 0 := by
    unfold encL dE
    simp only [List.cons_append]
    rw [e0, e1, e2, if_pos h34, if_neg, if_pos hin]
    have : sizeD op = 1 + wA op + wB op := by unfold sizeD; rw [if_pos h34]
    simp [beI_length]
    omega
  refine ⟨hE, ?_⟩
  have hE' := hE
  unfold encL at hE' ⊢
  unfold dV
  simp only [List.cons_append] at hE' ⊢
  rw [if_pos hE', e0, e1, e2]

set_option maxHeartbeats 2000000 in
theorem walkCodeBack {w : World} (hW : WidAt w) (p : Int) (op : Nat) (a b : Int) (ho : op < 256) (_ : -9223372036854775808 ≤ a ∧ a ≤ 9223372036854775807) (_ : -9223372036854775808 ≤ b ∧ b ≤ 9223372036854775807) (ao : Option Addr) (c : Nat) (l : List UInt8) (hl : BAt w ao l) (hn : ao = none → l = [] ∧ c = 0) (bo : Option Addr) (c' : Nat) (m : List UInt8) (hm : BAt w bo m) (hn' : bo = none → m = [] ∧ c' = 0) (hz : l.length + m.length ≤ 2000000) :
    Calls Tryd.prog 4 #[.agg #[.int .i64 p, .int .u8 (op : Int), .int .i64 a, .int .i64 b], .slice ao l.length c, .slice bo m.length c'] w fun e w' => e = .returned (.bool true) ∧ Below w.heap.size w w' := by
  have hr : op % 34 < 34 := Nat.mod_lt _ (by omega)
  have HB0 : Hid (Below w.heap.size w (w.alloc (.cells #[.int .i64 p, .int .u8 (op : Int), .int .i64 a, .int .i64 b] 37))) := hide ((Below.refl _ _).alloc (Nat.le_refl _) _)
  have HI0 : Hid (IAt (w.alloc (.cells #[.int .i64 p, .int .u8 (op : Int), .int .i64 a, .int .i64 b] 37)) w.heap.size p op a b) := hide (heap_alloc_new w _)
  have HL := hide hl
  have HM := hide hm
  have HW := hide hW
  have HN := hide hn
  have HN' := hide hn'
  clear hl hm hW hn hn'
  go_enter Tryd.func4, Tryd.ntmps4
  go_wp2_with fail
  generalize w.alloc (.cells #[.int .i64 p, .int .u8 (op : Int), .int .i64 a, .int .i64 b] 37) = w0 at HB0 HI0 ⊢
  with_reducible refine (fit_any p op a b w0 ho).mono ?_
  rintro e w1 ⟨⟨A, B, rfl, hin⟩, hB1⟩
  have HIN := hide hin
  have HB1 := hide ((unhide HB0).trans (hB1.mono (unhide HB0).size))
  have HI1 := hide ((unhide HI0).below hB1)
  clear HB0 HI0 hB1 hin
  obtain ⟨r, HR⟩ : ∃ r, Hid (op % 34 = r) := ⟨_, hide rfl⟩
  rw [unhide HR] at hr HIN ⊢
  clear HR
  obtain ⟨c1, c2, c3⟩ := (unhide HI1).c
  have c0 := (unhide HI1).c0
  have f0 := (unhide HI1).f 0
  have f1 := (unhide HI1).f 1
  have f2 := (unhide HI1).f 2
  have f3 := (unhide HI1).f 3
  have HI2 := hide ((unhide HI1).chain 0 r A B)
  have HB2 := hide (below_chain (unhide HB1) (Nat.le_refl _) (.int .i64 0) (.int .u8 (r : Int)) (.int .i64 A) (.int .i64 B))
  go_wp2_with fail
  generalize ((((w1.setCell ⟨w.heap.size, 0, none⟩ (.int .i64 0)).setCell ⟨w.heap.size, 1, none⟩ (.int .u8 (r : Int))).setCell ⟨w.heap.size, 2, none⟩ (.int .i64 A)).setCell ⟨w.heap.size, 3, none⟩ (.int .i64 B)) = w2 at HI2 HB2 ⊢
  clear c0 c1 c2 c3 f0 f1 f2 f3 HI1 HB1 w1 w0
  have heE : eE r A B = 0 := by unfold eE; rw [if_pos hr, if_pos (unhide HIN)]
  have heL : eL r A B = encL r A B := by unfold eL; rw [if_pos heE]
  have hlen : (encL r A B).length = 1 + wA r + wB r := encL_length r A B
  have la := wA_le r hr
  have lb := wB_le r hr
  have HSZ : Hid (sizeD r = (encL r A B).length) := hide (by unfold sizeD; rw [if_pos hr, hlen])
  have hD := dE_of_enc r A B hr (unhide HIN) m (l.length : Int)
  have E := Encode_any 0 r A B w2 ((unhide HW).below (unhide HB2)) (by omega)
  rw [heE, heL] at E
  have hpos : 0 < (encL r A B).length := by omega
  have hle : (encL r A B).length ≤ 6 := by omega
  have HD := hide hD
  clear heE heL hlen la lb hD HIN
  generalize encL r A B = x at E hpos hle HSZ HD
  with_reducible refine E.mono ?_
  clear E
  rintro e w3 ⟨v1, rfl, hO3, hB3⟩
  have HB3 : Hid (Below w2.heap.size w2 w3) := hide hB3
  have HO1 := hide hO3
  clear hO3 hB3
  obtain ⟨a1, p1, rfl, _⟩ := (unhide HO1).at
  have b0 : ((x.length : Int) == 0) = false := beq_f (by omega)
  have HG3 : Hid (Below w.heap.size w w3) := hide ((unhide HB2).trans ((unhide HB3).mono (unhide HB2).size))
  have CL := hide (Clone_any ao c l w3 ((unhide HL).below' (unhide HG3)) (fun h => (unhide HN h).1) (by omega))
  go_wp2_with fail
  with_reducible refine (unhide CL).mono ?_
  rintro e w4 ⟨v2, rfl, hO4, hB4, _⟩
  have HB4 : Hid (Below w2.heap.size w2 w4) := hide ((unhide HB3).trans (hB4.mono (unhide HB3).size))
  have HS4 : Hid (SrcB w4 (.slice a1 x.length p1) x) := hide ((unhide HO1).below hB4).src
  have HO4 : Hid (OwnB w4 w2.heap.size v2 l) := hide (hO4.mono (unhide HB3).size)
  clear hO4 hB4 CL HG3 HB3 HO1
  have hb4 := (unhide HB4).size
  go_wp2_with (at_builtin; refine wpList_appendB rfl _ _ rfl w2.heap.size _ l rfl (unhide HO4) _ x rfl (unhide HS4) (by omega) hb4 ?_)
  intro v5 w5 hO5 hG5 _ _
  have HO5 : Hid (OwnB w5 w2.heap.size v5 (l ++ x)) := hide hO5
  have HB5 : Hid (Below w2.heap.size w2 w5) := hide ((unhide HB4).trans (below_grown hG5 hb4 (fun q e => ((unhide HO4).lt q e).1)))
  clear hO5 hG5 HO4 HB4 HS4 hb4
  have HG5 : Hid (Below w.heap.size w w5) := hide ((unhide HB2).trans ((unhide HB5).mono (unhide HB2).size))
  have HS5 : Hid (SrcB w5 (.slice bo m.length c') m) := hide (by
    cases bo with
    | none =>
      obtain ⟨h1, h2⟩ := unhide HN' rfl
      exact .inl ⟨by rw [h1, h2]; rfl, h1⟩
    | some y => exact .inr ⟨y, c', rfl, (unhide HM).below' (unhide HG5)⟩)
  have hb5 := (unhide HB5).size
  have hlx : (l ++ x).length = l.length + x.length := List.length_append
  have HLX := hide hlx
  clear hlx
  go_wp2_with (at_builtin; refine wpList_appendB rfl _ _ rfl w2.heap.size _ (l ++ x) rfl (unhide HO5) _ m rfl (unhide HS5) (by have := unhide HLX; omega) hb5 ?_)
  intro v6 w6 hO6 hG6 _ _
  have HO6 : Hid (OwnB w6 w2.heap.size v6 (l ++ (x ++ m))) := hide hO6
  have HB6 : Hid (Below w2.heap.size w2 w6) := hide ((unhide HB5).trans (below_grown hG6 hb5 (fun q e => ((unhide HO5).lt q e).1)))
  clear hO6 hG6 HO5 HB5 HS5 hb5 HG5
  have HG6 : Hid (Below w.heap.size w w6) := hide ((unhide HB2).trans ((unhide HB6).mono (unhide HB2).size))
  obtain ⟨g6, p6, rfl, hc6, hb6⟩ : ∃ g6 p6, v6 = .slice (some ⟨g6, 0, none⟩) (l ++ (x ++ m)).length p6 ∧ (l ++ (x ++ m)).length ≤ p6 ∧ BAt w6 (some ⟨g6, 0, none⟩) (l ++ (x ++ m)) := by
    rcases (unhide HO6).shape with ⟨_, h2⟩ | ⟨g, cap, h1, _, _, h4, _, h6⟩
    · have := congrArg List.length h2
      rw [List.length_append, List.length_append, List.length_nil] at this
      omega
    · exact ⟨g, cap, h1, h4, h6⟩
  have hall : (l ++ (x ++ m)).length = l.length + x.length + m.length := by rw [List.length_append, List.length_append]; omega
  have D := Decode_any (some ⟨g6, 0, none⟩) p6 (l ++ (x ++ m)) (l.length : Int) w6 hb6 ((unhide HW).below (unhide HG6)) (by omega) hc6
  have e1 : dcE (l ++ (x ++ m)) (l.length : Int) = 0 := by
    unfold dcE
    rw [if_neg (by omega), Int.toNat_natCast, List.drop_left]
    exact (unhide HD).1
  have e2 : dcV (l ++ (x ++ m)) (l.length : Int) = #[.int .i64 (l.length : Int), .int .u8 (r : Int), .int .i64 A, .int .i64 B] := by
    unfold dcV
    rw [if_neg (by omega), Int.toNat_natCast, List.drop_left]
    exact (unhide HD).2
  rw [e1, e2] at D
  clear e1 e2 hb6 HO6 HG6 hc6 HD
  generalize (l ++ (x ++ m)).length = nn at D hall ⊢
  have HD6 := hide D
  clear D hall
  go_wp2_with fail
  with_reducible refine (unhide HD6).mono ?_
  rintro e w7 ⟨rfl, hB7⟩
  have hal : Below w7.heap.size w7 (w7.alloc (.cells #[.int .i64 (l.length : Int), .int .u8 (r : Int), .int .i64 A, .int .i64 B] 37)) := (Below.refl _ _).alloc (Nat.le_refl _) _
  have HB8 : Hid (Below w2.heap.size w2 (w7.alloc (.cells #[.int .i64 (l.length : Int), .int .u8 (r : Int), .int .i64 A, .int .i64 B] 37))) := hide (((unhide HB6).trans (hB7.mono (unhide HB6).size)).trans (hal.mono (Nat.le_trans (unhide HB6).size hB7.size)))
  have HJ8 : Hid (IAt (w7.alloc (.cells #[.int .i64 (l.length : Int), .int .u8 (r : Int), .int .i64 A, .int .i64 B] 37)) w7.heap.size (l.length : Int) r A B) := hide (heap_alloc_new w7 _)
  have hlt7 : w.heap.size < w7.heap.size := Nat.lt_of_lt_of_le (unhide HI2).lt (Nat.le_trans (unhide HB6).size hB7.size)
  clear hal hB7 HB6 HD6
  have HI8 := hide ((unhide HI2).below (unhide HB8))
  have HB9 : Hid (Below w.heap.size w (w7.alloc (.cells #[.int .i64 (l.length : Int), .int .u8 (r : Int), .int .i64 A, .int .i64 B] 37))) := hide ((unhide HB2).trans ((unhide HB8).mono (unhide HB2).size))
  have HW9 := hide ((unhide HW).below (unhide HB9))
  clear HI2 HB2 HB8 HL HM
  obtain ⟨c1, c2, c3⟩ := (unhide HI8).c
  have c0 := (unhide HI8).c0
  have f0 := (unhide HI8).f 0
  obtain ⟨d1, d2, d3⟩ := (unhide HJ8).c
  have d0 := (unhide HJ8).c0
  have hne : ¬ w7.heap.size = w.heap.size := by omega
  have hne' : ¬ w.heap.size = w7.heap.size := by omega
  have HS := hide (Size_any r ((w7.alloc (.cells #[.int .i64 (l.length : Int), .int .u8 (r : Int), .int .i64 A, .int .i64 B] 37)).setCell ⟨w.heap.size, 0, none⟩ (.int .i64 (l.length : Int))) ((unhide HW).below ((unhide HB9).setCell (Nat.le_refl _) _)) (by omega))
  rw [unhide HSZ] at HS
  have HF : Hid (Below w.heap.size w ((w7.alloc (.cells #[.int .i64 (l.length : Int), .int .u8 (r : Int), .int .i64 A, .int .i64 B] 37)).setCell ⟨w.heap.size, 0, none⟩ (.int .i64 (l.length : Int)))) := hide ((unhide HB9).setCell (Nat.le_refl _) _)
  clear HI8 HJ8 HW9 HB9 HSZ hlt7 HN HN' HLX b0
  go_wp2_with (go_at_call 18; with_reducible refine (unhide HS).mono ?_; rintro e w9 ⟨rfl, q, rfl⟩)
  go_ret
  exact ⟨ret_bool (by simp), belowD (unhide HF) _⟩
end Go.Proofs.YtihkodfcgfnjoacDoor
