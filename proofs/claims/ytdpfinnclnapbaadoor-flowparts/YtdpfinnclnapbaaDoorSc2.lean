/-
  provisoref05.Scan: the same plain answer as flow.Scan (Sc1).
-/
import Derived.Test.YtdpfinnclnapbaaDoorSc1
namespace Go.Proofs.YtdpfinnclnapbaaDoor
open Go.RowKit
set_option maxRecDepth 20000

set_option maxRecDepth 20000 in
set_option maxHeartbeats 4000000 in
theorem refScan_any (ao : Option Addr) (c : Nat) (L : List UInt8) (w : World) (hb : BAt w ao L) (hl : L.length ≤ 140737488355328) (hc : L.length ≤ c) :
    Calls Tryd.prog 5 #[.slice ao L.length c] w fun e w' => ∃ v, e = .returned (.tuple #[v, .int .i64 ((scR L).2.1 : Int), .int .i64 (scR L).2.2]) ∧ OwnX w' w.heap.size v (scR L).1 ∧ xok (scR L).1 ∧ Below w.heap.size w w' := by
  obtain ⟨i0, hi, hz0, hz1, hz2⟩ := info_parts infoX
  have HBt := hide hb
  clear hb
  go_enter Tryd.func5, Tryd.ntmps5
  by_cases hlong : 4096 < L.length
  · have i1 : ((L.length : Nat) : Int) > 4096 := by omega
    have HR : Hid (scR L = ([], 0, 4)) := hide (if_pos hlong)
    go_wp2
    go_ret3
    rw [unhide HR]
    exact ⟨_, rfl, OwnX.nil _ _, (fun x hx => by cases hx), Below.refl _ _⟩
  · have i1 : ¬ ((L.length : Nat) : Int) > 4096 := by omega
    go_wp2
    go_loopw [5, 6] (fun v i wr => ∃ (k f : Nat) (A : List Ix), k ≤ L.length ∧ L.length < f + k ∧ A.length ≤ k ∧ i = .int .i64 (k : Int) ∧ Hid (scD L (L.length + 1) 0 = (A ++ (scD L f k).1, (scD L f k).2)) ∧ Hid (OwnX wr w.heap.size v A) ∧ Hid (xok A) ∧ Hid (Below w.heap.size w wr)) (fun _ i _ => L.length - (intOf i).toNat)
    case atStart => exact ⟨0, L.length + 1, [], by omega, by omega, by simp, rfl, hide (by simp), hide (OwnX.nil _ _), hide (fun x hx => by cases hx), hide (Below.refl _ _)⟩
    case round =>
      obtain ⟨k, f, A, hk, hf, hAk, rfl, HS, HO, HK, HB⟩ := hrel
      obtain ⟨f, rfl⟩ : ∃ f', f = f' + 1 := ⟨f - 1, by omega⟩
      obtain ⟨oa, oc, rfl⟩ := (unhide HO).slice
      by_cases hkl : k < L.length
      · have j1 : ((k : Nat) : Int) < ((L.length : Nat) : Int) := by omega
        have HD := hide (refDecode_any ao c L (k : Int) wr ((unhide HBt).below' (unhide HB)) hl hc)
        have e1 : dcE L (k : Int) = dE (L.drop k) := by unfold dcE; rw [if_neg (by omega)]; simp
        have e2 : dcV L (k : Int) = dV (k : Int) (L.drop k) := by unfold dcV; rw [if_neg (by omega)]; simp
        rw [e1, e2] at HD
        go_wp2_with fail
        by_cases he : dE (L.drop k) = 0
        · have hS := unhide HS
          rw [sc_good hkl he] at hS
          rw [ixD_dV he, he] at HD
          obtain ⟨ho, hp, hs1, hs2⟩ := ixD_ok (k := k) he
          rw [List.length_drop] at hs2
          generalize ixD k (L.drop k) = x at HD ho hp hs1 hs2 hS
          have HS2 := hide hS
          have hxs := sizeD_le x.op
          have hpb : 0 ≤ x.p ∧ x.p ≤ 4096 := by omega
          have HP := hide hp
          clear hS HS e1 e2 hp he
          refine (unhide HD).mono ?_
          rintro e w1 ⟨rfl, hB1⟩
          have HO1 := hide ((unhide HO).below hB1)
          have HB1 := hide ((unhide HB).trans (hB1.mono (unhide HB).size))
          have hal : Below w1.heap.size w1 (w1.alloc (.cells #[.int .i64 x.p, .int .u8 (x.op : Int), .int .i64 x.a, .int .i64 x.b] 31)) := (Below.refl _ _).alloc (Nat.le_refl _) _
          have I1 : Hid (IAt (w1.alloc (.cells #[.int .i64 x.p, .int .u8 (x.op : Int), .int .i64 x.a, .int .i64 x.b] 31)) w1.heap.size x.p x.op x.a x.b) := hide (heap_alloc_new w1 _)
          have HO2 := hide ((unhide HO1).below hal)
          have HB2 := hide ((unhide HB1).trans (hal.mono (unhide HB1).size))
          have HL : Hid (∀ q, (Value.slice oa A.length oc).ownBlock = some q → w.heap.size ≤ q ∧ q < w1.heap.size) := hide (World.ownsRow.lt (unhide HO1))
          have HGI : Hid (w1.heap.size < (w1.alloc (.cells #[.int .i64 x.p, .int .u8 (x.op : Int), .int .i64 x.a, .int .i64 x.b] 31)).heap.size) := hide (by simp)
          clear hB1 hal HO1 HB1 HD HO HB
          go_upto_region 9 with fail
          generalize (w1.alloc (.cells #[.int .i64 x.p, .int .u8 (x.op : Int), .int .i64 x.a, .int .i64 x.b] 31)) = w2 at I1 HO2 HB2 HGI ⊢
          generalize w1.heap.size = gi at I1 HL HGI ⊢
          have HO3 := hide ((show w2.ownsRow w.heap.size 31 4 (.slice oa A.length oc) A.length (xvals A) from unhide HO2).alloc (.cells #[.int .i64 x.p, .int .u8 (x.op : Int), .int .i64 x.a, .int .i64 x.b] 31))
          have hbs := (unhide HB2).size
          go_upto_region 10 with (first | (refine wpList_load_row rfl 31 (.tmp 7) rfl gi rfl 31 #[.int .i64 x.p, .int .u8 (x.op : Int), .int .i64 x.a, .int .i64 x.b] (0, 0) _ (unhide I1) Tryd.underlying31 rfl (by kernel_rfl) ?_) | (at_builtin; refine wpList_append_own_at _ rfl _ _ 23 rfl w.heap.size 31 i0 (.agg #[.int .i64 0, .int .u8 0, .int .i64 0, .int .i64 0]) 4 32 Tryd.underlying23 hi hz0 hz1 hz2 rfl (by decide) _ A.length (xvals A) rfl (unhide HO3) ⟨w2.heap.size, 0, none⟩ 1 1 (xcells x) rfl rfl (cell_new_ix _ _) (by have := xvals_one [x]; simpa [xvals] using this) (by unfold maxLen; omega) (by omega) (by simp; omega) ?_))
          intro v3 w3 hO3 hG3 _ _
          have HO4 : Hid (OwnX w3 w.heap.size v3 (A ++ [x])) := hide (by
            unfold OwnX
            have e1 : xvals (A ++ [x]) = xvals A ++ xcells x := by simp [xvals]
            rw [e1, List.length_append]
            exact hO3)
          have hga : Below w2.heap.size w2 (w2.alloc (.cells #[.int .i64 x.p, .int .u8 (x.op : Int), .int .i64 x.a, .int .i64 x.b] 31)) := (Below.refl _ _).alloc (Nat.le_refl _) _
          have I3 : Hid (IAt w3 gi x.p x.op x.a x.b) := hide ((hG3.block gi (by have := unhide HGI; simp; omega) (fun e => by have := (unhide HL gi e.symm).2; omega)).trans ((unhide I1).below hga))
          have HB3 : Hid (Below w.heap.size w w3) := hide (((unhide HB2).alloc (unhide HB2).size _).grown hG3 (by have := (unhide HB2).size; simp; omega) (fun q e => (unhide HL q e).1))
          have HK2 : Hid (xok (A ++ [x])) := hide (fun y hy => by
            rcases List.mem_append.1 hy with hy | hy
            · exact unhide HK y hy
            · rw [List.mem_singleton.1 hy]; exact ⟨ho, hpb⟩)
          have HBE := hide (refSize_any x.op w3)
          have hc1 := (unhide I3).c.1
          have ho2 : ((x.op : Nat) : Int) < 256 := by omega
          clear hO3 hG3 hga I1 HO3 HO2 HB2 HL HGI HK hbs
          go_wp2_with (first | (refine wpList_load_row rfl 31 (.tmp 7) rfl gi rfl 31 #[.int .i64 x.p, .int .u8 (x.op : Int), .int .i64 x.a, .int .i64 x.b] (0, 0) _ (unhide I3) Tryd.underlying31 rfl (by kernel_rfl) ?_) | (refine (unhide HBE).mono ?_; rintro e w4 ⟨rfl, rfl⟩))
          refine ⟨⟨k + sizeD x.op, f, A ++ [x], by omega, by omega, by simp; omega, by push_cast; rfl, hide ?_, HO4, HK2, HB3⟩, ?_⟩
          · rw [List.append_assoc]; exact unhide HS2
          · show L.length - ((k : Nat) + (sizeD x.op : Int)).toNat < L.length - ((k : Nat) : Int).toNat
            have := unhide HP
            omega
        · have hS := unhide HS
          rw [sc_bad hkl he] at hS
          have HR : Hid (scR L = ([], k, dE (L.drop k))) := hide (by unfold scR; rw [if_neg hlong, hS]; exact if_neg he)
          have n1 : ∃ d, Hid (dE (L.drop k) = d) ∧ d ≠ 0 := ⟨_, hide rfl, he⟩
          obtain ⟨d, Hd, hd⟩ := n1
          rw [unhide Hd] at HD HR
          obtain ⟨zp, zo, za, zb, hzo, hzz⟩ := dV_shape (k : Int) (L.drop k)
          rw [hzz] at HD
          clear hS HS e1 e2 he hzz
          refine (unhide HD).mono ?_
          rintro e w1 ⟨rfl, hB1⟩
          have HB1 := hide ((unhide HB).trans (hB1.mono (unhide HB).size))
          clear hB1 HD HO HB
          have hdb : (d != 0) = true := bne_iff_ne.2 hd
          go_wp2_with fail
          go_ret3
          rw [unhide HR]
          exact ⟨_, rfl, OwnX.nil _ _, (fun x hx => by cases hx), (unhide HB1).alloc (unhide HB1).size _⟩
      · have hS := unhide HS
        rw [sc_end hkl] at hS
        have HR : Hid (scR L = (A, 0, 0)) := hide (by unfold scR; rw [if_neg hlong, hS]; simp)
        have j1 : ¬ ((k : Nat) : Int) < ((L.length : Nat) : Int) := by omega
        clear hS HS
        go_wp2
        go_ret3
        rw [unhide HR]
        exact ⟨_, rfl, unhide HO, unhide HK, unhide HB⟩
end Go.Proofs.YtdpfinnclnapbaaDoor
