/-
  flow.Scan and provisoref05.Scan: the same plain answer, in new memory. Conditions: the widths lie there, lengths fit.
  provisoref05.Scan: the same plain answer as flow.Scan (Sc1).
  flow.Targets, flow.Behind and the reference's two: the same rising lists, in new memory. Conditions: the instructions lie there, their operands are numbers of the machine, the widths lie there.
  The reference's Behind: a rising list, in new memory. Conditions: the instructions lie there.
  provisoref05.Place and provisoref05.Check.
  flow.Check.
  What is come to from an address: plain; the map of firsts as a function.
  flow.Reach.
-/
import Derived.Test.YtgelbihdcfgjcaaDoorJIN
import Derived.Test.YtgelbihdcfgjcaaDoorKFb1
import Derived.Maps.AppendAt
import Derived.Test.YtgelbihdcfgjcaaDoorKFl1
import Derived.Deep.RegionHeld3
import Derived.Deep.Cut
import Derived.Laws.AppendOwnNone
import Derived.Deep.LoopGhost
namespace Go.Proofs.YtgelbihdcfgjcaaDoor
open Go.RowKit Go.Maps
set_option maxRecDepth 20000

def ixD (k : Nat) (l : List UInt8) : Ix := match l with | [] => ⟨0, 0, 0, 0⟩ | x :: t => ⟨k, x.toNat, dA x.toNat t, dB x.toNat t⟩
theorem ixD_dV {k : Nat} {l : List UInt8} (h : dE l = 0) : dV (k : Int) l = #[.int .i64 (ixD k l).p, .int .u8 ((ixD k l).op : Int), .int .i64 (ixD k l).a, .int .i64 (ixD k l).b] := by
  cases l with
  | nil => rfl
  | cons x t => unfold dV; simp only []; rw [if_pos h]; rfl
theorem ixD_ok {k : Nat} {l : List UInt8} (h : dE l = 0) : (ixD k l).op < 34 ∧ (ixD k l).p = k ∧ 1 ≤ sizeD (ixD k l).op ∧ sizeD (ixD k l).op ≤ l.length := by
  cases l with
  | nil => simp [dE] at h
  | cons x t =>
    unfold dE at h
    simp only [] at h
    by_cases h34 : x.toNat < 34
    · rw [if_pos h34] at h
      by_cases hs : (x :: t).length < sizeD x.toNat
      · rw [if_pos hs] at h; omega
      · refine ⟨h34, rfl, ?_, by show sizeD x.toNat ≤ _; omega⟩
        show 1 ≤ sizeD x.toNat
        unfold sizeD
        rw [if_pos h34]
        omega
    · rw [if_neg h34] at h; omega
/-- The instructions from an address on, up to the first that can't be; that one's place and error. -/
def scD (L : List UInt8) : Nat → Nat → List Ix × Nat × Int
  | 0, _ => ([], 0, 0)
  | f + 1, k => if k < L.length then (if dE (L.drop k) = 0 then (ixD k (L.drop k) :: (scD L f (k + sizeD (ixD k (L.drop k)).op)).1, (scD L f (k + sizeD (ixD k (L.drop k)).op)).2) else ([], k, dE (L.drop k))) else ([], 0, 0)
theorem sc_end {L : List UInt8} {f k : Nat} (h : ¬ k < L.length) : scD L (f + 1) k = ([], 0, 0) := if_neg h
theorem sc_bad {L : List UInt8} {f k : Nat} (h : k < L.length) (he : dE (L.drop k) ≠ 0) : scD L (f + 1) k = ([], k, dE (L.drop k)) := (if_pos h).trans (if_neg he)
theorem sc_good {L : List UInt8} {f k : Nat} (h : k < L.length) (he : dE (L.drop k) = 0) : scD L (f + 1) k = (ixD k (L.drop k) :: (scD L f (k + sizeD (ixD k (L.drop k)).op)).1, (scD L f (k + sizeD (ixD k (L.drop k)).op)).2) := (if_pos h).trans (if_pos he)
/-- What Scan tells. -/
def scR (L : List UInt8) : List Ix × Nat × Int := if 4096 < L.length then ([], 0, 4) else if (scD L (L.length + 1) 0).2.2 = 0 then ((scD L (L.length + 1) 0).1, 0, 0) else ([], (scD L (L.length + 1) 0).2)
def xok (l : List Ix) : Prop := ∀ x ∈ l, x.op < 34 ∧ 0 ≤ x.p ∧ x.p ≤ 4096
theorem OwnX.nil (w : World) (base : Nat) : OwnX w base (.slice none 0 0) [] := World.ownsRow_nil _ _ _ _
theorem OwnX.slice {w : World} {base : Nat} {v : Value} {l : List Ix} (h : OwnX w base v l) : ∃ ao cap, v = .slice ao l.length cap := by
  rcases h.2 with ⟨h1, h2⟩ | ⟨g, cap, cur, hv, _⟩
  · exact ⟨none, 0, by rw [h1, h2]⟩
  · exact ⟨_, cap, hv⟩
theorem OwnX.below {w w' : World} {base : Nat} {v : Value} {l : List Ix} (h : OwnX w base v l) (hb : Below w.heap.size w w') : OwnX w' base v l := rowBelowJ h hb
theorem cell_new_ix (w : World) (x : Ix) : ∀ (j : Nat) u, (xcells x)[j]? = some u → (w.alloc (.cells #[.int .i64 x.p, .int .u8 (x.op : Int), .int .i64 x.a, .int .i64 x.b] 68)).cell? ((⟨w.heap.size, 0, none⟩ : Addr).add j) = some u := by
  intro j u hj
  rw [Addr.add_lit]
  have hn := heap_alloc_new w (.cells #[.int .i64 x.p, .int .u8 (x.op : Int), .int .i64 x.a, .int .i64 x.b] 68)
  rw [cell_of_row _ _ _ _ _ _ hn]
  simpa [xcells] using hj

set_option maxRecDepth 20000 in
set_option maxHeartbeats 4000000 in
theorem Scan_any (ao : Option Addr) (c : Nat) (L : List UInt8) (w : World) (hb : BAt w ao L) (hW : WidAt w) (hl : L.length ≤ 140737488355328) (hc : L.length ≤ c) :
    Calls Tryd.prog 21 #[.slice ao L.length c] w fun e w' => ∃ v, e = .returned (.tuple #[v, .int .i64 ((scR L).2.1 : Int), .int .i64 (scR L).2.2]) ∧ OwnX w' w.heap.size v (scR L).1 ∧ xok (scR L).1 ∧ Below w.heap.size w w' := by
  obtain ⟨i0, hi, hz0, hz1, hz2⟩ := info_parts infoX
  have HBt := hide hb
  have HW := hide hW
  clear hb hW
  go_enter Tryd.func21, Tryd.ntmps21
  by_cases hlong : 4096 < L.length
  · have i1 : ((L.length : Nat) : Int) > 4096 := by omega
    have HR : Hid (scR L = ([], 0, 4)) := hide (if_pos hlong)
    go_wp2
    go_ret3
    rw [unhide HR]
    exact ⟨_, rfl, OwnX.nil _ _, (fun x hx => by cases hx), Below.refl _ _⟩
  · have i1 : ¬ ((L.length : Nat) : Int) > 4096 := by omega
    go_wp2
    go_loopw [5, 6] (fun v i wr => ∃ (k f : Nat) (A : List Ix), k ≤ L.length ∧ L.length < f + k ∧ A.length ≤ k ∧ i = .int .i64 (k : Int) ∧ Hid (scD L (L.length + 1) 0 = (A ++ (scD L f k).1, (scD L f k).2)) ∧ Hid (OwnX wr w.heap.size v A) ∧ Hid (xok A) ∧ Hid (Below w.heap.size w wr)) (fun _ i _ => L.length - (intOf i).toNat)
    case atStart => exact ⟨0, L.length + 1, [], by omega, by omega, by simp, rfl, hide (by simp), hide (OwnX.nil _ _), hide (fun x hx => by cases hx), hide (Below.refl _ _)⟩
    case round =>
      obtain ⟨k, f, A, hk, hf, hAk, rfl, HS, HO, HK, HB⟩ := hrel
      obtain ⟨f, rfl⟩ : ∃ f', f = f' + 1 := ⟨f - 1, by omega⟩
      obtain ⟨oa, oc, rfl⟩ := (unhide HO).slice
      by_cases hkl : k < L.length
      · have j1 : ((k : Nat) : Int) < ((L.length : Nat) : Int) := by omega
        have HD := hide (Decode_any ao c L (k : Int) wr ((unhide HBt).below' (unhide HB)) ((unhide HW).below (unhide HB)) hl hc)
        have e1 : dcE L (k : Int) = dE (L.drop k) := by unfold dcE; rw [if_neg (by omega)]; simp
        have e2 : dcV L (k : Int) = dV (k : Int) (L.drop k) := by unfold dcV; rw [if_neg (by omega)]; simp
        rw [e1, e2] at HD
        go_wp2_with fail
        by_cases he : dE (L.drop k) = 0
        · have hS := unhide HS
          rw [sc_good hkl he] at hS
          rw [ixD_dV he, he] at HD
          obtain ⟨ho, hp, hs1, hs2⟩ := ixD_ok (k := k) he
          rw [List.length_drop] at hs2
          generalize ixD k (L.drop k) = x at HD ho hp hs1 hs2 hS
          have HS2 := hide hS
          have hxs := sizeD_le x.op
          have hpb : 0 ≤ x.p ∧ x.p ≤ 4096 := by omega
          have HP := hide hp
          clear hS HS e1 e2 hp he
          refine (unhide HD).mono ?_
          rintro e w1 ⟨rfl, hB1⟩
          have HO1 := hide ((unhide HO).below hB1)
          have HB1 := hide ((unhide HB).trans (hB1.mono (unhide HB).size))
          have hal : Below w1.heap.size w1 (w1.alloc (.cells #[.int .i64 x.p, .int .u8 (x.op : Int), .int .i64 x.a, .int .i64 x.b] 68)) := (Below.refl _ _).alloc (Nat.le_refl _) _
          have I1 : Hid (IAt (w1.alloc (.cells #[.int .i64 x.p, .int .u8 (x.op : Int), .int .i64 x.a, .int .i64 x.b] 68)) w1.heap.size x.p x.op x.a x.b) := hide (heap_alloc_new w1 _)
          have HO2 := hide ((unhide HO1).below hal)
          have HB2 := hide ((unhide HB1).trans (hal.mono (unhide HB1).size))
          have HL : Hid (∀ q, (Value.slice oa A.length oc).ownBlock = some q → w.heap.size ≤ q ∧ q < w1.heap.size) := hide (World.ownsRow.lt (unhide HO1))
          have HGI : Hid (w1.heap.size < (w1.alloc (.cells #[.int .i64 x.p, .int .u8 (x.op : Int), .int .i64 x.a, .int .i64 x.b] 68)).heap.size) := hide (by simp)
          have HWD := hide (((unhide HW).below (unhide HB)).below (hB1.mono (Nat.le_refl _)))
          clear hB1 hal HO1 HB1 HD HO HB
          go_upto_region 9 with fail
          generalize (w1.alloc (.cells #[.int .i64 x.p, .int .u8 (x.op : Int), .int .i64 x.a, .int .i64 x.b] 68)) = w2 at I1 HO2 HB2 HGI ⊢
          generalize w1.heap.size = gi at I1 HL HGI ⊢
          have HO3 := hide ((show w2.ownsRow w.heap.size 68 4 (.slice oa A.length oc) A.length (xvals A) from unhide HO2).alloc (.cells #[.int .i64 x.p, .int .u8 (x.op : Int), .int .i64 x.a, .int .i64 x.b] 68))
          have hbs := (unhide HB2).size
          go_upto_region 10 with (first | (refine wpList_load_row rfl 68 (.tmp 7) rfl gi rfl 68 #[.int .i64 x.p, .int .u8 (x.op : Int), .int .i64 x.a, .int .i64 x.b] (0, 0) _ (unhide I1) Tryd.underlying68 rfl (by kernel_rfl) ?_) | (at_builtin; refine wpList_append_own_at _ rfl _ _ 64 rfl w.heap.size 68 i0 (.agg #[.int .i64 0, .int .u8 0, .int .i64 0, .int .i64 0]) 4 32 Tryd.underlying64 hi hz0 hz1 hz2 rfl (by decide) _ A.length (xvals A) rfl (unhide HO3) ⟨w2.heap.size, 0, none⟩ 1 1 (xcells x) rfl rfl (cell_new_ix _ _) (by have := xvals_one [x]; simpa [xvals] using this) (by unfold maxLen; omega) (by omega) (by simp; omega) ?_))
          intro v3 w3 hO3 hG3 _ _
          have HO4 : Hid (OwnX w3 w.heap.size v3 (A ++ [x])) := hide (by
            unfold OwnX
            have e1 : xvals (A ++ [x]) = xvals A ++ xcells x := by simp [xvals]
            rw [e1, List.length_append]
            exact hO3)
          have hga : Below w2.heap.size w2 (w2.alloc (.cells #[.int .i64 x.p, .int .u8 (x.op : Int), .int .i64 x.a, .int .i64 x.b] 68)) := (Below.refl _ _).alloc (Nat.le_refl _) _
          have I3 : Hid (IAt w3 gi x.p x.op x.a x.b) := hide ((hG3.block gi (by have := unhide HGI; simp; omega) (fun e => by have := (unhide HL gi e.symm).2; omega)).trans ((unhide I1).below hga))
          have HB3 : Hid (Below w.heap.size w w3) := hide (((unhide HB2).alloc (unhide HB2).size _).grown hG3 (by have := (unhide HB2).size; simp; omega) (fun q e => (unhide HL q e).1))
          have HK2 : Hid (xok (A ++ [x])) := hide (fun y hy => by
            rcases List.mem_append.1 hy with hy | hy
            · exact unhide HK y hy
            · rw [List.mem_singleton.1 hy]; exact ⟨ho, hpb⟩)
          have HBE := hide (behind_any x.p x.op x.a x.b w3 ((unhide HW).below (unhide HB3)) (by omega) hpb)
          clear hO3 hG3 hga I1 HO3 HO2 HB2 HL HGI HK HWD hbs
          go_wp2_with (first | (refine wpList_load_row rfl 68 (.tmp 7) rfl gi rfl 68 #[.int .i64 x.p, .int .u8 (x.op : Int), .int .i64 x.a, .int .i64 x.b] (0, 0) _ (unhide I3) Tryd.underlying68 rfl (by kernel_rfl) ?_) | (refine (unhide HBE).mono ?_; rintro e w4 ⟨rfl, hB4⟩))
          refine ⟨⟨k + sizeD x.op, f, A ++ [x], by omega, by omega, by simp; omega, by rw [unhide HP]; push_cast; rfl, hide ?_, hide ((unhide HO4).below hB4), HK2, hide ((unhide HB3).trans (hB4.mono (unhide HB3).size))⟩, ?_⟩
          · rw [List.append_assoc]; exact unhide HS2
          · show L.length - (x.p + (sizeD x.op : Int)).toNat < L.length - ((k : Nat) : Int).toNat
            have := unhide HP
            omega
        · have hS := unhide HS
          rw [sc_bad hkl he] at hS
          have HR : Hid (scR L = ([], k, dE (L.drop k))) := hide (by unfold scR; rw [if_neg hlong, hS]; exact if_neg he)
          have n1 : ∃ d, Hid (dE (L.drop k) = d) ∧ d ≠ 0 := ⟨_, hide rfl, he⟩
          obtain ⟨d, Hd, hd⟩ := n1
          rw [unhide Hd] at HD HR
          obtain ⟨zp, zo, za, zb, hzo, hzz⟩ := dV_shape (k : Int) (L.drop k)
          rw [hzz] at HD
          clear hS HS e1 e2 he hzz
          refine (unhide HD).mono ?_
          rintro e w1 ⟨rfl, hB1⟩
          have HB1 := hide ((unhide HB).trans (hB1.mono (unhide HB).size))
          clear hB1 HD HO HB
          have hdb : (d != 0) = true := bne_iff_ne.2 hd
          go_wp2_with fail
          go_ret3
          rw [unhide HR]
          exact ⟨_, rfl, OwnX.nil _ _, (fun x hx => by cases hx), (unhide HB1).alloc (unhide HB1).size _⟩
      · have hS := unhide HS
        rw [sc_end hkl] at hS
        have HR : Hid (scR L = (A, 0, 0)) := hide (by unfold scR; rw [if_neg hlong, hS]; simp)
        have j1 : ¬ ((k : Nat) : Int) < ((L.length : Nat) : Int) := by omega
        clear hS HS
        go_wp2
        go_ret3
        rw [unhide HR]
        exact ⟨_, rfl, unhide HO, unhide HK, unhide HB⟩
set_option maxRecDepth 20000 in
set_option maxHeartbeats 4000000 in
theorem refScan_any (ao : Option Addr) (c : Nat) (L : List UInt8) (w : World) (hb : BAt w ao L) (hl : L.length ≤ 140737488355328) (hc : L.length ≤ c) :
    Calls Tryd.prog 24 #[.slice ao L.length c] w fun e w' => ∃ v, e = .returned (.tuple #[v, .int .i64 ((scR L).2.1 : Int), .int .i64 (scR L).2.2]) ∧ OwnX w' w.heap.size v (scR L).1 ∧ xok (scR L).1 ∧ Below w.heap.size w w' := by
  obtain ⟨i0, hi, hz0, hz1, hz2⟩ := info_parts infoX
  have HBt := hide hb
  clear hb
  go_enter Tryd.func24, Tryd.ntmps24
  by_cases hlong : 4096 < L.length
  · have i1 : ((L.length : Nat) : Int) > 4096 := by omega
    have HR : Hid (scR L = ([], 0, 4)) := hide (if_pos hlong)
    go_wp2
    go_ret3
    rw [unhide HR]
    exact ⟨_, rfl, OwnX.nil _ _, (fun x hx => by cases hx), Below.refl _ _⟩
  · have i1 : ¬ ((L.length : Nat) : Int) > 4096 := by omega
    go_wp2
    go_loopw [5, 6] (fun v i wr => ∃ (k f : Nat) (A : List Ix), k ≤ L.length ∧ L.length < f + k ∧ A.length ≤ k ∧ i = .int .i64 (k : Int) ∧ Hid (scD L (L.length + 1) 0 = (A ++ (scD L f k).1, (scD L f k).2)) ∧ Hid (OwnX wr w.heap.size v A) ∧ Hid (xok A) ∧ Hid (Below w.heap.size w wr)) (fun _ i _ => L.length - (intOf i).toNat)
    case atStart => exact ⟨0, L.length + 1, [], by omega, by omega, by simp, rfl, hide (by simp), hide (OwnX.nil _ _), hide (fun x hx => by cases hx), hide (Below.refl _ _)⟩
    case round =>
      obtain ⟨k, f, A, hk, hf, hAk, rfl, HS, HO, HK, HB⟩ := hrel
      obtain ⟨f, rfl⟩ : ∃ f', f = f' + 1 := ⟨f - 1, by omega⟩
      obtain ⟨oa, oc, rfl⟩ := (unhide HO).slice
      by_cases hkl : k < L.length
      · have j1 : ((k : Nat) : Int) < ((L.length : Nat) : Int) := by omega
        have HD := hide (refDecode_any ao c L (k : Int) wr ((unhide HBt).below' (unhide HB)) hl hc)
        have e1 : dcE L (k : Int) = dE (L.drop k) := by unfold dcE; rw [if_neg (by omega)]; simp
        have e2 : dcV L (k : Int) = dV (k : Int) (L.drop k) := by unfold dcV; rw [if_neg (by omega)]; simp
        rw [e1, e2] at HD
        go_wp2_with fail
        by_cases he : dE (L.drop k) = 0
        · have hS := unhide HS
          rw [sc_good hkl he] at hS
          rw [ixD_dV he, he] at HD
          obtain ⟨ho, hp, hs1, hs2⟩ := ixD_ok (k := k) he
          rw [List.length_drop] at hs2
          generalize ixD k (L.drop k) = x at HD ho hp hs1 hs2 hS
          have HS2 := hide hS
          have hxs := sizeD_le x.op
          have hpb : 0 ≤ x.p ∧ x.p ≤ 4096 := by omega
          have HP := hide hp
          clear hS HS e1 e2 hp he
          refine (unhide HD).mono ?_
          rintro e w1 ⟨rfl, hB1⟩
          have HO1 := hide ((unhide HO).below hB1)
          have HB1 := hide ((unhide HB).trans (hB1.mono (unhide HB).size))
          have hal : Below w1.heap.size w1 (w1.alloc (.cells #[.int .i64 x.p, .int .u8 (x.op : Int), .int .i64 x.a, .int .i64 x.b] 68)) := (Below.refl _ _).alloc (Nat.le_refl _) _
          have I1 : Hid (IAt (w1.alloc (.cells #[.int .i64 x.p, .int .u8 (x.op : Int), .int .i64 x.a, .int .i64 x.b] 68)) w1.heap.size x.p x.op x.a x.b) := hide (heap_alloc_new w1 _)
          have HO2 := hide ((unhide HO1).below hal)
          have HB2 := hide ((unhide HB1).trans (hal.mono (unhide HB1).size))
          have HL : Hid (∀ q, (Value.slice oa A.length oc).ownBlock = some q → w.heap.size ≤ q ∧ q < w1.heap.size) := hide (World.ownsRow.lt (unhide HO1))
          have HGI : Hid (w1.heap.size < (w1.alloc (.cells #[.int .i64 x.p, .int .u8 (x.op : Int), .int .i64 x.a, .int .i64 x.b] 68)).heap.size) := hide (by simp)
          clear hB1 hal HO1 HB1 HD HO HB
          go_upto_region 9 with fail
          generalize (w1.alloc (.cells #[.int .i64 x.p, .int .u8 (x.op : Int), .int .i64 x.a, .int .i64 x.b] 68)) = w2 at I1 HO2 HB2 HGI ⊢
          generalize w1.heap.size = gi at I1 HL HGI ⊢
          have HO3 := hide ((show w2.ownsRow w.heap.size 68 4 (.slice oa A.length oc) A.length (xvals A) from unhide HO2).alloc (.cells #[.int .i64 x.p, .int .u8 (x.op : Int), .int .i64 x.a, .int .i64 x.b] 68))
          have hbs := (unhide HB2).size
          go_upto_region 10 with (first | (refine wpList_load_row rfl 68 (.tmp 7) rfl gi rfl 68 #[.int .i64 x.p, .int .u8 (x.op : Int), .int .i64 x.a, .int .i64 x.b] (0, 0) _ (unhide I1) Tryd.underlying68 rfl (by kernel_rfl) ?_) | (at_builtin; refine wpList_append_own_at _ rfl _ _ 64 rfl w.heap.size 68 i0 (.agg #[.int .i64 0, .int .u8 0, .int .i64 0, .int .i64 0]) 4 32 Tryd.underlying64 hi hz0 hz1 hz2 rfl (by decide) _ A.length (xvals A) rfl (unhide HO3) ⟨w2.heap.size, 0, none⟩ 1 1 (xcells x) rfl rfl (cell_new_ix _ _) (by have := xvals_one [x]; simpa [xvals] using this) (by unfold maxLen; omega) (by omega) (by simp; omega) ?_))
          intro v3 w3 hO3 hG3 _ _
          have HO4 : Hid (OwnX w3 w.heap.size v3 (A ++ [x])) := hide (by
            unfold OwnX
            have e1 : xvals (A ++ [x]) = xvals A ++ xcells x := by simp [xvals]
            rw [e1, List.length_append]
            exact hO3)
          have hga : Below w2.heap.size w2 (w2.alloc (.cells #[.int .i64 x.p, .int .u8 (x.op : Int), .int .i64 x.a, .int .i64 x.b] 68)) := (Below.refl _ _).alloc (Nat.le_refl _) _
          have I3 : Hid (IAt w3 gi x.p x.op x.a x.b) := hide ((hG3.block gi (by have := unhide HGI; simp; omega) (fun e => by have := (unhide HL gi e.symm).2; omega)).trans ((unhide I1).below hga))
          have HB3 : Hid (Below w.heap.size w w3) := hide (((unhide HB2).alloc (unhide HB2).size _).grown hG3 (by have := (unhide HB2).size; simp; omega) (fun q e => (unhide HL q e).1))
          have HK2 : Hid (xok (A ++ [x])) := hide (fun y hy => by
            rcases List.mem_append.1 hy with hy | hy
            · exact unhide HK y hy
            · rw [List.mem_singleton.1 hy]; exact ⟨ho, hpb⟩)
          have HBE := hide (refSize_any x.op w3)
          have hc1 := (unhide I3).c.1
          have ho2 : ((x.op : Nat) : Int) < 256 := by omega
          clear hO3 hG3 hga I1 HO3 HO2 HB2 HL HGI HK hbs
          go_wp2_with (first | (refine wpList_load_row rfl 68 (.tmp 7) rfl gi rfl 68 #[.int .i64 x.p, .int .u8 (x.op : Int), .int .i64 x.a, .int .i64 x.b] (0, 0) _ (unhide I3) Tryd.underlying68 rfl (by kernel_rfl) ?_) | (refine (unhide HBE).mono ?_; rintro e w4 ⟨rfl, rfl⟩))
          refine ⟨⟨k + sizeD x.op, f, A ++ [x], by omega, by omega, by simp; omega, by push_cast; rfl, hide ?_, HO4, HK2, HB3⟩, ?_⟩
          · rw [List.append_assoc]; exact unhide HS2
          · show L.length - ((k : Nat) + (sizeD x.op : Int)).toNat < L.length - ((k : Nat) : Int).toNat
            have := unhide HP
            omega
        · have hS := unhide HS
          rw [sc_bad hkl he] at hS
          have HR : Hid (scR L = ([], k, dE (L.drop k))) := hide (by unfold scR; rw [if_neg hlong, hS]; exact if_neg he)
          have n1 : ∃ d, Hid (dE (L.drop k) = d) ∧ d ≠ 0 := ⟨_, hide rfl, he⟩
          obtain ⟨d, Hd, hd⟩ := n1
          rw [unhide Hd] at HD HR
          obtain ⟨zp, zo, za, zb, hzo, hzz⟩ := dV_shape (k : Int) (L.drop k)
          rw [hzz] at HD
          clear hS HS e1 e2 he hzz
          refine (unhide HD).mono ?_
          rintro e w1 ⟨rfl, hB1⟩
          have HB1 := hide ((unhide HB).trans (hB1.mono (unhide HB).size))
          clear hB1 HD HO HB
          have hdb : (d != 0) = true := bne_iff_ne.2 hd
          go_wp2_with fail
          go_ret3
          rw [unhide HR]
          exact ⟨_, rfl, OwnX.nil _ _, (fun x hx => by cases hx), (unhide HB1).alloc (unhide HB1).size _⟩
      · have hS := unhide HS
        rw [sc_end hkl] at hS
        have HR : Hid (scR L = (A, 0, 0)) := hide (by unfold scR; rw [if_neg hlong, hS]; simp)
        have j1 : ¬ ((k : Nat) : Int) < ((L.length : Nat) : Int) := by omega
        clear hS HS
        go_wp2
        go_ret3
        rw [unhide HR]
        exact ⟨_, rfl, unhide HO, unhide HK, unhide HB⟩
/-- What lies behind ends, in the list's order. -/
def behs (l : List Ix) : List Int := (l.filter fun x => endD x.op && inC x.p).map fun x => x.p + sizeD x.op
theorem behs_snoc (l : List Ix) (x : Ix) : behs (l ++ [x]) = if (endD x.op && inC x.p) = true then behs l ++ [x.p + sizeD x.op] else behs l := by
  unfold behs
  rw [List.filter_append]
  by_cases h : (endD x.op && inC x.p) = true
  · rw [if_pos h]
    simp [h]
  · rw [if_neg h]
    simp [h]
/-- Numbers put one behind another into a rising list. -/
def pts (ks : List Int) : List Int := ks.foldl putJ []
theorem pts_snoc (ks : List Int) (x : Int) : pts (ks ++ [x]) = putJ (pts ks) x := by unfold pts; rw [List.foldl_append]; rfl
theorem pts_both : ∀ (ks : List Int) (acc : List Int), AscJ acc → AscJ (ks.foldl putJ acc) ∧ (∀ x, x ∈ ks.foldl putJ acc ↔ x ∈ acc ∨ x ∈ ks)
  | [], acc, h => ⟨h, fun x => by simp⟩
  | k :: ks, acc, h => by
    obtain ⟨h1, h2⟩ := pts_both ks (putJ acc k) (asc_putJ h)
    refine ⟨h1, fun x => ?_⟩
    rw [List.foldl_cons, h2 x, mem_putJ, List.mem_cons]
    constructor
    · rintro ((h | h) | h)
      · exact .inr (.inl h)
      · exact .inl h
      · exact .inr (.inr h)
    · rintro (h | h | h)
      · exact .inl (.inr h)
      · exact .inl (.inl h)
      · exact .inr h
theorem pts_same {ks js : List Int} (h : AscJ js) (hm : ∀ x, x ∈ js ↔ x ∈ ks) : js = pts ks := by
  obtain ⟨h1, h2⟩ := pts_both ks [] List.Pairwise.nil
  exact asc_ext h h1 (fun x => (hm x).trans ((h2 x).trans (by simp)).symm)
theorem pts_len (ks : List Int) : (pts ks).length ≤ ks.length := by
  have : ∀ (ks acc : List Int), (ks.foldl putJ acc).length ≤ acc.length + ks.length := fun ks => by
    induction ks with
    | nil => intro acc; simp
    | cons k ks ih =>
      intro acc
      have h1 := ih (putJ acc k)
      have h2 := putJ_len k acc
      rw [List.foldl_cons, List.length_cons]
      omega
  simpa [pts] using this ks []
theorem behs_len (l : List Ix) : (behs l).length ≤ l.length := by unfold behs; rw [List.length_map]; exact List.length_filter_le _ _

/-- A load of a struct under a guard that lets it through. -/
theorem wpList_load_gd {P : Program} {ops : Array Oper} {rest : List Oper} {o : Oper} {a : Act} {w : World} {Q : Exit → Act → World → Prop} (hw : Region.wanted o (yielded ops a.tmps) = true) (ty : TypeId) (x : Operand) (ho : o.op = .load ty x)
    (g : Nat) (hx : a.eval x = .pointer (some ⟨g, 0, none⟩)) (t : TypeId) (cs : Array Value) (fr : Nat × Nat) (d : TypeDesc) (hg : w.heap[g]? = some (.cells cs t fr))
    (hu : P.underlying ty = some d) (hd : (match d with | .struct _ | .array _ _ => true | _ => false) = true) (hi : (P.info? ty).map (·.size) = some cs.size)
    (h : wpList P ops Q rest (a.put o.dst (.agg cs)) w) : wpList P ops Q (o :: rest) a w :=
  wpList_step fun _ hK => by rw [if_pos hw]; exact wp_load_row ty x ho g hx t cs fr d hg hu hd hi (hK _ _ h)

/-- Some instruction lies at an address. -/
def hasP (l : List Ix) (a : Int) : Bool := l.any (fun y => decide (y.p = a))
/-- The first jump that leads to none. -/
def ckJ (l : List Ix) : List Ix → Option Int
  | [] => none
  | x :: t => if (jmpD x.op && !hasP l x.a) = true then some x.p else ckJ l t
/-- What Check tells. -/
def ckL (l : List Ix) : Int × Int := match ckJ l l with
  | some p => (p, 50)
  | none => match l.getLast? with
    | none => (0, 51)
    | some x => if endD x.op = true then (0, 0) else (x.p, 51)
def ckR (L : List UInt8) : Int × Int := if (scR L).2.2 = 0 then ckL (scR L).1 else (((scR L).2.1 : Int), (scR L).2.2)
theorem hasP_take {l : List Ix} {k : Nat} {x : Ix} (a : Int) (hx : l[k]? = some x) : hasP (l.take (k + 1)) a = (hasP (l.take k) a || decide (x.p = a)) := by
  rw [take_snoc hx]; unfold hasP; simp

theorem ckJ_drop {l r : List Ix} {k : Nat} {x : Ix} (hx : r[k]? = some x) : ckJ l (r.drop k) = if (jmpD x.op && !hasP l x.a) = true then some x.p else ckJ l (r.drop (k + 1)) := by
  obtain ⟨hk, rfl⟩ := List.getElem?_eq_some_iff.1 hx
  rw [List.drop_eq_getElem_cons hk]
  rfl
theorem sc_len (L : List UInt8) : ∀ f k, (scD L f k).1.length ≤ f := by
  intro f
  induction f with
  | zero => intro k; exact Nat.le_refl _
  | succ f ih =>
    intro k
    by_cases h : k < L.length
    · by_cases he : dE (L.drop k) = 0
      · rw [sc_good h he]; have := ih (k + sizeD (ixD k (L.drop k)).op); simp; omega
      · rw [sc_bad h he]; simp
    · rw [sc_end h]; simp
theorem scR_len (L : List UInt8) : (scR L).1.length ≤ 4097 := by
  unfold scR
  by_cases h : 4096 < L.length
  · rw [if_pos h]; simp
  · rw [if_neg h]
    have := sc_len L (L.length + 1) 0
    split
    · simp only []; omega
    · simp
theorem ck_bad {l : List Ix} {p e : Int} (he : e ≠ 0) : (if e = 0 then ckL l else (p, e)) = (p, e) := if_neg he
theorem ckL_jump {l : List Ix} {p : Int} (h : ckJ l l = some p) : ckL l = (p, 50) := by unfold ckL; rw [h]
theorem ckL_none {l : List Ix} (h : ckJ l l = none) (hl : l.length = 0) : ckL l = (0, 51) := by
  unfold ckL; rw [h]; cases l with
  | nil => rfl
  | cons x t => simp at hl
theorem ckL_last {l : List Ix} {x : Ix} (h : ckJ l l = none) (hx : l[l.length - 1]? = some x) : ckL l = if endD x.op = true then (0, 0) else (x.p, 51) := by
  unfold ckL; rw [h]; simp only []; rw [List.getLast?_eq_getElem?, hx]

theorem grownX {w w' : World} (h : Below w.heap.size w w') : w.grownBy w' none := ⟨h.os, h.tape, h.output, h.size, fun k hk _ => h.block k hk⟩
theorem zeroX (w : World) : (zeroValue 3).run Tryd.prog w = .ok (.int .i64 0) w := by kernel_rfl
theorem dA_bd (op : Nat) (t : List UInt8) (h : op < 34) : -9223372036854775808 ≤ dA op t ∧ dA op t ≤ 9223372036854775807 := by
  have h1 := beNI_lt (t.take (wA op))
  have h2 := wA_le op h
  have h3 : (t.take (wA op)).length ≤ 4 := by rw [List.length_take]; omega
  have h4 : 256 ^ (t.take (wA op)).length ≤ 256 ^ 4 := Nat.pow_le_pow_right (by omega) h3
  have h5 : beNI (t.take (wA op)) < 4294967296 := Nat.lt_of_lt_of_le h1 h4
  unfold dA s32I
  split
  · split <;> omega
  · omega
theorem ixD_bd {k : Nat} {l : List UInt8} (h : dE l = 0) : -9223372036854775808 ≤ (ixD k l).a ∧ (ixD k l).a ≤ 9223372036854775807 := by
  have ho := (ixD_ok (k := k) h).1
  cases l with
  | nil => simp [dE] at h
  | cons x t => exact dA_bd _ _ ho
theorem sc_bd (L : List UInt8) : ∀ f k, ∀ x ∈ (scD L f k).1, -9223372036854775808 ≤ x.a ∧ x.a ≤ 9223372036854775807 := by
  intro f
  induction f with
  | zero => intro k x hx; cases hx
  | succ f ih =>
    intro k x hx
    by_cases h : k < L.length
    · by_cases he : dE (L.drop k) = 0
      · rw [sc_good h he] at hx
        rcases List.mem_cons.1 hx with hx | hx
        · rw [hx]; exact ixD_bd he
        · exact ih _ x hx
      · rw [sc_bad h he] at hx; cases hx
    · rw [sc_end h] at hx; cases hx
theorem scR_bd (L : List UInt8) : ∀ x ∈ (scR L).1, -9223372036854775808 ≤ x.a ∧ x.a ≤ 9223372036854775807 := by
  intro x hx
  unfold scR at hx
  by_cases h : 4096 < L.length
  · rw [if_pos h] at hx; cases hx
  · rw [if_neg h] at hx
    split at hx
    · exact sc_bd L _ _ x hx
    · cases hx
theorem has_fold2 (a : Int) : ∀ (acc : List (Ix × Nat)) (m : DataW Unit), IsMap m → Maps.has (acc.foldl (fun m y => m.put (.int .i64 y.1.p) (.lit (.int .i64 (y.2 : Int)))) m) (Lit.int .i64 a) = (Maps.has m (Lit.int .i64 a) || acc.any (fun y => decide (y.1.p = a))) := by
  intro acc
  induction acc with
  | nil => intro m _; simp
  | cons y t ih =>
    intro m hm
    rw [List.foldl_cons, ih _ (IsMap.put hm _ _), List.any_cons]
    by_cases h : y.1.p = a
    · rw [← h, has_put_same hm (show WideAt.IsKeyLit (Lit.int .i64 y.1.p) from trivial)]; simp
    · rw [has_put_other (fun e => by injection e with _ e; exact h e.symm)]; simp [h]
theorem has_fMap (l : List Ix) (a : Int) : Maps.has (fMap (bks l)) (Lit.int .i64 a) = hasP l a := by
  unfold fMap
  rw [has_fold2 _ _ _ isMap_empty]
  have e0 : Maps.has (DataW.map ([] : List (Lit × DataW Unit))) (Lit.int .i64 a) = false := rfl
  rw [e0, Bool.false_or]
  unfold bks hasP
  rw [List.any_reverse]
  have e1 : (l.zipIdx.any (fun y => decide (y.1.p = a))) = ((l.zipIdx.map Prod.fst).any (fun y => decide (y.p = a))) := by
    rw [List.any_map]; rfl
  rw [e1, List.zipIdx_map_fst]

/-- Where the first instruction at an address stands. -/
def pI (l : List Ix) (a : Int) : Option Nat := l.findIdx? (fun y => decide (y.p = a))
theorem pI_some {l : List Ix} {a : Int} {i : Nat} (h : pI l a = some i) : ∃ x, l[i]? = some x ∧ x.p = a := by
  obtain ⟨hi, hp, _⟩ := List.findIdx?_eq_some_iff_getElem.1 h
  exact ⟨l[i], List.getElem?_eq_getElem hi, by simpa using hp⟩
theorem pI_has (l : List Ix) (a : Int) : hasP l a = (pI l a).isSome := by
  unfold hasP pI
  rw [List.findIdx?_isSome]
theorem at_fold (a : Int) (z : DataW Unit) : ∀ (l : List Ix) (k i : Nat), pI l a = some i →
    ((l.zipIdx k).foldr (fun y m => DataW.put m (.int .i64 y.1.p) (.lit (.int .i64 (y.2 : Int)))) (.map [] : DataW Unit)).atKey (.int .i64 a) z = .lit (.int .i64 ((k + i : Nat) : Int)) := by
  intro l
  induction l with
  | nil => intro k i h; simp [pI] at h
  | cons x t ih =>
    intro k i h
    rw [List.zipIdx_cons, List.foldr_cons]
    have hm : IsMap ((t.zipIdx (k + 1)).foldr (fun y m => DataW.put m (.int .i64 y.1.p) (.lit (.int .i64 (y.2 : Int)))) (.map [] : DataW Unit)) := by
      generalize t.zipIdx (k + 1) = r
      induction r with
      | nil => exact isMap_empty
      | cons y r ihr => rw [List.foldr_cons]; exact IsMap.put ihr _ _
    by_cases hx : x.p = a
    · have h0 : i = 0 := by
        unfold pI at h
        rw [List.findIdx?_cons] at h
        simp [hx] at h
        exact h.symm
      subst h0
      rw [← hx, atKey_put_same hm (show WideAt.IsKeyLit (Lit.int .i64 x.p) from trivial)]
      rfl
    · unfold pI at h
      rw [List.findIdx?_cons] at h
      simp only [hx, decide_false, Bool.false_eq_true, if_false] at h
      obtain ⟨j, hj, rfl⟩ := Option.map_eq_some_iff.1 h
      rw [atKey_put_other (fun e => by injection e with _ e; exact hx e.symm), ih (k + 1) j hj]
      congr 3
      omega
theorem at_fMap {l : List Ix} {a : Int} {i : Nat} (h : pI l a = some i) (z : DataW Unit) : (fMap (bks l)).atKey (.int .i64 a) z = .lit (.int .i64 (i : Int)) := by
  have := at_fold a z l 0 i h
  rw [Nat.zero_add] at this
  unfold fMap bks
  rw [List.foldl_reverse]
  exact this

/-- What is come to. -/
inductive Rch (l : List Ix) (s : Int) : Int → Prop
  | here (h : hasP l s = true) : Rch l s s
  | next {a b : Int} {i : Nat} {x : Ix} (ha : Rch l s a) (hi : pI l a = some i) (hx : l[i]? = some x) (hb : b ∈ nextD x.p x.op x.a) (h : hasP l b = true) : Rch l s b
/-- A search under way: what was come to, what lies ahead. -/
structure Srch (l : List Ix) (s : Int) (cm ah : List Int) : Prop where
  in1 : ∀ a ∈ cm, Rch l s a
  in2 : ∀ a ∈ ah, hasP l a = true → Rch l s a
  all : ∀ a ∈ cm, ∀ i x, pI l a = some i → l[i]? = some x → ∀ b ∈ nextD x.p x.op x.a, hasP l b = true → b ∈ cm ∨ b ∈ ah
  st : hasP l s = true → s ∈ cm ∨ s ∈ ah
theorem Srch.start (l : List Ix) (s : Int) : Srch l s [] [s] := ⟨fun a h => (by cases h), fun a h hp => (by rw [List.mem_singleton.1 h] at hp ⊢; exact .here hp), fun a h => (by cases h), fun _ => .inr (List.mem_singleton.2 rfl)⟩
theorem Srch.skip {l : List Ix} {s : Int} {cm ah : List Int} {a : Int} (h : Srch l s cm (ah ++ [a])) (ha : a ∈ cm ∨ hasP l a = false) : Srch l s cm ah := by
  have key : ∀ b, hasP l b = true → b ∈ cm ∨ b ∈ ah ++ [a] → b ∈ cm ∨ b ∈ ah := by
    intro b hb hm
    rcases hm with hm | hm
    · exact .inl hm
    · rcases List.mem_append.1 hm with hm | hm
      · exact .inr hm
      · rw [List.mem_singleton.1 hm] at hb ⊢
        rcases ha with ha | ha
        · exact .inl ha
        · rw [ha] at hb; cases hb
  exact ⟨h.in1, fun b hb => h.in2 b (List.mem_append_left _ hb), fun b hb i x hi hx y hy hp => key y hp (h.all b hb i x hi hx y hy hp), fun hp => key s hp (h.st hp)⟩
theorem Srch.come {l : List Ix} {s : Int} {cm ah : List Int} {a : Int} {i : Nat} {x : Ix} (h : Srch l s cm (ah ++ [a])) (hi : pI l a = some i) (hx : l[i]? = some x) : Srch l s (cm ++ [a]) (ah ++ nextD x.p x.op x.a) := by
  have hp : hasP l a = true := by rw [pI_has, hi]; rfl
  have hr := h.in2 a (by simp) hp
  refine ⟨?_, ?_, ?_, ?_⟩
  · intro b hb
    rcases List.mem_append.1 hb with hb | hb
    · exact h.in1 b hb
    · rw [List.mem_singleton.1 hb]; exact hr
  · intro b hb hbp
    rcases List.mem_append.1 hb with hb | hb
    · exact h.in2 b (List.mem_append_left _ hb) hbp
    · exact .next hr hi hx hb hbp
  · intro b hb j y hj hy e he hep
    rcases List.mem_append.1 hb with hb | hb
    · rcases h.all b hb j y hj hy e he hep with h1 | h1
      · exact .inl (List.mem_append_left _ h1)
      · rcases List.mem_append.1 h1 with h1 | h1
        · exact .inr (List.mem_append_left _ h1)
        · exact .inl (List.mem_append_right _ h1)
    · rw [List.mem_singleton.1 hb] at hj
      rw [hi] at hj
      injection hj with hj
      subst hj
      rw [hx] at hy
      injection hy with hy
      subst hy
      exact .inr (List.mem_append_right _ he)
  · intro hs
    rcases h.st hs with h1 | h1
    · exact .inl (List.mem_append_left _ h1)
    · rcases List.mem_append.1 h1 with h1 | h1
      · exact .inr (List.mem_append_left _ h1)
      · exact .inl (List.mem_append_right _ h1)
theorem Srch.done {l : List Ix} {s : Int} {cm : List Int} (h : Srch l s cm []) (a : Int) : a ∈ cm ↔ Rch l s a := by
  refine ⟨h.in1 a, fun hr => ?_⟩
  induction hr with
  | here hs => rcases h.st hs with h1 | h1 <;> first | exact h1 | cases h1
  | next _ hi hx hb hp ih => rcases h.all _ ih _ _ hi hx _ hb hp with h1 | h1 <;> first | exact h1 | cases h1
/-- How many of the instructions are not come to yet. -/
def frN5 (l : List Ix) (cm : List Int) : Nat := l.countP (fun y => decide (y.p ∉ cm))
theorem frN5_step (cm : List Int) (a : Int) (hn : a ∉ cm) : ∀ l : List Ix, frN5 l (cm ++ [a]) + (if hasP l a = true then 1 else 0) ≤ frN5 l cm := by
  intro l
  induction l with
  | nil => simp [frN5, hasP]
  | cons y t ih =>
    have e1 : hasP (y :: t) a = (decide (y.p = a) || hasP t a) := by simp [hasP]
    unfold frN5 at ih ⊢
    rw [List.countP_cons, List.countP_cons, e1]
    by_cases hy : y.p = a
    · have q1 : decide (y.p ∉ cm ++ [a]) = false := by simp [hy]
      have q2 : decide (y.p ∉ cm) = true := by rw [hy]; simpa using hn
      have q3 : decide (y.p = a) = true := by simpa using hy
      rw [q1, q2, q3]
      simp only [Bool.true_or, if_true, Bool.false_eq_true, if_false]
      split at ih <;> omega
    · have q3 : decide (y.p = a) = false := by simpa using hy
      have q1 : decide (y.p ∉ cm ++ [a]) = decide (y.p ∉ cm) := by simp [hy]
      rw [q1, q3, Bool.false_or]
      omega
theorem frN5_come {l : List Ix} {cm : List Int} {a : Int} (hn : a ∉ cm) (hp : hasP l a = true) : frN5 l (cm ++ [a]) + 1 ≤ frN5 l cm := by
  have := frN5_step cm a hn l
  rw [if_pos hp] at this
  exact this
theorem frN5_nil (l : List Ix) : frN5 l [] = l.length := by
  unfold frN5
  rw [List.countP_eq_length]
  simp
theorem next_bd {p : Int} {op : Nat} {a b : Int} (ha : -9223372036854775808 ≤ a ∧ a ≤ 9223372036854775807) (h : b ∈ nextD p op a) : -9223372036854775808 ≤ b ∧ b ≤ 9223372036854775807 := by
  unfold nextD at h
  split at h
  · cases h
  · rename_i hc
    have hs := sizeD_le op
    have hp : 0 ≤ p ∧ p ≤ 4096 := by
      have : inC p = true := by simpa using fun e => hc (Or.inr e)
      unfold inC at this; simp at this; omega
    have h0 : ∀ y ∈ (if endD op then [] else putJ [] (p + sizeD op)), y = p + sizeD op := by
      intro y hy
      split at hy
      · cases hy
      · rcases mem_putJ.1 hy with hy | hy
        · exact hy
        · cases hy
    simp only [] at h
    split at h
    · rcases mem_putJ.1 h with h | h
      · omega
      · have := h0 _ h; omega
    · have := h0 _ h; omega
theorem own_pop {w : World} {base : Nat} {v : Value} {l : List Int} {a : Int} (h : OwnJ w base v (l ++ [a])) : ∃ g cap, v = .slice (some ⟨g, 0, none⟩) (l.length + 1) cap ∧ l.length + 1 ≤ cap ∧ w.cell? ⟨g, l.length, none⟩ = some (.int .i64 a) ∧ OwnJ w base (.slice (some ⟨g, 0, none⟩) l.length cap) l := by
  rcases h.2 with ⟨_, h2⟩ | ⟨g, cap, cur, hv, hb, hh, hn, hm, hs, ht⟩
  · simp at h2
  · rw [List.length_append, List.length_singleton] at hv hn
    refine ⟨g, cap, hv, hn, ?_, ?_, Or.inr ⟨g, cap, cur, rfl, hb, hh, by omega, hm, hs, ?_⟩⟩
    · rcases h.shape with ⟨h1, _⟩ | ⟨g', cap', h1, _, _, _, hc, _⟩
      · rw [hv] at h1; injection h1 with h1; cases h1
      · rw [hv] at h1
        injection h1 with h1
        injection h1 with h1
        injection h1 with h1
        rw [h1]
        exact hc l.length a (by simp)
    · simp [jvals]
    · have := congrArg (List.take (l.length * 1)) ht
      rw [List.take_take] at this
      rw [Nat.min_eq_left (by simp)] at this
      rw [this]
      unfold jvals
      rw [List.map_append, List.take_append_of_le_length (by simp)]
      rw [List.take_of_length_le (by simp)]
theorem jcells {w : World} {g : Nat} {l : List Int} (h : ∀ (i : Nat) (x : Int), l[i]? = some x → w.cell? ⟨g, i, none⟩ = some (.int .i64 x)) : ∀ (j : Nat) u, (jvals l)[j]? = some u → w.cell? ((⟨g, 0, none⟩ : Addr).add j) = some u := by
  intro j u hj
  unfold jvals at hj
  rw [List.getElem?_map] at hj
  obtain ⟨x, hx, rfl⟩ := Option.map_eq_some_iff.1 hj
  rw [Addr.add_lit, Nat.zero_add]
  exact h j x hx
theorem jone (l : List Int) : ∀ u ∈ jvals l, u.oneCell' = true := by
  intro u hu
  obtain ⟨x, _, rfl⟩ := List.mem_map.1 hu
  rfl
theorem has_setD (ks : List Int) (x : Int) : Maps.has (setOf (H := Unit) (.agg []) (ks.map (Lit.int .i64))) (Lit.int .i64 x) = decide (x ∈ ks) := by
  by_cases h : x ∈ ks
  · rw [(has_set x).2 h]; simp [h]
  · have : ¬ Maps.has (setOf (H := Unit) (.agg []) (ks.map (Lit.int .i64))) (Lit.int .i64 x) = true := fun e => h ((has_set x).1 e)
    simp [h, this]
theorem OwnJ.new (w : World) (base : Nat) (x : Int) (hb : base ≤ w.heap.size) : OwnJ (w.alloc (.cells #[.int .i64 x] 3)) base (.slice (some ⟨w.heap.size, 0, none⟩) 1 1) [x] :=
  ⟨rfl, Or.inr ⟨w.heap.size, 1, _, rfl, hb, heap_alloc_new w _, Nat.le_refl _, by decide, rfl, rfl⟩⟩

end Go.Proofs.YtgelbihdcfgjcaaDoor
