/-
  flow.Check.
-/
import Derived.Test.YtlanmcmhgohooaaDoorSc3
namespace Go.Proofs.YtlanmcmhgohooaaDoor
open Go.RowKit Go.Maps
set_option maxRecDepth 20000

theorem grownX {w w' : World} (h : Below w.heap.size w w') : w.grownBy w' none := ⟨h.os, h.tape, h.output, h.size, fun k hk _ => h.block k hk⟩
theorem zeroX (w : World) : (zeroValue 3).run Tryd.prog w = .ok (.int .i64 0) w := by kernel_rfl
theorem dA_bd (op : Nat) (t : List UInt8) (h : op < 34) : -9223372036854775808 ≤ dA op t ∧ dA op t ≤ 9223372036854775807 := by
  have h1 := beNI_lt (t.take (wA op))
  have h2 := wA_le op h
  have h3 : (t.take (wA op)).length ≤ 4 := by rw [List.length_take]; omega
  have h4 : 256 ^ (t.take (wA op)).length ≤ 256 ^ 4 := Nat.pow_le_pow_right (by omega) h3
  have h5 : beNI (t.take (wA op)) < 4294967296 := Nat.lt_of_lt_of_le h1 h4
  unfold dA s32I
  split
  · split <;> omega
  · omega
theorem ixD_bd {k : Nat} {l : List UInt8} (h : dE l = 0) : -9223372036854775808 ≤ (ixD k l).a ∧ (ixD k l).a ≤ 9223372036854775807 := by
  have ho := (ixD_ok (k := k) h).1
  cases l with
  | nil => simp [dE] at h
  | cons x t => exact dA_bd _ _ ho
theorem sc_bd (L : List UInt8) : ∀ f k, ∀ x ∈ (scD L f k).1, -9223372036854775808 ≤ x.a ∧ x.a ≤ 9223372036854775807 := by
  intro f
  induction f with
  | zero => intro k x hx; cases hx
  | succ f ih =>
    intro k x hx
    by_cases h : k < L.length
    · by_cases he : dE (L.drop k) = 0
      · rw [sc_good h he] at hx
        rcases List.mem_cons.1 hx with hx | hx
        · rw [hx]; exact ixD_bd he
        · exact ih _ x hx
      · rw [sc_bad h he] at hx; cases hx
    · rw [sc_end h] at hx; cases hx
theorem scR_bd (L : List UInt8) : ∀ x ∈ (scR L).1, -9223372036854775808 ≤ x.a ∧ x.a ≤ 9223372036854775807 := by
  intro x hx
  unfold scR at hx
  by_cases h : 4096 < L.length
  · rw [if_pos h] at hx; cases hx
  · rw [if_neg h] at hx
    split at hx
    · exact sc_bd L _ _ x hx
    · cases hx
theorem has_fold2 (a : Int) : ∀ (acc : List (Ix × Nat)) (m : DataW Unit), IsMap m → Maps.has (acc.foldl (fun m y => m.put (.int .i64 y.1.p) (.lit (.int .i64 (y.2 : Int)))) m) (Lit.int .i64 a) = (Maps.has m (Lit.int .i64 a) || acc.any (fun y => decide (y.1.p = a))) := by
  intro acc
  induction acc with
  | nil => intro m _; simp
  | cons y t ih =>
    intro m hm
    rw [List.foldl_cons, ih _ (IsMap.put hm _ _), List.any_cons]
    by_cases h : y.1.p = a
    · rw [← h, has_put_same hm (show WideAt.IsKeyLit (Lit.int .i64 y.1.p) from trivial)]; simp
    · rw [has_put_other (fun e => by injection e with _ e; exact h e.symm)]; simp [h]
theorem has_fMap (l : List Ix) (a : Int) : Maps.has (fMap (bks l)) (Lit.int .i64 a) = hasP l a := by
  unfold fMap
  rw [has_fold2 _ _ _ isMap_empty]
  have e0 : Maps.has (DataW.map ([] : List (Lit × DataW Unit))) (Lit.int .i64 a) = false := rfl
  rw [e0, Bool.false_or]
  unfold bks hasP
  rw [List.any_reverse]
  have e1 : (l.zipIdx.any (fun y => decide (y.1.p = a))) = ((l.zipIdx.map Prod.fst).any (fun y => decide (y.p = a))) := by
    rw [List.any_map]; rfl
  rw [e1, List.zipIdx_map_fst]

set_option maxRecDepth 20000 in
set_option maxHeartbeats 4000000 in
theorem Check_any (ao : Option Addr) (c : Nat) (L : List UInt8) (w : World) (hb : BAt w ao L) (hW : WidAt w) (hl : L.length ≤ 140737488355328) (hc : L.length ≤ c) :
    Calls Tryd.prog 12 #[.slice ao L.length c] w fun e w' => e = .returned (.tuple #[.int .i64 (ckR L).1, .int .i64 (ckR L).2]) ∧ Below w.heap.size w w' := by
  have HSC := hide (Scan_any ao c L w hb hW hl hc)
  have hlen := scR_len L
  have hbd := scR_bd L
  unfold ckR
  generalize scR L = R at HSC hlen hbd ⊢
  obtain ⟨l, p, e⟩ := R
  simp only [] at HSC hlen hbd ⊢
  clear hb
  go_enter Tryd.func12, Tryd.ntmps12
  by_cases he : e = 0
  · subst he
    go_upto_region 4 with (go_at_call 9; refine (unhide HSC).mono ?_; rintro e w1 ⟨v, rfl, hO, hK, hB⟩)
    obtain ⟨oa, oc, rfl, hX⟩ := hO.at (fun f hf => by have := (hK f hf).1; omega)
    have HF := hide (firsts_any oa oc l w1 hX (by omega) (fun x hx => by have := (hK x hx).2; omega))
    have HX := hide hX
    have HB := hide hB
    clear hO hK hB hX HSC
    go_wp2_with (go_at_call 33; refine (unhide HF).mono ?_; rintro e w2 ⟨rfl, hM, hB2⟩)
    have HXN := hide ((unhide HX).below hB2)
    have HBN := hide ((unhide HB).trans (hB2.mono (unhide HB).size))
    have HM := hide hM
    clear HX HB hM hB2
    rename Hid (XsAt w2 oa l) => HX
    rename Hid (Below w.heap.size w w2) => HB
    go_loopw [27] (fun i wr => ∃ k : Nat, k ≤ l.length ∧ i = .int .i64 (k : Int) ∧ Hid (ckJ l l = ckJ l (l.drop k)) ∧ Hid (Below w2.heap.size w2 wr)) (fun i _ => l.length - (intOf i).toNat)
    case atStart => exact ⟨0, by omega, rfl, hide rfl, hide (Below.refl _ _)⟩
    case round =>
      obtain ⟨k, hk, rfl, HN, HB0⟩ := hrel
      by_cases hkl : k < l.length
      · have j1 : ((k : Nat) : Int) < ((l.length : Nat) : Int) := by omega
        have hx := List.getElem?_eq_getElem hkl
        generalize l[k] = x at hx
        have hx0 := ((unhide HX).below (unhide HB0)) k x hx
        have hwf := wf_of (hbd x (List.mem_of_getElem? hx))
        have hJ := ckJ_drop (l := l) hx
        obtain ⟨b, off, rfl, hc⟩ := hx0
        obtain ⟨c0, c1, c2, c3, ho⟩ := hc
        have hal : Below wr.heap.size wr (wr.alloc (.cells #[.int .i64 x.p, .int .u8 (x.op : Int), .int .i64 x.a, .int .i64 x.b] 31)) := (Below.refl _ _).alloc (Nat.le_refl _) _
        have I1 : Hid (IAt (wr.alloc (.cells #[.int .i64 x.p, .int .u8 (x.op : Int), .int .i64 x.a, .int .i64 x.b] 31)) wr.heap.size x.p x.op x.a x.b) := hide (heap_alloc_new wr _)
        have HB1 := hide ((unhide HB0).trans (hal.mono (unhide HB0).size))
        rw [← unhide HN] at hJ
        have HJ := hide hJ
        clear hx hal hJ HN
        go_upto_region 8 with fail
        have HM4 : Hid (MapAt (wr.alloc (.cells #[.int .i64 x.p, .int .u8 (x.op : Int), .int .i64 x.a, .int .i64 x.b] 31)) (w1.heap.size + 1) l.length (bks l)) := hide (World.ownsMap.alloc (World.ownsMap.kept (unhide HM) (grownX (unhide HB0)) (fun e => by cases e)) _)
        generalize (wr.alloc (.cells #[.int .i64 x.p, .int .u8 (x.op : Int), .int .i64 x.a, .int .i64 x.b] 31)) = w4 at I1 HB1 HM4 ⊢
        generalize wr.heap.size = gi at I1 ⊢
        clear c0 c1 c2 c3 HB0
        have d0 := (unhide I1).c0
        obtain ⟨d1, d2, d3⟩ := (unhide I1).c
        have HH : Hid (Maps.has (fMap (bks l)) (Lit.int .i64 x.a) = hasP l x.a) := hide (has_fMap l x.a)
        go_upto_region 9 with (at_lookup; refine wpList_lookup_own_ok_int _ rfl _ _ 53 rfl 3 3 .i64 lawK Tryd.underlying53 Tryd.underlying3 (zeroX _) (w1.heap.size + 1) l.length (fMap (bks l)) rfl (unhide HM4) _ _ rfl (keyOf_int_mk Tryd.underlying3 hwf) ?_; intro cc hat hwc; clear hat hwc)
        rw [unhide HH]
        have HJU := hide (Jumps_any x.op w4)
        by_cases hj : jmpD x.op = true
        · rw [show (decide (x.op = 19) || decide (x.op = 20)) = true from hj] at HJU
          cases hh : hasP l x.a with
          | false =>
            have HR : Hid (ckL l = (x.p, 50)) := hide (ckL_jump (by rw [unhide HJ, hj, hh]; rfl))
            clear HJ hj hh
            go_wp2_with (go_at_call 35; refine (unhide HJU).mono ?_; rintro e w4' ⟨rfl, rfl⟩)
            go_ret2
            rw [unhide HR]
            exact ⟨rfl, (unhide HB).trans ((unhide HB1).mono (unhide HB).size)⟩
          | true =>
            have HN2 : Hid (ckJ l l = ckJ l (l.drop (k + 1))) := hide (by rw [unhide HJ, hj, hh]; rfl)
            clear HJ hj hh
            go_wp2_with (go_at_call 35; refine (unhide HJU).mono ?_; rintro e w4' ⟨rfl, rfl⟩)
            go_roundw
            case rel => exact ⟨k + 1, by omega, by go_num, HN2, HB1⟩
            case measure => simp [intOf]; omega
        · have hj' : jmpD x.op = false := by simpa using hj
          rw [show (decide (x.op = 19) || decide (x.op = 20)) = false from hj'] at HJU
          have HN2 : Hid (ckJ l l = ckJ l (l.drop (k + 1))) := hide (by rw [unhide HJ, hj']; rfl)
          clear HJ hj hj'
          go_wp2_with (go_at_call 35; refine (unhide HJU).mono ?_; rintro e w4' ⟨rfl, rfl⟩)
          go_roundw
          case rel => exact ⟨k + 1, by omega, by go_num, HN2, HB1⟩
          case measure => simp [intOf]; omega
      · obtain rfl : k = l.length := by omega
        have HN2 : Hid (ckJ l l = none) := hide (by rw [unhide HN, List.drop_length]; rfl)
        have HB1 := hide ((unhide HB).trans ((unhide HB0).mono (unhide HB).size))
        by_cases h0 : l.length = 0
        · have hn : (((l.length : Nat) : Int) == 0) = true := by simp [h0]
          have HR : Hid (ckL l = (0, 51)) := hide (ckL_none (unhide HN2) h0)
          clear h0
          go_wp2
          go_ret2
          rw [unhide HR]
          exact ⟨rfl, unhide HB1⟩
        · have hn : (((l.length : Nat) : Int) == 0) = false := by simpa using h0
          obtain ⟨k, hk1⟩ : ∃ k, l.length = k + 1 := ⟨l.length - 1, by omega⟩
          have hkl : l.length - 1 < l.length := by omega
          have hx := List.getElem?_eq_getElem hkl
          generalize l[l.length - 1] = x at hx
          have HR := hide (ckL_last (unhide HN2) hx)
          rw [show l.length - 1 = k by omega] at hx
          obtain ⟨b, off, rfl, hc⟩ := ((unhide HX).below (unhide HB0)) _ x hx
          obtain ⟨c0, c1, c2, c3, ho⟩ := hc
          have hal : Below wr.heap.size wr (wr.alloc (.cells #[.int .i64 x.p, .int .u8 (x.op : Int), .int .i64 x.a, .int .i64 x.b] 31)) := (Below.refl _ _).alloc (Nat.le_refl _) _
          have I1 : Hid (IAt (wr.alloc (.cells #[.int .i64 x.p, .int .u8 (x.op : Int), .int .i64 x.a, .int .i64 x.b] 31)) wr.heap.size x.p x.op x.a x.b) := hide (heap_alloc_new wr _)
          have HB2 := hide ((unhide HB1).trans (hal.mono (unhide HB1).size))
          have hk2 : (((k : Nat) : Int) + 1 == 0) = false := by simp; omega
          clear hx hal h0 hkl HN HN2 HB0 HB1 HX
          go_upto_region 15 with fail
          generalize (wr.alloc (.cells #[.int .i64 x.p, .int .u8 (x.op : Int), .int .i64 x.a, .int .i64 x.b] 31)) = w4 at I1 HB2 ⊢
          generalize wr.heap.size = gi at I1 ⊢
          clear c0 c1 c2 c3
          have d0 := (unhide I1).c0
          have d1 := (unhide I1).c.1
          have HEN := hide (Ends_any x.op w4)
          by_cases hj : endD x.op = true
          · rw [show (decide (x.op = 19) || decide (x.op = 22) || decide (x.op = 32)) = true from hj] at HEN
            rw [if_pos hj] at HR
            clear hj
            go_wp2_with (go_at_call 36; refine (unhide HEN).mono ?_; rintro e w4' ⟨rfl, rfl⟩)
            go_ret2
            rw [unhide HR]
            exact ⟨rfl, unhide HB2⟩
          · rw [show (decide (x.op = 19) || decide (x.op = 22) || decide (x.op = 32)) = false from (by simpa using hj : endD x.op = false)] at HEN
            rw [if_neg hj] at HR
            clear hj
            go_wp2_with (go_at_call 36; refine (unhide HEN).mono ?_; rintro e w4' ⟨rfl, rfl⟩)
            go_ret2
            rw [unhide HR]
            exact ⟨rfl, unhide HB2⟩
  · have hn : (e != 0) = true := bne_iff_ne.2 he
    rw [ck_bad he]
    clear he
    go_wp2_with (go_at_call 9; refine (unhide HSC).mono ?_; rintro e w1 ⟨v, rfl, hO, hK, hB⟩)
    go_ret2
    exact ⟨rfl, hB⟩
end Go.Proofs.YtlanmcmhgohooaaDoor
