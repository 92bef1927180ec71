/-
  The document's Print under contract. Conditions: lengths fit, the tables are laid.
-/
import Derived.Test.YthdgbdjagjagpaaDoorAs5
namespace Go.Proofs.YthdgbdjagjagpaaDoor
open Go.RowKit
set_option maxRecDepth 20000
set_option linter.unusedVariables false
set_option linter.unusedSimpArgs false

/-- What Print tells, of what was scanned. -/
def prX (l : List Ix) (p : Int) (e : Int) : List UInt8 × Int × Int := if e = 0 then (match ckJ l l with | some q => ([], q, 50) | none => (txtT (pts (tgs l)) l, 0, 0)) else ([], p, e)
theorem prX_bad {l : List Ix} {p e : Int} (h : e ≠ 0) : prX l p e = ([], p, e) := if_neg h
theorem prX_jump {l : List Ix} {p q : Int} (h : ckJ l l = some q) : prX l p 0 = ([], q, 50) := by unfold prX; rw [if_pos rfl, h]
theorem prX_good {l : List Ix} {p : Int} (h : ckJ l l = none) : prX l p 0 = (txtT (pts (tgs l)) l, 0, 0) := by unfold prX; rw [if_pos rfl, h]
theorem ckL_two {l : List Ix} (h : ckJ l l = none) : ¬ ((ckL l).2 ≠ 0 ∧ (ckL l).2 ≠ 51) := by
  unfold ckL
  rw [h]
  simp only []
  cases l.getLast? with
  | none => simp
  | some x => simp only []; split <;> simp
theorem scR_51 (L : List UInt8) : (scR L).2.2 ≠ 51 := by
  unfold scR
  split
  · show (4 : Int) ≠ 51; decide
  · split
    · show (0 : Int) ≠ 51; decide
    · exact sc_51 L _ _
theorem prR_prX (L : List UInt8) : prR L = prX (scR L).1 ((scR L).2.1 : Int) (scR L).2.2 := by
  unfold prR
  by_cases h : (scR L).2.2 = 0
  · have hc : ckR L = ckL (scR L).1 := by unfold ckR; rw [if_pos h]
    rw [hc, h]
    cases hj : ckJ (scR L).1 (scR L).1 with
    | some q => rw [prX_jump hj, ckL_jump hj, if_pos (by constructor <;> simp)]
    | none => rw [prX_good hj, if_neg (ckL_two hj)]
  · have hc : ckR L = (((scR L).2.1 : Int), (scR L).2.2) := by unfold ckR; rw [if_neg h]
    rw [hc, prX_bad h, if_pos ⟨h, scR_51 L⟩]
theorem ckJ_none {l : List Ix} : ∀ {r : List Ix}, ckJ l r = none → ∀ x ∈ r, jmpD x.op = true → hasP l x.a = true
  | [], _, x, hx, _ => by cases hx
  | y :: t, h, x, hx, hj => by
    unfold ckJ at h
    split at h
    · cases h
    · rename_i hn
      rcases List.mem_cons.1 hx with e | hx
      · subst e
        rw [hj] at hn
        cases hh : hasP l x.a with
        | true => rfl
        | false => rw [hh] at hn; exact absurd rfl hn
      · exact ckJ_none h x hx hj
theorem tgs_has {l : List Ix} (h : ckJ l l = none) : ∀ t ∈ pts (tgs l), hasP l t = true := fun t ht => by
  have h1 := ((pts_both (tgs l) [] List.Pairwise.nil).2 t).1 ht
  rcases h1 with h1 | h1
  · cases h1
  · unfold tgs at h1
    obtain ⟨x, hx, rfl⟩ := List.mem_map.1 h1
    obtain ⟨hx, hj⟩ := List.mem_filter.1 hx
    exact ckJ_none h x hx hj
/-- A slice of numbers, with room behind it. -/
def JsV (w : World) (v : Value) (r : List Int) : Prop := ∃ ao cap, v = .slice ao r.length cap ∧ JsAt w ao r ∧ r.length ≤ cap ∧ cap ≤ 9223372036854775807
theorem JsV.below {w w' : World} {v : Value} {r : List Int} (h : JsV w v r) (hb : Below w.heap.size w w') : JsV w' v r := by
  obtain ⟨ao, cap, e, h1, h2, h3⟩ := h
  exact ⟨ao, cap, e, h1.below hb, h2, h3⟩
theorem OwnJ.jsV {w : World} {base : Nat} {v : Value} {r : List Int} (h : OwnJ w base v r) : JsV w v r := by
  rcases h.2 with ⟨h1, h2⟩ | ⟨g, cap, cur, rfl, hb, hh, hn, hm, hs, ht⟩
  · obtain rfl := List.eq_nil_of_length_eq_zero h2
    exact ⟨none, 0, h1, fun i x hx => (by simp at hx), Nat.le_refl _, by omega⟩
  · refine ⟨_, cap, rfl, fun i x hx => ⟨g, 0, rfl, ?_⟩, hn, by unfold maxLen at hm; omega⟩
    have hi := (List.getElem?_eq_some_iff.1 hx).1
    rw [Nat.zero_add, World.ownsRow.cellAt h i (by omega)]
    unfold jvals
    rw [List.getElem?_map, hx]
    rfl
theorem JsV.tail {w w' : World} {x : Int} {r r2 : List Int} (ao : Option Addr) (b o cap : Nat) (h : JsAt w (some ⟨b, o, none⟩) r) (hr : r = x :: r2) (hc : r.length ≤ cap) (hz : cap ≤ 9223372036854775807) (hb : Below w.heap.size w w') :
    (cap = 1 → JsV w' (.slice (some ⟨b, o, none⟩) r2.length 0) r2) ∧ (¬ cap = 1 → JsV w' (.slice (some ⟨b, o + 1, none⟩) r2.length (cap - 1)) r2) := by
  have hb2 := h.below hb
  subst hr
  rw [List.length_cons] at hc
  refine ⟨fun e => ?_, fun e => ⟨_, _, rfl, fun i y hy => ⟨b, o + 1, rfl, ?_⟩, by omega, by omega⟩⟩
  · obtain rfl : r2 = [] := List.eq_nil_of_length_eq_zero (by omega)
    exact ⟨_, _, rfl, fun i y hy => (by simp at hy), by simp, by omega⟩
  · obtain ⟨b', o', e', hh⟩ := hb2 (i + 1) y hy
    injection e' with e'
    injection e' with e1 e2
    subst e1 e2
    rw [show o + 1 + i = o + (i + 1) by omega]
    exact hh
theorem ap3 (a b c d : List UInt8) : (⟨a.toArray⟩ : ByteArray) ++ ((⟨b.toArray⟩ : ByteArray) ++ ⟨c.toArray⟩) ++ (⟨d.toArray⟩ : ByteArray) = ⟨(a ++ (b ++ c) ++ d).toArray⟩ := by rw [ba_app, ba_app, ba_app]
theorem ap5 (a b c e f d : List UInt8) : (⟨a.toArray⟩ : ByteArray) ++ ((⟨b.toArray⟩ : ByteArray) ++ ⟨c.toArray⟩) ++ ((⟨e.toArray⟩ : ByteArray) ++ ⟨f.toArray⟩) ++ (⟨d.toArray⟩ : ByteArray) = ⟨(a ++ (b ++ c) ++ (e ++ f) ++ d).toArray⟩ := by rw [ba_app, ba_app, ba_app, ba_app, ba_app]
set_option maxRecDepth 20000 in
set_option maxHeartbeats 16000000 in
theorem refPrint_any (ao : Option Addr) (c : Nat) (L : List UInt8) (w : World) (hb : BAt w ao L) (hP : PwT w) (hl : L.length ≤ 140737488355328) (hc : L.length ≤ c) :
    Calls Tryd.prog 7 #[.slice ao L.length c] w fun e w' => e = .returned (.tuple #[tx (prR L).1, .int .i64 (prR L).2.1, .int .i64 (prR L).2.2]) ∧ Below w.heap.size w w' := by
  have HSC := hide (refScan_any ao c L w hb hl hc)
  have HP := hide hP
  have hlen := scR_len L
  have HFIT := hide (fun h => fit_of (L := L) h)
  have HUP := hide (scR_up L)
  rw [prR_prX]
  generalize scR L = R at HSC hlen HFIT HUP ⊢
  obtain ⟨l, p, e⟩ := R
  simp only [] at HSC hlen HFIT HUP ⊢
  obtain ⟨res, HRES⟩ : ∃ res, Hid (prX l (p : Int) e = res) := ⟨_, hide rfl⟩
  rw [unhide HRES]
  clear hb hP
  go_enter Tryd.func7, Tryd.ntmps7
  by_cases he : e = 0
  case neg =>
    have hn : (e != 0) = true := bne_iff_ne.2 he
    have HR : Hid (res = ([], (p : Int), e)) := hide (by rw [← unhide HRES, prX_bad he])
    clear he HFIT HUP HP
    go_wp2_with (go_at_call 23; refine (unhide HSC).mono ?_; rintro e w1 ⟨v, rfl, hO, hK, hB⟩)
    go_ret3
    rw [unhide HR]
    exact ⟨rfl, hB⟩
  subst he
  go_upto_region 4 with (go_at_call 23; refine (unhide HSC).mono ?_; rintro e w1 ⟨v, rfl, hO, hK, hB⟩)
  obtain ⟨oa, oc, rfl, hX⟩ := hO.at (fun f hf => by have := (hK f hf).1; omega)
  have HX := hide hX
  have HB := hide hB
  have HF := hide (unhide HFIT hK)
  clear hO hK hB hX HSC HFIT
  go_wp2
  go_loopw [27] (fun i wr => ∃ k : Nat, k ≤ l.length ∧ i = .int .i64 (k : Int) ∧ Hid (ckJ l l = ckJ l (l.drop k)) ∧ Hid (Below w1.heap.size w1 wr)) (fun i _ => l.length - (intOf i).toNat)
  case atStart => exact ⟨0, by omega, rfl, hide rfl, hide (Below.refl _ _)⟩
  case round =>
    obtain ⟨k, hk, rfl, HN, HB0⟩ := hrel
    by_cases hkl : k < l.length
    · have j1 : ((k : Nat) : Int) < ((l.length : Nat) : Int) := by omega
      have hx := List.getElem?_eq_getElem hkl
      generalize l[k] = x at hx
      have hx0 := ((unhide HX).below (unhide HB0)) k x hx
      have hJ := ckJ_drop (l := l) hx
      obtain ⟨b, off, rfl, hc⟩ := hx0
      obtain ⟨c0, c1, c2, c3, ho⟩ := hc
      have hal : Below wr.heap.size wr (wr.alloc (.cells #[.int .i64 x.p, .int .u8 (x.op : Int), .int .i64 x.a, .int .i64 x.b] 48)) := (Below.refl _ _).alloc (Nat.le_refl _) _
      have I1 : Hid (IAt (wr.alloc (.cells #[.int .i64 x.p, .int .u8 (x.op : Int), .int .i64 x.a, .int .i64 x.b] 48)) wr.heap.size x.p x.op x.a x.b) := hide (heap_alloc_new wr _)
      have HB1 := hide ((unhide HB0).trans (hal.mono (unhide HB0).size))
      rw [← unhide HN] at hJ
      have HJ := hide hJ
      clear hx hal hJ HN
      go_upto_region 7 with fail
      generalize (wr.alloc (.cells #[.int .i64 x.p, .int .u8 (x.op : Int), .int .i64 x.a, .int .i64 x.b] 48)) = w2 at I1 HB1 ⊢
      generalize wr.heap.size = gi at I1 ⊢
      clear c0 c1 c2 c3 HB0
      obtain ⟨d1, d2, d3⟩ := (unhide I1).c
      have HJU := hide (refJumps_any x.op w2)
      by_cases hj : jmpD x.op = true
      · rw [show (decide (x.op = 19) || decide (x.op = 20)) = true from hj] at HJU
        have HPL := hide (Place_any (some ⟨b, off, none⟩) oc l x.a w2 ((unhide HX).below (unhide HB1)) (by omega))
        cases hh : hasP l x.a with
        | false =>
          rw [hh] at HPL
          have HR : Hid (res = ([], x.p, 50)) := hide (by rw [← unhide HRES]; exact prX_jump (by rw [unhide HJ, hj, hh]; rfl))
          clear HJ hj hh HP HF HUP
          simp only [Bool.not_false] at HPL
          go_wp2_with (first | (go_at_call 24; refine (unhide HJU).mono ?_; rintro e w2' ⟨rfl, rfl⟩) | (go_at_call 25; refine (unhide HPL).mono ?_; rintro e w3 ⟨n, rfl, hn, hB3⟩; have d0 := (IAt.below (unhide I1) hB3).c0; have HB3 := hide ((unhide HB1).trans (hB3.mono (unhide HB1).size)); clear hB3))
          go_region
          go_wp2
          go_ret3
          rw [unhide HR]
          exact ⟨rfl, ((unhide HB).trans ((unhide HB3).mono (unhide HB).size)).trans ((below_dL _ _).mono (Nat.le_trans (unhide HB).size (unhide HB3).size))⟩
        | true =>
          rw [hh] at HPL
          have HN2 : Hid (ckJ l l = ckJ l (l.drop (k + 1))) := hide (by rw [unhide HJ, hj, hh]; rfl)
          clear HJ hj hh
          simp only [Bool.not_true] at HPL
          go_wp2_with (first | (go_at_call 24; refine (unhide HJU).mono ?_; rintro e w2' ⟨rfl, rfl⟩) | (go_at_call 25; refine (unhide HPL).mono ?_; rintro e w3 ⟨n, rfl, hn, hB3⟩; have d0 := (IAt.below (unhide I1) hB3).c0; have HB3 := hide ((unhide HB1).trans (hB3.mono (unhide HB1).size)); clear hB3))
          go_roundw
          case rel => exact ⟨k + 1, by omega, by go_num, HN2, HB3⟩
          case measure => simp [intOf]; omega
      · have hj' : jmpD x.op = false := by simpa using hj
        rw [show (decide (x.op = 19) || decide (x.op = 20)) = false from hj'] at HJU
        have HN2 : Hid (ckJ l l = ckJ l (l.drop (k + 1))) := hide (by rw [unhide HJ, hj']; rfl)
        clear HJ hj hj'
        go_wp2_with (go_at_call 24; refine (unhide HJU).mono ?_; rintro e w2' ⟨rfl, rfl⟩)
        go_roundw
        case rel => exact ⟨k + 1, by omega, by go_num, HN2, HB1⟩
        case measure => simp [intOf]; omega
    · obtain rfl : k = l.length := by omega
      have hnone : ckJ l l = none := by rw [unhide HN, List.drop_length]; rfl
      have HR : Hid (res = (txtT (pts (tgs l)) l, 0, 0)) := hide (by rw [← unhide HRES]; exact prX_good hnone)
      have HB1 := hide ((unhide HB).trans ((unhide HB0).mono (unhide HB).size))
      have HXr := hide ((unhide HX).below (unhide HB0))
      have HTH := hide (tgs_has hnone)
      have HTG := hide (refTargets_any oa oc l wr (unhide HXr) (by omega))
      clear hnone HN HB0 HX HB HRES hkl hk
      go_wp2_with fail
      refine (unhide HTG).mono ?_
      rintro e w2 ⟨vt, rfl, hO, hB2⟩
      have HASC : Hid (AscJ (pts (tgs l))) := hide (pts_both (tgs l) [] List.Pairwise.nil).1
      obtain ⟨ts, HTE⟩ : ∃ ts, Hid (pts (tgs l) = ts) := ⟨_, hide rfl⟩
      rw [unhide HTE] at HR HTH hO HASC
      have hz : ts.length ≤ 4097 := by
        have h1 := pts_len (tgs l)
        have h2 := tgs_len l
        rw [unhide HTE] at h1
        omega
      have HJV : Hid (JsV w2 vt (remT ts (l.take 0))) := hide (by rw [List.take_zero, remT_nil]; exact OwnJ.jsV hO)
      have HX2 := hide ((unhide HXr).below hB2)
      have HB2 := hide ((unhide HB1).trans (hB2.mono (unhide HB1).size))
      clear hO hB2 hz HTG HXr HB1 HTE
      go_wp2_with fail
      go_loopw [10, 11, 48] (fun v s i wr => ∃ k : Nat, k ≤ l.length ∧ i = .int .i64 (k : Int) ∧ s = tx (txtT ts (l.take k)) ∧ Hid (JsV wr v (remT ts (l.take k))) ∧ Hid (Below w2.heap.size w2 wr)) (fun _ _ i _ => l.length - (intOf i).toNat)
      case atStart => exact ⟨0, by omega, rfl, rfl, HJV, hide (Below.refl _ _)⟩
      case round =>
        clear HJV
        obtain ⟨k, hk, rfl, rfl, HJV, HBL⟩ := hrel
        by_cases hkl : k < l.length
        · have j1 : ((k : Nat) : Int) < ((l.length : Nat) : Int) := by omega
          have hx := List.getElem?_eq_getElem hkl
          generalize l[k] = x at hx
          have HFX := hide (unhide HF x (List.mem_of_getElem? hx))
          have HT : Hid (txtT ts (l.take (k + 1)) = txtT ts (l.take k) ++ stepT ts x) := hide (by rw [take_snoc hx, txt_snoc])
          have HTL : Hid ((txtT ts (l.take k)).length ≤ 409700) := hide (by
            have h1 := txt_len (ts := ts) (l := l.take k) (fun y hy => unhide HF y (List.mem_of_mem_take hy))
            rw [List.length_take] at h1
            omega)
          have HREM : Hid ((x.p ∈ ts ∧ ∃ t, remT ts (l.take k) = x.p :: t ∧ remT ts (l.take (k + 1)) = t) ∨ (x.p ∉ ts ∧ remT ts (l.take (k + 1)) = remT ts (l.take k) ∧ (remT ts (l.take k) = [] ∨ ∃ t r, remT ts (l.take k) = t :: r ∧ t ≠ x.p))) := hide (by
            have hs : l = l.take k ++ x :: l.drop (k + 1) := by
              obtain ⟨h1, h2⟩ := List.getElem?_eq_some_iff.1 hx
              rw [← h2, ← List.drop_eq_getElem_cons h1, List.take_append_drop]
            rw [take_snoc hx]
            by_cases hm : x.p ∈ ts
            · exact Or.inl ⟨hm, _, rem_hit hs (unhide HUP) (unhide HASC) (unhide HTH) hm, rfl⟩
            · obtain ⟨h1, h2⟩ := rem_miss (A := l.take k) hm
              refine Or.inr ⟨hm, h1.symm, ?_⟩
              cases hr : remT ts (l.take k) with
              | nil => exact Or.inl rfl
              | cons t r => exact Or.inr ⟨t, r, rfl, h2 t r hr⟩)
          obtain ⟨b, off, rfl, hc⟩ := ((unhide HX2).below (unhide HBL)) k x hx
          obtain ⟨c0, c1, c2, c3, ho⟩ := hc
          have hal : Below wr.heap.size wr (wr.alloc (.cells #[.int .i64 x.p, .int .u8 (x.op : Int), .int .i64 x.a, .int .i64 x.b] 48)) := (Below.refl _ _).alloc (Nat.le_refl _) _
          have I1 : Hid (IAt (wr.alloc (.cells #[.int .i64 x.p, .int .u8 (x.op : Int), .int .i64 x.a, .int .i64 x.b] 48)) wr.heap.size x.p x.op x.a x.b) := hide (heap_alloc_new wr _)
          have HJV1 := hide ((unhide HJV).below hal)
          have HBL1 := hide ((unhide HBL).trans (hal.mono (unhide HBL).size))
          clear hx hal HJV HBL
          go_upto_region 15 with fail
          generalize (wr.alloc (.cells #[.int .i64 x.p, .int .u8 (x.op : Int), .int .i64 x.a, .int .i64 x.b] 48)) = w3 at I1 HJV1 HBL1 ⊢
          generalize wr.heap.size = gi at I1 ⊢
          clear c0 c1 c2 c3
          obtain ⟨pre, HPRE⟩ : ∃ pre, Hid (txtT ts (l.take k) = pre) := ⟨_, hide rfl⟩
          rw [unhide HPRE] at HT HTL ⊢
          clear HPRE
          obtain ⟨rem, HRE⟩ : ∃ rem, Hid (remT ts (l.take k) = rem) := ⟨_, hide rfl⟩
          rw [unhide HRE] at HJV1 HREM
          clear HRE
          obtain ⟨rem2, HRE⟩ : ∃ rem2, Hid (remT ts (l.take (k + 1)) = rem2) := ⟨_, hide rfl⟩
          rw [unhide HRE] at HREM
          obtain ⟨q, HQ⟩ : ∃ q, Hid (decide (x.p ∈ ts) = q) := ⟨_, hide rfl⟩
          go_upto_region 15 with fail
          go_cut [62] (fun vb wx => vb = .bool q ∧ Hid (Below w3.heap.size w3 wx))
          case first =>
            have d0 := (unhide I1).c0
            obtain ⟨ra, rc, rfl, hj, hlc, hcz⟩ := unhide HJV1
            have HJJ := hide hj
            clear hj
            rcases unhide HREM with ⟨hm, t, hr, _⟩ | ⟨hm, _, rfl | ⟨t, r, hr, hne⟩⟩
            · have hq : Hid (q = true) := hide (by rw [← unhide HQ]; exact decide_eq_true hm)
              obtain ⟨b2, o2, rfl, hc2⟩ := unhide HJJ 0 x.p (by rw [hr]; rfl)
              have hc2 : w3.cell? ⟨b2, o2, none⟩ = some (.int .i64 x.p) := hc2
              have i1 : (rem.length : Int) > 0 := by rw [hr]; simp
              have i2 : 0 < rem.length := by omega
              clear hm hr HREM HQ HT HTL HRE HJJ
              go_region
              go_wp2
              go_meet
              exact ⟨by rw [unhide hq], hide ⟨rfl, rfl, rfl, Nat.le_refl _, fun _ _ => rfl⟩⟩
            · have hq : Hid (q = false) := hide (by rw [← unhide HQ]; exact decide_eq_false hm)
              clear hm HREM HQ HT HTL HRE HJJ
              go_region
              go_wp2
              go_meet
              exact ⟨by rw [unhide hq], hide ⟨rfl, rfl, rfl, Nat.le_refl _, fun _ _ => rfl⟩⟩
            · have hq : Hid (q = false) := hide (by rw [← unhide HQ]; exact decide_eq_false hm)
              obtain ⟨b2, o2, rfl, hc2⟩ := unhide HJJ 0 t (by rw [hr]; rfl)
              have hc2 : w3.cell? ⟨b2, o2, none⟩ = some (.int .i64 t) := hc2
              have hne2 : (t == x.p) = false := beq_f hne
              have i1 : (rem.length : Int) > 0 := by rw [hr]; simp
              have i2 : 0 < rem.length := by omega
              clear hm hr HREM HQ HT HTL HRE hne HJJ
              go_region
              go_wp2
              go_meet
              exact ⟨by rw [unhide hq], hide ⟨rfl, rfl, rfl, Nat.le_refl _, fun _ _ => rfl⟩⟩
          case rest =>
          obtain ⟨rfl, HWX⟩ := hcut
          have I2 := hide ((unhide I1).below (unhide HWX))
          have HJV2 := hide ((unhide HJV1).below (unhide HWX))
          have HBL2 := hide ((unhide HBL1).trans ((unhide HWX).mono (unhide HBL1).size))
          clear HWX I1 HJV1 HBL1
          have HPB := hide (fun W (h : Below w2.heap.size w2 W) => (unhide HP).below ((unhide HB2).trans (h.mono (unhide HB2).size)))
          have hpl : pre.length ≤ 409700 := unhide HTL
          go_upto_if 62 with fail
          go_cut [10, 11] (fun vr vs wx => vs = tx (pre ++ (if x.p ∈ ts then labT x.p else [])) ∧ Hid (JsV wx vr rem2) ∧ Hid (Below w2.heap.size w2 wx) ∧ Hid (IAt wx gi x.p x.op x.a x.b))
          case first =>
            cases q with
            | true =>
              have hm : x.p ∈ ts := of_decide_eq_true (unhide HQ)
              have HM : Hid ((if x.p ∈ ts then labT x.p else []) = labT x.p) := hide (if_pos hm)
              have hr : rem = x.p :: rem2 := by
                rcases unhide HREM with ⟨_, t, h1, h2⟩ | ⟨h1, _⟩
                · rw [h1, h2]
                · exact absurd hm h1
              obtain ⟨ra, rc, rfl, hj, hlc, hcz⟩ := unhide HJV2
              obtain ⟨b2, o2, rfl, hc2⟩ := hj 0 x.p (by rw [hr]; rfl)
              have HJ := hide hj
              have HRL := hide hr
              have hrl : rem.length = rem2.length + 1 := by rw [hr]; rfl
              clear hr
              have d0 := (unhide I2).c0
              have hx0 := (unhide HFX).p0
              have hx1 := (unhide HFX).p1
              have HI := hide (Itoa_any x.p (by omega) (by omega) wc (unhide HPB _ (unhide HBL2)))
              clear hm HQ HREM HRE HJV2 hj hc2
              go_wp2_with fail
              refine (unhide HI).mono ?_
              rintro e w4 ⟨rfl, hb4⟩
              have hln := itoa_len x.p (by omega) (by omega)
              have hl1 : ¬ 9223372036854775807 < 1 + (Lib.itoa x.p).length := by omega
              have hl2 : ¬ 9223372036854775807 < 1 + (Lib.itoa x.p).length + 2 := by omega
              have hl3 : ¬ 9223372036854775807 < pre.length + (1 + (Lib.itoa x.p).length + 2) := by omega
              have I4 := hide ((unhide I2).below hb4)
              have HBL4 := hide ((unhide HBL2).trans (hb4.mono (unhide HBL2).size))
              have HJ4 := hide (hb4)
              clear hb4 HI I2 HBL2 d0 hln
              go_upto_region 17 with fail
              have hva : (⟨pre.toArray⟩ : ByteArray) ++ ((⟨#[108]⟩ : ByteArray) ++ ⟨(Lib.itoa x.p).toArray⟩ ++ (⟨#[58, 10]⟩ : ByteArray)) = ⟨(pre ++ (if x.p ∈ ts then labT x.p else [])).toArray⟩ := by
                rw [unhide HM]
                exact ((congrArg (fun z => (⟨pre.toArray⟩ : ByteArray) ++ (z ++ (⟨#[58, 10]⟩ : ByteArray))) (ba_app [108] (Lib.itoa x.p))).trans ((congrArg (fun z => (⟨pre.toArray⟩ : ByteArray) ++ z) (ba_app ([108] ++ Lib.itoa x.p) [58, 10])).trans (ba_app pre _)))
              have HVA := hide hva
              have HJV4 := hide (JsV.tail none b2 o2 rc (unhide HJ) (unhide HRL) hlc hcz (unhide HJ4))
              clear hva HJ HRL HJ4 HM
              go_wp2
              case inl =>
                go_meet
                exact ⟨by rw [unhide HVA], (unhide HJV4).1 h, HBL4, I4⟩
              case inr =>
                go_meet
                exact ⟨by rw [unhide HVA], (unhide HJV4).2 h, HBL4, I4⟩
            | false =>
              have hm : x.p ∉ ts := of_decide_eq_false (unhide HQ)
              have hr2 : rem2 = rem := by
                rcases unhide HREM with ⟨h1, _⟩ | ⟨_, h1, _⟩
                · exact absurd h1 hm
                · exact h1
              have hv : pre ++ (if x.p ∈ ts then labT x.p else []) = pre := by rw [if_neg hm, List.append_nil]
              have HV := hide hv
              have HR2 := hide hr2
              clear hm HQ HREM HRE hr2 hv
              go_wp2_with fail
              go_meet
              exact ⟨by rw [unhide HV], by rw [unhide HR2]; exact HJV2, HBL2, I2⟩
          case rest =>
          clear I2 HJV2 HBL2
          obtain ⟨rfl, HJV2, HBL2, I2⟩ := hcut
          obtain ⟨pre2, HP2⟩ : ∃ pre2, Hid ((pre ++ (if x.p ∈ ts then labT x.p else [])) = pre2) := ⟨_, hide rfl⟩
          have HT2 : Hid (txtT ts (l.take (k + 1)) = pre2 ++ lineT x) := hide (by rw [unhide HT, stepT, ← unhide HP2, List.append_assoc])
          have hp2 : pre2.length ≤ 409800 := by
            have h1 := lab_len (unhide HFX)
            rw [← unhide HP2, List.length_append]
            split
            · omega
            · simp; omega
          rw [unhide HP2]
          clear HP2 HT HTL hpl HREM HQ
          obtain ⟨d1, -, -⟩ := (unhide I2).c
          have HN := hide (refName_any x.op wc ho)
          go_wp2_with fail
          refine (unhide HN).mono ?_
          rintro e w5 ⟨rfl, hb5⟩
          rw [nm_tx]
          have hnl := nm_len x.op
          have hl1 : ¬ 9223372036854775807 < 2 + (nmL x.op).length := by omega
          have hl2 : ¬ 9223372036854775807 < pre2.length + (2 + (nmL x.op).length) := by omega
          have I5 := hide ((unhide I2).below hb5)
          have HBL5 := hide ((unhide HBL2).trans (hb5.mono (unhide HBL2).size))
          have HJV5 := hide ((unhide HJV2).below hb5)
          obtain ⟨d1, -, -⟩ := (unhide I5).c
          have HOP := hide (refOperands_any x.op w5 ho)
          clear hb5 HN I2 HBL2 HJV2
          go_upto_region 19 with fail
          have hv3 : (⟨pre2.toArray⟩ : ByteArray) ++ ((⟨#[32, 32]⟩ : ByteArray) ++ ⟨(nmL x.op).toArray⟩) = ⟨(pre2 ++ ([32, 32] ++ nmL x.op)).toArray⟩ := (congrArg (fun z => (⟨pre2.toArray⟩ : ByteArray) ++ z) (ba_app [32, 32] (nmL x.op))).trans (ba_app pre2 _)
          have hp3 : (pre2 ++ ([32, 32] ++ nmL x.op)).length ≤ 409900 := by simp; omega
          have HST : Hid (txtT ts (l.take (k + 1)) = (pre2 ++ ([32, 32] ++ nmL x.op)) ++ (opsT x.op x.a x.b ++ [10])) := hide (by rw [unhide HT2]; unfold lineT; rw [ins_ops]; simp)
          rw [hv3]
          generalize (pre2 ++ ([32, 32] ++ nmL x.op)) = pre3 at hp3 HST ⊢
          clear hv3 HT2 hnl hl1 hl2 hp2
          cases hj : jmpN x.op with
          | true =>
            · have hn := jmp_opn hj
              have HJU := hide (refJumps_any x.op w5)
              rw [show (decide (x.op = 19) || decide (x.op = 20)) = true from hj] at HJU
              have HOT : Hid (opsT x.op x.a x.b = [32, 108] ++ Lib.itoa x.a) := hide (by unfold opsT; rw [hj, hn]; simp)
              rw [hn] at HOP
              clear hj hn
              go_wp2_with fail
              refine (unhide HOP).mono ?_
              rintro e w6 ⟨rfl, hw⟩
              rw [hw]
              clear hw w6 HOP
              go_wp2_with fail
              refine (unhide HJU).mono ?_
              rintro e w6 ⟨rfl, hw⟩
              rw [hw]
              clear hw w6 HJU
              obtain ⟨d1, d2, d3⟩ := (unhide I5).c
              have HI := hide (Itoa_any x.a (unhide HFX).a0 (unhide HFX).a1 w5 (unhide HPB _ (unhide HBL5)))
              have hla := itoa_len x.a (unhide HFX).a0 (unhide HFX).a1
              go_wp2_with fail
              refine (unhide HI).mono ?_
              rintro e w6 ⟨rfl, hb6⟩
              have hl1 : ¬ 9223372036854775807 < 2 + (Lib.itoa x.a).length := by omega
              have hl2 : ¬ 9223372036854775807 < pre3.length + (2 + (Lib.itoa x.a).length) := by omega
              have hl3 : ¬ 9223372036854775807 < pre3.length + (2 + (Lib.itoa x.a).length) + 1 := by omega
              have I6 := hide ((unhide I5).below hb6)
              have HBL6 := hide ((unhide HBL5).trans (hb6.mono (unhide HBL5).size))
              have HJV6 := hide ((unhide HJV5).below hb6)
              clear hb6 HI I5 HBL5 HJV5 d1 d2 d3 
              have HFV := hide ((congrArg Value.string (ap3 pre3 [32, 108] (Lib.itoa x.a) [10])).trans (congrArg tx (show _ = txtT ts (l.take (k + 1)) by rw [unhide HST, unhide HOT]; simp)))
              clear HST HOT
              go_wp2_with fail
              go_roundw
              case rel => exact ⟨k + 1, by omega, by go_num, unhide HFV, by rw [unhide HRE]; exact HJV6, HBL6⟩
              case measure => simp [intOf]; omega
          | false =>
            rcases (show opnN x.op = 0 ∨ opnN x.op = 1 ∨ opnN x.op = 2 by have := opn_le x.op; omega) with hn | hn | hn
            · skip
              have HJU := hide (refJumps_any x.op w5)
              rw [show (decide (x.op = 19) || decide (x.op = 20)) = false from hj] at HJU
              have HOT : Hid (opsT x.op x.a x.b = []) := hide (by unfold opsT; rw [hj, hn]; simp)
              rw [hn] at HOP
              clear hj hn
              go_wp2_with fail
              refine (unhide HOP).mono ?_
              rintro e w6 ⟨rfl, hw⟩
              rw [hw]
              clear hw w6 HOP
              go_wp2_with fail
              refine (unhide HJU).mono ?_
              rintro e w6 ⟨rfl, hw⟩
              rw [hw]
              clear hw w6 HJU
              have hl3 : ¬ 9223372036854775807 < pre3.length + 1 := by omega
              have HFV := hide ((congrArg Value.string (ba_app pre3 [10])).trans (congrArg tx (show _ = txtT ts (l.take (k + 1)) by rw [unhide HST, unhide HOT]; simp)))
              clear HST HOT
              go_wp2_with fail
              go_roundw
              case rel => exact ⟨k + 1, by omega, by go_num, unhide HFV, by rw [unhide HRE]; exact HJV5, HBL5⟩
              case measure => simp [intOf]; omega
            · skip
              have HJU := hide (refJumps_any x.op w5)
              rw [show (decide (x.op = 19) || decide (x.op = 20)) = false from hj] at HJU
              have HOT : Hid (opsT x.op x.a x.b = [32] ++ Lib.itoa x.a) := hide (by unfold opsT; rw [hj, hn]; simp)
              rw [hn] at HOP
              clear hj hn
              go_wp2_with fail
              refine (unhide HOP).mono ?_
              rintro e w6 ⟨rfl, hw⟩
              rw [hw]
              clear hw w6 HOP
              go_wp2_with fail
              refine (unhide HJU).mono ?_
              rintro e w6 ⟨rfl, hw⟩
              rw [hw]
              clear hw w6 HJU
              obtain ⟨d1, d2, d3⟩ := (unhide I5).c
              have HI := hide (Itoa_any x.a (unhide HFX).a0 (unhide HFX).a1 w5 (unhide HPB _ (unhide HBL5)))
              have hla := itoa_len x.a (unhide HFX).a0 (unhide HFX).a1
              go_wp2_with fail
              refine (unhide HI).mono ?_
              rintro e w6 ⟨rfl, hb6⟩
              have hl1 : ¬ 9223372036854775807 < 1 + (Lib.itoa x.a).length := by omega
              have hl2 : ¬ 9223372036854775807 < pre3.length + (1 + (Lib.itoa x.a).length) := by omega
              have hl3 : ¬ 9223372036854775807 < pre3.length + (1 + (Lib.itoa x.a).length) + 1 := by omega
              have I6 := hide ((unhide I5).below hb6)
              have HBL6 := hide ((unhide HBL5).trans (hb6.mono (unhide HBL5).size))
              have HJV6 := hide ((unhide HJV5).below hb6)
              clear hb6 HI I5 HBL5 HJV5 d1 d2 d3 
              have HFV := hide ((congrArg Value.string (ap3 pre3 [32] (Lib.itoa x.a) [10])).trans (congrArg tx (show _ = txtT ts (l.take (k + 1)) by rw [unhide HST, unhide HOT]; simp)))
              clear HST HOT
              go_wp2_with fail
              go_roundw
              case rel => exact ⟨k + 1, by omega, by go_num, unhide HFV, by rw [unhide HRE]; exact HJV6, HBL6⟩
              case measure => simp [intOf]; omega
            · skip
              have HJU := hide (refJumps_any x.op w5)
              rw [show (decide (x.op = 19) || decide (x.op = 20)) = false from hj] at HJU
              have HOT : Hid (opsT x.op x.a x.b = [32] ++ Lib.itoa x.a ++ ([32] ++ Lib.itoa x.b)) := hide (by unfold opsT; rw [hj, hn]; simp)
              rw [hn] at HOP
              clear hj hn
              go_wp2_with fail
              refine (unhide HOP).mono ?_
              rintro e w6 ⟨rfl, hw⟩
              rw [hw]
              clear hw w6 HOP
              go_wp2_with fail
              refine (unhide HJU).mono ?_
              rintro e w6 ⟨rfl, hw⟩
              rw [hw]
              clear hw w6 HJU
              obtain ⟨d1, d2, d3⟩ := (unhide I5).c
              have HI := hide (Itoa_any x.a (unhide HFX).a0 (unhide HFX).a1 w5 (unhide HPB _ (unhide HBL5)))
              have hla := itoa_len x.a (unhide HFX).a0 (unhide HFX).a1
              go_wp2_with fail
              refine (unhide HI).mono ?_
              rintro e w6 ⟨rfl, hb6⟩
              have hl1 : ¬ 9223372036854775807 < 1 + (Lib.itoa x.a).length := by omega
              have hl2 : ¬ 9223372036854775807 < pre3.length + (1 + (Lib.itoa x.a).length) := by omega
              have hl3 : ¬ 9223372036854775807 < pre3.length + (1 + (Lib.itoa x.a).length) + 1 := by omega
              have I6 := hide ((unhide I5).below hb6)
              have HBL6 := hide ((unhide HBL5).trans (hb6.mono (unhide HBL5).size))
              have HJV6 := hide ((unhide HJV5).below hb6)
              clear hb6 HI I5 HBL5 HJV5 d1 d2 d3 
              have d3 := (unhide I6).c.2.2
              have hb0 := (unhide HFX).b0
              have hb1 := (unhide HFX).b1
              have HI := hide (Itoa_any x.b (by omega) (by omega) w6 (unhide HPB _ (unhide HBL6)))
              have hlb := itoa_len x.b (by omega) (by omega)
              go_wp2_with fail
              refine (unhide HI).mono ?_
              rintro e w7 ⟨rfl, hb7⟩
              have hl4 : ¬ 9223372036854775807 < 1 + (Lib.itoa x.b).length := by omega
              have hl5 : ¬ 9223372036854775807 < pre3.length + (1 + (Lib.itoa x.a).length) + (1 + (Lib.itoa x.b).length) := by omega
              have hl6 : ¬ 9223372036854775807 < pre3.length + (1 + (Lib.itoa x.a).length) + (1 + (Lib.itoa x.b).length) + 1 := by omega
              have HBL7 := hide ((unhide HBL6).trans (hb7.mono (unhide HBL6).size))
              have HJV7 := hide ((unhide HJV6).below hb7)
              clear hb7 HI I6 HBL6 HJV6 d3 hl1 hl2 hl3 hla hlb
              have HFV := hide ((congrArg Value.string (ap5 pre3 [32] (Lib.itoa x.a) [32] (Lib.itoa x.b) [10])).trans (congrArg tx (show _ = txtT ts (l.take (k + 1)) by rw [unhide HST, unhide HOT]; simp)))
              clear HST HOT
              go_wp2_with fail
              go_roundw
              case rel => exact ⟨k + 1, by omega, by go_num, unhide HFV, by rw [unhide HRE]; exact HJV7, HBL7⟩
              case measure => simp [intOf]; omega
        · obtain rfl : k = l.length := by omega
          rw [List.take_length]
          have HE := hide ((unhide HB2).trans ((unhide HBL).mono (unhide HB2).size))
          clear HBL HJV
          go_wp2
          go_ret3
          rw [unhide HR]
          exact ⟨rfl, unhide HE⟩
end Go.Proofs.YthdgbdjagjagpaaDoor
