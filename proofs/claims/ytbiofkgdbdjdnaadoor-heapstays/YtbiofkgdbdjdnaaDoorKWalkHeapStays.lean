/-
  The walk of the law HeapStays: it returns true for every life and roots, and writes nothing that was there.
-/
import Derived.Test.YtbiofkgdbdjdnaaDoorKHl2
namespace Go.Proofs.YtbiofkgdbdjdnaaDoor
open Go.RowKit
set_option maxRecDepth 20000

theorem infoIS : (Tryd.prog.info? 42).map (fun i => (i.zero, i.size, i.bytes)) = some (some (.slice none 0 0), 1, 24) := by kernel_rfl
theorem make_is {N : Nat} (hN : N ≤ 4097) (W : World) : (Instr.makeSlice 57 (.int .i64 (N : Int)) (.int .i64 (N : Int))).run Tryd.prog W = .ok (.slice (some ⟨W.heap.size, 0, none⟩) N N) (W.alloc (.cells (Array.replicate N (Value.slice none 0 0)) 42)) := by
  obtain ⟨i, hi, hz0, hz1, hz2⟩ := info_parts infoIS
  have h := run_makeSlice (P := Tryd.prog) (w := W) 57 42 i (.slice none 0 0) Tryd.underlying57 hi hz0 .i64 .i64 (N : Int) (N : Int) (by omega) (by omega) (by rw [hz1]; simp; omega) (by rw [hz2]; omega) (by omega)
  rw [hz1, show ((N : Nat) : Int).toNat = N from by simp, Nat.mul_one] at h
  rw [h]
  show Result.ok _ (W.alloc (.cells (madeCells #[.slice none 0 0] N) _)) = _
  rw [made_oneH]
  simp
theorem make_iH {N : Nat} (hN : N ≤ 4097) (W : World) : (Instr.makeSlice 42 (.int .i64 (N : Int)) (.int .i64 (N : Int))).run Tryd.prog W = .ok (.slice (some ⟨W.heap.size, 0, none⟩) N N) (W.alloc (.cells (Array.replicate N (Value.int .i64 0)) 3)) := by
  obtain ⟨i, hi, hz0, hz1, hz2⟩ := info_parts infoJ
  have h := run_makeSlice (P := Tryd.prog) (w := W) 42 3 i (.int .i64 0) Tryd.underlying42 hi hz0 .i64 .i64 (N : Int) (N : Int) (by omega) (by omega) (by rw [hz1]; simp; omega) (by rw [hz2]; omega) (by omega)
  rw [hz1, show ((N : Nat) : Int).toNat = N from by simp, Nat.mul_one] at h
  rw [h]
  show Result.ok _ (W.alloc (.cells (madeCells #[.int .i64 0] N) _)) = _
  rw [made_oneH]
  simp
def clsV (o : Ob) : Int := if o.cls = -1 then 0 else o.cls
theorem cls_is {h : Hm} {ref c : Int} {b : Bool} {o : Ob} (ho : objD h.O ref = some o) (hc : (b = true ∧ ∃ o, objD h.O ref = some o ∧ o ∈ h.O ∧ c = o.cls ∧ o.cls ≠ -1) ∨ (b = false ∧ c = 0 ∧ ∀ o, objD h.O ref = some o → o.cls = -1)) : c = clsV o := by
  unfold clsV
  rcases hc with ⟨_, o', ho', _, rfl, hne⟩ | ⟨_, rfl, hall⟩
  · rw [ho] at ho'
    injection ho' with ho'
    subst ho'
    rw [if_neg hne]
  · rw [if_pos (hall o ho)]
theorem wrap_smallS {x : Int} (h1 : -9223372036854775808 ≤ x) (h2 : x ≤ 9223372036854775807) : IntKind.i64.wrap x = x := by simp [IntKind.wrap, IntKind.bits, IntKind.signed]; omega
theorem grownBy_setH (w : World) (b i : Nat) (v : Value) : w.grownBy (w.setCell ⟨b, i, none⟩ v) (some b) := ⟨rfl, rfl, rfl, by simp [World.setCell], fun k _ hk => Below.heap_setCell _ _ _ _ (fun e => hk (by rw [e]))⟩
structure SB (W : World) (wb cb base : Nat) (h : Hm) (S : List Int) (i i2 : Nat) : Prop where
  wB : ∃ ws, Bx W wb 42 ws ∧ ws.size = S.length ∧ ∀ (j : Nat) (r : Int), j < i → S[j]? = some r → ∃ o a c, objD h.O r = some o ∧ ws[j]? = some (.slice a (o : Ob).ps.length c) ∧ OwnJ W base (.slice a o.ps.length c) o.ps
  cB : ∃ cs, Bx W cb 3 cs ∧ cs.size = S.length ∧ ∀ (j : Nat) (r : Int), j < i2 → S[j]? = some r → ∃ o, objD h.O r = some o ∧ cs[j]? = some (.int .i64 (clsV o))
  lt : cb < base
theorem SB.kp {W W' : World} {wb cb base B : Nat} {ts : List TypeId} {h : Hm} {S : List Int} {i i2 : Nat} (H : SB W wb cb base h S i i2) (hk : Kp B ts W W') (h1 : 42 ∉ ts) (h2 : 3 ∉ ts) : SB W' wb cb base h S i i2 := by
  obtain ⟨⟨ws, a1, a2, a3⟩, ⟨cs, b1, b2, b3⟩, lt⟩ := H
  refine ⟨⟨ws, a1.kp hk h1, a2, fun j r hj hr => ?_⟩, ⟨cs, b1.kp hk h2, b2, b3⟩, lt⟩
  obtain ⟨o, a, c, e1, e2, e3⟩ := a3 j r hj hr
  exact ⟨o, a, c, e1, e2, own_kp e3 hk h2⟩
theorem SB.below {W W' : World} {wb cb base : Nat} {h : Hm} {S : List Int} {i i2 : Nat} (H : SB W wb cb base h S i i2) (hb : Below W.heap.size W W') : SB W' wb cb base h S i i2 := H.kp (B := 0) (ts := []) (Kp.of_below hb (Nat.zero_le _)) (by simp) (by simp)
theorem SB.was {W : World} {wb cb base : Nat} {h : Hm} {S : List Int} {i i2 : Nat} (H : SB W wb cb base h S i i2) {r : Int} (hr : S[i]? = some r) {o : Ob} (ho : objD h.O r = some o) {a : Option Addr} {c : Nat} (hO : OwnJ W base (.slice a o.ps.length c) o.ps) :
    SB (W.setCell ⟨wb, i, none⟩ (.slice a o.ps.length c)) wb cb base h S (i + 1) i2 := by
  obtain ⟨⟨ws, a1, a2, a3⟩, ⟨cs, b1, b2, b3⟩, lt⟩ := H
  have hi := (List.getElem?_eq_some_iff.1 hr).1
  have k1 : Kp 0 [42] W (W.setCell ⟨wb, i, none⟩ (.slice a o.ps.length c)) := Kp.set a1 (Nat.zero_le _) (by simp) i _
  refine ⟨⟨ws.setIfInBounds i (.slice a o.ps.length c), a1.set i _ rfl, by simp [a2], fun j r' hj hr' => ?_⟩, ⟨cs, b1.kp k1 (by decide), b2, b3⟩, lt⟩
  by_cases e : j = i
  · subst e
    rw [hr] at hr'
    injection hr' with hr'
    subst hr'
    exact ⟨o, a, c, ho, by simp [a2, hi], own_kp hO k1 (by decide)⟩
  · obtain ⟨o', a', c', e1, e2, e3⟩ := a3 j r' (by omega) hr'
    exact ⟨o', a', c', e1, by rw [Array.getElem?_setIfInBounds_ne (fun e2 => e e2.symm)]; exact e2, own_kp e3 k1 (by decide)⟩
theorem SB.cls {W : World} {wb cb base : Nat} {h : Hm} {S : List Int} {i i2 : Nat} (H : SB W wb cb base h S i2 i) {r : Int} (hr : S[i]? = some r) {o : Ob} (ho : objD h.O r = some o) :
    SB (W.setCell ⟨cb, i, none⟩ (.int .i64 (clsV o))) wb cb base h S i2 (i + 1) := by
  obtain ⟨⟨ws, a1, a2, a3⟩, ⟨cs, b1, b2, b3⟩, lt⟩ := H
  have hi := (List.getElem?_eq_some_iff.1 hr).1
  have g2 := grownBy_setH W cb i (.int .i64 (clsV o))
  have keepO : ∀ {v : Value} {l : List Int}, OwnJ W base v l → OwnJ (W.setCell ⟨cb, i, none⟩ (.int .i64 (clsV o))) base v l := fun {v l} h1 => by
    refine World.ownsRow.kept h1 g2 ?_
    cases hvb : v.ownBlock with
    | none => exact Or.inl rfl
    | some q => exact Or.inr (fun e => by injection e with e; have := (World.ownsRow.lt h1 q hvb).1; omega)
  have hne : wb ≠ cb := fun e => by subst e; exact absurd (a1.inj b1).1 (by decide)
  refine ⟨⟨ws, a1.other _ _ hne, a2, fun j r' hj hr' => ?_⟩, ⟨cs.setIfInBounds i (.int .i64 (clsV o)), b1.set i _ rfl, by simp [b2], fun j r' hj hr' => ?_⟩, lt⟩
  · obtain ⟨o', a', c', e1, e2, e3⟩ := a3 j r' hj hr'
    exact ⟨o', a', c', e1, e2, keepO e3⟩
  · by_cases e : j = i
    · subst e
      rw [hr] at hr'
      injection hr' with hr'
      subst hr'
      exact ⟨o, ho, by simp [b2, hi]⟩
    · obtain ⟨o', e1, e2⟩ := b3 j r' (by omega) hr'
      exact ⟨o', e1, by rw [Array.getElem?_setIfInBounds_ne (fun e2 => e e2.symm)]; exact e2⟩
theorem SB.cells {W : World} {wb cb base : Nat} {h : Hm} {S : List Int} {i i2 : Nat} (H : SB W wb cb base h S i i2) {j : Nat} (hj : j < S.length) : (∃ u, W.cell? ⟨wb, j, none⟩ = some u) ∧ W.frozen? ⟨wb, j, none⟩ = false ∧ (∃ u, W.cell? ⟨cb, j, none⟩ = some u) ∧ W.frozen? ⟨cb, j, none⟩ = false ∧ wb ≠ cb := by
  obtain ⟨⟨ws, a1, a2, a3⟩, ⟨cs, b1, b2, b3⟩, lt⟩ := H
  exact ⟨⟨_, a1.c j (Array.getElem?_eq_getElem (by omega))⟩, a1.f j, ⟨_, b1.c j (Array.getElem?_eq_getElem (by omega))⟩, b1.f j, fun e => by subst e; exact absurd (a1.inj b1).1 (by decide)⟩
theorem SB.at {W : World} {wb cb base : Nat} {h : Hm} {S : List Int} {i i2 : Nat} (H : SB W wb cb base h S i i2) {j : Nat} {r : Int} (hj : j < i) (hj2 : j < i2) (hr : S[j]? = some r) {o : Ob} (ho : objD h.O r = some o) : ∃ a c, W.cell? ⟨wb, j, none⟩ = some (.slice a o.ps.length c) ∧ OwnJ W base (.slice a o.ps.length c) o.ps ∧ W.cell? ⟨cb, j, none⟩ = some (.int .i64 (clsV o)) := by
  obtain ⟨⟨ws, a1, a2, a3⟩, ⟨cs, b1, b2, b3⟩, lt⟩ := H
  obtain ⟨o1, a, c, e1, e2, e3⟩ := a3 j r hj hr
  obtain ⟨o2, e4, e5⟩ := b3 j r hj2 hr
  rw [ho] at e1 e4
  injection e1 with e1
  injection e4 with e4
  subst e1 e4
  exact ⟨a, c, a1.c j e2, e3, b1.c j e5⟩
/-- A reference of what stays. -/
theorem sel_obj {h : Hm} (hok : HmOk h) {C : List Bool} {r : Int} (hr : r ∈ sel h.O C) : ∃ o, objD h.O r = some o ∧ o ∈ keepO h.O C := by
  obtain ⟨i, o, ho, hc, rfl⟩ := mem_sel.1 hr
  exact ⟨o, obj_at hok.asc ho, mem_keep.2 ⟨i, ho, hc⟩⟩
theorem col_obj {h : Hm} (hok : HmOk h) {C : List Bool} (hC : C.length = h.O.length) {ov : Value} {r : Int} {o : Ob} (ho : objD h.O r = some o) (hk : o ∈ keepO h.O C) : objD (colH h C ov).O r = some o := by
  obtain ⟨i, hi, e⟩ := List.mem_iff_getElem.1 hk
  have hx : (colH h C ov).O[i]? = some o := by show (keepO h.O C)[i]? = _; rw [List.getElem?_eq_getElem hi, e]
  have := obj_at (hok.col hC ov).asc hx
  rw [(obj_mem ho).2] at this
  exact this
theorem own_js {W : World} {base : Nat} {a : Option Addr} {c : Nat} {l : List Int} (h : OwnJ W base (.slice a l.length c) l) : JsAt W a l := by
  obtain ⟨a', c', e, hj, _⟩ := h.at
  injection e with e _ _
  rw [e]
  exact hj
set_option maxRecDepth 20000 in
set_option maxHeartbeats 8000000 in
theorem walkHeapStays {w : World} (hW : WordsAt w) (ao : Option Addr) (cap : Nat) (T : List Cl) (room : Int) (xo : Option Addr) (xc : Nat) (X : List Ac) (hT : TabAt w ao T) (hcap : T.length ≤ cap) (hz : T.length * 48 ≤ 140737488351232) (hX : AcsAt w xo X) (hXl : X.length * 56 ≤ 140737488351232) (ro : Option Addr) (rc : Nat) (R : List Int) (hR : JsAt w ro R) (hRl : R.length * 8 ≤ 140737488351232) :
    Calls Tryd.prog 5 #[.agg #[.slice ao T.length cap, .int .i64 room, .slice xo X.length xc], .slice ro R.length rc] w fun e w' => e = .returned (.bool true) ∧ Below w.heap.size w w' := by
  have hal : Below w.heap.size w (w.alloc (.cells #[.slice ao T.length cap, .int .i64 room, .slice xo X.length xc] 25)) := (Below.refl _ _).alloc (Nat.le_refl _) _
  have HBX : Hid (Bx (w.alloc (.cells #[.slice ao T.length cap, .int .i64 room, .slice xo X.length xc] 25)) w.heap.size 25 #[.slice ao T.length cap, .int .i64 room, .slice xo X.length xc]) := hide (heap_alloc_new w _)
  have HB := hide hal
  have HA := hide (awake_any _ (hW.below hal))
  have HT := hide hT
  have HX := hide hX
  have HW := hide hW
  have HRR := hide hR
  have HZ := hide (And.intro hcap (And.intro hz (And.intro hXl hRl)))
  clear hal hT hX hW hz hcap hXl hR hRl
  go_enter Tryd.func5, Tryd.ntmps5
  go_upto_region 1 with fail
  generalize w.alloc (.cells #[.slice ao T.length cap, .int .i64 room, .slice xo X.length xc] 25) = W1 at HBX HB HA ⊢
  go_wp2_with fail
  refine (unhide HA).mono ?_
  rintro e W2 ⟨rfl, hb2⟩
  have HB2 := hide ((unhide HB).trans (hb2.mono (unhide HB).size))
  have HBX2 := hide ((unhide HBX).below hb2)
  clear hb2 HA HB HBX
  have HL := hide (lived_any ao cap T room xo xc X W2 ((unhide HT).below (unhide HB2)) (unhide HZ).1 ((unhide HW).below (unhide HB2)) (unhide HZ).2.1 ((unhide HX).below (unhide HB2)) (unhide HZ).2.2.1)
  have k0 := (unhide HBX2).c 0 rfl
  have k1 := (unhide HBX2).c 1 rfl
  have k2 := (unhide HBX2).c 2 rfl
  go_wp2_with fail
  refine (unhide HL).mono ?_
  rintro e W3 ⟨hI, hb3⟩
  have HB3 := hide ((unhide HB2).trans (hb3.mono (unhide HB2).size))
  have HBX3 := hide ((unhide HBX2).below hb3)
  clear hb3 HL k0 k1 k2 HBX2
  rcases hI with rfl | ⟨_, hr1, _, g, h, rfl, hH, hLv⟩
  · go_wp2
    go_ret
    exact ⟨rfl, unhide HB3⟩
  · have HOK := hide hLv.ok
    have hlen := hLv.ok.len
    have HLi := hide (live_any W2.heap.size g h ro rc R W3 hH hlen ((unhide HRR).below (unhide HB3)) (unhide HZ).2.2.2)
    have HH := hide hH
    clear hH hLv
    go_wp2_with fail
    refine (unhide HLi).mono ?_
    rintro e W4 ⟨v, rfl, hO, hb4⟩
    have HH4 := hide ((unhide HH).below hb4)
    have HB4 := hide ((unhide HB3).trans (hb4.mono (unhide HB3).size))
    have HBX4 := hide ((unhide HBX3).below hb4)
    have hRn : (liveD h R).length ≤ 17592186043904 := Nat.le_trans (List.length_filter_le _ _) (by have := (unhide HZ).2.2.2; omega)
    have HRS : Hid (∀ r ∈ liveD h R, ∃ o ∈ h.O, o.ref = r) := hide (fun r hr => by
      have := (List.mem_filter.1 hr).2
      obtain ⟨o, ho, e⟩ := List.mem_map.1 (of_decide_eq_true this)
      exact ⟨o, ho, e⟩)
    have HO := hide hO
    clear hb4 HLi HH HB3 HBX3 hO
    generalize liveD h R = R1 at hRn HRS HO
    obtain ⟨va, vc, rfl, hj, _⟩ := (unhide HO).at
    have HRq := hide (Reach_any W2.heap.size g h va vc R1 W4 (unhide HH4) (unhide HOK) hj (by omega))
    clear hj HBX4
    go_wp2_with fail
    refine (unhide HRq).mono ?_
    rintro e W5 ⟨hc, hb5⟩
    rcases hc with ⟨rfl, hbad⟩ | ⟨_, v1, C, rfl, hci, hO1⟩
    · obtain ⟨r, hr, _, hn⟩ := hbad
      obtain ⟨o, ho, e⟩ := unhide HRS r hr
      exact absurd e (hn o ho)
    · obtain ⟨a1, c1, rfl, hj1, _⟩ := hO1.at
      have HCI := hide hci
      have HO1 := hide hO1
      have HH5 := hide ((unhide HH4).below hb5)
      have HO5 := hide ((unhide HO).below hb5)
      have HB5 := hide ((unhide HB4).trans (hb5.mono (unhide HB4).size))
      have HSO : Hid (∀ r ∈ sel h.O C, ∃ o, objD h.O r = some o ∧ o ∈ keepO h.O C) := hide (fun r hr => sel_obj (unhide HOK) hr)
      have HSK : Hid ((keepO h.O C).map Ob.ref = sel h.O C) := hide (keep_sel h.O C)
      have l1 : (sel h.O C).length ≤ 4096 := Nat.le_trans (sel_len _ _) hlen
      clear hci hO1 hb5 HRq hj1 HH4 HO HB4
      generalize sel h.O C = S1 at HO1 HSO HSK l1 ⊢
      have hmk1 := make_is (N := S1.length) (by omega) W5
      have hmk2 := make_iH (N := S1.length) (by omega) (W5.alloc (.cells (Array.replicate S1.length (Value.slice none 0 0)) 42))
      rw [World.size_alloc] at hmk2
      have HSB : Hid (SB ((W5.alloc (.cells (Array.replicate S1.length (Value.slice none 0 0)) 42)).alloc (.cells (Array.replicate S1.length (Value.int .i64 0)) 3)) W5.heap.size (W5.heap.size + 1) (W5.heap.size + 2) h S1 0 0 ∧ Below W5.heap.size W5 ((W5.alloc (.cells (Array.replicate S1.length (Value.slice none 0 0)) 42)).alloc (.cells (Array.replicate S1.length (Value.int .i64 0)) 3))) := hide (by
        have n1 : Bx (W5.alloc (.cells (Array.replicate S1.length (Value.slice none 0 0)) 42)) W5.heap.size 42 (Array.replicate S1.length (Value.slice none 0 0)) := heap_alloc_new W5 _
        have s1 : (W5.alloc (.cells (Array.replicate S1.length (Value.slice none 0 0)) 42)).heap.size = W5.heap.size + 1 := World.size_alloc _ _
        have q1 : Below W5.heap.size W5 (W5.alloc (.cells (Array.replicate S1.length (Value.slice none 0 0)) 42)) := (Below.refl _ _).alloc (Nat.le_refl _) _
        generalize W5.alloc (.cells (Array.replicate S1.length (Value.slice none 0 0)) 42) = Wx at n1 s1 q1 ⊢
        have n2 : Bx (Wx.alloc (.cells (Array.replicate S1.length (Value.int .i64 0)) 3)) Wx.heap.size 3 (Array.replicate S1.length (Value.int .i64 0)) := heap_alloc_new Wx _
        have q2 : Below Wx.heap.size Wx (Wx.alloc (.cells (Array.replicate S1.length (Value.int .i64 0)) 3)) := (Below.refl _ _).alloc (Nat.le_refl _) _
        rw [s1] at n2
        exact ⟨⟨⟨_, n1.below q2, by simp, fun j r h => by omega⟩, ⟨_, n2, by simp, fun j r h => by omega⟩, by omega⟩, q1.trans (q2.mono (by omega))⟩)
      go_upto_region 12 with fail
      clear hmk1 hmk2
      generalize (W5.alloc (.cells (Array.replicate S1.length (Value.slice none 0 0)) 42)).alloc (.cells (Array.replicate S1.length (Value.int .i64 0)) 3) = W6 at HSB ⊢
      have HSB0 := hide (unhide HSB).1
      have HB6 := hide (unhide HSB).2
      clear HSB
      obtain ⟨wb, HWB⟩ : ∃ q, Hid (W5.heap.size = q) := ⟨_, hide rfl⟩
      rw [unhide HWB] at HSB0 ⊢
      go_wp2_with fail
      go_loopw [43] (fun i wr => ∃ (k : Nat), k ≤ S1.length ∧ i = .int .i64 (k : Int) ∧ Hid (SB wr wb (wb + 1) (wb + 2) h S1 k k) ∧ Hid (Below W5.heap.size W5 wr)) (fun i _ => S1.length - (intOf i).toNat)
      case atStart => exact ⟨0, by omega, rfl, HSB0, HB6⟩
      case round =>
        obtain ⟨k, hk, rfl, HS, HBr⟩ := hrel
        clear HSB0 HB6
        obtain ⟨a1x, c1x, e1x, hj1, _⟩ := ((unhide HO1).below (unhide HBr)).at
        injection e1x with e1x _ e1y
        subst e1x
        clear e1y
        by_cases hlt : k < S1.length
        · have i1 : ((k : Nat) : Int) < ((S1.length : Nat) : Int) := by omega
          have hx := List.getElem?_eq_getElem hlt
          obtain ⟨b, off, rfl, hcr⟩ := hj1 k _ hx
          have HX := hide hx
          generalize S1[k] = r at hcr HX
          clear hx hj1
          obtain ⟨o, ho, hok2⟩ := unhide HSO r (List.mem_of_getElem? (unhide HX))
          have HP := hide (places_any W2.heap.size g h r o wr ((unhide HH5).below (unhide HBr)) (unhide HOK) ho)
          have HOO := hide ho
          have hszr : wb + 2 ≤ wr.heap.size := by
            obtain ⟨cs, hcs, _⟩ := (unhide HS).cB
            exact hcs.lt
          clear ho hok2
          go_wp2_with fail
          refine (unhide HP).mono ?_
          rintro e W7 ⟨v2, rfl, hO2, hb7⟩
          obtain ⟨a2, c2, rfl, _, _⟩ := hO2.at
          have HO2 : Hid (OwnJ W7 (wb + 2) (.slice a2 o.ps.length c2) o.ps) := hide (rowMono (base' := wb + 2) hO2 hszr)
          have HS7 := hide ((unhide HS).below hb7)
          have HB7 := hide ((unhide HBr).trans (hb7.mono (unhide HBr).size))
          clear hO2 hb7 HP HS HBr hcr
          obtain ⟨⟨u1, hu1⟩, hf1, ⟨u2, hu2⟩, hf2, hne⟩ := (unhide HS7).cells hlt
          go_upto_region 16 with fail
          have hall : Below W5.heap.size W5 (W7.setCell ⟨wb, k, none⟩ (.slice a2 o.ps.length c2)) := (unhide HB7).setCell (p := ⟨wb, k, none⟩) (by show W5.heap.size ≤ wb; rw [unhide HWB]; exact Nat.le_refl _) _
          have HCl := hide (Class_any W2.heap.size g h r _ ((unhide HH5).below hall) (unhide HOK))
          have HU2 : Hid ((W7.setCell ⟨wb, k, none⟩ (.slice a2 o.ps.length c2)).cell? ⟨wb + 1, k, none⟩ = some u2 ∧ (W7.setCell ⟨wb, k, none⟩ (.slice a2 o.ps.length c2)).frozen? ⟨wb + 1, k, none⟩ = false) := hide (by
            have hb : (W7.setCell ⟨wb, k, none⟩ (.slice a2 o.ps.length c2)).heap[wb + 1]? = W7.heap[wb + 1]? := Below.heap_setCell _ _ _ _ (by show wb + 1 ≠ wb; omega)
            exact ⟨(World.cell?_of_block (a := ⟨wb + 1, k, none⟩) hb).trans hu2, (World.frozen?_of_block (a := ⟨wb + 1, k, none⟩) hb).trans hf2⟩)
          have HALL := hide hall
          have HS8 := hide ((unhide HS7).was (unhide HX) (unhide HOO) (unhide HO2))
          clear hall hu1 hf1 hu2 hf2 HU2 HB7 HS7 HO2 hne
          generalize W7.setCell ⟨wb, k, none⟩ (.slice a2 o.ps.length c2) = W8 at HCl HALL HS8 ⊢
          go_wp2_with fail
          refine (unhide HCl).mono ?_
          rintro e W9 ⟨⟨c, b, rfl, hc⟩, hb9⟩
          have ec := cls_is (unhide HOO) hc
          subst ec
          have HS9 := hide ((unhide HS8).below hb9)
          have HB9 := hide ((unhide HALL).trans (hb9.mono (unhide HALL).size))
          clear hc hb9 HS8 HALL HCl
          obtain ⟨_, _, ⟨u2, hu2⟩, hf2, _⟩ := (unhide HS9).cells hlt
          go_wp2_with fail
          have HS10 := hide ((unhide HS9).cls (unhide HX) (unhide HOO))
          have HB10 := hide ((unhide HB9).setCell (p := ⟨wb + 1, k, none⟩) (by show W5.heap.size ≤ wb + 1; rw [unhide HWB]; omega) (.int .i64 (clsV o)))
          clear hu2 hf2 HS9 HB9
          generalize W9.setCell ⟨wb + 1, k, none⟩ (.int .i64 (clsV o)) = W10 at HS10 HB10 ⊢
          go_wp2
          go_roundw
          case rel => exact ⟨k + 1, by omega, by go_num, HS10, HB10⟩
          case measure => simp [intOf]; omega
        · have ek : k = S1.length := by omega
          subst ek
          have i1 : ¬ ((S1.length : Nat) : Int) < ((S1.length : Nat) : Int) := by omega
          clear hj1
          have HHr := hide ((unhide HH5).below (unhide HBr))
          have HUs := hide (Used_any W2.heap.size g h wr (unhide HHr))
          have HO6 := hide ((unhide HO5).below (unhide HBr))
          obtain ⟨a0x, c0x, e0x, hj0, _⟩ := (unhide HO6).at
          injection e0x with e0x _ e0y
          subst e0x
          clear e0y
          have HCo := hide (Collect_any W2.heap.size g h va vc R1 wr (unhide HHr) (unhide HOK) (Nat.le_trans (unhide HHr).lo (Nat.le_of_lt (unhide HHr).box.lt)) hj0 (by omega))
          have HB1 := hide ((unhide HO1).below (unhide HBr))
          have HBw := hide ((unhide HB5).trans ((unhide HBr).mono (unhide HB5).size))
          have hlo : w.heap.size ≤ W2.heap.size := (unhide HB2).size
          clear hj0 HBr HO5 HHr HH5 HO1 HB5
          go_wp2_with fail
          refine (unhide HUs).mono ?_
          rintro e Wu ⟨rfl, rfl⟩
          go_wp2_with fail
          refine (unhide HCo).mono ?_
          rintro e W9 ⟨h', n, er, rfl, hcol, hH9, hk9⟩
          rcases hcol with ⟨⟨r, hr, _, hn⟩, _⟩ | ⟨_, rfl, C', ov, hC', hn, hh'⟩
          · obtain ⟨o, ho, e⟩ := unhide HRS r hr
            exact absurd e (hn o ho)
          · have ecc := com_uniq (unhide HCI) hC'
            rw [ecc] at hn hh'
            clear hC' ecc
            subst hh'
            have HOK9 := hide ((unhide HOK).col (unhide HCI).1 ov)
            have HUs9 := hide (Used_any W2.heap.size g (colH h C ov) W9 hH9)
            rw [show (colH h C ov).used = h.used - (goneN h.O C : Int) from rfl, ← hn] at HUs9
            have iw : IntKind.i64.wrap (h.used - n) = h.used - n := by
              have q1 : h.used - n = (cellsO (keepO h.O C) : Int) := by rw [hn]; exact (unhide HOK9).used
              have q2 : h.used - n ≤ h.room := by rw [hn]; exact (unhide HOK9).fits
              have q3 := (unhide HOK).room
              exact wrap_smallS (by omega) (by omega)
            have hl9 : (colH h C ov).O.length ≤ 4096 := (unhide HOK9).len
            have HLi9 := hide (Live_any W2.heap.size g (colH h C ov) W9 hH9 hl9)
            rw [show (colH h C ov).O.map Ob.ref = S1 from unhide HSK] at HLi9
            have HH9 := hide hH9
            have HS9 := hide ((unhide HS).kp hk9 (by decide) (by decide))
            have HO9 : Hid (OwnJ W9 _ (.slice va R1.length vc) R1) := hide (own_kp (unhide HO6) hk9 (by decide))
            have HT9 : Hid (OwnJ W9 _ (.slice a1 S1.length c1) S1) := hide (own_kp (unhide HB1) hk9 (by decide))
            have HB9 := hide ((unhide HBw).trans (hk9.bel.mono hlo))
            clear hn hH9 hk9 hl9 HCo HUs HS HO6 HB1 HBw
            go_wp2_with (go_at_call 19; refine (unhide HUs9).mono ?_; rintro e Wu2 ⟨rfl, rfl⟩)
            refine (unhide HLi9).mono ?_
            rintro e W10 ⟨v4, rfl, hO4, hb10⟩
            obtain ⟨a4, c4, rfl, hj4, _⟩ := hO4.at
            have HEQ := hide (EqualH_same (c := c4) (d := c1) hj4 (own_js ((unhide HT9).below hb10)) (by omega))
            have HH10 := hide ((unhide HH9).below hb10)
            have HS10 := hide ((unhide HS9).below hb10)
            have HO10 := hide ((unhide HO9).below hb10)
            have HT10 := hide ((unhide HT9).below hb10)
            have HB10 := hide ((unhide HB9).trans (hb10.mono (unhide HB9).size))
            clear hO4 hb10 hj4 HH9 HS9 HO9 HT9 HB9 HLi9 HUs9
            go_wp2_with fail
            refine (unhide HEQ).mono ?_
            rintro e W11 ⟨rfl, q, rfl⟩
            have hbq : Below W10.heap.size W10 (W10.drewN q) := belowD (Below.refl _ _) q
            have HHc := hide ((unhide HH10).below hbq)
            have HSc := hide ((unhide HS10).below hbq)
            have HOc := hide ((unhide HO10).below hbq)
            have HTc := hide ((unhide HT10).below hbq)
            have HBc := hide ((unhide HB10).trans (hbq.mono (unhide HB10).size))
            clear hbq HH10 HS10 HO10 HT10 HB10 HEQ iw
            generalize W10.drewN q = W11 at HHc HSc HOc HTc HBc ⊢
            go_wp2_with fail
            go_loopw [91] (fun i wx => ∃ (k : Nat), k ≤ S1.length ∧ i = .int .i64 (k : Int) ∧ Hid (Below W11.heap.size W11 wx)) (fun i _ => S1.length - (intOf i).toNat)
            case atStart => exact ⟨0, by omega, rfl, hide (Below.refl _ _)⟩
            case round =>
              obtain ⟨k, hk, rfl, HBx⟩ := hrel
              by_cases hlt2 : k < S1.length
              · have i2 : ((k : Nat) : Int) < ((S1.length : Nat) : Int) := by omega
                have hj1 := own_js ((unhide HTc).below (unhide HBx))
                have hx := List.getElem?_eq_getElem hlt2
                obtain ⟨b, off, rfl, hcr⟩ := hj1 k _ hx
                have HX := hide hx
                generalize S1[k] = r at hcr HX
                clear hx hj1
                obtain ⟨o, ho, hok2⟩ := unhide HSO r (List.mem_of_getElem? (unhide HX))
                have HOO := hide ho
                have HO2 := hide (col_obj (unhide HOK) (unhide HCI).1 (ov := ov) ho hok2)
                have hop : o.ps.length ≤ 4096 := (unhide HOK).plen (obj_mem ho).1
                have HCl := hide (Class_any W2.heap.size g (colH h C ov) r wr ((unhide HHc).below (unhide HBx)) (unhide HOK9))
                clear ho hok2
                go_wp2_with fail
                refine (unhide HCl).mono ?_
                rintro e Wy ⟨⟨c, bb, rfl, hc⟩, hby⟩
                have ec := cls_is (unhide HO2) hc
                subst ec
                have HBy := hide ((unhide HBx).trans (hby.mono (unhide HBx).size))
                clear hc hby HBx HCl hcr
                go_upto_region 26 with fail
                go_cut [118] (fun s wx => s = .bool false ∧ Hid (Below W11.heap.size W11 wx))
                case first =>
                  obtain ⟨aw, cw, hcw, _, hcc⟩ := (((unhide HSc).below (unhide HBy)).at hlt2 hlt2 (unhide HX) (unhide HOO))
                  have HKE : Hid (∀ W', Below Wy.heap.size Wy W' → W'.cell? ⟨wb + 1, k, none⟩ = some (.int .i64 (clsV o)) ∧ W'.cell? ⟨wb, k, none⟩ = some (.slice aw o.ps.length cw)) := hide (fun W' hb => ⟨(hb.cell (p := ⟨wb + 1, k, none⟩) (World.block_lt_of_cell? Wy _ hcc)).trans hcc, (hb.cell (p := ⟨wb, k, none⟩) (World.block_lt_of_cell? Wy _ hcw)).trans hcw⟩)
                  have HD : Hid (Below Wy.heap.size Wy Wy.drew) := hide (belowD (Below.refl _ _) 1)
                  have HRW : Hid (∃ d, OwnJ Wy d (.slice aw o.ps.length cw) o.ps) := hide (by
                    obtain ⟨aw', cw', e1, e2, _⟩ := (((unhide HSc).below (unhide HBy)).at hlt2 hlt2 (unhide HX) (unhide HOO))
                    rw [hcw] at e1
                    injection e1 with e1
                    exact ⟨_, by rw [e1]; exact e2⟩)
                  refine wp_region_held_drew (S := fun w' => w'.cell? ⟨wb + 1, k, none⟩ = some (.int .i64 (clsV o)) ∧ w'.cell? ⟨wb, k, none⟩ = some (.slice aw o.ps.length cw)) (by kernel_rfl) (unhide HKE _ (unhide HD)) (fun hS => ?_)
                  clear hcw hcc
                  generalize Wy.drew = Wd at hS HD ⊢
                  refine wpAnyH_take (i := 0) (v := .int .i64 (clsV o)) rfl (by kernel_rfl) (by kernel_rfl) (by kernel_rfl) (fun _ _ _ h => h) (Or.inl ⟨by rfl, fun w _ => by go_simp⟩) hS ?_
                  refine wpAnyH_take (i := 1) (v := .slice (some ⟨wb + 1, 0, none⟩) S1.length S1.length) rfl (by kernel_rfl) (by kernel_rfl) (by kernel_rfl) (fun _ _ _ h => h) (Or.inl ⟨by rfl, fun w _ => by go_simp⟩) hS ?_
                  refine wpAnyH_take (i := 2) (v := .int .i64 ((k : Nat) : Int)) rfl (by kernel_rfl) (by kernel_rfl) (by kernel_rfl) (fun _ _ _ h => h) (Or.inl ⟨by rfl, fun w _ => by go_simp⟩) hS ?_
                  go_simp
                  refine wpAnyH_take (i := 3) (v := .pointer (some ⟨wb + 1, k, none⟩)) rfl (by kernel_rfl) (by kernel_rfl) (by kernel_rfl) (fun _ _ _ h => h) (Or.inl ⟨by rfl, fun w _ => by go_simp⟩) hS ?_
                  go_simp
                  refine wpAnyH_take (i := 4) (v := .int .i64 (clsV o)) rfl (by kernel_rfl) (by kernel_rfl) (by kernel_rfl) (fun _ _ _ h => h) (Or.inl ⟨by rfl, fun W h => by have h0 := h.1; go_simp⟩) hS ?_
                  go_simp
                  refine wpAnyH_take (i := 5) (v := .bool false) rfl (by kernel_rfl) (by kernel_rfl) (by kernel_rfl) (fun _ _ _ h => h) (Or.inl ⟨by rfl, fun w _ => by go_simp⟩) hS ?_
                  go_simp
                  refine wpAnyH_take (i := 6) (v := .bool false) rfl (by kernel_rfl) (by kernel_rfl) (by kernel_rfl) (fun _ _ _ h => h) (Or.inl ⟨by rfl, fun w _ => by go_simp⟩) hS ?_
                  go_simp
                  refine wpAnyH_take (i := 7) (v := .pointer (some ⟨g, 0, none⟩)) rfl (by kernel_rfl) (by kernel_rfl) (by kernel_rfl) (fun _ _ _ h => h) (Or.inl ⟨by rfl, fun w _ => by go_simp⟩) hS ?_
                  refine wpAnyH_take (i := 8) (v := .int .i64 r) rfl (by kernel_rfl) (by kernel_rfl) (by kernel_rfl) (fun _ _ _ h => h) (Or.inl ⟨by rfl, fun w _ => by go_simp⟩) hS ?_
                  go_simp
                  refine wpAnyH_take (i := 10) (v := .slice (some ⟨wb, 0, none⟩) S1.length S1.length) rfl (by kernel_rfl) (by kernel_rfl) (by kernel_rfl) (fun _ _ _ h => h) (Or.inl ⟨by rfl, fun w _ => by go_simp⟩) hS ?_
                  refine wpAnyH_take (i := 11) (v := .int .i64 ((k : Nat) : Int)) rfl (by kernel_rfl) (by kernel_rfl) (by kernel_rfl) (fun _ _ _ h => h) (Or.inl ⟨by rfl, fun w _ => by go_simp⟩) hS ?_
                  go_simp
                  refine wpAnyH_take (i := 12) (v := .pointer (some ⟨wb, k, none⟩)) rfl (by kernel_rfl) (by kernel_rfl) (by kernel_rfl) (fun _ _ _ h => h) (Or.inl ⟨by rfl, fun w _ => by go_simp⟩) hS ?_
                  go_simp
                  refine wpAnyH_take (i := 13) (v := .slice aw o.ps.length cw) rfl (by kernel_rfl) (by kernel_rfl) (by kernel_rfl) (fun _ _ _ h => h) (Or.inl ⟨by rfl, fun W h => by have h0 := h.2; go_simp⟩) hS ?_
                  go_simp
                  have HPl := hide (places_any W2.heap.size g (colH h C ov) r o Wd (((unhide HHc).below (unhide HBy)).below (unhide HD)) (unhide HOK9) (unhide HO2))
                  refine wpAnyH_ready (rs := [9]) (by kernel_rfl) (by simp) ?_
                  refine AllReadyH.cons rfl (fun K hK => ?_) AllReadyH.nil
                  go_simp
                  go_wp2_with (go_at_call 22; refine (unhide HPl).mono ?_; rintro e Wz ⟨vz, rfl, hOz, hbz⟩)
                  have HDz := hide ((unhide HD).trans (hbz.mono (unhide HD).size))
                  obtain ⟨az, cz, rfl, hjz, _⟩ := hOz.at
                  refine hK.out _ _ (unhide HKE _ (unhide HDz)) (fun hS2 => ?_)
                  clear hK K hS
                  obtain ⟨dd, hdd⟩ := unhide HRW
                  have HE2 := hide (EqualH_same (c := cz) (d := cw) hjz (own_js (OwnJ.below hdd (unhide HDz))) (by omega))
                  clear hdd hOz hbz hjz HPl
                  refine wpAnyH_ready (rs := [14]) (by kernel_rfl) (by simp) ?_
                  refine AllReadyH.cons rfl (fun K hK => ?_) AllReadyH.nil
                  go_simp
                  go_wp2_with (go_at_call 25; refine (unhide HE2).mono ?_; rintro e Wq ⟨rfl, qq, rfl⟩)
                  have HDq := hide (belowD (unhide HDz) qq)
                  refine hK.out _ _ (unhide HKE _ (unhide HDq)) (fun hS3 => ?_)
                  clear hK K hS2 HE2
                  refine wpAnyH_take (i := 15) (v := .bool false) rfl (by kernel_rfl) (by kernel_rfl) (by kernel_rfl) (fun _ _ _ h => h) (Or.inl ⟨by rfl, fun w _ => by go_simp⟩) hS3 ?_
                  go_simp
                  refine wpAnyH_take (i := 16) (v := .bool false) rfl (by kernel_rfl) (by kernel_rfl) (by kernel_rfl) (fun _ _ _ h => h) (Or.inl ⟨by rfl, fun w _ => by go_simp⟩) hS3 ?_
                  go_simp
                  refine wpAnyH_done (by kernel_rfl) ?_ _
                  go_wp2_with fail
                  go_meet
                  exact ⟨rfl, hide ((unhide HBy).trans ((unhide HDq).mono (unhide HBy).size))⟩
                case rest =>
                  obtain ⟨rfl, HBn⟩ := hcut
                  go_wp2
                  go_roundw
                  case rel => exact ⟨k + 1, by omega, by go_num, HBn⟩
                  case measure => simp [intOf]; omega
              · have i2 : ¬ ((k : Nat) : Int) < ((S1.length : Nat) : Int) := by omega
                have HHe := hide ((unhide HHc).below (unhide HBx))
                have HCo2 := hide (Collect_any W2.heap.size g (colH h C ov) va vc R1 wr (unhide HHe) (unhide HOK9) (Nat.le_trans (unhide HHe).lo (Nat.le_of_lt (unhide HHe).box.lt)) (own_js ((unhide HOc).below (unhide HBx))) (by omega))
                go_wp2_with fail
                refine (unhide HCo2).mono ?_
                rintro e W12 ⟨h2, n2, er2, rfl, hcol2, _, hk12⟩
                obtain ⟨rfl, rfl⟩ := again_none (unhide HOK) (unhide HCI) (unhide HRS) hcol2
                have HB12 := hide (((unhide HBc).trans ((unhide HBx).mono (unhide HBc).size)).trans (hk12.bel.mono hlo))
                clear hcol2 hk12 HCo2
                go_wp2
                go_ret
                exact ⟨rfl, unhide HB12⟩
end Go.Proofs.YtbiofkgdbdjdnaaDoor
