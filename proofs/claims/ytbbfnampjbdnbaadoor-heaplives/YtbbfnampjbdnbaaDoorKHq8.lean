/-
  Contract of the heap's come: the marks of just what is come to from some references; or that one of these is no object's. All that lay lies unturned.
-/
import Derived.Test.YtbbfnampjbdnbaaDoorKHq6
namespace Go.Proofs.YtbbfnampjbdnbaaDoor
open Go.RowKit
set_option maxRecDepth 20000

theorem infoBoH : (Tryd.prog.info? 4).map (fun i => (i.zero, i.size, i.bytes)) = some (some (.bool false), 1, 1) := by kernel_rfl
theorem make_boH {N : Nat} (hN : N ≤ 4097) (W : World) : (Instr.makeSlice 56 (.int .i64 (N : Int)) (.int .i64 (N : Int))).run Tryd.prog W = .ok (.slice (some ⟨W.heap.size, 0, none⟩) N N) (W.alloc (.cells (Array.replicate N (Value.bool false)) 4)) := by
  obtain ⟨i, hi, hz0, hz1, hz2⟩ := info_parts infoBoH
  have h := run_makeSlice (P := Tryd.prog) (w := W) 56 4 i (.bool false) Tryd.underlying56 hi hz0 .i64 .i64 (N : Int) (N : Int) (by omega) (by omega) (by rw [hz1]; simp; omega) (by rw [hz2]; omega) (by omega)
  rw [hz1, show ((N : Nat) : Int).toNat = N from by simp, Nat.mul_one] at h
  rw [h]
  show Result.ok _ (W.alloc (.cells (madeCells #[.bool false] N) _)) = _
  rw [made_oneH]
  simp
theorem own_popH {w : World} {base : Nat} {v : Value} {l : List Int} {a : Int} (h : OwnJ w base v (l ++ [a])) : ∃ g cap, v = .slice (some ⟨g, 0, none⟩) (l.length + 1) cap ∧ l.length + 1 ≤ cap ∧ w.cell? ⟨g, l.length, none⟩ = some (.int .i64 a) ∧ OwnJ w base (.slice (some ⟨g, 0, none⟩) l.length cap) l := by
  rcases h.2 with ⟨_, h2⟩ | ⟨g, cap, cur, hv, hb, hh, hn, hm, hs, ht⟩
  · simp at h2
  · rw [List.length_append, List.length_singleton] at hv hn
    refine ⟨g, cap, hv, hn, ?_, ?_, Or.inr ⟨g, cap, cur, rfl, hb, hh, by omega, hm, hs, ?_⟩⟩
    · rcases h.shape with ⟨h1, _⟩ | ⟨g', cap', h1, _, _, _, hc, _⟩
      · rw [hv] at h1; injection h1 with h1; cases h1
      · rw [hv] at h1
        injection h1 with h1
        injection h1 with h1
        injection h1 with h1
        rw [h1]
        exact hc l.length a (by simp)
    · simp [jvals]
    · have e : l.length * 1 = min (l.length * 1) ((l ++ [a]).length * 1) := by simp
      rw [e, ← List.take_take, ht]
      simp [jvals]
theorem CS.init {w W1 : World} {g q1 N : Nat} (hb : Below w.heap.size w W1) (b1 : Bx W1 q1 27 #[.pointer (some ⟨g, 0, none⟩)]) :
    CS w g q1 (W1.heap.size + 1) (W1.heap.size + 2) W1.heap.size (((W1.alloc (.cells (Array.replicate N (Value.bool false)) 4)).alloc (.cells #[.slice (some ⟨W1.heap.size, 0, none⟩) N N] 56)).alloc (.cells #[.slice none 0 0] 42)) (List.replicate N false) (.slice none 0 0) [] := by
  have n1 : Bx (W1.alloc (.cells (Array.replicate N (Value.bool false)) 4)) W1.heap.size 4 (Array.replicate N (Value.bool false)) := heap_alloc_new W1 _
  have a1 : Below W1.heap.size W1 (W1.alloc (.cells (Array.replicate N (Value.bool false)) 4)) := (Below.refl _ _).alloc (Nat.le_refl _) _
  have s1 : (W1.alloc (.cells (Array.replicate N (Value.bool false)) 4)).heap.size = W1.heap.size + 1 := World.size_alloc _ _
  generalize W1.alloc (.cells (Array.replicate N (Value.bool false)) 4) = W2 at n1 a1 s1 ⊢
  have n2 : Bx (W2.alloc (.cells #[.slice (some ⟨W1.heap.size, 0, none⟩) N N] 56)) W2.heap.size 56 #[.slice (some ⟨W1.heap.size, 0, none⟩) N N] := heap_alloc_new W2 _
  have a2 : Below W2.heap.size W2 (W2.alloc (.cells #[.slice (some ⟨W1.heap.size, 0, none⟩) N N] 56)) := (Below.refl _ _).alloc (Nat.le_refl _) _
  have s2 : (W2.alloc (.cells #[.slice (some ⟨W1.heap.size, 0, none⟩) N N] 56)).heap.size = W2.heap.size + 1 := World.size_alloc _ _
  generalize W2.alloc (.cells #[.slice (some ⟨W1.heap.size, 0, none⟩) N N] 56) = W4 at n2 a2 s2 ⊢
  rw [s1] at n2
  have n4 : Bx (W4.alloc (.cells #[.slice none 0 0] 42)) W4.heap.size 42 #[.slice none 0 0] := heap_alloc_new W4 _
  have a4 : Below W4.heap.size W4 (W4.alloc (.cells #[.slice none 0 0] 42)) := (Below.refl _ _).alloc (Nat.le_refl _) _
  have hs := hb.size
  rw [show W4.heap.size = W1.heap.size + 2 by omega] at n4
  refine ⟨?_, ((b1.below a1).below a2).below a4, ?_, n4, ?_, OwnJ.nil _ _, by omega, by omega⟩
  · exact ((hb.trans (a1.mono hs)).trans (a2.mono (by omega))).trans (a4.mono (by omega))
  · have := n2.below a4
    simpa using this
  · have := (n1.below a2).below a4
    simpa using this
theorem CS.pop {w0 : World} {g q1 q2 q3 cb : Nat} {W : World} {C : List Bool} {av v : Value} {A A0 : List Nat} (h : CS w0 g q1 q2 q3 cb W C av A) (ho : OwnJ W w0.heap.size v (A0.map (fun n : Nat => (n : Int)))) : CS w0 g q1 q2 q3 cb (W.setCell ⟨q3, 0, none⟩ v) C v A0 ∧ Kp w0.heap.size [4, 3, 42] W (W.setCell ⟨q3, 0, none⟩ v) := by
  have k2 : Kp w0.heap.size [42] W (W.setCell ⟨q3, 0, none⟩ v) := Kp.set h.b3 h.g3 (by simp) 0 v
  exact ⟨⟨h.bel.trans k2.bel, h.b1.kp k2 (by decide), h.b2.kp k2 (by decide), h.b3.set 0 v rfl, h.row.kp k2 (by decide), own_kp ho k2 (by decide), h.g3, h.gc⟩, k2.mono (Nat.le_refl _) (by simp)⟩
/-- One of the references is no object's. -/
def badR (h : Hm) (R : List Int) : Prop := ∃ r ∈ R, r ≠ 0 ∧ ∀ o ∈ h.O, o.ref ≠ r
theorem not_bad {h : Hm} {R : List Int} {C : List Bool} {A : List Nat} {E : Nat → Nat → Prop} (I : Inv h R R C A E) : ¬ badR h R := by
  rintro ⟨r, hr, h0, hn⟩
  obtain ⟨k, o, h1, h2, _⟩ := I.rts r hr h0
  exact hn o (List.mem_of_getElem? h1) h2
theorem ob_rangeH {B : Nat} {W : World} {g : Nat} {h : Hm} (H : HpAt B W g h) {i : Nat} {o : Ob} (ho : h.O[i]? = some o) : ∃ b cap, h.ov = .slice (some ⟨b, 0, none⟩) h.O.length cap ∧ W.rangeAt b (i * 3) (obC o) := by
  obtain ⟨b, cap, e, _, c0, c1, c2⟩ := H.ob ho
  refine ⟨b, cap, e, fun j v hv => ?_⟩
  match j, hv with
  | 0, hv => simp [obC] at hv; subst hv; exact c0
  | 1, hv => simp [obC] at hv; subst hv; exact c1
  | 2, hv => simp [obC] at hv; subst hv; exact c2
  | j + 3, hv => simp [obC] at hv
theorem ref_uniq {h : Hm} (hok : HmOk h) {a b : Nat} {x y : Ob} (ha : h.O[a]? = some x) (hb : h.O[b]? = some y) (e : x.ref = y.ref) : a = b := by
  obtain ⟨h1, h2⟩ := List.getElem?_eq_some_iff.1 ha
  obtain ⟨h3, h4⟩ := List.getElem?_eq_some_iff.1 hb
  rcases Nat.lt_trichotomy a b with h5 | h5 | h5
  · have := List.pairwise_iff_getElem.1 hok.asc a b h1 h3 h5
    rw [h2, h4] at this
    omega
  · exact h5
  · have := List.pairwise_iff_getElem.1 hok.asc b a h3 h1 h5
    rw [h2, h4] at this
    omega
theorem ld_at {B : Nat} {W : World} {y : Ld} (hy : W.ownsRow B 4 1 y.v y.bs.length (y.bs.map (fun b => .bool b))) {i : Nat} {x : Bool} (hx : y.bs[i]? = some x) : ∃ b, y.a = some ⟨b, 0, none⟩ ∧ W.cell? ⟨b, i, none⟩ = some (.bool x) := by
  have hi := (List.getElem?_eq_some_iff.1 hx).1
  rcases hy.2 with ⟨_, h2⟩ | ⟨b, cap, cur, e, _⟩
  · omega
  · have e' := e
    unfold Ld.v at e'
    injection e' with e1 _ _
    have hy' := hy
    rw [e] at hy'
    refine ⟨b, e1, (World.ownsRow.cellAt hy' i (by omega)).trans ?_⟩
    rw [List.getElem?_map, hx]
    rfl
set_option maxRecDepth 20000 in
set_option maxHeartbeats 4000000 in
theorem come_any (B g : Nat) (h : Hm) (ao : Option Addr) (cap : Nat) (R : List Int) (w : World) (H : HpAt B w g h) (hok : HmOk h) (hR : JsAt w ao R) (hRl : R.length * 8 ≤ 140737488351232) :
    Calls Tryd.prog 49 #[.pointer (some ⟨g, 0, none⟩), .slice ao R.length cap] w fun e w' => ((e = .returned (.tuple #[.slice none 0 0, .int .i64 141]) ∧ badR h R) ∨ (¬ badR h R ∧ ∃ cb C, e = .returned (.tuple #[.slice (some ⟨cb, 0, none⟩) (C : List Bool).length C.length, .int .i64 0]) ∧ ComIs h R C ∧ Bx w' cb 4 (C.map (fun b => Value.bool b)).toArray ∧ w.heap.size ≤ cb)) ∧ Below w.heap.size w w' := by
  have hlen := hok.len
  have hRn : R.length < 9223372036854775000 := by omega
  have HH := hide H
  have HK := hide hok
  have HR := hide hR
  have hal : Below w.heap.size w (w.alloc (.cells #[.pointer (some ⟨g, 0, none⟩)] 27)) := (Below.refl _ _).alloc (Nat.le_refl _) _
  have HB1 := hide hal
  have HX1 : Hid (Bx (w.alloc (.cells #[.pointer (some ⟨g, 0, none⟩)] 27)) w.heap.size 27 #[.pointer (some ⟨g, 0, none⟩)]) := hide (heap_alloc_new w _)
  have HM := hide (isMade_yes B g h _ (H.below hal))
  obtain ⟨oa, oc, hov⟩ := H.ovs
  have HOV := hide hov
  clear H hok hR hal hov hRl
  go_enter Tryd.func49, Tryd.ntmps49
  go_upto_region 1 with fail
  generalize w.alloc (.cells #[.pointer (some ⟨g, 0, none⟩)] 27) = W1 at HB1 HX1 HM ⊢
  have q1c := (unhide HX1).c 0 rfl
  go_wp2_with fail
  refine (unhide HM).mono ?_
  rintro e W ⟨rfl, hw⟩
  rw [hw]
  clear hw W HM
  have c4 := ((unhide HH).below (unhide HB1)).c4
  rw [unhide HOV] at c4
  have hmk := make_boH (N := h.O.length) (by omega) W1
  go_upto_region 5 with fail
  clear hmk c4 q1c
  have HC0 := hide (CS.init (N := h.O.length) (unhide HB1) (unhide HX1))
  generalize ((W1.alloc (.cells (Array.replicate h.O.length (Value.bool false)) 4)).alloc (.cells #[.slice (some ⟨W1.heap.size, 0, none⟩) h.O.length h.O.length] 56)).alloc (.cells #[.slice none 0 0] 42) = W2 at HC0 ⊢
  clear HB1 HX1
  generalize w.heap.size = q1 at HC0 ⊢
  generalize W1.heap.size = cb at HC0 ⊢
  go_wp2_with fail
  go_loopw [26] (fun i wr => ∃ (k : Nat) (C : List Bool) (av : Value) (A : List Nat), k ≤ R.length ∧ i = .int .i64 (k : Int) ∧ Hid (CS w g q1 (cb + 1) (cb + 2) cb wr C av A) ∧ Hid (Inv h R (R.take k) C A (fun _ _ => False))) (fun i _ => R.length - (intOf i).toNat)
  case atStart => exact ⟨0, _, _, _, by omega, rfl, HC0, hide (Inv.start h R)⟩
  case round =>
    obtain ⟨k, C, av, A, hk, rfl, HS, HI⟩ := hrel
    clear HC0
    by_cases hlt : k < R.length
    · have i1 : ((k : Nat) : Int) < ((R.length : Nat) : Int) := by omega
      have hx := List.getElem?_eq_getElem hlt
      obtain ⟨b, off, rfl, hc⟩ := (unhide HR).below (unhide HS).bel k _ hx
      have HX := hide hx
      generalize R[k] = r at hc HX
      clear hx
      have hAl : A.length ≤ 4096 := by have := (unhide HI).bnd; omega
      by_cases h0 : r = 0
      · have t0 : (r != 0) = false := bne_f h0
        have HI2 : Hid (Inv h R (R.take (k + 1)) C A (fun _ _ => False)) := hide (by rw [take_step (unhide HX)]; exact (unhide HI).root (fun e => absurd h0 e))
        clear h0
        go_wp2
        go_roundw
        case rel => exact ⟨k + 1, C, av, A, by omega, by go_num, HS, HI2⟩
        case measure => simp [intOf]; omega
      · have t0 : (r != 0) = true := bne_t h0
        have HR0 := hide h0
        have HT := hide (come1_any w B g q1 (cb + 1) (cb + 2) cb h r wr C av A (unhide HH) (unhide HK) (unhide HS) (unhide HI).len hAl)
        clear h0
        go_wp2_with fail
        refine (unhide HT).mono ?_
        rintro e W3 ⟨b', C', av', A', rfl, ht, hS3, _⟩
        have hto := (unhide HI).to ht (fun k' o ho e => Rch.root ho (by rw [e]; exact List.mem_of_getElem? (unhide HX)))
        have HS3 := hide hS3
        clear hS3 HT HS ht
        cases b' with
        | true =>
          have HI2 : Hid (Inv h R (R.take (k + 1)) C' A' (fun _ _ => False)) := hide (by rw [take_step (unhide HX)]; exact hto.1.root (fun _ => hto.2.2.1 rfl))
          clear hto
          go_wp2
          go_roundw
          case rel => exact ⟨k + 1, C', av', A', by omega, by go_num, HS3, HI2⟩
          case measure => simp [intOf]; omega
        | false =>
          have HBD : Hid (badR h R) := hide ⟨r, List.mem_of_getElem? (unhide HX), unhide HR0, hto.2.2.2.1 rfl⟩
          clear hto
          go_wp2
          go_ret2
          exact ⟨Or.inl ⟨rfl, unhide HBD⟩, (unhide HS3).bel⟩
    · have i1 : ¬ ((k : Nat) : Int) < ((R.length : Nat) : Int) := by omega
      have HI1 : Hid (Inv h R R C A (fun _ _ => False)) := hide (by have := unhide HI; rw [List.take_of_length_le (by omega)] at this; exact this)
      clear HI
      go_wp2_with fail
      go_loopg [39] (2 * h.O.length) (fun kx s39 wr => ∃ (C : List Bool) (av : Value) (A : List Nat) (mm : Nat), Hid (CS w g q1 (cb + 1) (cb + 2) cb wr C av A) ∧ Hid (Inv h R R C A (fun _ _ => False)) ∧ A.length + 2 * C.count false ≤ mm ∧ mm ≤ kx)
      case atStart => exact ⟨C, av, A, 2 * h.O.length, HS, HI1, by have := (unhide HI1).bnd; omega, Nat.le_refl _⟩
      case round =>
        clear HS HI1
        obtain ⟨C, av, A, mm, HS, HI, hm, hmk⟩ := hrel
        rcases List.eq_nil_or_concat A with rfl | ⟨A0, p, hA⟩
        · obtain ⟨va, vc, hav, _⟩ := (unhide HS).ah.at
          have c3 := (unhide HS).b3.c 0 rfl
          rw [hav] at c3
          have c2 := (unhide HS).b2.c 0 rfl
          have HF : Hid (ComIs h R C) := hide ((unhide HI).fin (unhide HK))
          clear hav
          go_wp2
          go_ret2
          exact ⟨Or.inr ⟨not_bad (unhide HI), cb, C, rfl, unhide HF, (unhide HS).row, (unhide HS).gc⟩, (unhide HS).bel⟩
        · have hA : A = A0 ++ [p] := by rw [hA]; simp
          subst hA
          have hcp := (unhide HI).ain p (by simp)
          have hpl : p < h.O.length := by have := (List.getElem?_eq_some_iff.1 hcp).1; have := (unhide HI).len; omega
          have hop := List.getElem?_eq_getElem hpl
          generalize h.O[p] = o at hop
          have hah := (unhide HS).ah
          rw [List.map_append] at hah
          obtain ⟨vb, vc, hav, hvc, hcl, hpop⟩ := own_popH hah
          rw [List.length_map] at hav hvc hcl hpop
          have HPO := hide hpop
          have HOP := hide hop
          have HCP := hide hcp
          have c3 := (unhide HS).b3.c 0 rfl
          rw [hav] at c3
          have hA0 : A0.length ≤ 4096 := by have := (unhide HI).bnd; simp at this; omega
          obtain ⟨ob, ocap, hov2, hrng⟩ := ob_rangeH ((unhide HH).below (unhide HS).bel) hop
          have hc4 := ((unhide HH).below (unhide HS).bel).c4
          rw [hov2] at hc4
          have hq1 := (unhide HS).b1.c 0 rfl
          have HM : Hid (A0.length + 1 + 2 * C.count false ≤ mm) := hide (by simp at hm; omega)
          clear hah hav hpop hop hcp hov2 hm
          go_upto_region 13 with fail
          go_cut [11] (fun s11 wx => ∃ gb, s11 = .pointer (some ⟨gb, 0, none⟩) ∧ Hid (CS w g q1 (cb + 1) (cb + 2) cb wx C av (A0 ++ [p])) ∧ Hid (Bx wx gb 83 #[.int .i64 o.ref, .int .i64 o.cls, .slice (some ⟨o.pb, 0, none⟩) o.ps.length o.ps.length]) ∧ Hid (wx.cell? ⟨cb + 2, 0, none⟩ = some (.slice (some ⟨vb, 0, none⟩) (A0.length + 1) vc)) ∧ Hid (OwnJ wx w.heap.size (.slice (some ⟨vb, 0, none⟩) A0.length vc) (A0.map (fun n : Nat => (n : Int)))))
          case first =>
            have hS0 : wr.drew.cell? ⟨q1, 0, none⟩ = some (.pointer (some ⟨g, 0, none⟩)) ∧ wr.drew.cell? ⟨g, 4, none⟩ = some (.slice (some ⟨ob, 0, none⟩) h.O.length ocap) ∧ wr.drew.cell? ⟨cb + 2, 0, none⟩ = some (.slice (some ⟨vb, 0, none⟩) (A0.length + 1) vc) ∧ wr.drew.cell? ⟨vb, A0.length, none⟩ = some (.int .i64 (p : Int)) ∧ wr.drew.rangeAt ob (p * 3) (obC o) := ⟨hq1, hc4, c3, hcl, hrng⟩
            have hkeep : ∀ W', Below wr.heap.size wr W' → W'.cell? ⟨q1, 0, none⟩ = some (.pointer (some ⟨g, 0, none⟩)) ∧ W'.cell? ⟨g, 4, none⟩ = some (.slice (some ⟨ob, 0, none⟩) h.O.length ocap) ∧ W'.cell? ⟨cb + 2, 0, none⟩ = some (.slice (some ⟨vb, 0, none⟩) (A0.length + 1) vc) ∧ W'.cell? ⟨vb, A0.length, none⟩ = some (.int .i64 (p : Int)) ∧ W'.rangeAt ob (p * 3) (obC o) := fun W' hb => ⟨(hb.cell (p := ⟨q1, 0, none⟩) (World.block_lt_of_cell? wr _ hq1)).trans hq1, (hb.cell (p := ⟨g, 4, none⟩) (World.block_lt_of_cell? wr _ hc4)).trans hc4, (hb.cell (p := ⟨cb + 2, 0, none⟩) (World.block_lt_of_cell? wr _ c3)).trans c3, (hb.cell (p := ⟨vb, A0.length, none⟩) (World.block_lt_of_cell? wr _ hcl)).trans hcl, fun j v hv => (hb.cell (p := ⟨ob, p * 3 + j, none⟩) (World.block_lt_of_cell? wr _ (hrng j v hv))).trans (hrng j v hv)⟩
            refine wp_region_held_drew (S := fun w' => w'.cell? ⟨q1, 0, none⟩ = some (.pointer (some ⟨g, 0, none⟩)) ∧ w'.cell? ⟨g, 4, none⟩ = some (.slice (some ⟨ob, 0, none⟩) h.O.length ocap) ∧ w'.cell? ⟨cb + 2, 0, none⟩ = some (.slice (some ⟨vb, 0, none⟩) (A0.length + 1) vc) ∧ w'.cell? ⟨vb, A0.length, none⟩ = some (.int .i64 (p : Int)) ∧ w'.rangeAt ob (p * 3) (obC o)) (by kernel_rfl) hS0 (fun hS => ?_)
            have HD : Hid (Below wr.heap.size wr wr.drew) := hide (belowD (Below.refl _ _) 1)
            have HKE := hide hkeep
            have i13 : ((p : Nat) : Int) < ((h.O.length : Nat) : Int) := by omega
            have i7 : IntKind.i64.wrap ((A0.length : Nat) : Int) = ((A0.length : Nat) : Int) := by simp [IntKind.wrap, IntKind.bits, IntKind.signed]; omega
            have i8 : ¬ ((A0.length : Nat) : Int) + 1 ≤ ((A0.length : Nat) : Int) := by omega
            clear hS0 hq1 hc4 c3 hcl hrng hkeep
            generalize wr.drew = Wd at hS HD ⊢
            refine wpAnyH_take (i := 0) (v := .pointer (some ⟨g, 0, none⟩)) rfl (by kernel_rfl) (by kernel_rfl) (by kernel_rfl) (fun _ _ _ h => h) (Or.inl ⟨by rfl, fun W h => by have h0 := h.1; go_simp⟩) hS ?_
            refine wpAnyH_take (i := 1) (v := .pointer (some ⟨g, 0, none⟩)) rfl (by kernel_rfl) (by kernel_rfl) (by kernel_rfl) (fun _ _ _ h => h) (Or.inl ⟨by rfl, fun w _ => by go_simp⟩) hS ?_
            go_simp
            refine wpAnyH_take (i := 2) (v := .pointer (some ⟨g, 4, none⟩)) rfl (by kernel_rfl) (by kernel_rfl) (by kernel_rfl) (fun _ _ _ h => h) (Or.inl ⟨by rfl, fun w _ => by go_simp⟩) hS ?_
            refine wpAnyH_take (i := 3) (v := .slice (some ⟨ob, 0, none⟩) h.O.length ocap) rfl (by kernel_rfl) (by kernel_rfl) (by kernel_rfl) (fun _ _ _ h => h) (Or.inl ⟨by rfl, fun W h => by have h0 := h.2.1; go_simp⟩) hS ?_
            go_simp
            refine wpAnyH_take (i := 4) (v := .slice (some ⟨vb, 0, none⟩) (A0.length + 1) vc) rfl (by kernel_rfl) (by kernel_rfl) (by kernel_rfl) (fun _ _ _ h => h) (Or.inl ⟨by rfl, fun W h => by have h0 := h.2.2.1; go_simp⟩) hS ?_
            refine wpAnyH_take (i := 5) (v := .slice (some ⟨vb, 0, none⟩) (A0.length + 1) vc) rfl (by kernel_rfl) (by kernel_rfl) (by kernel_rfl) (fun _ _ _ h => h) (Or.inl ⟨by rfl, fun W h => by have h0 := h.2.2.1; go_simp⟩) hS ?_
            go_simp
            refine wpAnyH_take (i := 6) (v := .int .i64 ((A0.length : Int) + 1)) rfl (by kernel_rfl) (by kernel_rfl) (by kernel_rfl) (fun _ _ _ h => h) (Or.inl ⟨by rfl, fun w _ => by go_simp⟩) hS ?_
            refine wpAnyH_take (i := 7) (v := .int .i64 ((A0.length : Nat) : Int)) rfl (by kernel_rfl) (by kernel_rfl) (by kernel_rfl) (fun _ _ _ h => h) (Or.inl ⟨by rfl, fun w _ => by go_simp⟩) hS ?_
            go_simp
            refine wpAnyH_take (i := 8) (v := .pointer (some ⟨vb, A0.length, none⟩)) rfl (by kernel_rfl) (by kernel_rfl) (by kernel_rfl) (fun _ _ _ h => h) (Or.inl ⟨by rfl, fun w _ => by go_simp⟩) hS ?_
            refine wpAnyH_take (i := 9) (v := .int .i64 ((p : Nat) : Int)) rfl (by kernel_rfl) (by kernel_rfl) (by kernel_rfl) (fun _ _ _ h => h) (Or.inl ⟨by rfl, fun W h => by have h0 := h.2.2.2.1; go_simp⟩) hS ?_
            go_simp
            refine wpAnyH_take (i := 10) (v := .pointer (some ⟨ob, p * 3, none⟩)) rfl (by kernel_rfl) (by kernel_rfl) (by kernel_rfl) (fun _ _ _ h => h) (Or.inl ⟨by rfl, fun w _ => by go_simp⟩) hS ?_
            go_simp
            refine wpAnyH_take (i := 11) (v := .agg #[.int .i64 o.ref, .int .i64 o.cls, .slice (some ⟨o.pb, 0, none⟩) o.ps.length o.ps.length]) rfl (by kernel_rfl) (by kernel_rfl) (by kernel_rfl) (fun _ _ _ h => h) (yieldsIf_load_mid (by rfl) 83 _ rfl ob (p * 3) rfl (obC o) _ (fun _ h => h.2.2.2.2) Tryd.underlying83 rfl (by kernel_rfl)) hS ?_
            go_simp
            refine wpAnyH_ready (rs := [12]) (by kernel_rfl) (by simp) ?_
            refine (AllReadyH.cons rfl (fun K hK => ?_) AllReadyH.nil)
            go_simp
            have HBX : Hid (Bx (Wd.alloc (.cells #[.int .i64 0, .int .i64 0, .slice none 0 0] 83)) Wd.heap.size 83 #[.int .i64 0, .int .i64 0, .slice none 0 0]) := hide (heap_alloc_new Wd _)
            have HD1 : Hid (Below wr.heap.size wr (Wd.alloc (.cells #[.int .i64 0, .int .i64 0, .slice none 0 0] 83))) := hide ((unhide HD).alloc (unhide HD).size _)
            have hge : wr.heap.size ≤ Wd.heap.size := (unhide HD).size
            refine hK.out _ _ (unhide HKE _ (unhide HD1)) (fun hS1 => ?_)
            clear hK K hS
            generalize Wd.alloc (.cells #[.int .i64 0, .int .i64 0, .slice none 0 0] 83) = Wa at HBX HD1 hS1 ⊢
            generalize Wd.heap.size = gb at HBX hge ⊢
            refine wpAnyH_ready (rs := [13]) (by kernel_rfl) (by simp) ?_
            refine (AllReadyH.cons rfl (fun K hK => ?_) AllReadyH.nil)
            rw [if_pos (by rfl)]
            refine wp_store_row 83 _ _ rfl gb #[.int .i64 o.ref, .int .i64 o.cls, .slice (some ⟨o.pb, 0, none⟩) o.ps.length o.ps.length] (by rfl) (by rfl) 83 #[.int .i64 0, .int .i64 0, .slice none 0 0] (unhide HBX) (by kernel_rfl) rfl (by simp [Value.oneCell']) ?_
            have HD2 : Hid (Below wr.heap.size wr (Wa.setRow gb #[.int .i64 o.ref, .int .i64 o.cls, .slice (some ⟨o.pb, 0, none⟩) o.ps.length o.ps.length])) := hide (below_row (unhide HD1) hge _)
            have HBX2 : Hid (Bx (Wa.setRow gb #[.int .i64 o.ref, .int .i64 o.cls, .slice (some ⟨o.pb, 0, none⟩) o.ps.length o.ps.length]) gb 83 #[.int .i64 o.ref, .int .i64 o.cls, .slice (some ⟨o.pb, 0, none⟩) o.ps.length o.ps.length]) := hide (setRow_heap _ _ _ _ _ _ (unhide HBX))
            refine hK.out _ _ (unhide HKE _ (unhide HD2)) (fun hS2 => ?_)
            clear hK K
            refine wpAnyH_done (by kernel_rfl) ?_ _
            go_wp2_with fail
            go_meet
            exact ⟨gb, rfl, hide ((unhide HS).below (unhide HD2)), HBX2, hide hS2.2.2.1, hide ((unhide HPO).below (unhide HD2))⟩
          case rest =>
            obtain ⟨gb, rfl, HS2, HBX, HC3, HPO2⟩ := hcut
            clear hq1 hc4 c3 hcl hrng HS HPO
            generalize wc = W3 at HS2 HBX HC3 HPO2 ⊢
            have c3 := unhide HC3
            have f3 := (unhide HS2).b3.f 0
            go_upto_region 15 with fail
            have HP := hide ((unhide HS2).pop (unhide HPO2))
            have HBX3 := hide ((unhide HBX).kp (unhide HP).2 (by decide))
            have HS3 := hide (unhide HP).1
            clear c3 f3 HP HS2 HC3 HPO2 HBX
            generalize W3.setCell ⟨cb + 2, 0, none⟩ (.slice (some ⟨vb, 0, none⟩) A0.length vc) = W4 at HS3 HBX3 ⊢
            have hcl := (unhide HK).cls o (List.mem_of_getElem? (unhide HOP))
            have HLD := hide (leadsOf_any B g h o.ref o.cls (some ⟨o.pb, 0, none⟩) o.ps.length o.ps.length W4 ((unhide HH).below (unhide HS3).bel) (by
              rcases hcl with e | ⟨c, e, x, hx, _⟩
              · exact Or.inl e
              · exact Or.inr ⟨c, e, x, hx⟩))
            have HLL : Hid ((ldOf h o.cls).bs.length ≤ o.ps.length) := hide (ldOf_len (unhide HK) (List.mem_of_getElem? (unhide HOP)))
            have hll : (ldOf h o.cls).bs.length ≤ 4096 := by have := unhide HLL; have := (unhide HK).plen (List.mem_of_getElem? (unhide HOP)); omega
            have HLO : Hid (∀ (i : Nat) (x : Bool), (ldOf h o.cls).bs[i]? = some x → ∃ b, (ldOf h o.cls).a = some ⟨b, 0, none⟩ ∧ w.cell? ⟨b, i, none⟩ = some (.bool x)) := hide (by
              rcases hcl with e | ⟨c, e, y, hy, _⟩
              · intro i x hx
                unfold ldOf at hx
                rw [if_pos e] at hx
                simp at hx
              · intro i x hx
                have e2 : ldOf h o.cls = y := by unfold ldOf; rw [if_neg (by omega), e]; simp [hy]
                rw [e2] at hx ⊢
                exact ld_at ((unhide HH).each y (List.mem_of_getElem? hy)) hx)
            clear hcl
            generalize hLD : ldOf h o.cls = ld at HLD HLL hll HLO
            have HLE := hide hLD
            clear hLD
            have q1c := (unhide HS3).b1.c 0 rfl
            have o0 := (unhide HBX3).c 0 rfl
            have o1 := (unhide HBX3).c 1 rfl
            have o2 := (unhide HBX3).c 2 rfl
            go_wp2_with fail
            refine (unhide HLD).mono ?_
            rintro e W5 ⟨rfl, hb5⟩
            have HS5 := hide ((unhide HS3).below hb5)
            have HBX5 := hide ((unhide HBX3).below hb5)
            have HI5 : Hid (Inv h R R C A0 (fun k j => k = p ∧ 0 ≤ j)) := hide (unhide HI).pop
            clear q1c o0 o1 o2 HLD hb5 HS3 HBX3
            go_wp2_with fail
            go_loopw [63] (fun i wr => ∃ (k : Nat) (C' : List Bool) (av' : Value) (A' : List Nat), k ≤ ld.bs.length ∧ i = .int .i64 (k : Int) ∧ Hid (CS w g q1 (cb + 1) (cb + 2) cb wr C' av' A') ∧ Hid (Inv h R R C' A' (fun a j => a = p ∧ k ≤ j)) ∧ Hid (Bx wr gb 83 #[.int .i64 o.ref, .int .i64 o.cls, .slice (some ⟨o.pb, 0, none⟩) o.ps.length o.ps.length]) ∧ Hid (C'[p]? = some true) ∧ A'.length + 2 * C'.count false + 1 ≤ mm) (fun i _ => ld.bs.length - (intOf i).toNat)
            case atStart => exact ⟨0, C, _, A0, by omega, rfl, HS5, HI5, HBX5, HCP, by have := unhide HM; omega⟩
            case round =>
              obtain ⟨k, C', av', A', hk, rfl, HS6, HI6, HBX6, HCP6, hm6⟩ := hrel
              clear HS5 HBX5 HI5
              by_cases hlt : k < ld.bs.length
              · have i1 : ((k : Nat) : Int) < ((ld.bs.length : Nat) : Int) := by omega
                have hx := List.getElem?_eq_getElem hlt
                generalize ld.bs[k] = bb at hx
                obtain ⟨lb, e, hcb⟩ := unhide HLO k bb hx
                have cbk := ((unhide HS6).bel.cell (p := ⟨lb, k, none⟩) (World.block_lt_of_cell? w _ hcb)).trans hcb
                have HX := hide hx
                rw [e]
                clear hx e hcb
                cases bb with
                | false =>
                  have HI7 : Hid (Inv h R R C' A' (fun a j => a = p ∧ k + 1 ≤ j)) := hide ((unhide HI6).next (unhide HOP) (fun e => by rw [unhide HLE, unhide HX] at e; cases e))
                  go_wp2
                  go_roundw
                  case rel => exact ⟨k + 1, C', av', A', by omega, by go_num, HS6, HI7, HBX6, HCP6, hm6⟩
                  case measure => simp [intOf]; omega
                | true =>
                  have hkp : k < o.ps.length := by have := unhide HLL; omega
                  have hv := List.getElem?_eq_getElem hkp
                  have hpl2 := (((unhide HH).below (unhide HS6).bel).pls o (List.mem_of_getElem? (unhide HOP))).2.c k (plC_get _ _ hkp)
                  have hbd := (unhide HK).i32 o (List.mem_of_getElem? (unhide HOP)) _ (List.getElem_mem hkp)
                  generalize o.ps[k] = v at hv hpl2 hbd
                  have hA6 : A'.length ≤ 4096 := by have := (unhide HI6).bnd; omega
                  have HV := hide hv
                  have HT := hide (come1_any w B g q1 (cb + 1) (cb + 2) cb h v wr C' av' A' (unhide HH) (unhide HK) (unhide HS6) (unhide HI6).len hA6)
                  have b2 := (unhide HBX6).c 2 rfl
                  have i2 : ((k : Nat) : Int) < ((o.ps.length : Nat) : Int) := by omega
                  clear hv
                  go_wp2_with fail
                  refine (unhide HT).mono ?_
                  rintro e W7 ⟨b', C7, av7, A7, rfl, ht, hS7, hk7⟩
                  have hto := (unhide HI6).to ht (fun t o' ho e => Rch.step ((unhide HI6).snd p (unhide HCP6)) (unhide HOP) (j := k) (by rw [unhide HLE]; exact unhide HX) (unhide HV) ho e)
                  have HS7 := hide hS7
                  have HBX7 := hide ((unhide HBX6).kp hk7 (by decide))
                  have HCP7 := hide (hto.2.1 p (unhide HCP6))
                  have HI7 : Hid (Inv h R R C7 A7 (fun a j => a = p ∧ k + 1 ≤ j)) := hide (hto.1.next (unhide HOP) (fun _ v' hv' t o' ho' e' => by
                    rw [unhide HV] at hv'
                    injection hv' with hv'
                    subst hv'
                    cases b' with
                    | true =>
                      obtain ⟨t2, o2, h1, h2, h3⟩ := hto.2.2.1 rfl
                      rw [ref_uniq (unhide HK) ho' h1 (e'.trans h2.symm)]
                      exact h3
                    | false => exact absurd e' (hto.2.2.2.1 rfl o' (List.mem_of_getElem? ho'))))
                  have hm7 : A7.length + 2 * C7.count false + 1 ≤ mm := by have := hto.2.2.2.2; omega
                  clear hto ht hS7 hk7 HT cbk hpl2 b2 HS6 HBX6
                  go_wp2
                  go_roundw
                  case rel => exact ⟨k + 1, C7, av7, A7, by omega, by go_num, HS7, HI7, HBX7, HCP7, hm7⟩
                  case measure => simp [intOf]; omega
              · have i1 : ¬ ((k : Nat) : Int) < ((ld.bs.length : Nat) : Int) := by omega
                have HI8 : Hid (Inv h R R C' A' (fun _ _ => False)) := hide ((unhide HI6).done (unhide HOP) (by rw [unhide HLE]; omega))
                go_wp2
                go_roundg (A'.length + 2 * C'.count false)
                case rel => exact ⟨C', av', A', A'.length + 2 * C'.count false, HS6, HI8, Nat.le_refl _, Nat.le_refl _⟩
                case measure => omega
end Go.Proofs.YtbbfnampjbdnbaaDoor
