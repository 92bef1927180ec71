/-
  provisolaw21.do at a Put: both answer the same, what was given stays, and is not kept.
-/
import Derived.Test.YtkcnkfhdbjiggaaSu11
import Derived.Test.YtkcnkfhdbjiggaaRoom
namespace Go.Proofs.Ytkcnkfhdbjiggaa
open Go.RowKit
set_option maxRecDepth 20000

theorem flip8U (x : UInt8) : bits .xor .u8 (x.toNat : Int) 255 = ((x ^^^ 255).toNat : Int) := by
  have hx := x.toNat_lt
  have h1 : (BitVec.ofInt 8 (x.toNat : Int)).toNat = x.toNat := by
    rw [BitVec.ofInt_natCast, BitVec.toNat_ofNat]; exact Nat.mod_eq_of_lt (by omega)
  have h2 : (BitVec.ofInt 8 (255 : Int)).toNat = 255 := by decide
  have hw : ∀ n : Int, IntKind.u8.wrap n = n % 256 := fun n => by simp [IntKind.wrap, IntKind.bits, IntKind.signed]
  have hlt : x.toNat ^^^ 255 < 256 := Nat.xor_lt_two_pow (n := 8) (by omega) (by omega)
  show IntKind.u8.wrap ((BitVec.ofInt 8 (x.toNat : Int) ^^^ BitVec.ofInt 8 (255 : Int)).toNat : Int) = _
  rw [BitVec.toNat_xor, h1, h2, hw, UInt8.toNat_xor]
  show ((x.toNat ^^^ 255 : Nat) : Int) % 256 = ((x.toNat ^^^ 255 : Nat) : Int)
  omega
theorem bvals_setU (L : List UInt8) (j : Nat) (x : UInt8) : (bvals L).set j (.int .u8 (x.toNat : Int)) = bvals (L.set j x) := by
  unfold bvals; rw [List.map_set]
theorem Tw.keepG {w w1 : World} {B g gg : Nat} {iv kv xi lv : Value} {I : List UInt8} {K : List Ke} {L : List Rk} {cur : Array Value} (h : Tw w B g iv kv xi lv I K L) (hb : w.heap[gg]? = some (.cells cur 5 (0, 0))) (hk : Kept (fun q => q = gg) w w1)
    (n1 : iv.ownBlock ≠ some gg) (n2 : xi.ownBlock ≠ some gg) (n3 : ∀ x ∈ L, (Value.slice x.ba x.bs.length x.bc).ownBlock ≠ some gg) : Tw w1 B g iv kv xi lv I K L := by
  refine ⟨h.st.keep hk (fun (e : g = gg) => ty_ne h.st.row hb (by decide) e) (fun q e (e2 : q = gg) => n1 (by rw [← e2]; exact e)) (fun q e (e2 : q = gg) => ?_), h.xo.keep hk (fun q e (e2 : q = gg) => n2 (by rw [← e2]; exact e)), h.lo.keep hk (fun q e (e2 : q = gg) => ?_), fun x hx => (h.rk x hx).keep hk (fun q e (e2 : q = gg) => n3 x hx (by rw [← e2]; exact e)), h.sm, h.ok, h.en, h.big, h.s1, h.s2⟩
  · obtain ⟨cur, hh⟩ := h.st.kty _ e
    exact ty_ne hh hb (by decide) e2
  · obtain ⟨cur, hh⟩ := own_tyR h.lo e
    exact ty_ne hh hb (by decide) e2
theorem Bx.keepG {w w1 : World} {b gg : Nat} {t : TypeId} {cs : Array Value} {cur : Array Value} (h : Bx w b t cs) (hb : w.heap[gg]? = some (.cells cur 5 (0, 0))) (hk : Kept (fun q => q = gg) w w1) (ht : t ≠ 5) : Bx w1 b t cs := by
  unfold Bx at h ⊢
  rw [hk.block b (Bx.lt h) (fun (e : b = gg) => ty_ne h hb ht e)]
  exact h
set_option maxRecDepth 20000 in
set_option maxHeartbeats 3000000 in
theorem doPut_any {w : World} {B g : Nat} {iv kv xi lv : Value} {I : List UInt8} {K : List Ke} {L : List Rk} (s : ByteArray) (ao : Option Addr) (c : Nat) (m : List UInt8) (H : Tw w B g iv kv xi lv I K L) (hs : s.size ≤ maxLen) (hb : BAt w ao m) (hn : ao = none → m = [] ∧ c = 0) (hml : m.length ≤ 140737488351232) (hlow : ∀ b off, ao = some ⟨b, off, none⟩ → 0 < m.length → b < B) :
    Calls Try.prog 9 #[.pointer (some ⟨g, 0, none⟩), .agg #[xi, lv], .agg #[.int .i64 0, .string s, .slice ao m.length c]] w (DoPost w B g iv kv I K (putE I K s m) (recK s m) (putK I K s m)) := by
  obtain ⟨xa, xc, rfl, -⟩ := H.xo.at
  obtain ⟨la, lc, rfl, -⟩ := H.lo.at
  obtain ⟨W3, hW3⟩ : ∃ W3, W3 = ((w.alloc (.cells #[.slice xa I.length xc, .slice la L.length lc] 28)).alloc (.cells #[.int .i64 0, .string s, .slice ao m.length c] 31)).alloc (.cells #[.slice none 0 0, .slice none 0 0] 28) := ⟨_, rfl⟩
  have hbw : Below w.heap.size w W3 := by rw [hW3]; exact (((Below.refl _ _).alloc (Nat.le_refl _) _).alloc (by simp) _).alloc (by simp; omega) _
  have HX4 : Hid (Bx W3 w.heap.size 28 #[.slice xa I.length xc, .slice la L.length lc]) := hide (by
    rw [hW3]
    exact Bx.below (Bx.below (heap_alloc_new w _) ((Below.refl _ _).alloc (Nat.le_refl _) _)) ((Below.refl _ _).alloc (Nat.le_refl _) _))
  have HX5 : Hid (Bx W3 (w.heap.size + 1) 31 #[.int .i64 0, .string s, .slice ao m.length c]) := hide (by
    rw [hW3]
    have := heap_alloc_new (w.alloc (.cells #[.slice xa I.length xc, .slice la L.length lc] 28)) (.cells #[.int .i64 0, .string s, .slice ao m.length c] 31)
    rw [World.size_alloc] at this
    exact Bx.below this ((Below.refl _ _).alloc (Nat.le_refl _) _))
  have HX6 : Hid (Bx W3 (w.heap.size + 2) 28 #[.slice none 0 0, .slice none 0 0]) := hide (by
    rw [hW3]
    have := heap_alloc_new ((w.alloc (.cells #[.slice xa I.length xc, .slice la L.length lc] 28)).alloc (.cells #[.int .i64 0, .string s, .slice ao m.length c] 31)) (.cells #[.slice none 0 0, .slice none 0 0] 28)
    rw [World.size_alloc, World.size_alloc] at this
    exact this)
  have HW3 := hide hW3
  have HB3 : Hid (Kept (SA g iv kv) w W3) := hide (Kept.of_below hbw _)
  have HT := hide (H.below hbw)
  have HCD := hide ((unhide HT).codeP s m)
  have HBt := hide (hb.below' hbw)
  have HNN := hide hn
  have HLW := hide hlow
  have HRm := hide (Roomy_any ao c m W3 (unhide HBt) (fun e => (hn e).1) hml)
  have mixed := mixedS
  have y1 := (unhide HX5).c 2 rfl
  have y2 := (unhide HX5).c 0 rfl
  obtain ⟨code, hcode⟩ : ∃ code, code = putE I K s m := ⟨_, rfl⟩
  rw [← hcode] at HCD ⊢
  have HCO := hide hcode
  clear hW3 hbw H hcode hb hn hlow
  go_enter Try.func9, Try.ntmps9
  go_upto_region 1 with fail
  rw [← unhide HW3]
  clear HW3
  go_wp2_with fail
  refine (unhide HRm).mono ?_
  rintro e W4 ⟨gg, cp, rfl, hg, hO4, hb4⟩
  have hg4 : gg < W4.heap.size := (World.ownsRow.lt hO4 gg rfl).2
  have hcp : m.length + 4 ≤ cp := by
    rcases hO4.2 with ⟨h, _⟩ | ⟨g', cap', cur, hv, _, _, hn', _⟩
    · cases h
    · injection hv with _ _ hv
      rw [roomy_length] at hn'
      omega
  have hgb : BAt W4 (some ⟨gg, 0, none⟩) (roomy m) := by
    obtain ⟨a', c', e', h'⟩ := hO4.at
    injection e' with e' _ _
    rw [e']
    exact h'
  have HT4 := hide ((unhide HT).below hb4)
  have HX4a := hide ((unhide HX4).below hb4)
  have HX5a := hide ((unhide HX5).below hb4)
  have HX6a := hide ((unhide HX6).below hb4)
  have HB4 := hide ((unhide HB3).trans (Kept.of_below hb4 (SA g iv kv)) (fun _ _ h => h) (fun _ _ h => h))
  have HBt4 := hide ((unhide HBt).below' hb4)
  have HG4 := hide (hO4.mono (Nat.zero_le _))
  have HPt := hide (PutS_any s (some ⟨gg, 0, none⟩) cp m (unhide HT4).st (unhide HT4).big (unhide HT4).ok hs (BAt.take (m := [165, 90, 195, 60]) hgb) (fun e => by cases e) (by omega))
  rw [← unhide HCO] at HPt
  have HNO : Hid ((∀ q, iv.ownBlock = some q → q < W3.heap.size) ∧ (∀ q, (Value.slice xa I.length xc).ownBlock = some q → q < W3.heap.size) ∧ (∀ x ∈ L, ∀ q, (Value.slice x.ba x.bs.length x.bc).ownBlock = some q → q < W3.heap.size) ∧ g < W3.heap.size ∧ (∀ q, kv.ownBlock = some q → q < W3.heap.size)) := hide ⟨fun q e => (World.ownsRow.lt (unhide HT).st.img q e).2, fun q e => (World.ownsRow.lt (unhide HT).xo q e).2, fun x hx q e => (World.ownsRow.lt ((unhide HT).rk x hx) q e).2, (unhide HT).st.gl, fun q e => (World.ownsRow.lt (unhide HT).st.kep q e).2⟩
  have y1 := (unhide HX5a).c 1 rfl
  clear y2 hO4 hb4 hgb HRm
  go_wp2_with fail
  refine (unhide HPt).mono ?_
  rintro e W5 (⟨cc, hcc, rfl, hc0, -, hb5⟩ | ⟨hc0, v4, iv4, kv4, rfl, hst, hwr, hk, hF⟩)
  · have HT5 := hide ((unhide HT4).below hb5)
    have HX4' := hide ((unhide HX4a).below hb5)
    have HX5' := hide ((unhide HX5a).below hb5)
    have HX6b := hide ((unhide HX6a).below hb5)
    have HBt5 := hide ((unhide HBt4).below' hb5)
    have HG5 := hide ((unhide HG4).below hb5)
    have HB5 := hide ((unhide HB4).trans (Kept.of_below hb5 (SA g iv kv)) (fun _ _ h => h) (fun _ _ h => h))
    have HRf := hide (refPut_any s ao c m (unhide HT5).xo (unhide HT5).big (unhide HT5).lo (unhide HT5).lenL hs (unhide HBt5) (unhide HNN) (PL := fun _ => True) (fun _ _ => trivial))
    rw [unhide HCD] at HRf
    subst hcc
    have HC0 := hide hc0
    clear hb5 hc0
    have y3 := (unhide HX4').c 0 rfl
    have y4 := (unhide HX4').c 1 rfl
    have y1 := (unhide HX5').c 1 rfl
    have y5 := (unhide HX5').c 2 rfl
    clear HPt
    go_wp2_with fail
    refine (unhide HRf).mono ?_
    rintro e W6 ⟨hb6, ⟨cr, hcr, -, rfl⟩ | ⟨hcr, -⟩⟩
    · subst hcr
      have HT6 := hide ((unhide HT5).below hb6)
      have HX5q := hide ((unhide HX5').below hb6)
      have HX6' := hide ((unhide HX6b).below hb6)
      have HBt6 := hide ((unhide HBt5).below' hb6)
      have HG6 := hide ((unhide HG5).below hb6)
      have HB6 := hide ((unhide HB5).trans (Kept.of_below hb6 (SA g iv kv)) (fun _ _ h => h) (fun _ _ h => h))
      have HNG : Hid (iv.ownBlock ≠ some gg ∧ (Value.slice xa I.length xc).ownBlock ≠ some gg ∧ ∀ x ∈ L, (Value.slice x.ba x.bs.length x.bc).ownBlock ≠ some gg) := hide ⟨fun e => by have := (unhide HNO).1 _ e; omega, fun e => by have := (unhide HNO).2.1 _ e; omega, fun x hx e => by have := (unhide HNO).2.2.1 x hx _ e; omega⟩
      clear hb6 HRf
      go_upto_region 5 with fail
      clear y1 y3 y4 y5
      have hal : Below W6.heap.size W6 (W6.alloc (.cells #[.slice xa I.length xc, .slice la L.length lc] 28)) := (Below.refl _ _).alloc (Nat.le_refl _) _
      have HA := hide hal
      have HY : Hid (Bx (W6.alloc (.cells #[.slice xa I.length xc, .slice la L.length lc] 28)) W6.heap.size 28 #[.slice xa I.length xc, .slice la L.length lc]) := hide (heap_alloc_new W6 _)
      clear hal
      generalize (W6.alloc (.cells #[.slice xa I.length xc, .slice la L.length lc] 28)) = W7 at HA HY ⊢
      have HG7 := hide ((unhide HG6).below (unhide HA))
      have y5 := ((unhide HX5q).below (unhide HA)).c 2 rfl
      have HUn := hide (Untouched_yes gg cp ao c m W7 (by
        obtain ⟨a', c', e', h'⟩ := (unhide HG7).at
        injection e' with e' _ _
        rw [e']
        exact h') ((unhide HBt6).below' (unhide HA)) hcp (by omega))
      go_wp2_with fail
      refine (unhide HUn).mono ?_
      rintro e W8 ⟨rfl, j8, hw8⟩
      have hd8 : Below W7.heap.size W7 W8 := by rw [hw8]; exact ⟨rfl, rfl, rfl, Nat.le_refl _, fun _ _ => rfl⟩
      have HA8 := hide ((unhide HA).trans (hd8.mono (unhide HA).size))
      have HG8 := hide ((unhide HG7).below hd8)
      have HY8 := hide ((unhide HY).below hd8)
      clear hw8 hd8 HUn HG7 y5
      go_wp2_with fail
      go_loopw [58] (fun i wr => ∃ (k : Nat) (G : List UInt8), k ≤ m.length ∧ i = .int .i64 k ∧ Hid (OwnB wr 0 (.slice (some ⟨gg, 0, none⟩) (m.length + 4) cp) G ∧ G.length = m.length + 4) ∧ Hid (Kept (fun q => q = gg) W8 wr)) (fun i _ => m.length - (intOf i).toNat)
      case atStart => exact ⟨0, roomy m, by omega, rfl, hide ⟨unhide HG8, roomy_length m⟩, hide (Kept.refl _ _)⟩
      case round =>
        obtain ⟨k, G, hk, rfl, HOG, HKr⟩ := hrel
        by_cases hlt : k < m.length
        · have hL := (unhide HOG).2
          have hO' : wr.ownsRow 0 5 1 (.slice (some ⟨gg, 0, none⟩) (m.length + 4) cp) (m.length + 4) (bvals G) := by
            have := (unhide HOG).1; unfold OwnB at this; rw [hL] at this; exact this
          have c1 : wr.cell? ⟨gg, k, none⟩ = some (.int .u8 (at8 G k)) := (hO'.cellAt k (by omega)).trans (bvals_get (by omega))
          have f1 := hO'.frozenAt k
          have i1 : (k : Int) < (m.length : Int) := by omega
          obtain ⟨x, HX⟩ : ∃ x, Hid (G.getD k 0 = x) := ⟨_, hide rfl⟩
          have hx : at8 G k = (x.toNat : Int) := by unfold at8; rw [unhide HX]
          rw [hx] at c1
          have hfl := flip8U x
          have hst := hO'.stored k (.int .u8 ((x ^^^ 255).toNat : Int))
          have HO1 : Hid (OwnB (wr.setCell ⟨gg, k, none⟩ (.int .u8 ((x ^^^ 255).toNat : Int))) 0 (.slice (some ⟨gg, 0, none⟩) (m.length + 4) cp) (G.set k (x ^^^ 255)) ∧ (G.set k (x ^^^ 255)).length = m.length + 4) := hide (by
            have h1 := hst.1
            rw [bvals_setU] at h1
            refine ⟨?_, by rw [List.length_set, hL]⟩
            unfold OwnB
            rw [List.length_set, hL]
            exact h1)
          have HK1 : Hid (Kept (fun q => q = gg) W8 (wr.setCell ⟨gg, k, none⟩ (.int .u8 ((x ^^^ 255).toNat : Int)))) := hide ((unhide HKr).trans (kept_setCell wr ⟨gg, k, none⟩ (.int .u8 ((x ^^^ 255).toNat : Int))) (fun _ _ h => h) (fun _ _ h => h))
          generalize ((x ^^^ 255).toNat : Int) = z at hfl HO1 HK1
          clear hst hO' hx hL HOG HKr
          go_wp2
          go_roundw
          case rel => exact ⟨k + 1, _, by omega, by go_num, HO1, HK1⟩
          case measure => simp [intOf]; omega
        · have i1 : ¬ (k : Int) < (m.length : Int) := by omega
          clear HOG
          obtain ⟨cur8, hcur8⟩ := own_tyB (unhide HG8) (q := gg) rfl
          have HTr := hide (((unhide HT6).below (unhide HA8)).keepG hcur8 (unhide HKr) (unhide HNG).1 (unhide HNG).2.1 (unhide HNG).2.2)
          have HYr := hide ((unhide HY8).keepG hcur8 (unhide HKr) (by decide))
          have HX6r := hide (((unhide HX6').below (unhide HA8)).keepG hcur8 (unhide HKr) (by decide))
          have HBr : Hid (Kept (SA g iv kv) w wr) := hide (((unhide HB6).trans (Kept.of_below (unhide HA8) (SA g iv kv)) (fun _ _ h => h) (fun _ _ h => h)).trans (unhide HKr) (fun _ _ h => h) (fun q hq (e : q = gg) => by have := (unhide HB3).size; omega))
          have HSW := hide (fun (W : World) (_ : Below wr.heap.size wr W) => SameWrites_nil W)
          have HNE : Hid (W6.heap.size ≠ w.heap.size + 2) := hide (by have := (unhide HX6').lt; omega)
          clear hcur8 i1
          go_upto_region 12 with fail
          have HD : Hid (Below wr.heap.size wr wr.drew) := hide (Below.refl _ _).drew
          have HYd : Hid (Bx wr.drew W6.heap.size 28 #[.slice xa I.length xc, .slice la L.length lc]) := hide (unhide HYr)
          refine wp_region_held_drew (S := fun w' => Bx w' W6.heap.size 28 #[.slice xa I.length xc, .slice la L.length lc]) mixed (unhide HYd) (fun hS => ?_)
          generalize wr.drew = Wd at hS HD HYd ⊢
          refine wpAnyH_take (i := 0) (v := .agg #[.slice xa I.length xc, .slice la L.length lc]) rfl (by kernel_rfl) (by kernel_rfl) (by kernel_rfl) (fun _ _ _ h => h) (Or.inl ⟨by rfl, fun W h => by have h0 := h.c 0 rfl; have h1 := h.c 1 rfl; go_simp⟩) hS ?_
          go_simp
          refine wpAnyH_take (i := 1) (v := .slice none 0 0) rfl (by kernel_rfl) (by kernel_rfl) (by kernel_rfl) (fun _ _ _ h => h) (Or.inl ⟨by rfl, fun w _ => by go_simp⟩) hS ?_
          go_simp
          refine wpAnyH_take (i := 2) (v := .int .i64 code) rfl (by kernel_rfl) (by kernel_rfl) (by kernel_rfl) (fun _ _ _ h => h) (Or.inl ⟨by rfl, fun w _ => by go_simp⟩) hS ?_
          go_simp
          refine wpAnyH_take (i := 3) (v := .int .i64 code) rfl (by kernel_rfl) (by kernel_rfl) (by kernel_rfl) (fun _ _ _ h => h) (Or.inl ⟨by rfl, fun w _ => by go_simp⟩) hS ?_
          go_simp
          refine wpAnyH_take (i := 4) (v := .bool true) rfl (by kernel_rfl) (by kernel_rfl) (by kernel_rfl) (fun _ _ _ h => h) (Or.inl ⟨by rfl, fun w _ => by go_simp⟩) hS ?_
          go_simp
          refine wpAnyH_take (i := 5) (v := .bool true) rfl (by kernel_rfl) (by kernel_rfl) (by kernel_rfl) (fun _ _ _ h => h) (Or.inl ⟨by rfl, fun w _ => by go_simp⟩) hS ?_
          go_simp
          refine wpAnyH_take (i := 6) (v := .slice none 0 0) rfl (by kernel_rfl) (by kernel_rfl) (by kernel_rfl) (fun _ _ _ h => h) (Or.inl ⟨by rfl, fun w _ => by go_simp⟩) hS ?_
          go_simp
          refine wpAnyH_take (i := 7) (v := .slice none 0 0) rfl (by kernel_rfl) (by kernel_rfl) (by kernel_rfl) (fun _ _ _ h => h) (Or.inl ⟨by rfl, fun w _ => by go_simp⟩) hS ?_
          go_simp
          have HC := hide (unhide HSW Wd (unhide HD))
          refine wpAnyH_ready (rs := [8]) (by kernel_rfl) (by simp) ?_
          refine AllReadyH.cons rfl (fun KK hK => ?_) AllReadyH.nil
          go_simp
          go_wp2_with (go_at_call 24; with_reducible refine (unhide HC).mono ?_; rintro e W9 ⟨rfl, hb9⟩)
          have HD9 := hide ((unhide HD).trans (hb9.mono (unhide HD).size))
          have HY9 := hide ((unhide HYd).below hb9)
          have HX9 := hide ((unhide HX6r).below (unhide HD9))
          have hks := kept_row W9 (w.heap.size + 2) #[.slice xa I.length xc, .slice la L.length lc]
          have HFIN := hide ((show DoPost w B g iv kv I K code (recK s m) (putK I K s m) (.returned (.tuple #[.agg #[.slice xa I.length xc, .slice la L.length lc], .slice none 0 0, .bool true])) (W9.setRow (w.heap.size + 2) #[.slice xa I.length xc, .slice la L.length lc]) from ⟨((unhide HBr).trans (Kept.of_below (unhide HD9) (SA g iv kv)) (fun _ _ h => h) (fun _ _ h => h)).trans hks (fun _ _ h => h) (fun k hk (e : k = w.heap.size + 2) => by omega), _, _, _, _, _, I, K, L, rfl, ((unhide HTr).below (unhide HD9)).keepS (unhide HX9) hks, Or.inl ⟨unhide HC0, rfl, rfl, rfl⟩⟩))
          have X2 : Hid (Bx (W9.setRow (w.heap.size + 2) #[.slice xa I.length xc, .slice la L.length lc]) (w.heap.size + 2) 28 #[.slice xa I.length xc, .slice la L.length lc]) := hide (setRow_heap _ _ _ _ _ _ (unhide HX9))
          have HYA : Hid (Bx (W9.setRow (w.heap.size + 2) #[.slice xa I.length xc, .slice la L.length lc]) W6.heap.size 28 #[.slice xa I.length xc, .slice la L.length lc]) := hide (by
            have h9 := unhide HY9
            unfold Bx at h9 ⊢
            rw [hks.block W6.heap.size (Bx.lt h9) (fun (e : W6.heap.size = w.heap.size + 2) => unhide HNE e)]
            exact h9)
          refine hK.out _ _ (unhide HY9) (fun hS9 => ?_)
          clear hK KK hS hb9 hks
          refine wpAnyH_take (i := 9) (v := .bool true) rfl (by kernel_rfl) (by kernel_rfl) (by kernel_rfl) (fun _ _ _ h => h) (Or.inl ⟨by rfl, fun w _ => by go_simp⟩) hS9 ?_
          go_simp
          refine wpAnyH_ready (rs := [10]) (by kernel_rfl) (by simp) ?_
          refine AllReadyH.cons rfl (fun KK hK => ?_) AllReadyH.nil
          rw [if_pos (by rfl)]
          refine wp_store_row 28 _ _ rfl (w.heap.size + 2) #[.slice xa I.length xc, .slice la L.length lc] rfl rfl 28 #[.slice none 0 0, .slice none 0 0] (unhide HX9) (by kernel_rfl) rfl (by simp [Value.oneCell']) ?_
          refine hK.out _ _ (unhide HYA) (fun hSA => ?_)
          clear hK KK hS9
          refine wpAnyH_take (i := 11) (v := .slice none 0 0) rfl (by kernel_rfl) (by kernel_rfl) (by kernel_rfl) (fun _ _ _ h => h) (Or.inl ⟨by rfl, fun w _ => by go_simp⟩) hSA ?_
          go_simp
          refine wpAnyH_take (i := 12) (v := .bool true) rfl (by kernel_rfl) (by kernel_rfl) (by kernel_rfl) (fun _ _ _ h => h) (Or.inl ⟨by rfl, fun w _ => by go_simp⟩) hSA ?_
          go_simp
          refine wpAnyH_done (by kernel_rfl) ?_ _
          go_wp2
          exact bodyPost_ret (v := .tuple #[.agg #[.slice xa I.length xc, .slice la L.length lc], .slice none 0 0, .bool true]) (results_st3 rfl _ _ (w.heap.size + 2) _ _ _ _ rfl rfl rfl (unhide X2)) rfl (unhide HFIN)
    · exact absurd hcr (unhide HC0)
  · have HX4' := hide ((unhide HX4a).keepSA (unhide HT4).st hk (by decide) (by decide) (by decide))
    have HX5' := hide ((unhide HX5a).keepSA (unhide HT4).st hk (by decide) (by decide) (by decide))
    have HX6b := hide ((unhide HX6a).keepSA (unhide HT4).st hk (by decide) (by decide) (by decide))
    have HB5 := hide ((unhide HB4).trans hk (fun _ _ h => h) (fun _ _ h => h))
    have HBt5 := hide ((unhide HBt4).keep hk (fun b off e hl hS => by
      have h1 := unhide HLW b off e hl
      rcases hS with hS | hS | hS
      · have := (unhide HT4).st.low
        omega
      · have := (World.ownsRow.lt (unhide HT4).st.img b hS).1
        omega
      · have := (World.ownsRow.lt (unhide HT4).st.kep b hS).1
        omega))
    have HG5 := hide ((unhide HG4).keep hk (fun q e hS => by
      have hq : gg = q := by injection e
      subst hq
      rcases hS with hS | hS | hS
      · have := (unhide HNO).2.2.2.1
        omega
      · have := (unhide HNO).1 _ hS
        omega
      · have := (unhide HNO).2.2.2.2 _ hS
        omega))
    obtain ⟨hxo, hlo, hrk⟩ := (unhide HT4).stands hk
    have HRf := hide (refPut_any s ao c m hxo (unhide HT4).big hlo (unhide HT4).lenL hs (unhide HBt5) (unhide HNN) (PL := fun L' => ∃ ba bc, L' = putN (posN (rNm L) s) (hasN (rNm L) s) L ⟨s, ba, bc, m⟩) (fun ba bc => ⟨ba, bc, rfl⟩))
    rw [unhide HCD] at HRf
    have HC0 := hide hc0
    have HNX := hide (fun (W : World) (xi' lv' : Value) (L' : List Rk) (hb : Below W5.heap.size W5 W) hx hl hn hL => (unhide HT4).put (w2 := W) (xi' := xi') (lv' := lv') (L' := L') (base := W5.heap.size) hst hk hF hb (Nat.le_refl _) hx hl hn hL (by rw [← unhide HCO]; exact hc0))
    have HWR := hide hwr
    have HS5 : Hid (W4.heap.size ≤ W5.heap.size ∧ iv4.ownBlock ≠ some gg) := hide ⟨hk.size, fun e => by
      rcases hF _ e with h | h
      · have := (unhide HNO).1 _ h
        omega
      · omega⟩
    obtain ⟨wb4, -, -, -, -, rfl, -⟩ := hwr
    subst hc0
    clear hst hk hF hxo hlo hrk
    have y3 := (unhide HX4').c 0 rfl
    have y4 := (unhide HX4').c 1 rfl
    have y1 := (unhide HX5').c 1 rfl
    have y5 := (unhide HX5').c 2 rfl
    clear HPt
    go_wp2_with fail
    refine (unhide HRf).mono ?_
    rintro e W6 ⟨hb6, ⟨cr, hcr, hcr0, rfl⟩ | ⟨hcr, xi2, lv2, v5, L2, rfl, hx2, hl2, hn2, hL2, hw2⟩⟩
    · exact absurd hcr.symm hcr0
    · have HT6 := hide (unhide HNX W6 xi2 lv2 L2 hb6 hx2 hl2 hn2 hL2)
      have HX5q := hide ((unhide HX5').below hb6)
      have HX6' := hide ((unhide HX6b).below hb6)
      have HBt6 := hide ((unhide HBt5).below' hb6)
      have HG6 := hide ((unhide HG5).below hb6)
      have HB6 := hide ((unhide HB5).trans (Kept.of_below hb6 (SA g iv kv)) (fun _ _ h => h) (fun _ _ h => h))
      have HW5 := hide ((unhide HWR).below hb6)
      have HW6 := hide hw2
      have HNG : Hid (iv4.ownBlock ≠ some gg ∧ xi2.ownBlock ≠ some gg ∧ ∀ x ∈ L2, (Value.slice x.ba x.bs.length x.bc).ownBlock ≠ some gg) := hide ⟨(unhide HS5).2, fun e => by have := (World.ownsRow.lt hx2 _ e).1; have := (unhide HS5).1; omega, fun x hx e => by
        rcases hn2 x hx with h | h
        · have := (unhide HNO).2.2.1 x h _ e
          omega
        · have := (World.ownsRow.lt h _ e).1
          have := (unhide HS5).1
          omega⟩
      obtain ⟨wb5, -, -, -, -, rfl, -⟩ := hw2
      obtain ⟨I2, hI2⟩ : ∃ I2, I2 = I ++ recK s m := ⟨_, rfl⟩
      rw [← hI2] at hx2 HT6
      have HI2 := hide hI2
      obtain ⟨xa2, xc2, rfl, -⟩ := hx2.at
      obtain ⟨la2, lc2, rfl, -⟩ := hl2.at
      clear hb6 HRf hx2 hl2 hn2 hL2 HNX hI2
      have hrl := recK_len s m
      have hnl : s.size ≤ 24 ∧ m.length ≤ 4096 := by
        have hz := unhide HCO
        unfold putE at hz
        split at hz
        · cases hz
        · rename_i hz2
          split at hz
          · cases hz
          · rename_i hz3
            exact ⟨(name_24 (by revert hz2; cases nameB s <;> simp)).2, by omega⟩
      have HLN : Hid ((hidB (recK s m)).length ≤ 10000 ∧ ([(recK s m).getD 0 0] : List UInt8).length ≤ 10000) := hide ⟨by unfold hidB; simp; omega, by simp⟩
      clear hrl hnl
      go_upto_region 5 with fail
      clear y1 y3 y4 y5
      have hal : Below W6.heap.size W6 (W6.alloc (.cells #[.slice xa2 I2.length xc2, .slice la2 L2.length lc2] 28)) := (Below.refl _ _).alloc (Nat.le_refl _) _
      have HA := hide hal
      have HY : Hid (Bx (W6.alloc (.cells #[.slice xa2 I2.length xc2, .slice la2 L2.length lc2] 28)) W6.heap.size 28 #[.slice xa2 I2.length xc2, .slice la2 L2.length lc2]) := hide (heap_alloc_new W6 _)
      clear hal
      generalize (W6.alloc (.cells #[.slice xa2 I2.length xc2, .slice la2 L2.length lc2] 28)) = W7 at HA HY ⊢
      have HG7 := hide ((unhide HG6).below (unhide HA))
      have y5 := ((unhide HX5q).below (unhide HA)).c 2 rfl
      have HUn := hide (Untouched_yes gg cp ao c m W7 (by
        obtain ⟨a', c', e', h'⟩ := (unhide HG7).at
        injection e' with e' _ _
        rw [e']
        exact h') ((unhide HBt6).below' (unhide HA)) hcp (by omega))
      go_wp2_with fail
      refine (unhide HUn).mono ?_
      rintro e W8 ⟨rfl, j8, hw8⟩
      have hd8 : Below W7.heap.size W7 W8 := by rw [hw8]; exact ⟨rfl, rfl, rfl, Nat.le_refl _, fun _ _ => rfl⟩
      have HA8 := hide ((unhide HA).trans (hd8.mono (unhide HA).size))
      have HG8 := hide ((unhide HG7).below hd8)
      have HY8 := hide ((unhide HY).below hd8)
      clear hw8 hd8 HUn HG7 y5
      go_wp2_with fail
      go_loopw [58] (fun i wr => ∃ (k : Nat) (G : List UInt8), k ≤ m.length ∧ i = .int .i64 k ∧ Hid (OwnB wr 0 (.slice (some ⟨gg, 0, none⟩) (m.length + 4) cp) G ∧ G.length = m.length + 4) ∧ Hid (Kept (fun q => q = gg) W8 wr)) (fun i _ => m.length - (intOf i).toNat)
      case atStart => exact ⟨0, roomy m, by omega, rfl, hide ⟨unhide HG8, roomy_length m⟩, hide (Kept.refl _ _)⟩
      case round =>
        obtain ⟨k, G, hk, rfl, HOG, HKr⟩ := hrel
        by_cases hlt : k < m.length
        · have hL := (unhide HOG).2
          have hO' : wr.ownsRow 0 5 1 (.slice (some ⟨gg, 0, none⟩) (m.length + 4) cp) (m.length + 4) (bvals G) := by
            have := (unhide HOG).1; unfold OwnB at this; rw [hL] at this; exact this
          have c1 : wr.cell? ⟨gg, k, none⟩ = some (.int .u8 (at8 G k)) := (hO'.cellAt k (by omega)).trans (bvals_get (by omega))
          have f1 := hO'.frozenAt k
          have i1 : (k : Int) < (m.length : Int) := by omega
          obtain ⟨x, HX⟩ : ∃ x, Hid (G.getD k 0 = x) := ⟨_, hide rfl⟩
          have hx : at8 G k = (x.toNat : Int) := by unfold at8; rw [unhide HX]
          rw [hx] at c1
          have hfl := flip8U x
          have hst := hO'.stored k (.int .u8 ((x ^^^ 255).toNat : Int))
          have HO1 : Hid (OwnB (wr.setCell ⟨gg, k, none⟩ (.int .u8 ((x ^^^ 255).toNat : Int))) 0 (.slice (some ⟨gg, 0, none⟩) (m.length + 4) cp) (G.set k (x ^^^ 255)) ∧ (G.set k (x ^^^ 255)).length = m.length + 4) := hide (by
            have h1 := hst.1
            rw [bvals_setU] at h1
            refine ⟨?_, by rw [List.length_set, hL]⟩
            unfold OwnB
            rw [List.length_set, hL]
            exact h1)
          have HK1 : Hid (Kept (fun q => q = gg) W8 (wr.setCell ⟨gg, k, none⟩ (.int .u8 ((x ^^^ 255).toNat : Int)))) := hide ((unhide HKr).trans (kept_setCell wr ⟨gg, k, none⟩ (.int .u8 ((x ^^^ 255).toNat : Int))) (fun _ _ h => h) (fun _ _ h => h))
          generalize ((x ^^^ 255).toNat : Int) = z at hfl HO1 HK1
          clear hst hO' hx hL HOG HKr
          go_wp2
          go_roundw
          case rel => exact ⟨k + 1, _, by omega, by go_num, HO1, HK1⟩
          case measure => simp [intOf]; omega
        · have i1 : ¬ (k : Int) < (m.length : Int) := by omega
          clear HOG
          obtain ⟨cur8, hcur8⟩ := own_tyB (unhide HG8) (q := gg) rfl
          have HTr := hide (((unhide HT6).below (unhide HA8)).keepG hcur8 (unhide HKr) (unhide HNG).1 (unhide HNG).2.1 (unhide HNG).2.2)
          have HYr := hide ((unhide HY8).keepG hcur8 (unhide HKr) (by decide))
          have HX6r := hide (((unhide HX6').below (unhide HA8)).keepG hcur8 (unhide HKr) (by decide))
          have HBr : Hid (Kept (SA g iv kv) w wr) := hide (((unhide HB6).trans (Kept.of_below (unhide HA8) (SA g iv kv)) (fun _ _ h => h) (fun _ _ h => h)).trans (unhide HKr) (fun _ _ h => h) (fun q hq (e : q = gg) => by have := (unhide HB3).size; omega))
          have HSW := hide (fun (W : World) (hb : Below wr.heap.size wr W) => SameWrites_two ((((unhide HW5).below (unhide HA8)).keepG (unhide HKr) hg4).below hb) ((((unhide HW6).below (unhide HA8)).keepG (unhide HKr) (by have := (unhide HS5).1; omega)).below hb) (unhide HLN).1 (unhide HLN).2)
          have HNE : Hid (W6.heap.size ≠ w.heap.size + 2) := hide (by have := (unhide HX6').lt; omega)
          clear hcur8 i1
          go_upto_region 12 with fail
          have HD : Hid (Below wr.heap.size wr wr.drew) := hide (Below.refl _ _).drew
          have HYd : Hid (Bx wr.drew W6.heap.size 28 #[.slice xa2 I2.length xc2, .slice la2 L2.length lc2]) := hide (unhide HYr)
          refine wp_region_held_drew (S := fun w' => Bx w' W6.heap.size 28 #[.slice xa2 I2.length xc2, .slice la2 L2.length lc2]) mixed (unhide HYd) (fun hS => ?_)
          generalize wr.drew = Wd at hS HD HYd ⊢
          refine wpAnyH_take (i := 0) (v := .agg #[.slice xa2 I2.length xc2, .slice la2 L2.length lc2]) rfl (by kernel_rfl) (by kernel_rfl) (by kernel_rfl) (fun _ _ _ h => h) (Or.inl ⟨by rfl, fun W h => by have h0 := h.c 0 rfl; have h1 := h.c 1 rfl; go_simp⟩) hS ?_
          go_simp
          refine wpAnyH_take (i := 1) (v := .slice (some ⟨wb5, 0, none⟩) 2 2) rfl (by kernel_rfl) (by kernel_rfl) (by kernel_rfl) (fun _ _ _ h => h) (Or.inl ⟨by rfl, fun w _ => by go_simp⟩) hS ?_
          go_simp
          refine wpAnyH_take (i := 2) (v := .int .i64 0) rfl (by kernel_rfl) (by kernel_rfl) (by kernel_rfl) (fun _ _ _ h => h) (Or.inl ⟨by rfl, fun w _ => by go_simp⟩) hS ?_
          go_simp
          refine wpAnyH_take (i := 3) (v := .int .i64 0) rfl (by kernel_rfl) (by kernel_rfl) (by kernel_rfl) (fun _ _ _ h => h) (Or.inl ⟨by rfl, fun w _ => by go_simp⟩) hS ?_
          go_simp
          refine wpAnyH_take (i := 4) (v := .bool true) rfl (by kernel_rfl) (by kernel_rfl) (by kernel_rfl) (fun _ _ _ h => h) (Or.inl ⟨by rfl, fun w _ => by go_simp⟩) hS ?_
          go_simp
          refine wpAnyH_take (i := 5) (v := .bool true) rfl (by kernel_rfl) (by kernel_rfl) (by kernel_rfl) (fun _ _ _ h => h) (Or.inl ⟨by rfl, fun w _ => by go_simp⟩) hS ?_
          go_simp
          refine wpAnyH_take (i := 6) (v := .slice (some ⟨wb4, 0, none⟩) 2 2) rfl (by kernel_rfl) (by kernel_rfl) (by kernel_rfl) (fun _ _ _ h => h) (Or.inl ⟨by rfl, fun w _ => by go_simp⟩) hS ?_
          go_simp
          refine wpAnyH_take (i := 7) (v := .slice (some ⟨wb5, 0, none⟩) 2 2) rfl (by kernel_rfl) (by kernel_rfl) (by kernel_rfl) (fun _ _ _ h => h) (Or.inl ⟨by rfl, fun w _ => by go_simp⟩) hS ?_
          go_simp
          have HC := hide (unhide HSW Wd (unhide HD))
          refine wpAnyH_ready (rs := [8]) (by kernel_rfl) (by simp) ?_
          refine AllReadyH.cons rfl (fun KK hK => ?_) AllReadyH.nil
          go_simp
          go_wp2_with (go_at_call 24; with_reducible refine (unhide HC).mono ?_; rintro e W9 ⟨rfl, hb9⟩)
          have HD9 := hide ((unhide HD).trans (hb9.mono (unhide HD).size))
          have HY9 := hide ((unhide HYd).below hb9)
          have HX9 := hide ((unhide HX6r).below (unhide HD9))
          have hks := kept_row W9 (w.heap.size + 2) #[.slice xa2 I2.length xc2, .slice la2 L2.length lc2]
          have HFIN := hide ((show DoPost w B g iv kv I K 0 (recK s m) (putK I K s m) (.returned (.tuple #[.agg #[.slice xa2 I2.length xc2, .slice la2 L2.length lc2], .slice (some ⟨wb5, 0, none⟩) 2 2, .bool true])) (W9.setRow (w.heap.size + 2) #[.slice xa2 I2.length xc2, .slice la2 L2.length lc2]) from ⟨((unhide HBr).trans (Kept.of_below (unhide HD9) (SA g iv kv)) (fun _ _ h => h) (fun _ _ h => h)).trans hks (fun _ _ h => h) (fun k hk (e : k = w.heap.size + 2) => by omega), _, _, _, _, _, _, _, _, rfl, ((unhide HTr).below (unhide HD9)).keepS (unhide HX9) hks, Or.inr ⟨rfl, unhide HI2, rfl, (((((unhide HW6).below (unhide HA8)).keepG (unhide HKr) (by have := (unhide HS5).1; omega)).below (unhide HD9)).keepS (unhide HX9) hks).mono' (Nat.zero_le _)⟩⟩))
          have X2 : Hid (Bx (W9.setRow (w.heap.size + 2) #[.slice xa2 I2.length xc2, .slice la2 L2.length lc2]) (w.heap.size + 2) 28 #[.slice xa2 I2.length xc2, .slice la2 L2.length lc2]) := hide (setRow_heap _ _ _ _ _ _ (unhide HX9))
          have HYA : Hid (Bx (W9.setRow (w.heap.size + 2) #[.slice xa2 I2.length xc2, .slice la2 L2.length lc2]) W6.heap.size 28 #[.slice xa2 I2.length xc2, .slice la2 L2.length lc2]) := hide (by
            have h9 := unhide HY9
            unfold Bx at h9 ⊢
            rw [hks.block W6.heap.size (Bx.lt h9) (fun (e : W6.heap.size = w.heap.size + 2) => unhide HNE e)]
            exact h9)
          refine hK.out _ _ (unhide HY9) (fun hS9 => ?_)
          clear hK KK hS hb9 hks
          refine wpAnyH_take (i := 9) (v := .bool true) rfl (by kernel_rfl) (by kernel_rfl) (by kernel_rfl) (fun _ _ _ h => h) (Or.inl ⟨by rfl, fun w _ => by go_simp⟩) hS9 ?_
          go_simp
          refine wpAnyH_ready (rs := [10]) (by kernel_rfl) (by simp) ?_
          refine AllReadyH.cons rfl (fun KK hK => ?_) AllReadyH.nil
          rw [if_pos (by rfl)]
          refine wp_store_row 28 _ _ rfl (w.heap.size + 2) #[.slice xa2 I2.length xc2, .slice la2 L2.length lc2] rfl rfl 28 #[.slice none 0 0, .slice none 0 0] (unhide HX9) (by kernel_rfl) rfl (by simp [Value.oneCell']) ?_
          refine hK.out _ _ (unhide HYA) (fun hSA => ?_)
          clear hK KK hS9
          refine wpAnyH_take (i := 11) (v := .slice (some ⟨wb5, 0, none⟩) 2 2) rfl (by kernel_rfl) (by kernel_rfl) (by kernel_rfl) (fun _ _ _ h => h) (Or.inl ⟨by rfl, fun w _ => by go_simp⟩) hSA ?_
          go_simp
          refine wpAnyH_take (i := 12) (v := .bool true) rfl (by kernel_rfl) (by kernel_rfl) (by kernel_rfl) (fun _ _ _ h => h) (Or.inl ⟨by rfl, fun w _ => by go_simp⟩) hSA ?_
          go_simp
          refine wpAnyH_done (by kernel_rfl) ?_ _
          go_wp2
          exact bodyPost_ret (v := .tuple #[.agg #[.slice xa2 I2.length xc2, .slice la2 L2.length lc2], .slice (some ⟨wb5, 0, none⟩) 2 2, .bool true]) (results_st3 rfl _ _ (w.heap.size + 2) _ _ _ _ rfl rfl rfl (unhide X2)) rfl (unhide HFIN)
end Go.Proofs.Ytkcnkfhdbjiggaa
