/-
  The walk of the law CertDecodes: it returns true for all bytes, and writes nothing that was there.
-/
import Derived.Test.YthejnhdabokhjaaCg1
import Derived.Test.YthejnhdabokhjaaWalkCertFinds
namespace Go.Proofs.Ythejnhdabokhjaa
open Go.RowKit


def yM : En := ⟨-1, false, frZ⟩
def yN : En := ⟨-2, false, frZ⟩
theorem yM_ok : FrOk yM.fr := frZ_ok
theorem yN_ok : FrOk yN.fr := frZ_ok
theorem yM_eq : (#[.int .i64 (-1), .bool false, .int .i64 0, .int .i64 0, .int .u8 0, .int .u8 0, .int .u8 0, .int .u8 0, .int .u8 0, .int .u8 0, .int .u8 0, .int .u8 0, .int .u8 0, .int .u8 0, .int .u8 0, .int .u8 0, .int .u8 0, .int .u8 0, .int .u8 0, .int .u8 0, .int .u8 0, .int .u8 0, .int .u8 0, .int .u8 0, .int .u8 0, .int .u8 0, .int .u8 0, .int .u8 0] : Array Value) = enA yM := rfl
theorem yN_eq : (#[.int .i64 (-2), .bool false, .int .i64 0, .int .i64 0, .int .u8 0, .int .u8 0, .int .u8 0, .int .u8 0, .int .u8 0, .int .u8 0, .int .u8 0, .int .u8 0, .int .u8 0, .int .u8 0, .int .u8 0, .int .u8 0, .int .u8 0, .int .u8 0, .int .u8 0, .int .u8 0, .int .u8 0, .int .u8 0, .int .u8 0, .int .u8 0, .int .u8 0, .int .u8 0, .int .u8 0, .int .u8 0] : Array Value) = enA yN := rfl
theorem wpList_store_en {ops : Array Oper} {rest : List Oper} {o : Oper} {a : Act} {w : World} {Q : Exit → Act → World → Prop} (hgd : o.guard = none) (x y : Operand) (ho : o.op = .store 44 x y) (b i : Nat) (hx : a.eval x = .pointer (some ⟨b, i, none⟩)) (z : En) (hz : FrOk z.fr) (hy : a.eval y = .agg (enA z)) (ht : w.there b i 28)
    (h : wpList Try.prog ops Q rest (a.put o.dst undef) (w.setCells b i (enL z))) : wpList Try.prog ops Q (o :: rest) a w :=
  wpList_store_mid hgd 44 x y ho b i (enA z) hx hy (by rw [enA_size hz]; exact ht) (sizeEn hz) (enA_one z) h

set_option maxRecDepth 20000 in
set_option maxHeartbeats 2000000 in
theorem walkCertDecodes {w : World} (ao : Option Addr) (c : Nat) (L : List UInt8) (hl : BAt w ao L) (hn : ao = none → L = []) (hb : L.length ≤ 140737488351232) :
    Calls Try.prog 5 #[.slice ao L.length c] w fun e w' => e = .returned (.bool true) ∧ Below w.heap.size w w' := by
  obtain ⟨lo, hlo⟩ : ∃ lo : Nat, at8 L 3 = lo := ⟨(at8 L 3).toNat, by unfold at8; omega⟩
  obtain ⟨n, hn4⟩ : ∃ n : Nat, wdD L 4 = n := ⟨(wdD L 4).toNat, by have := wdD_bounds L 4; omega⟩
  have HL := hide hl
  clear hl
  go_enter Try.func5, Try.ntmps5
  go_wp2_with fail
  with_reducible refine (Roomy_any ao c L _ (unhide HL) hn hb).mono ?_
  rintro e w1 ⟨g, cap, rfl, hg, hO, hB⟩
  have HB := hide hB
  have HL1 := hide ((unhide HL).below' hB)
  obtain ⟨hcap, HR⟩ : L.length + 4 ≤ cap ∧ Hid (BAt w1 (some ⟨g, 0, none⟩) (roomy L)) := by
    rcases hO.shape with ⟨h1, _⟩ | ⟨g', cap', h1, _, _, h4, _, h6⟩
    · injection h1 with h1
      cases h1
    · injection h1 with h1 h2 h3
      injection h1 with h1
      injection h1 with h1
      subst h1 h3
      rw [roomy_length] at h4
      exact ⟨h4, hide h6⟩
  clear hO hB HL
  have HDc := hide (fun W (h : Below w1.heap.size w1 W) => Decode_any (some ⟨g, 0, none⟩) cap L lo n W (BAt.take (m := [165, 90, 195, 60]) ((unhide HR).below' h)) (by omega) hlo hn4)
  have HRf := hide (fun W (h : Below w1.heap.size w1 W) => refDecode_any ao c L lo n W ((unhide HL1).below' h) (by omega) hlo hn4)
  have HU := hide (fun W (h : Below w1.heap.size w1 W) => Untouched_yes g cap ao c L W ((unhide HR).below' h) ((unhide HL1).below' h) hcap (by omega))
  have HES := hide (cdS_ok (n := n) hlo)
  have hln := cdS_len (lo := lo) hn4
  clear HR HL1 hlo hn4 hn
  generalize cdS L lo n = es at HDc HRf HES hln
  generalize cdE L lo n = ce at HDc HRf
  obtain ⟨cp, cr⟩ := ce
  generalize cdL L lo n = cl at HDc HRf
  simp only at HDc HRf
  go_wp2_with fail
  refine (unhide HDc w1 (Below.refl _ _)).mono ?_
  rintro e W2 ⟨v1, rfl, hO1, hB2⟩
  obtain ⟨o1, p1, rfl⟩ := hO1.slice
  have al2 := ((Below.refl W2.heap.size W2).alloc (Nat.le_refl _) (.cells #[.int .i64 cl, .slice o1 es.length p1] 24))
  have H1 := hide (hO1.below al2)
  have C5 : Hid (CAt (W2.alloc (.cells #[.int .i64 cl, .slice o1 es.length p1] 24)) W2.heap.size cl (.slice o1 es.length p1)) := hide (heap_alloc_new W2 _)
  have B2 := hide (hB2.trans (al2.mono hB2.size))
  have s2 : w1.heap.size ≤ W2.heap.size := hB2.size
  clear hO1 al2 hB2
  go_wp2_with fail
  generalize (W2.alloc (.cells #[.int .i64 cl, .slice o1 es.length p1] 24)) = W3 at H1 C5 B2 ⊢
  generalize W2.heap.size = x5 at C5 s2 ⊢
  clear W2
  refine (unhide HRf W3 (unhide B2)).mono ?_
  rintro e W4 ⟨v2, rfl, hO2, _, hB4⟩
  obtain ⟨o2, p2, rfl⟩ := hO2.slice
  have al4 := ((Below.refl W4.heap.size W4).alloc (Nat.le_refl _) (.cells #[.int .i64 cl, .slice o2 es.length p2] 24))
  have A12 : Hid (Apart (.slice o1 es.length p1) (.slice o2 es.length p2)) := hide (fun k e e2 => by have h1 := ((unhide H1).lt k e).2; have h2 := (hO2.lt k e2).1; omega)
  have H2 := hide (OwnE.mono (hO2.below al4) (unhide B2).size)
  have hx5 := (unhide C5).lt
  have H1 := hide ((unhide H1).below (hB4.trans (al4.mono hB4.size)))
  have C5 : Hid (CAt _ x5 cl (.slice o1 es.length p1)) := hide (((hB4.trans (al4.mono hB4.size)).block x5 hx5).trans (unhide C5))
  have C8 : Hid (CAt (W4.alloc (.cells #[.int .i64 cl, .slice o2 es.length p2] 24)) W4.heap.size cl (.slice o2 es.length p2)) := hide (heap_alloc_new W4 _)
  have B4 := hide ((unhide B2).trans ((hB4.trans (al4.mono hB4.size)).mono (unhide B2).size))
  have n58 : x5 ≠ W4.heap.size := by have := hB4.size; omega
  have HSm := hide (Same_same cl (.slice o1 es.length p1) (.slice o2 es.length p2) es _ (unhide H1) (unhide H2) (unhide HES) hln)
  clear hO2 al4 hB4
  go_wp2_with (first | (refine wpList_load_rowG (by kernel_rfl) 24 (.tmp 5) rfl x5 rfl 24 #[.int .i64 cl, .slice o1 es.length p1] (0, 0) _ (unhide C5) Try.underlying24 rfl (by kernel_rfl) ?_) | (refine wpList_load_rowG (by kernel_rfl) 24 (.tmp 8) rfl W4.heap.size rfl 24 #[.int .i64 cl, .slice o2 es.length p2] (0, 0) _ (unhide C8) Try.underlying24 rfl (by kernel_rfl) ?_))
  have s4 : x5 < W4.heap.size + 1 := by have := (unhide C5).lt; simpa using this
  have s5 : (W4.alloc (.cells #[.int .i64 cl, .slice o2 es.length p2] 24)).heap.size = W4.heap.size + 1 := by simp
  generalize (W4.alloc (.cells #[.int .i64 cl, .slice o2 es.length p2] 24)) = W5 at H1 H2 C5 C8 B4 HSm s5 ⊢
  generalize W4.heap.size = x8 at C8 n58 s4 s5 ⊢
  clear B2 hx5
  refine (unhide HSm).mono ?_
  rintro e W6 ⟨rfl, hB6⟩
  have H1 := hide ((unhide H1).below hB6)
  have H2 := hide ((unhide H2).below hB6)
  have C5 : Hid (CAt W6 x5 cl (.slice o1 es.length p1)) := hide ((hB6.block x5 (by omega)).trans (unhide C5))
  have C8 : Hid (CAt W6 x8 cl (.slice o2 es.length p2)) := hide ((hB6.block x8 (by omega)).trans (unhide C8))
  have B6 := hide ((unhide B4).trans (hB6.mono (unhide B4).size))
  have s6 := hB6.size
  clear hB6 HSm B4
  go_wp2_with fail
  refine (unhide HDc W6 (unhide B6)).mono ?_
  rintro e W7 ⟨v3, rfl, hO3, hB7⟩
  obtain ⟨o3, p3, rfl⟩ := hO3.slice
  have al7 := ((Below.refl W7.heap.size W7).alloc (Nat.le_refl _) (.cells #[.int .i64 cl, .slice o3 es.length p3] 24))
  have bb := hB7.trans (al7.mono hB7.size)
  have s7 := hB7.size
  have HCD : Hid (CD w1 (W7.alloc (.cells #[.int .i64 cl, .slice o3 es.length p3] 24)) x5 x8 W7.heap.size cl (.slice o1 es.length p1) (.slice o2 es.length p2) (.slice o3 es.length p3) es.length es) := hide
    ⟨(unhide B6).trans (bb.mono (unhide B6).size), (bb.block x5 (by omega)).trans (unhide C5), (bb.block x8 (by omega)).trans (unhide C8), heap_alloc_new W7 _, ((unhide H1).below bb).toR, (unhide H2).below bb, OwnE.mono (hO3.below al7) (unhide B6).size, unhide A12, fun k e e2 => by have h1 := ((unhide H1).lt k e).2; have h2 := (hO3.lt k e2).1; omega, s2, n58, by omega⟩
  clear hO3 al7 bb hB7 H1 H2 C5 C8 A12 B6
  have c51 := (unhide HCD).c5.c1
  go_upto_region 8 with fail
  generalize (W7.alloc (.cells #[.int .i64 cl, .slice o3 es.length p3] 24)) = W8 at HCD c51 ⊢
  generalize W7.heap.size = x11 at HCD ⊢
  clear c51
  go_loopw [55] (fun i wr => ∃ k : Nat, k ≤ es.length ∧ i = .int .i64 (k : Int) ∧ Hid (CD w1 wr x5 x8 x11 cl (.slice o1 es.length p1) (.slice o2 es.length p2) (.slice o3 es.length p3) es.length es)) (fun i _ => es.length - (intOf i).toNat)
  case atStart => exact ⟨0, by omega, rfl, HCD⟩
  case round =>
    clear HCD
    obtain ⟨k, hk, rfl, HCD⟩ := hrel
    by_cases hkl : k < es.length
    · have j1 : ((k : Nat) : Int) < ((es.length : Nat) : Int) := by omega
      have c1 := (unhide HCD).c5.c1
      obtain ⟨g1, rfl⟩ : ∃ g1, o1 = some ⟨g1, 0, none⟩ := by
        obtain ⟨cs, ho⟩ := (unhide HCD).o1
        rcases ho.2 with ⟨_, h2⟩ | ⟨g1, _, _, hv, _⟩
        · omega
        · injection hv with hv
          exact ⟨g1, hv⟩
      have HTh := hide ((unhide HCD).o1.there hkl)
      have HCD2 := hide ((unhide HCD).write (grown_setCells g1 (enL yM) (k * 28) wr) ((unhide HCD).o1.setCells (enL yM) (k * 28)))
      clear HCD
      go_wp2_with (refine wpList_store_en rfl (.tmp 62) (.tmp 61) rfl g1 (k * 28) rfl yM yM_ok ?hy ?ht ?_)
      case ht => exact unhide HTh
      case hy => exact congrArg Value.agg yM_eq
      go_roundw
      case rel => exact ⟨k + 1, by omega, by go_num, HCD2⟩
      case measure => simp [intOf]; omega
    · obtain rfl : k = es.length := by omega
      go_upto_region 13 with fail
      go_loopw [64] (fun i wr => ∃ (k : Nat) (v1 : Value), k ≤ 20 ∧ i = .int .i64 (k : Int) ∧ Hid (CD w1 wr x5 x8 x11 cl v1 (.slice o2 es.length p2) (.slice o3 es.length p3) (es.length + k) es)) (fun i _ => 20 - (intOf i).toNat)
      case atStart => exact ⟨0, _, by omega, rfl, HCD⟩
      case round =>
        clear HCD
        obtain ⟨k, v1, hk, rfl, HCD⟩ := hrel
        obtain ⟨oa, oc, rfl⟩ := (unhide HCD).o1.slice
        have c1 := (unhide HCD).c5.c1
        by_cases hkl : k < 20
        · have j1 : ((k : Nat) : Int) < 20 := by omega
          obtain ⟨ii, ei, ez0, ez1, ez2⟩ := info_parts infoE
          have HCa := hide ((unhide HCD).below ((Below.refl wr.heap.size wr).alloc (Nat.le_refl _) (.cells #[.int .i64 (-2), .bool false, .int .i64 0, .int .i64 0, .int .u8 0, .int .u8 0, .int .u8 0, .int .u8 0, .int .u8 0, .int .u8 0, .int .u8 0, .int .u8 0, .int .u8 0, .int .u8 0, .int .u8 0, .int .u8 0, .int .u8 0, .int .u8 0, .int .u8 0, .int .u8 0, .int .u8 0, .int .u8 0, .int .u8 0, .int .u8 0, .int .u8 0, .int .u8 0, .int .u8 0, .int .u8 0] 44)))
          obtain ⟨cs, hcs⟩ := (unhide HCa).o1
          have HCS := hide hcs
          have HNW : Hid (∀ (j : Nat) u, (enL yN)[j]? = some u → (wr.alloc (.cells #[.int .i64 (-2), .bool false, .int .i64 0, .int .i64 0, .int .u8 0, .int .u8 0, .int .u8 0, .int .u8 0, .int .u8 0, .int .u8 0, .int .u8 0, .int .u8 0, .int .u8 0, .int .u8 0, .int .u8 0, .int .u8 0, .int .u8 0, .int .u8 0, .int .u8 0, .int .u8 0, .int .u8 0, .int .u8 0, .int .u8 0, .int .u8 0, .int .u8 0, .int .u8 0, .int .u8 0, .int .u8 0] 44)).cell? ((⟨wr.heap.size, 0, none⟩ : Addr).add j) = some u) := hide (cell_new_en wr yN)
          have hbw := (unhide HCD).bel.size
          clear hcs HCD
          go_wp2_with (at_builtin; (refine wpList_append_own_at _ rfl (.tmp 67) (.tmp 69) 22 rfl w1.heap.size 44 ii (.agg #[.int .i64 0, .bool false, .int .i64 0, .int .i64 0, .int .u8 0, .int .u8 0, .int .u8 0, .int .u8 0, .int .u8 0, .int .u8 0, .int .u8 0, .int .u8 0, .int .u8 0, .int .u8 0, .int .u8 0, .int .u8 0, .int .u8 0, .int .u8 0, .int .u8 0, .int .u8 0, .int .u8 0, .int .u8 0, .int .u8 0, .int .u8 0, .int .u8 0, .int .u8 0, .int .u8 0, .int .u8 0]) 28 56 Try.underlying22 ei ez0 ez1 ez2 rfl (by decide) _ (es.length + k) cs rfl (unhide HCS) ⟨wr.heap.size, 0, none⟩ 1 1 (enL yN) rfl (by rw [enL_len yN_ok]) (unhide HNW) (by have := evals_one [yN]; simpa [evals] using this) (by unfold maxLen; omega) (by omega) (by simp; omega) ?_))
          intro v' U2 hO2 hG2 _ hat2
          obtain ⟨g', cap', rfl⟩ : ∃ g' cap', v' = .slice (some ⟨g', 0, none⟩) (es.length + k + 1) cap' := by
            rcases hO2.2 with ⟨_, h⟩ | ⟨g', cap', _, hv, _⟩
            · omega
            · exact ⟨g', cap', hv⟩
          have hC := unhide HCa
          have d5 : CAt U2 x5 cl (.slice oa (es.length + k) oc) := (hG2.block _ hC.c5.lt (fun e => hC.o1.notC hC.c5 e.symm)).trans hC.c5
          have d8 : CAt U2 x8 cl (.slice o2 es.length p2) := (hG2.block _ hC.c8.lt (fun e => hC.o1.notC hC.c8 e.symm)).trans hC.c8
          have d11 : CAt U2 x11 cl (.slice o3 es.length p3) := (hG2.block _ hC.c11.lt (fun e => hC.o1.notC hC.c11 e.symm)).trans hC.c11
          have q2 := rows_grown hC.o2 hG2 (fun g e e2 => hC.a2 g e2 e)
          have q3 := rows_grown hC.o3 hG2 (fun g e e2 => hC.a3 g e2 e)
          have qb := hC.bel.trans (below_grown hG2 hC.bel.size (fun k e => (hC.o1.lt k e).1))
          have q1 : OwnR U2 w1.heap.size (.slice (some ⟨g', 0, none⟩) (es.length + k + 1) cap') (es.length + k + 1) := ⟨_, hO2⟩
          have c51 := d5.c1
          have c5f := d5.f 1
          have g3 := grown_setCell U2 x5 1 (.slice (some ⟨g', 0, none⟩) (es.length + k + 1) cap')
          have HC2 : Hid (CD w1 (U2.setCell ⟨x5, 1, none⟩ (.slice (some ⟨g', 0, none⟩) (es.length + k + 1) cap')) x5 x8 x11 cl (.slice (some ⟨g', 0, none⟩) (es.length + k + 1) cap') (.slice o2 es.length p2) (.slice o3 es.length p3) (es.length + (k + 1)) es) := hide
            ⟨qb.trans (below_grown g3 qb.size (fun k e => by injection e with e; have := hC.b5; omega)), d5.set1 _, (g3.block _ d8.lt (fun e => by injection e with e; exact hC.n8 e.symm)).trans d8, (g3.block _ d11.lt (fun e => by injection e with e; exact hC.n11 e.symm)).trans d11, q1.grown g3 (fun g e e2 => q1.notC d5 (by rw [e]; exact e2.symm)), rows_grown q2 g3 (fun g e e2 => (OwnE.toR q2).notC d5 (by rw [e]; exact e2.symm)), rows_grown q3 g3 (fun g e e2 => (OwnE.toR q3).notC d5 (by rw [e]; exact e2.symm)),
              fun g e e2 => by
                rcases hat2 with h | h
                · exact hC.a2 g (h.symm.trans e) e2
                · have h1 := (hC.o2.lt g e2).2
                  have e3 := Option.some.inj (h.symm.trans e)
                  rw [World.size_alloc] at h1
                  omega,
              fun g e e2 => by
                rcases hat2 with h | h
                · exact hC.a3 g (h.symm.trans e) e2
                · have h1 := (hC.o3.lt g e2).2
                  have e3 := Option.some.inj (h.symm.trans e)
                  rw [World.size_alloc] at h1
                  omega, hC.b5, hC.n8, hC.n11⟩
          clear hC d5 d8 d11 q2 q3 qb q1 g3 hO2 hG2 hat2 HCa HCS HNW c1
          go_wp2
          go_roundw
          case rel => exact ⟨k + 1, _, by omega, by go_num, HC2⟩
          case measure => simp [intOf]; omega
        · obtain rfl : k = 20 := by omega
          have HSm := hide (Same_same cl (.slice o3 es.length p3) (.slice o2 es.length p2) es wr (unhide HCD).o3 (unhide HCD).o2 (unhide HES) hln)
          go_wp2_with (first | (refine wpList_load_row rfl 24 (.tmp 11) rfl x11 rfl 24 #[.int .i64 cl, .slice o3 es.length p3] (0, 0) _ (unhide HCD).c11 Try.underlying24 rfl (by kernel_rfl) ?_) | (refine wpList_load_row rfl 24 (.tmp 8) rfl x8 rfl 24 #[.int .i64 cl, .slice o2 es.length p2] (0, 0) _ (unhide HCD).c8 Try.underlying24 rfl (by kernel_rfl) ?_))
          refine (unhide HSm).mono ?_
          rintro e W9 ⟨rfl, hB9⟩
          have B9 := hide ((unhide HCD).bel.trans (hB9.mono (unhide HCD).bel.size))
          clear hB9 HSm HCD
          go_wp2_with fail
          refine (unhide HU W9 (unhide B9)).mono ?_
          rintro e Wz ⟨rfl, kk, rfl⟩
          go_wp2
          go_ret
          exact ⟨rfl, (unhide HB).trans ((belowD (unhide B9) kk).mono (unhide HB).size)⟩
end Go.Proofs.Ythejnhdabokhjaa
