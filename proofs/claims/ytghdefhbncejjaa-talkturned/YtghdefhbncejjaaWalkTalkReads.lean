/-
  The walk of the law TalkReads: Unpack and Heard answer as the document has it, in memory of their own; the bytes stay.
-/
import Derived.Test.YtghdefhbncejjaaTk7
import Derived.Test.YtghdefhbncejjaaWalkTalkBack
namespace Go.Proofs.Ytghdefhbncejjaa
open Go.RowKit
set_option linter.unusedVariables false

theorem opL_len (l : List UInt8) (mk : Int) (hd : Nat) : (opL l mk hd).length ≤ l.length := by
  unfold opL
  split
  · rw [List.length_drop, List.length_take]; omega
  · simp
theorem bvals_setT (l : List UInt8) (k : Nat) (y : UInt8) : (bvals l).set k (.int .u8 (y.toNat : Int)) = bvals (l.set k y) := by
  unfold bvals
  rw [List.map_set]
set_option maxHeartbeats 8000000 in
theorem walkTalkReads {w : World} (ao : Option Addr) (c : Nat) (l : List UInt8) (hd : BAt w ao l) (hn : ao = none → l = []) (hz : l.length ≤ 140737488351232) (hlc : l.length ≤ c) :
    Calls Try.prog 4 #[.slice ao l.length c] w fun e w' => e = .returned (.bool true) ∧ Below w.heap.size w w' := by
  have HD := hide hd
  have HRm := hide (Roomy_any ao c l w hd hn hz)
  have hml := opL_len l 80 5
  have hql := opL_len l 112 4
  have HUn := hide (fun ao c W hb hlc hl => Unpack_any ao c l W hb hlc hl)
  have HUr := hide (fun ao c W hb hlc hl => refUnpack_any ao c l W hb hlc hl)
  have HHe := hide (fun ao c W hb hlc hl => Heard_any ao c l W hb hlc hl)
  have HHr := hide (fun ao c W hb hlc hl => refHeard_any ao c l W hb hlc hl)
  generalize opE l 80 5 = E at HUn HUr
  generalize unC l = C at HUn HUr
  generalize unN l = N at HUn HUr
  generalize opL l 80 5 = m at HUn HUr hml
  generalize opE l 112 4 = F at HHe HHr
  generalize heS l = S at HHe HHr
  generalize opL l 112 4 = q at HHe HHr hql
  clear hd hn
  go_enter Try.func4, Try.ntmps4
  go_wp2_with fail
  refine (unhide HRm).mono ?_
  rintro e W1 ⟨g, cp, rfl, hg, hO1, hb1⟩
  have HB1 := hide hb1
  obtain ⟨hcp, hgb, hgl⟩ := roomy_parts hO1
  have HG := hide hgb
  have HGl := hide hgl
  have HU := hide (unhide HUn (some ⟨g, 0, none⟩) cp W1 hgl (by omega) (by omega))
  clear hO1 hb1 hgb hgl hg HRm
  go_wp2_with fail
  refine (unhide HU).mono ?_
  rintro e W2 ⟨v2, rfl, hO2, hb2⟩
  have HB2 := hide hb2
  obtain ⟨xa, xc, rfl, hxa, hxc⟩ := own_capT hO2
  have HX2 : Hid (Bx (W2.alloc (.cells #[.int .i64 C, .int .i64 N, .slice xa m.length xc] 24)) W2.heap.size 24 #[.int .i64 C, .int .i64 N, .slice xa m.length xc]) := hide (heap_alloc_new W2 _)
  have hal : Below W2.heap.size W2 (W2.alloc (.cells #[.int .i64 C, .int .i64 N, .slice xa m.length xc] 24)) := (Below.refl _ _).alloc (Nat.le_refl _) _
  have HB3 := hide ((unhide HB2).trans (hal.mono (unhide HB2).size))
  have HO3 := hide (hO2.below hal)
  have HNE : Hid (∀ k, (Value.slice xa m.length xc).ownBlock = some k → k < W2.heap.size) := hide (fun k e => (World.ownsRow.lt hO2 k e).2)
  clear hO2 hb2 hxa hxc HU hal
  go_upto_region 3 with fail
  generalize W2.heap.size = g5 at HX2 HNE ⊢
  generalize (W2.alloc (.cells #[.int .i64 C, .int .i64 N, .slice xa m.length xc] 24)) = W3 at HX2 HB3 HO3 ⊢
  have HDa := hide ((unhide HD).below' ((unhide HB1).trans ((unhide HB3).mono (unhide HB1).size)))
  have HV := hide (unhide HUr ao c W3 (unhide HDa) hlc hz)
  go_wp2_with fail
  refine (unhide HV).mono ?_
  rintro e W4 ⟨v4, rfl, hO4, hb4⟩
  obtain ⟨ya, yc, rfl, hya, hyc⟩ := own_capT hO4
  have HY4 : Hid (Bx (W4.alloc (.cells #[.int .i64 C, .int .i64 N, .slice ya m.length yc] 24)) W4.heap.size 24 #[.int .i64 C, .int .i64 N, .slice ya m.length yc]) := hide (heap_alloc_new W4 _)
  have hal : Below W4.heap.size W4 (W4.alloc (.cells #[.int .i64 C, .int .i64 N, .slice ya m.length yc] 24)) := (Below.refl _ _).alloc (Nat.le_refl _) _
  have hb5 := hb4.trans (hal.mono hb4.size)
  have HB5 := hide ((unhide HB3).trans (hb5.mono (unhide HB3).size))
  have HO5 := hide ((unhide HO3).below hb5)
  have HX5 := hide ((unhide HX2).below hb5)
  have HYa := hide (hya.below' hal)
  clear hO4 hb4 hya hyc HV hal hb5 HO3 HX2 HDa
  go_upto_region 4 with fail
  generalize W4.heap.size = g7 at HY4 ⊢
  generalize (W4.alloc (.cells #[.int .i64 C, .int .i64 N, .slice ya m.length yc] 24)) = W5 at HY4 HB5 HO5 HX5 HYa ⊢
  obtain ⟨xa', xc', ex, hxb, hxc⟩ := own_capT (unhide HO5)
  injection ex with ex1 ex2 ex3
  subst ex1 ex3
  have HSr := hide (sameRq_yes C N xa ya xc yc m W5 hxb (unhide HYa) (by unfold maxLen; omega))
  have k0 := (unhide HX5).c 0 rfl
  have k1 := (unhide HX5).c 1 rfl
  have k2 := (unhide HX5).c 2 rfl
  have m0 := (unhide HY4).c 0 rfl
  have m1 := (unhide HY4).c 1 rfl
  have m2 := (unhide HY4).c 2 rfl
  clear hxb hxc ex2
  go_wp2_with fail
  refine (unhide HSr).mono ?_
  rintro e W6 ⟨rfl, hb6⟩
  have HB6 := hide ((unhide HB5).trans (hb6.mono (unhide HB5).size))
  have HO6 := hide ((unhide HO5).below hb6)
  have HX6 := hide ((unhide HX5).below hb6)
  clear k0 k1 k2 m0 m1 m2 hb6 HSr HO5 HX5 HYa HY4
  have k2 := (unhide HX6).c 2 rfl
  go_wp2_with fail
  go_loopw [39] (fun i wr => ∃ (k : Nat) (G : List UInt8), k ≤ m.length ∧ i = .int .i64 k ∧ Hid (OwnB wr W1.heap.size (.slice xa m.length xc) G ∧ G.length = m.length) ∧ Hid (Below W1.heap.size W1 wr) ∧ Hid (Bx wr g5 24 #[.int .i64 C, .int .i64 N, .slice xa m.length xc])) (fun i _ => m.length - (intOf i).toNat)
  case atStart => exact ⟨0, m, by omega, rfl, hide ⟨unhide HO6, rfl⟩, HB6, HX6⟩
  case round =>
    clear k2 HB6 HO6 HX6
    obtain ⟨k, G, hk, rfl, HOG, HBr, HXr⟩ := hrel
    have k2 := (unhide HXr).c 2 rfl
    by_cases hlt : k < m.length
    · have hL := (unhide HOG).2
      obtain ⟨xg, hxg⟩ : ∃ xg, xa = some ⟨xg, 0, none⟩ := by
        rcases (unhide HOG).1.shape with ⟨h1, h2⟩ | ⟨g', cap', hv, _⟩
        · rw [h2] at hL; simp at hL; omega
        · injection hv with hv _ _
          exact ⟨g', hv⟩
      subst hxg
      have hO' : wr.ownsRow W1.heap.size 5 1 (.slice (some ⟨xg, 0, none⟩) m.length xc) m.length (bvals G) := by
        have := (unhide HOG).1; unfold OwnB at this; rw [hL] at this; exact this
      have c1 : wr.cell? ⟨xg, k, none⟩ = some (.int .u8 (at8 G k)) := (hO'.cellAt k (by omega)).trans (bvals_get (by omega))
      have f1 := hO'.frozenAt k
      have hgx : W1.heap.size ≤ xg := (World.ownsRow.lt hO' xg rfl).1
      have hx5 : xg < g5 := unhide HNE xg rfl
      have i1 : (k : Int) < (m.length : Int) := by omega
      have hst := hO'.stored k (.int .u8 ((255 : UInt8).toNat : Int))
      have HO1 : Hid (OwnB (wr.setCell ⟨xg, k, none⟩ (.int .u8 255)) W1.heap.size (.slice (some ⟨xg, 0, none⟩) m.length xc) (G.set k 255) ∧ (G.set k 255).length = m.length) := hide (by
        have h1 := hst.1
        rw [bvals_setT] at h1
        refine ⟨?_, by rw [List.length_set, hL]⟩
        unfold OwnB
        rw [List.length_set, hL]
        exact h1)
      have HBn := hide ((unhide HBr).setCell (p := ⟨xg, k, none⟩) hgx (.int .u8 255))
      have HXn := hide ((unhide HXr).other ⟨xg, k, none⟩ (.int .u8 255) (by show g5 ≠ xg; omega))
      generalize at8 G k = z at c1
      clear hst hO' hL HOG HBr HXr hgx hx5
      go_wp2
      go_roundw
      case rel => exact ⟨k + 1, _, by omega, by go_num, HO1, HBn, HXn⟩
      case measure => simp [intOf]; omega
    · have i1 : ¬ (k : Int) < (m.length : Int) := by omega
      clear HOG HXr
      have HHh := hide (unhide HHe (some ⟨g, 0, none⟩) cp wr ((unhide HGl).below' (unhide HBr)) (by omega) (by omega))
      go_wp2_with fail
      refine (unhide HHh).mono ?_
      rintro e V2 ⟨p2, rfl, hO2, hb2⟩
      have HC2 := hide ((unhide HBr).trans (hb2.mono (unhide HBr).size))
      obtain ⟨pa, pc, rfl, hpa, hpc⟩ := own_capT hO2
      have HP2 : Hid (Bx (V2.alloc (.cells #[.int .i64 S, .slice pa q.length pc] 26)) V2.heap.size 26 #[.int .i64 S, .slice pa q.length pc]) := hide (heap_alloc_new V2 _)
      have hal : Below V2.heap.size V2 (V2.alloc (.cells #[.int .i64 S, .slice pa q.length pc] 26)) := (Below.refl _ _).alloc (Nat.le_refl _) _
      have HC3 := hide ((unhide HC2).trans (hal.mono (unhide HC2).size))
      have HPa := hide (hpa.below' hal)
      clear hO2 hb2 hpa hpc HHh hal k2 i1 hlt hk HBr
      go_upto_region 12 with fail
      generalize V2.heap.size = g10 at HP2 ⊢
      generalize (V2.alloc (.cells #[.int .i64 S, .slice pa q.length pc] 26)) = V3 at HP2 HC3 HPa ⊢
      have HDb := hide ((unhide HD).below' ((unhide HB1).trans ((unhide HC3).mono (unhide HB1).size)))
      have HV := hide (unhide HHr ao c V3 (unhide HDb) hlc hz)
      go_wp2_with fail
      refine (unhide HV).mono ?_
      rintro e V4 ⟨v4, rfl, hO4, hb4⟩
      obtain ⟨ra, rc, rfl, hra, hrc⟩ := own_capT hO4
      have HR4 : Hid (Bx (V4.alloc (.cells #[.int .i64 S, .slice ra q.length rc] 26)) V4.heap.size 26 #[.int .i64 S, .slice ra q.length rc]) := hide (heap_alloc_new V4 _)
      have hal : Below V4.heap.size V4 (V4.alloc (.cells #[.int .i64 S, .slice ra q.length rc] 26)) := (Below.refl _ _).alloc (Nat.le_refl _) _
      have hb5 := hb4.trans (hal.mono hb4.size)
      have HC5 := hide ((unhide HC3).trans (hb5.mono (unhide HC3).size))
      have HP5 := hide ((unhide HP2).below hb5)
      have HPb := hide ((unhide HPa).below' hb5)
      have HRa := hide (hra.below' hal)
      have HDc := hide ((unhide HDb).below' hb5)
      clear hO4 hb4 hra hrc HV hal hb5 HP2 HPa HDb
      go_upto_region 13 with fail
      generalize V4.heap.size = g11 at HR4 ⊢
      generalize (V4.alloc (.cells #[.int .i64 S, .slice ra q.length rc] 26)) = V5 at HR4 HC5 HP5 HPb HRa HDc ⊢
      have HSa := hide (sameAn_yes S pa ra pc rc q V5 (unhide HPb) (unhide HRa) (by unfold maxLen; omega))
      have k0 := (unhide HP5).c 0 rfl
      have k1 := (unhide HP5).c 1 rfl
      have m0 := (unhide HR4).c 0 rfl
      have m1 := (unhide HR4).c 1 rfl
      go_wp2_with fail
      refine (unhide HSa).mono ?_
      rintro e V6 ⟨rfl, hb6⟩
      have HC6 := hide ((unhide HC5).trans (hb6.mono (unhide HC5).size))
      have HUt := hide (Untouched_yes g cp ao c l V6 ((unhide HG).below' (unhide HC6)) ((unhide HDc).below' hb6) hcp (by omega))
      clear hb6 HSa k0 k1 m0 m1
      go_wp2_with fail
      refine (unhide HUt).mono ?_
      rintro e V7 ⟨rfl, j, hw⟩
      have hdr : Below V6.heap.size V6 V7 := by rw [hw]; exact ⟨rfl, rfl, rfl, Nat.le_refl _, fun _ _ => rfl⟩
      have HC7 := hide ((unhide HC6).trans (hdr.mono (unhide HC6).size))
      clear hw hdr HUt
      go_wp2
      go_ret
      exact ⟨rfl, (unhide HB1).trans ((unhide HC7).mono (unhide HB1).size)⟩
end Go.Proofs.Ytghdefhbncejjaa
