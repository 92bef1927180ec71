/-
  The walk of the law CertReads: it returns true for all bytes and every number, and writes nothing that was there.
-/
import Derived.Test.YthejnhdabokhjaaCrd
import Derived.Test.YthejnhdabokhjaaCr3
import Derived.Test.YthejnhdabokhjaaRoom
import Derived.Deep.MidRow
import Derived.OpenShut
namespace Go.Proofs.Ythejnhdabokhjaa
open Go.RowKit

theorem mkE_good {L : List UInt8} : ∀ k i, (mkE L k i).2 = 0 → 6 ≤ L.length ∧ at8 L 3 ≤ 16 ∧ wdD L 4 ≤ 4096
  | 0, i, h => by
    rw [mkE_zero] at h
    split at h
    · simp at h
    split at h
    · simp at h
    split at h
    · simp at h
    exact ⟨by omega, by omega, by omega⟩
  | k + 1, i, h => by
    unfold mkE at h
    split at h
    · simp at h
    split at h
    · simp at h
    exact mkE_good k (i + 1) h
/-- What the rounds keep. -/
structure CR (w1 W : World) (v1 v2 : Value) (es : List En) (js : List Int) (base : Nat) : Prop where
  bel : Below w1.heap.size w1 W
  es : OwnE W base v1 es
  js : OwnJ W base v2 js
theorem CR.below {w1 W W' : World} {v1 v2 : Value} {es : List En} {js : List Int} {base : Nat} (h : CR w1 W v1 v2 es js base) (hb : Below W.heap.size W W') : CR w1 W' v1 v2 es js base :=
  ⟨h.bel.trans (hb.mono h.bel.size), h.es.below hb, rowBelowJ h.js hb⟩
theorem CR.grown {w1 W W' : World} {v1 v2 : Value} {es : List En} {js : List Int} {base gr : Nat} (h : CR w1 W v1 v2 es js base) (hg : W.grownBy W' (some gr)) (h1 : w1.heap.size ≤ gr) (h2 : gr < base) : CR w1 W' v1 v2 es js base :=
  ⟨h.bel.trans (below_grown hg h.bel.size (fun k e => by injection e with e; omega)), rows_grown h.es hg (fun g e e2 => by have := (h.es.lt g e).1; injection e2 with e2; omega), rows_grown h.js hg (fun g e e2 => by have := (h.js.lt g e).1; injection e2 with e2; omega)⟩
theorem OwnE.range {w : World} {base : Nat} {v : Value} {l : List En} (h : OwnE w base v l) (ho : EsOk l) {i : Nat} {x : En} (hi : l[i]? = some x) : ∃ g cap, v = .slice (some ⟨g, 0, none⟩) l.length cap ∧ w.rangeAt g (i * 28) (enL x) := by
  have hil : i < l.length := (List.getElem?_eq_some_iff.1 hi).1
  rcases h.2 with ⟨_, h2⟩ | ⟨g, cap, cur, hv, _, hg, _, _, hcs, hx⟩
  · omega
  refine ⟨g, cap, hv, fun j v hj => ?_⟩
  have hj28 : j < 28 := by
    have := (List.getElem?_eq_some_iff.1 hj).1
    rwa [enL_len (ho x (List.mem_of_getElem? hi))] at this
  have h1 := evals_get ho hi j hj28
  rw [← hx, List.getElem?_take_of_lt (by omega), hj] at h1
  rw [cell_of_row _ _ _ _ _ _ hg]
  simpa using h1
theorem tol_len {L : List UInt8} {lo : Nat} : ∀ (n p : Nat) (ahead : Int), (tolD L lo n p ahead).1.length ≤ n
  | 0, p, ahead => by rw [tol_end]; simp
  | n + 1, p, ahead => by
    by_cases he : (oneE L lo p ahead).2 = 0
    · rw [tol_good he]
      have := tol_len (L := L) (lo := lo) n (oneN L lo p) (oneX L lo p).at_
      simp only [List.length_cons]
      omega
    · rw [tol_bad he]; simp

set_option maxRecDepth 20000 in
set_option maxHeartbeats 4000000 in
theorem walkCertReads {w : World} (ao : Option Addr) (c : Nat) (L : List UInt8) (hl : BAt w ao L) (hn : ao = none → L = []) (hb : L.length ≤ 140737488351232) (p : Int) (hp : (Lit.int .u64 p).wf = true) :
    Calls Try.prog 7 #[.slice ao L.length c, .int .u64 p] w fun e w' => e = .returned (.bool true) ∧ Below w.heap.size w w' := by
  have hp' := bounds_u64 hp
  obtain ⟨m, hm, hm4⟩ : ∃ m : Nat, p % 4 = (m : Int) ∧ m < 4 := ⟨(p % 4).toNat, by omega, by omega⟩
  have HL := hide hl
  clear hl hp
  go_enter Try.func7, Try.ntmps7
  go_wp2_with fail
  with_reducible refine (Roomy_any ao c L _ (unhide HL) hn hb).mono ?_
  rintro e w1 ⟨g, cap, rfl, hg, hO, hB⟩
  have HB := hide hB
  have HL1 := hide ((unhide HL).below' hB)
  obtain ⟨hcap, HR⟩ : L.length + 4 ≤ cap ∧ Hid (BAt w1 (some ⟨g, 0, none⟩) (roomy L)) := by
    rcases hO.shape with ⟨h1, _⟩ | ⟨g', cap', h1, _, _, h4, _, h6⟩
    · injection h1 with h1
      cases h1
    · injection h1 with h1 h2 h3
      injection h1 with h1
      injection h1 with h1
      subst h1 h3
      rw [roomy_length] at h4
      exact ⟨h4, hide h6⟩
  clear hO hB HL
  go_wp2_with fail
  refine (Open_any (some ⟨g, 0, none⟩) cap L w1 (BAt.take (m := [165, 90, 195, 60]) (unhide HR)) (by omega)).mono ?_
  rintro e W2 ⟨hB2, ⟨h0, gr, hgr, rfl, hR⟩ | ⟨h0, rfl⟩⟩
  rotate_left
  · have HB2 := hide ((unhide HB).trans (hB2.mono (unhide HB).size))
    have HL2 := hide ((unhide HL1).below' hB2)
    clear hB2
    go_wp2_with fail
    refine (refHead_any ao c L W2 (unhide HL2) (by omega)).mono ?_
    rintro e W3 ⟨rfl, hB3⟩
    rw [hdV, if_neg h0]
    have HB3 := hide ((unhide HB2).trans (hB3.mono (unhide HB2).size))
    clear hB3 HB2 HL2 HL1 HB HR
    generalize (hdE L).2 = er at h0 ⊢
    have b1 : (er != 0) = true := bne_t h0
    clear h0
    go_wp2
    go_ret
    exact ⟨rfl, unhide HB3⟩
  obtain ⟨h6, h16, h4k⟩ := mkE_good 3 0 h0
  have hw0 := wdD_bounds L 4
  obtain ⟨lo, hlo⟩ : ∃ lo : Nat, at8 L 3 = lo := ⟨(at8 L 3).toNat, by unfold at8; omega⟩
  obtain ⟨n, hn4⟩ : ∃ n : Nat, wdD L 4 = n := ⟨(wdD L 4).toNat, by omega⟩
  rw [hlo, hn4] at hR
  have hl16 : lo ≤ 16 := by omega
  have hn40 : n ≤ 4096 := by omega
  have HR2 := hide hR
  have HB12 := hide hB2
  clear hR hB2
  go_wp2_with fail
  refine (refHead_any ao c L W2 ((unhide HL1).below' (unhide HB12)) (by omega)).mono ?_
  rintro e W3 ⟨rfl, hB3⟩
  rw [hdV, if_pos h0, hlo, hn4]
  have HR3 := hide ((unhide HR2).below hB3)
  have HB13 := hide ((unhide HB12).trans (hB3.mono (unhide HB12).size))
  have hg3 : gr < W3.heap.size := (unhide HR3).lt
  clear hB3 HR2 HB12
  have HTO := hide (Told_any ao c L lo n W3 ((unhide HL1).below' (unhide HB13)) (by omega) h0 hlo hn4 hl16 hn40 h6)
  have HTL := hide (tol_len (L := L) (lo := lo) n 6 (-1))
  obtain ⟨A, q, er, HT⟩ : ∃ A q er, Hid (tolD L lo n 6 (-1) = (A, q, er)) := ⟨_, _, _, hide rfl⟩
  rw [unhide HT] at HTO HTL
  have hAn : A.length ≤ n := unhide HTL
  clear h0 hlo hn4 h16 h4k hw0 HTL
  go_wp2_with fail
  refine (unhide HTO).mono ?_
  rintro e W4 ⟨v1, v2, rfl, hE, hEs, hJ, hB4⟩
  have HR4 := hide ((unhide HR3).below hB4)
  have HC4 : Hid (CR w1 W4 v1 v2 (enS A) (plS A) W3.heap.size) := hide ⟨(unhide HB13).trans (hB4.mono (unhide HB13).size), hE, hJ⟩
  have HES := hide hEs
  obtain ⟨a1, c1, rfl⟩ := hE.slice
  obtain ⟨a2, c2, rfl, _, _⟩ := hJ.at
  clear HTO HR3 HB13 hB4 hE hJ hEs
  have el : (enS A).length = A.length := by simp [enS]
  have ej : (plS A).length = A.length := by simp [plS]
  rw [el, ej] at HC4
  rw [el, ej]
  obtain ⟨la, HLA⟩ : ∃ la, Hid (A.length = la) := ⟨_, hide rfl⟩
  rw [unhide HLA] at HC4 hAn
  rw [unhide HLA]
  clear el ej
  generalize W3.heap.size = base at HC4 hg3
  go_wp2
  go_loopw [17, 18] (fun av i wr => ∃ (k p : Nat) (ahead : Int), i = .int .i64 (k : Int) ∧ av = .int .i64 (p : Int) ∧ k ≤ la + m + 1 ∧ p ≤ L.length ∧ Hid (tolD L lo (n - min k la) p ahead = (A.drop (min k la), q, er)) ∧ Hid (RAt wr gr (.slice (some ⟨g, 0, none⟩) L.length cap) lo n p ((min k la : Nat) : Int) ahead) ∧ Hid (CR w1 wr (.slice a1 la c1) (.slice a2 la c2) (enS A) (plS A) base)) (fun _ i _ => la + m + 1 - (intOf i).toNat)
  case atStart => exact ⟨0, 6, -1, rfl, rfl, by omega, h6, hide (by simpa using unhide HT), hide (by simpa using unhide HR4), HC4⟩
  case round =>
    clear HC4 HR4 HT
    obtain ⟨k, s, ahead, rfl, rfl, hk, hs, HT, HRA, HC⟩ := hrel
    by_cases hkb : k < la + m + 1
    · have j1 : ((k : Nat) : Int) < (la : Int) + (m : Int) + 1 := by omega
      go_wp2_with fail
      refine (Locals_any wr (unhide HRA) (by omega)).mono ?_
      rintro e wr' ⟨rfl, hq⟩
      rw [hq]
      clear hq wr'
      go_wp2_with fail
      refine (Count_any wr (unhide HRA) (by omega)).mono ?_
      rintro e wr' ⟨rfl, hq⟩
      rw [hq]
      clear hq wr'
      go_wp2_with fail
      refine (At_any wr (unhide HRA) (by omega)).mono ?_
      rintro e wr' ⟨rfl, hq⟩
      rw [hq]
      clear hq wr'
      go_wp2_with fail
      refine (Next_any s wr (unhide HRA) (BAt.take (m := [165, 90, 195, 60]) ((unhide HR).below' (unhide HC).bel)) (by omega) hl16 hs (by omega) (by omega)).mono ?_
      rintro e W5 ⟨hG, y, b, er', q', t, a, hy, rfl, hR5, hst⟩
      have HC5 := hide ((unhide HC).grown hG hgr hg3)
      have HR5 := hide hR5
      have hal : Below W5.heap.size W5 ((W5.alloc (.cells (enA enZ) 44)).setRow W5.heap.size (enA y)) := below_setRow' ((Below.refl _ _).alloc (Nat.le_refl _) _) (Nat.le_refl _) _
      have E1 : Hid (EAt (W5.alloc (.cells (enA enZ) 44)) W5.heap.size enZ) := hide (EAt.new W5 enZ)
      have E2 := hide ((unhide E1).row y)
      have C6 := hide ((unhide HC5).below hal)
      have R5 := hide ((unhide HR5).below hal)
      clear hal hG hR5 HC5 HR5 HC HRA j1
      by_cases hka : k < la
      · have i1 : ((k : Nat) : Int) < ((la : Nat) : Int) := by omega
        have mk : min k la = k := by omega
        rw [mk] at HT hst
        obtain ⟨x, mm, hx⟩ : ∃ x mm, A[k]? = some (x, mm) := by
          have : k < A.length := by rw [unhide HLA]; exact hka
          exact ⟨A[k].1, A[k].2, List.getElem?_eq_getElem this⟩
        have hd : A.drop k = (x, mm) :: A.drop (k + 1) := by
          have hkl := (List.getElem?_eq_some_iff.1 hx).1
          rw [List.drop_eq_getElem_cons hkl]
          rw [List.getElem?_eq_getElem hkl] at hx
          injection hx with hx
          rw [hx]
        obtain ⟨hkn, rfl, rfl, rfl, rfl, rfl, rfl, hmL, hT2⟩ := stp_more (by omega) hst (x := x) (m := mm) (rest := A.drop (k + 1)) (by rw [unhide HT]; exact hd)
        rw [unhide HT] at hT2
        have HT2 : Hid (tolD L lo (n - min (k + 1) la) q' y.at_ = (A.drop (min (k + 1) la), q, er)) := hide (by rw [show min (k + 1) la = k + 1 by omega]; exact hT2)
        have R6 : Hid (RAt ((W5.alloc (.cells (enA enZ) 44)).setRow W5.heap.size (enA y)) gr (.slice (some ⟨g, 0, none⟩) L.length cap) lo n q' ((min (k + 1) la : Nat) : Int) y.at_) := hide (by
          rw [show ((min (k + 1) la : Nat) : Int) = (k : Int) + 1 by omega]
          exact unhide R5)
        have hes : (enS A)[k]? = some y := by unfold enS; rw [List.getElem?_map, hx]; rfl
        have hpl : (plS A)[k]? = some (q' : Int) := by unfold plS; rw [List.getElem?_map, hx]; rfl
        obtain ⟨g1, cap1, hv1, hrg⟩ := (unhide C6).es.range (unhide HES) hes
        injection hv1 with hv1 hv2 hv3
        subst hv1 hv3
        obtain ⟨b2, o2, hv4, hc2⟩ : ∃ b o, a2 = some ⟨b, o, none⟩ ∧ ((W5.alloc (.cells (enA enZ) 44)).setRow W5.heap.size (enA y)).cell? ⟨b, o + k, none⟩ = some (.int .i64 (q' : Int)) := by
          obtain ⟨a3, c3, hv5, hja, _⟩ := (unhide C6).js.at
          injection hv5 with hv5 hv6 hv7
          subst hv5
          exact hja k _ hpl
        subst hv4
        have HRG := hide hrg
        have HC2 := hide hc2
        clear hrg hc2 hv2 hT2 hd hx hes hpl hst HT mk R5
        go_upto_region 17 with (refine wpList_store_row rfl 44 (.tmp 19) (.tmp 88) rfl W5.heap.size (enA y) rfl rfl 44 (enA enZ) (unhide E1) (sizeEn hy) (sizeEqEn enZ_ok hy) (enA_one _) ?_)
        rw [enZ_eq]
        generalize ((W5.alloc (.cells (enA enZ) 44)).setRow W5.heap.size (enA y)) = W6 at E2 C6 R6 HRG HC2 ⊢
        clear E1
        generalize W5.heap.size = gx at E2 ⊢
        clear W5
        have hq := fun W => run_neqEn W hy hy
        rw [enEq_refl] at hq
        have hll := enL_len hy
        refine wp_region_held_drew (S := fun w' => EAt w' gx y ∧ w'.rangeAt g1 (k * 28) (enL y)) (by kernel_rfl) ⟨unhide E2, (World.rangeAt_drew _ _ _ _).2 (unhide HRG)⟩ (fun hS => ?_)
        have C7 : Hid (CR w1 W6.drew (.slice (some ⟨g1, 0, none⟩) la c1) (.slice (some ⟨b2, o2, none⟩) la c2) (enS A) (plS A) base) := hide ((unhide C6).below (belowD (Below.refl _ _) 1))
        have R7 : Hid (RAt W6.drew gr (.slice (some ⟨g, 0, none⟩) L.length cap) lo n q' ((min (k + 1) la : Nat) : Int) y.at_) := hide (unhide R6)
        have hc7 : W6.drew.cell? ⟨b2, o2 + k, none⟩ = some (.int .i64 (q' : Int)) := unhide HC2
        clear C6 R6 HC2 HRG E2
        generalize W6.drew = W7 at C7 R7 hc7 hS ⊢
        clear W6
        refine wpAnyH_take (i := 0) (v := .agg (enA y)) rfl (by kernel_rfl) (by kernel_rfl) (by kernel_rfl) (fun _ _ _ h => h) (yieldsIf_load_en (by rfl) _ rfl gx rfl y hy (fun _ h => h.1)) hS ?_
        refine wpAnyH_take (i := 1) (v := .slice (some ⟨g1, 0, none⟩) la c1) rfl (by kernel_rfl) (by kernel_rfl) (by kernel_rfl) (fun _ _ _ h => h) (Or.inl ⟨by rfl, fun w _ => by go_simp⟩) hS ?_
        refine wpAnyH_take (i := 2) (v := .int .i64 (k : Int)) rfl (by kernel_rfl) (by kernel_rfl) (by kernel_rfl) (fun _ _ _ h => h) (Or.inl ⟨by rfl, fun w _ => by go_simp⟩) hS ?_
        refine wpAnyH_take (i := 3) (v := .pointer (some ⟨g1, k * 28, none⟩)) rfl (by kernel_rfl) (by kernel_rfl) (by kernel_rfl) (fun _ _ _ h => h) (Or.inl ⟨by rfl, fun w _ => by go_simp⟩) hS ?_
        refine wpAnyH_take (i := 4) (v := .agg (enA y)) rfl (by kernel_rfl) (by kernel_rfl) (by kernel_rfl) (fun _ _ _ h => h) (yieldsIf_load_mid (by rfl) 44 _ rfl g1 (k * 28) rfl (enL y) _ (fun _ h => h.2) Try.underlying44 rfl (by rw [hll]; kernel_rfl)) hS ?_
        refine wpAnyH_take (i := 5) (v := .bool false) rfl (by kernel_rfl) (by kernel_rfl) (by kernel_rfl) (fun _ _ _ h => h) (Or.inl ⟨by rfl, fun w _ => by have := hq w; go_simp⟩) hS ?_
        refine wpAnyH_take (i := 6) (v := .bool false) rfl (by kernel_rfl) (by kernel_rfl) (by kernel_rfl) (fun _ _ _ h => h) (Or.inl ⟨by rfl, fun w _ => by go_simp⟩) hS ?_
        go_simp
        refine wpAnyH_take (i := 7) (v := .bool true) rfl (by kernel_rfl) (by kernel_rfl) (by kernel_rfl) (fun _ _ _ h => h) (Or.inl ⟨by kernel_rfl, fun w _ => by go_simp⟩) hS ?_
        refine wpAnyH_take (i := 8) (v := .bool false) rfl (by kernel_rfl) (by kernel_rfl) (by kernel_rfl) (fun _ _ _ h => h) (Or.inl ⟨by kernel_rfl, fun w _ => by go_simp⟩) hS ?_
        refine wpAnyH_take (i := 9) (v := .bool false) rfl (by kernel_rfl) (by kernel_rfl) (by kernel_rfl) (fun _ _ _ h => h) (Or.inl ⟨by rfl, fun w _ => by go_simp⟩) hS ?_
        refine wpAnyH_take (i := 10) (v := .bool false) rfl (by kernel_rfl) (by kernel_rfl) (by kernel_rfl) (fun _ _ _ h => h) (Or.inl ⟨by rfl, fun w _ => by go_simp⟩) hS ?_
        go_simp
        refine wpAnyH_take (i := 11) (v := .int .i64 0) rfl (by kernel_rfl) (by kernel_rfl) (by kernel_rfl) (fun _ _ _ h => h) (Or.inl ⟨by kernel_rfl, fun w _ => by go_simp⟩) hS ?_
        refine wpAnyH_take (i := 12) (v := .bool false) rfl (by kernel_rfl) (by kernel_rfl) (by kernel_rfl) (fun _ _ _ h => h) (Or.inl ⟨by kernel_rfl, fun w _ => by go_simp⟩) hS ?_
        refine wpAnyH_take (i := 13) (v := .bool false) rfl (by kernel_rfl) (by kernel_rfl) (by kernel_rfl) (fun _ _ _ h => h) (Or.inl ⟨by rfl, fun w _ => by go_simp⟩) hS ?_
        refine wpAnyH_done (by kernel_rfl) ?_ _
        clear hS hq hll
        go_wp2
        go_roundw
        case rel => exact ⟨k + 1, q', y.at_, by go_num, rfl, by omega, hmL, HT2, R7, C7⟩
        case measure => simp [intOf]; omega
      · have i1 : ¬ ((k : Nat) : Int) < ((la : Nat) : Int) := by omega
        have mk : min k la = la := by omega
        have mk' : min (k + 1) la = la := by omega
        have hdr : A.drop la = [] := by rw [← unhide HLA]; simp
        rw [mk, hdr] at HT
        rw [mk] at hst
        obtain ⟨rfl, rfl, rfl, rfl, rfl, rfl⟩ := stp_done (by omega) hst (by rw [unhide HT])
        have HER : Hid ((tolD L lo (n - la) q' a).2.2 = er) := hide (by rw [unhide HT])
        rw [unhide HER]
        have HT2 : Hid (tolD L lo (n - min (k + 1) la) q' a = (A.drop (min (k + 1) la), q, er)) := hide (by rw [mk', hdr]; exact unhide HT)
        have R6 : Hid (RAt ((W5.alloc (.cells (enA enZ) 44)).setRow W5.heap.size (enA enZ)) gr (.slice (some ⟨g, 0, none⟩) L.length cap) lo n q' ((min (k + 1) la : Nat) : Int) a) := hide (by
          rw [mk']
          exact unhide R5)
        clear hst HT mk mk' hdr HER R5
        have hq := fun W => run_neqEZ W enZ_ok
        rw [enEq_refl] at hq
        go_upto_region 20 with (refine wpList_store_row rfl 44 (.tmp 19) (.tmp 88) rfl W5.heap.size (enA enZ) rfl rfl 44 (enA enZ) (unhide E1) (sizeEn hy) (sizeEqEn enZ_ok hy) (enA_one _) ?_)
        rw [enZ_eq]
        generalize ((W5.alloc (.cells (enA enZ) 44)).setRow W5.heap.size (enA enZ)) = W6 at E2 C6 R6 ⊢
        clear E1
        generalize W5.heap.size = gx at E2 ⊢
        clear W5
        go_wp2_with (refine wpList_load_row rfl 44 _ rfl gx rfl 44 (enA enZ) (0, 0) _ (unhide E2) Try.underlying44 rfl (sizeEn enZ_ok) ?_)
        go_roundw
        case rel => exact ⟨k + 1, q', a, by go_num, rfl, by omega, hs, HT2, R6, C6⟩
        case measure => simp [intOf]; omega
    · obtain rfl : k = la + m + 1 := by omega
      go_wp2_with fail
      refine (At_any wr (unhide HRA) (by omega)).mono ?_
      rintro e wr' ⟨rfl, hq⟩
      rw [hq]
      clear hq wr'
      go_wp2_with fail
      refine (Untouched_yes g cap ao c L wr ((unhide HR).below' (unhide HC).bel) ((unhide HL1).below' (unhide HC).bel) hcap (by omega)).mono ?_
      rintro e W9 ⟨rfl, kk, rfl⟩
      go_wp2
      go_ret
      exact ⟨rfl, (unhide HB).trans ((belowD (unhide HC).bel kk).mono (unhide HB).size)⟩
end Go.Proofs.Ythejnhdabokhjaa
