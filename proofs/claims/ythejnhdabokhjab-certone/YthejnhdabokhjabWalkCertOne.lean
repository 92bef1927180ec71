/-
  The walk of the law CertOne: it returns true for all bytes, and writes nothing that was there.
-/
import Derived.Test.YthejnhdabokhjabCe5
import Derived.Test.YthejnhdabokhjabCrz
import Derived.Test.YthejnhdabokhjabRoom
namespace Go.Proofs.Ythejnhdabokhjab
open Go.RowKit

def lit9 : List UInt8 := [112, 118, 1, 0, 0, 1, 0, 9, 0]
def y9 : En := ⟨9, true, frZ⟩
theorem y9_ok : FrOk y9.fr := frZ_ok
theorem y9_eq : (#[.int .i64 9, .bool true, .int .i64 0, .int .i64 0, .int .u8 0, .int .u8 0, .int .u8 0, .int .u8 0, .int .u8 0, .int .u8 0, .int .u8 0, .int .u8 0, .int .u8 0, .int .u8 0, .int .u8 0, .int .u8 0, .int .u8 0, .int .u8 0, .int .u8 0, .int .u8 0, .int .u8 0, .int .u8 0, .int .u8 0, .int .u8 0, .int .u8 0, .int .u8 0, .int .u8 0, .int .u8 0] : Array Value) = enA y9 := rfl
theorem lit9_at (w : World) : BAt (w.alloc (.cells #[.int .u8 112, .int .u8 118, .int .u8 1, .int .u8 0, .int .u8 0, .int .u8 1, .int .u8 0, .int .u8 9, .int .u8 0] 5)) (some ⟨w.heap.size, 0, none⟩) lit9 := by
  intro i hi
  refine ⟨w.heap.size, 0, rfl, ?_⟩
  simp only [lit9, List.length_cons, List.length_nil] at hi
  rcases (show i = 0 ∨ i = 1 ∨ i = 2 ∨ i = 3 ∨ i = 4 ∨ i = 5 ∨ i = 6 ∨ i = 7 ∨ i = 8 by omega) with rfl | rfl | rfl | rfl | rfl | rfl | rfl | rfl | rfl <;> simp [at8, lit9]
theorem lit9_one : (oneE lit9 0 6 (-1)).2 = 0 := by decide
theorem one_far {L : List UInt8} {lo p : Nat} : p + 3 ≤ oneN L lo p := by
  unfold oneN
  split
  · omega
  · unfold frN
    omega
theorem tol_count {L : List UInt8} {lo : Nat} (hlo : lo ≤ 16) : ∀ (n p : Nat) (ahead : Int), p ≤ L.length → p + 3 * (tolD L lo n p ahead).1.length ≤ L.length
  | 0, p, ahead, hp => by rw [tol_end]; simpa using hp
  | n + 1, p, ahead, hp => by
    by_cases he : (oneE L lo p ahead).2 = 0
    · rw [tol_good he]
      have h1 := tol_count hlo n (oneN L lo p) (oneX L lo p).at_ (one_ok he hlo).2
      have h2 := one_far (L := L) (lo := lo) (p := p)
      simp only [List.length_cons]
      omega
    · rw [tol_bad he]; simpa using hp

theorem tol_fr {L : List UInt8} {lo : Nat} (hlo : lo ≤ 16) : ∀ (n p : Nat) (ahead : Int), ∀ a ∈ (tolD L lo n p ahead).1, FrOk a.1.fr
  | 0, p, ahead => by rw [tol_end]; exact fun a ha => by cases ha
  | n + 1, p, ahead => by
    by_cases he : (oneE L lo p ahead).2 = 0
    · rw [tol_good he]
      intro a ha
      rcases List.mem_cons.1 ha with rfl | ha
      · exact (one_ok he hlo).1
      · exact tol_fr hlo n _ _ a ha
    · rw [tol_bad he]
      exact fun a ha => by cases ha

set_option maxRecDepth 20000 in
set_option maxHeartbeats 2000000 in
theorem walkCertOne {w : World} (ao : Option Addr) (c : Nat) (L : List UInt8) (hl : BAt w ao L) (_ : ao = none → L = []) (hb : L.length ≤ 140737488351232) :
    Calls Try.prog 5 #[.slice ao L.length c] w fun e w' => e = .returned (.bool true) ∧ Below w.heap.size w w' := by
  obtain ⟨lo, hlo⟩ : ∃ lo : Nat, at8 L 3 = lo := ⟨(at8 L 3).toNat, by unfold at8; omega⟩
  obtain ⟨n, hn4⟩ : ∃ n : Nat, wdD L 4 = n := ⟨(wdD L 4).toNat, by have := wdD_bounds L 4; omega⟩
  have HL := hide hl
  clear hl
  go_enter Try.func5, Try.ntmps5
  go_wp2_with fail
  have B0 := hide ((Below.refl w.heap.size w).alloc (Nat.le_refl _) (.cells #[.int .u8 112, .int .u8 118, .int .u8 1, .int .u8 0, .int .u8 0, .int .u8 1, .int .u8 0, .int .u8 9, .int .u8 0] 5))
  have HL9 := hide (lit9_at w)
  have HO9 := hide (Open_any (some ⟨w.heap.size, 0, none⟩) 9 lit9 _ (unhide HL9) (by decide))
  have hbl : w.heap.size < (w.alloc (.cells #[.int .u8 112, .int .u8 118, .int .u8 1, .int .u8 0, .int .u8 0, .int .u8 1, .int .u8 0, .int .u8 9, .int .u8 0] 5)).heap.size := by simp
  generalize (w.alloc (.cells #[.int .u8 112, .int .u8 118, .int .u8 1, .int .u8 0, .int .u8 0, .int .u8 1, .int .u8 0, .int .u8 9, .int .u8 0] 5)) = W1 at B0 HL9 HO9 hbl ⊢
  refine (unhide HO9).mono ?_
  rintro e W2 ⟨hB2, ⟨h0, gr, hgr, rfl, hR⟩ | ⟨h0, rfl⟩⟩
  rotate_left
  · exact absurd (show (hdE lit9).2 = 0 by decide) h0
  have B2 := hide ((unhide B0).trans (hB2.mono (unhide B0).size))
  have HNx := hide (Next_any (k := 1) (lo := 0) 6 W2 (show RAt W2 gr (.slice (some ⟨w.heap.size, 0, none⟩) lit9.length 9) ((0 : Nat) : Int) 1 ((6 : Nat) : Int) 0 (-1) from hR) ((unhide HL9).below' hB2) (by decide) (by omega) (by decide) (by decide) (by decide))
  have hs2 := hB2.size
  clear hB2 hR h0 HL9 HO9
  go_wp2_with fail
  refine (unhide HNx).mono ?_
  rintro e W3 ⟨hG3, y, b, er', q', t, a, hy, rfl, _, hst⟩
  obtain ⟨rfl, rfl, rfl⟩ : y = y9 ∧ b = true ∧ er' = 0 := by
    rcases hst with ⟨h, _⟩ | ⟨_, h, _⟩ | ⟨_, _, h1, h2, _, _, _, h3, _⟩
    · exact absurd h (by decide)
    · exact absurd lit9_one h
    · exact ⟨h1.trans rfl, h2, h3⟩
  have B3 := hide ((unhide B2).trans (below_grown hG3 (unhide B2).size (fun k e => by injection e with e; have := (unhide B0).size; omega)))
  have E1 : Hid (EAt (W3.alloc (.cells (enA enZ) 45)) W3.heap.size enZ) := hide (EAt.new W3 enZ)
  have E2 := hide ((unhide E1).row y9)
  have bl : Below W3.heap.size W3 ((W3.alloc (.cells (enA enZ) 45)).setRow W3.heap.size (enA y9)) := below_setRow' ((Below.refl _ _).alloc (Nat.le_refl _) _) (Nat.le_refl _) _
  have B4 := hide ((unhide B3).trans (bl.mono (unhide B3).size))
  have hq := fun W => run_neqEn W y9_ok y9_ok
  rw [enEq_refl] at hq
  have hq9 : ∀ W : World, (binOp .neq 45 (.agg (enA y9)) (.agg #[.int .i64 9, .bool true, .int .i64 0, .int .i64 0, .int .u8 0, .int .u8 0, .int .u8 0, .int .u8 0, .int .u8 0, .int .u8 0, .int .u8 0, .int .u8 0, .int .u8 0, .int .u8 0, .int .u8 0, .int .u8 0, .int .u8 0, .int .u8 0, .int .u8 0, .int .u8 0, .int .u8 0, .int .u8 0, .int .u8 0, .int .u8 0, .int .u8 0, .int .u8 0, .int .u8 0, .int .u8 0])).run Try.prog W = .ok (.bool false) W := hq
  clear bl hst hG3 HNx B2 hy hq
  go_wp2_with (first | (refine wpList_store_row rfl 45 (.tmp 5) (.tmp 29) rfl W3.heap.size (enA y9) rfl rfl 45 (enA enZ) (unhide E1) (sizeEn y9_ok) (sizeEqEn enZ_ok y9_ok) (enA_one _) ?_) | (rw [enZ_eq]; refine wpList_load_rowG (by kernel_rfl) 45 (.tmp 5) rfl W3.heap.size rfl 45 (enA y9) (0, 0) _ (unhide E2) Try.underlying45 rfl (sizeEn y9_ok) ?_))
  generalize ((W3.alloc (.cells (enA enZ) 45)).setRow W3.heap.size (enA y9)) = W4 at E2 B4 ⊢
  clear E1 hq9 E2 B3
  have HDc := hide (Decode_any ao c L lo n W4 ((unhide HL).below' (unhide B4)) (by omega) hlo hn4)
  refine (unhide HDc).mono ?_
  rintro e W5 ⟨v, rfl, hO5, hB5⟩
  obtain ⟨oa, oc, rfl⟩ := hO5.slice
  have HCL : Hid (cdS L lo n = cdS L lo n) := hide rfl
  obtain ⟨es, HES⟩ : ∃ es, Hid (cdS L lo n = es) := ⟨_, hide rfl⟩
  obtain ⟨ep, ee, HEE⟩ : ∃ ep ee, Hid (cdE L lo n = (ep, ee)) := ⟨_, _, hide rfl⟩
  obtain ⟨cl, HCl⟩ : ∃ cl, Hid (cdL L lo n = cl) := ⟨_, hide rfl⟩
  rw [unhide HES] at hO5
  rw [unhide HES, unhide HEE, unhide HCl]
  simp only
  have al := ((Below.refl W5.heap.size W5).alloc (Nat.le_refl _) (.cells #[.int .i64 cl, .slice oa es.length oc] 28))
  have C7 : Hid (CAt (W5.alloc (.cells #[.int .i64 cl, .slice oa es.length oc] 28)) W5.heap.size cl (.slice oa es.length oc)) := hide (heap_alloc_new W5 _)
  have O7 := hide (hO5.below al)
  have B7 := hide ((unhide B4).trans ((hB5.trans (al.mono hB5.size)).mono (unhide B4).size))
  clear al hO5 hB5 HDc HCL B4
  go_wp2_with fail
  generalize (W5.alloc (.cells #[.int .i64 cl, .slice oa es.length oc] 28)) = w0 at C7 O7 B7 ⊢
  generalize W5.heap.size = x7 at C7 ⊢
  have HOp := hide (Open_any ao c L w0 ((unhide HL).below' (unhide B7)) (by omega))
  refine (unhide HOp).mono ?_
  rintro e W6 ⟨hB6, ⟨h0, gq, hgq, rfl, hR⟩ | ⟨h0, rfl⟩⟩
  rotate_left
  · have hee : ee = (hdE L).2 := by
      have := unhide HEE
      unfold cdE at this
      rw [if_pos h0] at this
      rw [this]
    have b1 : ((hdE L).2 != 0) = true := bne_t h0
    have HB6 := hide ((unhide B7).trans (hB6.mono (unhide B7).size))
    rw [hee]
    clear h0 hB6 HOp C7 O7 B7 HEE
    generalize (hdE L).2 = er at b1 ⊢
    go_wp2
    go_ret
    exact ⟨rfl, unhide HB6⟩
  obtain ⟨h6, h16, h4k⟩ := mkE_good 3 0 h0
  rw [hlo, hn4] at hR
  have hl16 : lo ≤ 16 := by omega
  have hn40 : n ≤ 4096 := by omega
  have hcnt := tol_count (L := L) hl16 n 6 (-1) h6
  have hlen := tol_len (L := L) (lo := lo) n 6 (-1)
  have hok := tol_fr (L := L) hl16 n 6 (-1)
  obtain ⟨A, q, er, HT⟩ : ∃ A q er, Hid (tolD L lo n 6 (-1) = (A, q, er)) := ⟨_, _, _, hide rfl⟩
  rw [unhide HT] at hcnt hlen hok
  simp only at hcnt hlen hok
  have hee : ee = er := by
    have := unhide HEE
    unfold cdE at this
    rw [if_neg (by omega), unhide HT] at this
    by_cases he : er = 0
    · rw [if_neg (by simpa using he)] at this
      injection this with _ h
      rw [← h, he]
    · rw [if_pos (by simpa using he)] at this
      injection this with _ h
      exact h.symm
  have HEs : Hid (er = 0 → es = enS A) := hide (fun he => by
    rw [← unhide HES]
    unfold cdS
    rw [unhide HEE]
    simp only
    rw [if_pos (hee.trans he), unhide HT])
  subst hee
  have HR6 := hide hR
  have HB6 := hide hB6
  have HOK := hide hok
  clear hR hB6 h0 h16 h4k hlo hn4 HES HEE HCl HOp hok
  go_wp2_with fail
  go_loopw [11] (fun i wr => ∃ (k s : Nat) (ahead : Int), i = .int .i64 (k : Int) ∧ k ≤ A.length ∧ s ≤ L.length ∧ Hid (tolD L lo (n - k) s ahead = (A.drop k, q, ee)) ∧ Hid (RAt wr gq (.slice ao L.length c) lo n s (k : Int) ahead) ∧ Hid (Below w0.heap.size w0 wr)) (fun i _ => A.length + 1 - (intOf i).toNat)
  case atStart => exact ⟨0, 6, -1, rfl, by omega, h6, hide (by simpa using unhide HT), hide (by simpa using unhide HR6), HB6⟩
  case round =>
    clear HR6 HT HB6
    obtain ⟨k, s, ahead, rfl, hk, hs, HT, HRA, HB6⟩ := hrel
    have HNx := hide (Next_any s wr (unhide HRA) ((unhide HL).below' ((unhide B7).trans ((unhide HB6).mono (unhide B7).size))) (by omega) hl16 hs (by omega) (by omega))
    go_wp2_with fail
    refine (unhide HNx).mono ?_
    rintro e W8 ⟨hG, y, b, er', q', t, a, hy, rfl, hR8, hst⟩
    have HB8 := hide ((unhide HB6).trans (below_grown hG (unhide HB6).size (fun r e => by injection e with e; omega)))
    have hal : Below W8.heap.size W8 ((W8.alloc (.cells (enA enZ) 45)).setRow W8.heap.size (enA y)) := below_setRow' ((Below.refl _ _).alloc (Nat.le_refl _) _) (Nat.le_refl _) _
    have E1 : Hid (EAt (W8.alloc (.cells (enA enZ) 45)) W8.heap.size enZ) := hide (EAt.new W8 enZ)
    have E2 := hide ((unhide E1).row y)
    have HB9 := hide ((unhide HB8).trans (hal.mono (unhide HB8).size))
    have R9 := hide (hR8.below hal)
    clear hal hG hR8 HNx HRA HB8
    by_cases hka : k < A.length
    · obtain ⟨x, mm, hx⟩ : ∃ x mm, A[k]? = some (x, mm) := ⟨A[k].1, A[k].2, List.getElem?_eq_getElem hka⟩
      have hd : A.drop k = (x, mm) :: A.drop (k + 1) := by
        rw [List.drop_eq_getElem_cons hka]
        rw [List.getElem?_eq_getElem hka] at hx
        injection hx with hx
        rw [hx]
      obtain ⟨hkn, rfl, rfl, rfl, rfl, rfl, rfl, hmL, hT2⟩ := stp_more (by omega) hst (x := x) (m := mm) (rest := A.drop (k + 1)) (by rw [unhide HT]; exact hd)
      rw [unhide HT] at hT2
      have HT2 := hide hT2
      have R9 : Hid (RAt ((W8.alloc (.cells (enA enZ) 45)).setRow W8.heap.size (enA y)) gq (.slice ao L.length c) lo n q' ((k + 1 : Nat) : Int) y.at_) := hide (unhide R9)
      have hkL : ¬ ((k : Nat) : Int) > ((L.length : Nat) : Int) := by omega
      have hxo : FrOk y.fr := hy
      clear hst HT hd hT2
      go_upto_region 16 with (refine wpList_store_row rfl 45 (.tmp 12) (.tmp 68) rfl W8.heap.size (enA y) rfl rfl 45 (enA enZ) (unhide E1) (sizeEn hy) (sizeEqEn enZ_ok hy) (enA_one _) ?_)
      rw [enZ_eq]
      generalize ((W8.alloc (.cells (enA enZ) 45)).setRow W8.heap.size (enA y)) = W9 at E2 HB9 R9 ⊢
      clear E1
      generalize W8.heap.size = gx at E2 ⊢
      have D7 : Hid (CAt W9 x7 cl (.slice oa es.length oc)) := hide (((unhide HB9).block x7 (unhide C7).lt).trans (unhide C7))
      have O9 := hide ((unhide O7).below (unhide HB9))
      have HB10 : Hid (Below w0.heap.size w0 W9.drew) := hide (belowD (unhide HB9) 1)
      have R10 : Hid (RAt W9.drew gq (.slice ao L.length c) lo n q' ((k + 1 : Nat) : Int) y.at_) := hide (unhide R9)
      have hq := fun W => run_neqEn W hxo hxo
      rw [enEq_refl] at hq
      have hll := enL_len hxo
      by_cases he : ee = 0
      · subst he
        have hes := unhide HEs rfl
        have hle : ((k : Nat) : Int) < ((es.length : Nat) : Int) := by rw [hes]; unfold enS; rw [List.length_map]; omega
        have hge : ¬ ((k : Nat) : Int) ≥ ((es.length : Nat) : Int) := by omega
        have hek : es[k]? = some y := by rw [hes]; unfold enS; rw [List.getElem?_map, hx]; rfl
        obtain ⟨g1, cap1, hv1, hrg⟩ := (unhide O9).range (by rw [hes]; exact fun z hz => by obtain ⟨p, hp, rfl⟩ := List.mem_map.1 hz; exact unhide HOK p hp) hek
        injection hv1 with hv1 _ hv3
        subst hv1 hv3
        refine wp_region_held_drew (S := fun w' => EAt w' gx y ∧ CAt w' x7 cl (.slice (some ⟨g1, 0, none⟩) es.length oc) ∧ w'.rangeAt g1 (k * 28) (enL y)) (by kernel_rfl) ⟨unhide E2, unhide D7, (World.rangeAt_drew _ _ _ _).2 hrg⟩ (fun hS => ?_)
        clear hrg hek hes D7 O9 HB9 R9 E2
        generalize W9.drew = V at HB10 R10 hS ⊢
        refine wpAnyH_take (i := 0) (v := .int .i64 0) rfl (by kernel_rfl) (by kernel_rfl) (by kernel_rfl) (fun _ _ _ h => h) (Or.inl ⟨by kernel_rfl, fun w hS => by go_simp⟩) hS ?_
        refine wpAnyH_take (i := 1) (v := .bool false) rfl (by kernel_rfl) (by kernel_rfl) (by kernel_rfl) (fun _ _ _ h => h) (Or.inl ⟨by kernel_rfl, fun w hS => by go_simp⟩) hS ?_
        refine wpAnyH_take (i := 2) (v := .bool false) rfl (by kernel_rfl) (by kernel_rfl) (by kernel_rfl) (fun _ _ _ h => h) (Or.inl ⟨by kernel_rfl, fun w hS => by go_simp⟩) hS ?_
        refine wpAnyH_take (i := 3) (v := .int .i64 (k : Int)) rfl (by kernel_rfl) (by kernel_rfl) (by kernel_rfl) (fun _ _ _ h => h) (Or.inl ⟨by kernel_rfl, fun w hS => by go_simp⟩) hS ?_
        refine wpAnyH_take (i := 4) (v := .slice ao L.length c) rfl (by kernel_rfl) (by kernel_rfl) (by kernel_rfl) (fun _ _ _ h => h) (Or.inl ⟨by kernel_rfl, fun w hS => by go_simp⟩) hS ?_
        refine wpAnyH_take (i := 5) (v := .int .i64 ((L.length : Nat) : Int)) rfl (by kernel_rfl) (by kernel_rfl) (by kernel_rfl) (fun _ _ _ h => h) (Or.inl ⟨by kernel_rfl, fun w hS => by go_simp⟩) hS ?_
        go_simp
        refine wpAnyH_take (i := 6) (v := .bool false) rfl (by kernel_rfl) (by kernel_rfl) (by kernel_rfl) (fun _ _ _ h => h) (Or.inl ⟨by kernel_rfl, fun w hS => by go_simp; omega⟩) hS ?_
        refine wpAnyH_take (i := 7) (v := .bool false) rfl (by kernel_rfl) (by kernel_rfl) (by kernel_rfl) (fun _ _ _ h => h) (Or.inl ⟨by kernel_rfl, fun w hS => by go_simp⟩) hS ?_
        refine wpAnyH_take (i := 8) (v := .bool false) rfl (by kernel_rfl) (by kernel_rfl) (by kernel_rfl) (fun _ _ _ h => h) (Or.inl ⟨by kernel_rfl, fun w hS => by go_simp⟩) hS ?_
        refine wpAnyH_take (i := 9) (v := .int .i64 0) rfl (by kernel_rfl) (by kernel_rfl) (by kernel_rfl) (fun _ _ _ h => h) (Or.inl ⟨by kernel_rfl, fun w hS => by go_simp⟩) hS ?_
        refine wpAnyH_take (i := 10) (v := .bool true) rfl (by kernel_rfl) (by kernel_rfl) (by kernel_rfl) (fun _ _ _ h => h) (Or.inl ⟨by kernel_rfl, fun w hS => by go_simp⟩) hS ?_
        refine wpAnyH_take (i := 11) (v := .bool true) rfl (by kernel_rfl) (by kernel_rfl) (by kernel_rfl) (fun _ _ _ h => h) (Or.inl ⟨by kernel_rfl, fun w hS => by go_simp⟩) hS ?_
        go_simp
        refine wpAnyH_take (i := 12) (v := .int .i64 (k : Int)) rfl (by kernel_rfl) (by kernel_rfl) (by kernel_rfl) (fun _ _ _ h => h) (Or.inl ⟨by kernel_rfl, fun w hS => by go_simp⟩) hS ?_
        refine wpAnyH_take (i := 13) (v := .pointer (some ⟨x7, 1, none⟩)) rfl (by kernel_rfl) (by kernel_rfl) (by kernel_rfl) (fun _ _ _ h => h) (Or.inl ⟨by kernel_rfl, fun w hS => by go_simp⟩) hS ?_
        refine wpAnyH_take (i := 14) (v := .slice (some ⟨g1, 0, none⟩) es.length oc) rfl (by kernel_rfl) (by kernel_rfl) (by kernel_rfl) (fun _ _ _ h => h) (Or.inl ⟨by kernel_rfl, fun w hS => by have h0 := hS.2.1.c1; go_simp⟩) hS ?_
        refine wpAnyH_take (i := 15) (v := .int .i64 ((es.length : Nat) : Int)) rfl (by kernel_rfl) (by kernel_rfl) (by kernel_rfl) (fun _ _ _ h => h) (Or.inl ⟨by kernel_rfl, fun w hS => by go_simp⟩) hS ?_
        refine wpAnyH_take (i := 16) (v := .bool false) rfl (by kernel_rfl) (by kernel_rfl) (by kernel_rfl) (fun _ _ _ h => h) (Or.inl ⟨by kernel_rfl, fun w hS => by go_simp⟩) hS ?_
        refine wpAnyH_take (i := 17) (v := .bool false) rfl (by kernel_rfl) (by kernel_rfl) (by kernel_rfl) (fun _ _ _ h => h) (Or.inl ⟨by kernel_rfl, fun w hS => by go_simp⟩) hS ?_
        go_simp
        refine wpAnyH_take (i := 18) (v := .agg (enA y)) rfl (by kernel_rfl) (by kernel_rfl) (by kernel_rfl) (fun _ _ _ h => h) (yieldsIf_load_en (by kernel_rfl) _ rfl gx rfl y hy (fun _ h => h.1)) hS ?_
        refine wpAnyH_take (i := 19) (v := .pointer (some ⟨x7, 1, none⟩)) rfl (by kernel_rfl) (by kernel_rfl) (by kernel_rfl) (fun _ _ _ h => h) (Or.inl ⟨by kernel_rfl, fun w hS => by go_simp⟩) hS ?_
        refine wpAnyH_take (i := 20) (v := .slice (some ⟨g1, 0, none⟩) es.length oc) rfl (by kernel_rfl) (by kernel_rfl) (by kernel_rfl) (fun _ _ _ h => h) (Or.inl ⟨by kernel_rfl, fun w hS => by have h0 := hS.2.1.c1; go_simp⟩) hS ?_
        refine wpAnyH_take (i := 21) (v := .int .i64 (k : Int)) rfl (by kernel_rfl) (by kernel_rfl) (by kernel_rfl) (fun _ _ _ h => h) (Or.inl ⟨by kernel_rfl, fun w hS => by go_simp⟩) hS ?_
        refine wpAnyH_take (i := 22) (v := .pointer (some ⟨g1, k * 28, none⟩)) rfl (by kernel_rfl) (by kernel_rfl) (by kernel_rfl) (fun _ _ _ h => h) (Or.inl ⟨by kernel_rfl, fun w hS => by go_simp⟩) hS ?_
        refine wpAnyH_take (i := 23) (v := .agg (enA y)) rfl (by kernel_rfl) (by kernel_rfl) (by kernel_rfl) (fun _ _ _ h => h) (yieldsIf_load_mid (by kernel_rfl) 45 _ rfl g1 (k * 28) rfl (enL y) _ (fun _ h => h.2.2) Try.underlying45 rfl (by rw [hll]; kernel_rfl)) hS ?_
        go_simp
        refine wpAnyH_take (i := 24) (v := .bool false) rfl (by kernel_rfl) (by kernel_rfl) (by kernel_rfl) (fun _ _ _ h => h) (Or.inl ⟨by kernel_rfl, fun w hS => by have := hq w; go_simp⟩) hS ?_
        refine wpAnyH_take (i := 25) (v := .bool false) rfl (by kernel_rfl) (by kernel_rfl) (by kernel_rfl) (fun _ _ _ h => h) (Or.inl ⟨by kernel_rfl, fun w hS => by go_simp⟩) hS ?_
        go_simp
        refine wpAnyH_take (i := 26) (v := .bool false) rfl (by kernel_rfl) (by kernel_rfl) (by kernel_rfl) (fun _ _ _ h => h) (Or.inl ⟨by kernel_rfl, fun w hS => by go_simp⟩) hS ?_
        refine wpAnyH_take (i := 27) (v := .bool false) rfl (by kernel_rfl) (by kernel_rfl) (by kernel_rfl) (fun _ _ _ h => h) (Or.inl ⟨by kernel_rfl, fun w hS => by go_simp⟩) hS ?_
        refine wpAnyH_done (by kernel_rfl) ?_ _
        clear hS hq hll
        go_wp2
        go_roundw
        case rel => exact ⟨k + 1, q', y.at_, by go_num, by omega, hmL, HT2, R10, HB10⟩
        case measure => simp [intOf]; omega
      · have b1 : (ee == 0) = false := beq_f he
        refine wp_region_held_drew (S := fun _ => True) (by kernel_rfl) trivial (fun hS => ?_)
        clear D7 O9 HB9 R9 E2
        generalize W9.drew = V at HB10 R10 hS ⊢
        refine wpAnyH_take (i := 0) (v := .int .i64 0) rfl (by kernel_rfl) (by kernel_rfl) (by kernel_rfl) (fun _ _ _ h => h) (Or.inl ⟨by kernel_rfl, fun w hS => by go_simp⟩) hS ?_
        refine wpAnyH_take (i := 1) (v := .bool false) rfl (by kernel_rfl) (by kernel_rfl) (by kernel_rfl) (fun _ _ _ h => h) (Or.inl ⟨by kernel_rfl, fun w hS => by go_simp⟩) hS ?_
        refine wpAnyH_take (i := 2) (v := .bool false) rfl (by kernel_rfl) (by kernel_rfl) (by kernel_rfl) (fun _ _ _ h => h) (Or.inl ⟨by kernel_rfl, fun w hS => by go_simp⟩) hS ?_
        refine wpAnyH_take (i := 3) (v := .int .i64 (k : Int)) rfl (by kernel_rfl) (by kernel_rfl) (by kernel_rfl) (fun _ _ _ h => h) (Or.inl ⟨by kernel_rfl, fun w hS => by go_simp⟩) hS ?_
        refine wpAnyH_take (i := 4) (v := .slice ao L.length c) rfl (by kernel_rfl) (by kernel_rfl) (by kernel_rfl) (fun _ _ _ h => h) (Or.inl ⟨by kernel_rfl, fun w hS => by go_simp⟩) hS ?_
        refine wpAnyH_take (i := 5) (v := .int .i64 ((L.length : Nat) : Int)) rfl (by kernel_rfl) (by kernel_rfl) (by kernel_rfl) (fun _ _ _ h => h) (Or.inl ⟨by kernel_rfl, fun w hS => by go_simp⟩) hS ?_
        go_simp
        refine wpAnyH_take (i := 6) (v := .bool false) rfl (by kernel_rfl) (by kernel_rfl) (by kernel_rfl) (fun _ _ _ h => h) (Or.inl ⟨by kernel_rfl, fun w hS => by go_simp; omega⟩) hS ?_
        refine wpAnyH_take (i := 7) (v := .bool false) rfl (by kernel_rfl) (by kernel_rfl) (by kernel_rfl) (fun _ _ _ h => h) (Or.inl ⟨by kernel_rfl, fun w hS => by go_simp⟩) hS ?_
        refine wpAnyH_take (i := 8) (v := .bool false) rfl (by kernel_rfl) (by kernel_rfl) (by kernel_rfl) (fun _ _ _ h => h) (Or.inl ⟨by kernel_rfl, fun w hS => by go_simp⟩) hS ?_
        refine wpAnyH_take (i := 9) (v := .int .i64 ee) rfl (by kernel_rfl) (by kernel_rfl) (by kernel_rfl) (fun _ _ _ h => h) (Or.inl ⟨by kernel_rfl, fun w hS => by go_simp⟩) hS ?_
        refine wpAnyH_take (i := 10) (v := .bool false) rfl (by kernel_rfl) (by kernel_rfl) (by kernel_rfl) (fun _ _ _ h => h) (Or.inl ⟨by kernel_rfl, fun w hS => by go_simp⟩) hS ?_
        refine wpAnyH_take (i := 11) (v := .bool false) rfl (by kernel_rfl) (by kernel_rfl) (by kernel_rfl) (fun _ _ _ h => h) (Or.inl ⟨by kernel_rfl, fun w hS => by go_simp⟩) hS ?_
        go_simp
        refine wpAnyH_take (i := 12) (v := undef) rfl (by kernel_rfl) (by kernel_rfl) (by kernel_rfl) (fun _ _ _ h => h) (Or.inr ⟨by kernel_rfl, rfl⟩) hS ?_
        refine wpAnyH_take (i := 13) (v := undef) rfl (by kernel_rfl) (by kernel_rfl) (by kernel_rfl) (fun _ _ _ h => h) (Or.inr ⟨by kernel_rfl, rfl⟩) hS ?_
        refine wpAnyH_take (i := 14) (v := undef) rfl (by kernel_rfl) (by kernel_rfl) (by kernel_rfl) (fun _ _ _ h => h) (Or.inr ⟨by kernel_rfl, rfl⟩) hS ?_
        refine wpAnyH_take (i := 15) (v := undef) rfl (by kernel_rfl) (by kernel_rfl) (by kernel_rfl) (fun _ _ _ h => h) (Or.inr ⟨by kernel_rfl, rfl⟩) hS ?_
        refine wpAnyH_take (i := 16) (v := undef) rfl (by kernel_rfl) (by kernel_rfl) (by kernel_rfl) (fun _ _ _ h => h) (Or.inr ⟨by kernel_rfl, rfl⟩) hS ?_
        refine wpAnyH_take (i := 17) (v := undef) rfl (by kernel_rfl) (by kernel_rfl) (by kernel_rfl) (fun _ _ _ h => h) (Or.inr ⟨by kernel_rfl, rfl⟩) hS ?_
        go_simp
        refine wpAnyH_take (i := 18) (v := undef) rfl (by kernel_rfl) (by kernel_rfl) (by kernel_rfl) (fun _ _ _ h => h) (Or.inr ⟨by kernel_rfl, rfl⟩) hS ?_
        refine wpAnyH_take (i := 19) (v := undef) rfl (by kernel_rfl) (by kernel_rfl) (by kernel_rfl) (fun _ _ _ h => h) (Or.inr ⟨by kernel_rfl, rfl⟩) hS ?_
        refine wpAnyH_take (i := 20) (v := undef) rfl (by kernel_rfl) (by kernel_rfl) (by kernel_rfl) (fun _ _ _ h => h) (Or.inr ⟨by kernel_rfl, rfl⟩) hS ?_
        refine wpAnyH_take (i := 21) (v := undef) rfl (by kernel_rfl) (by kernel_rfl) (by kernel_rfl) (fun _ _ _ h => h) (Or.inr ⟨by kernel_rfl, rfl⟩) hS ?_
        refine wpAnyH_take (i := 22) (v := undef) rfl (by kernel_rfl) (by kernel_rfl) (by kernel_rfl) (fun _ _ _ h => h) (Or.inr ⟨by kernel_rfl, rfl⟩) hS ?_
        go_simp
        refine wpAnyH_take (i := 23) (v := undef) rfl (by kernel_rfl) (by kernel_rfl) (by kernel_rfl) (fun _ _ _ h => h) (Or.inr ⟨by kernel_rfl, rfl⟩) hS ?_
        refine wpAnyH_take (i := 24) (v := undef) rfl (by kernel_rfl) (by kernel_rfl) (by kernel_rfl) (fun _ _ _ h => h) (Or.inr ⟨by kernel_rfl, rfl⟩) hS ?_
        refine wpAnyH_take (i := 25) (v := undef) rfl (by kernel_rfl) (by kernel_rfl) (by kernel_rfl) (fun _ _ _ h => h) (Or.inr ⟨by kernel_rfl, rfl⟩) hS ?_
        go_simp
        refine wpAnyH_take (i := 26) (v := .bool false) rfl (by kernel_rfl) (by kernel_rfl) (by kernel_rfl) (fun _ _ _ h => h) (Or.inl ⟨by kernel_rfl, fun w hS => by go_simp⟩) hS ?_
        refine wpAnyH_take (i := 27) (v := .bool false) rfl (by kernel_rfl) (by kernel_rfl) (by kernel_rfl) (fun _ _ _ h => h) (Or.inl ⟨by kernel_rfl, fun w hS => by go_simp⟩) hS ?_
        refine wpAnyH_done (by kernel_rfl) ?_ _
        clear hS hq hll
        go_wp2
        go_roundw
        case rel => exact ⟨k + 1, q', y.at_, by go_num, by omega, hmL, HT2, R10, HB10⟩
        case measure => simp [intOf]; omega
    · obtain rfl : k = A.length := by omega
      have hdr : A.drop A.length = [] := List.drop_length ..
      rw [hdr] at HT
      obtain ⟨rfl, rfl, rfl, rfl, rfl, rfl⟩ := stp_done (by omega) hst (by rw [unhide HT])
      have HER : Hid ((tolD L lo (n - A.length) q' a).2.2 = ee) := hide (by rw [unhide HT])
      rw [unhide HER]
      have BF := hide ((unhide B7).trans ((unhide HB9).mono (unhide B7).size))
      have D7 : Hid (CAt ((W8.alloc (.cells (enA enZ) 45)).setRow W8.heap.size (enA enZ)) x7 cl (.slice oa es.length oc)) := hide (((unhide HB9).block x7 (unhide C7).lt).trans (unhide C7))
      have c71 := (unhide D7).c1
      clear hst HT hdr HER
      by_cases he : ee = 0
      · subst he
        have hes : es.length = A.length := by rw [unhide HEs rfl]; simp [enS]
        rw [hes] at c71
        go_upto_region 14 with (refine wpList_store_row rfl 45 (.tmp 12) (.tmp 68) rfl W8.heap.size (enA enZ) rfl rfl 45 (enA enZ) (unhide E1) (sizeEn hy) (sizeEqEn enZ_ok hy) (enA_one _) ?_)
        rw [enZ_eq]
        generalize ((W8.alloc (.cells (enA enZ) 45)).setRow W8.heap.size (enA enZ)) = W9 at c71 BF ⊢
        clear D7 HB9 R9 E2
        go_wp2
        go_ret
        exact ⟨rfl, unhide BF⟩
      · have b1 : (ee != 0) = true := bne_t he
        go_wp2_with (refine wpList_store_row rfl 45 (.tmp 12) (.tmp 68) rfl W8.heap.size (enA enZ) rfl rfl 45 (enA enZ) (unhide E1) (sizeEn hy) (sizeEqEn enZ_ok hy) (enA_one _) ?_)
        go_ret
        exact ⟨rfl, unhide BF⟩
end Go.Proofs.Ythejnhdabokhjab
