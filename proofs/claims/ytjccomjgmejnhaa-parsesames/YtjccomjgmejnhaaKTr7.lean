/-
  provisoref11.sameStmts at any depth and provisoref11.Same: whether two programs are the same, by the document. Conditions: lengths fit.
-/
import Derived.Test.YtjccomjgmejnhaaKTr6
namespace Go.Proofs.Ytjccomjgmejnhaa
open Go.RowKit

set_option maxRecDepth 20000 in
set_option maxHeartbeats 8000000 in
theorem refSameStmts_zero (go ao : Option Addr) (gc cap : Nat) (G T : List Stm) (w : World) (hG : RowAt (stN 0) w go G) (hT : RowAt (stN 0) w ao T) (hz : G.length < 9223372036854775000) :
    Calls Try.prog 15 #[.slice go G.length gc, .slice ao T.length cap] w fun e w' => e = .returned (.bool (twoB (eqS 0) G T)) ∧ Below w.heap.size w w' := by
  by_cases hl : G.length = T.length
  rotate_left
  · have HR : Hid (twoB (eqS 0) G T = false) := hide (twoB_len hl)
    have e0 : (((G.length : Nat) : Int) != ((T.length : Nat) : Int)) = true := bne_t (by omega)
    clear hl
    go_enter Try.func15, Try.ntmps15
    go_wp2
    go_ret
    exact ⟨ret_bool (unhide HR).symm, Below.refl _ _⟩
  have e0 : (((G.length : Nat) : Int) != ((T.length : Nat) : Int)) = false := bne_f (by omega)
  have HG := hide hG
  have HT := hide hT
  have HLn := hide hl
  clear hG hT hl
  go_enter Try.func15, Try.ntmps15
  go_wp2
  go_loopw [15] (fun i wr => ∃ k : Nat, k ≤ G.length ∧ i = .int .i64 (k : Int) ∧ Hid (∀ (j : Nat) x y, j < k → G[j]? = some x → T[j]? = some y → (eqS 0) x y = true) ∧ Hid (Below w.heap.size w wr)) (fun i _ => G.length - (intOf i).toNat)
  case atStart => exact ⟨0, by omega, rfl, hide (fun j x y h => by omega), hide (Below.refl _ _)⟩
  case round =>
    obtain ⟨k, hk, rfl, HK, HBr⟩ := hrel
    by_cases hlt : k < G.length
    rotate_left
    · have i1 : ¬ ((k : Nat) : Int) < ((G.length : Nat) : Int) := by omega
      have HR : Hid (twoB (eqS 0) G T = true) := hide (twoB_yes (unhide HLn) (fun i x y h1 h2 => unhide HK i x y (by have := (List.getElem?_eq_some_iff.1 h1).1; omega) h1 h2))
      go_wp2
      go_ret
      exact ⟨ret_bool (unhide HR).symm, unhide HBr⟩
    have i1 : ((k : Nat) : Int) < ((G.length : Nat) : Int) := by omega
    have hkT : k < T.length := by have := unhide HLn; omega
    have i2 : ((k : Nat) : Int) < ((T.length : Nat) : Int) := by omega
    have i0 : (0 : Int) ≤ ((k : Nat) : Int) := by omega
    have hx := List.getElem?_eq_getElem hlt
    have hy := List.getElem?_eq_getElem hkT
    obtain ⟨b, off, rfl, hra, hxa⟩ := (unhide HG).below (unhide HBr) k _ hx
    exact (show False from hxa).elim

theorem refSameStmts_any : ∀ (n : Nat) (go ao : Option Addr) (gc cap : Nat) (G T : List Stm) (w : World), RowAt (stN n) w go G → RowAt (stN n) w ao T → G.length < 9223372036854775000 → Calls Try.prog 15 #[.slice go G.length gc, .slice ao T.length cap] w fun e w' => e = .returned (.bool (twoB (eqS n) G T)) ∧ Below w.heap.size w w'
  | 0, go, ao, gc, cap, G, T, w, h1, h2, h3 => refSameStmts_zero go ao gc cap G T w h1 h2 h3
  | n + 1, go, ao, gc, cap, G, T, w, h1, h2, h3 => refSameStmts_in n (refSameStmts_any n) go ao gc cap G T w h1 h2 h3

set_option maxRecDepth 20000 in
set_option maxHeartbeats 8000000 in
theorem refSame_any (n : Nat) (p q : Pg) (w : World) (hp : PgOk n w p) (hq : PgOk n w q) :
    Calls Try.prog 6 #[.agg #[.slice p.ra p.R.length p.rc, .slice p.ua p.U.length p.uc], .agg #[.slice q.ra q.R.length q.rc, .slice q.ua q.U.length q.uc]] w fun e w' => e = .returned (.bool (eqG n p q)) ∧ Below w.heap.size w w' := by
  have al1 := (Below.refl w.heap.size w).alloc (Nat.le_refl _) (.cells #[.slice p.ra p.R.length p.rc, .slice p.ua p.U.length p.uc] 25)
  have al := al1.alloc (by simp) (.cells #[.slice q.ra q.R.length q.rc, .slice q.ua q.U.length q.uc] 25)
  have HB := hide al
  have n1 := heap_alloc_new w (.cells #[.slice p.ra p.R.length p.rc, .slice p.ua p.U.length p.uc] 25)
  have n2 := heap_alloc_new (w.alloc (.cells #[.slice p.ra p.R.length p.rc, .slice p.ua p.U.length p.uc] 25)) (.cells #[.slice q.ra q.R.length q.rc, .slice q.ua q.U.length q.uc] 25)
  rw [World.size_alloc] at n2
  have HC1 : Hid (Bx ((w.alloc (.cells #[.slice p.ra p.R.length p.rc, .slice p.ua p.U.length p.uc] 25)).alloc (.cells #[.slice q.ra q.R.length q.rc, .slice q.ua q.U.length q.uc] 25)) w.heap.size 25 #[.slice p.ra p.R.length p.rc, .slice p.ua p.U.length p.uc]) := hide ((((Below.refl _ _).alloc (Nat.le_refl _) _).block w.heap.size (by simp)).trans n1)
  have HC2 : Hid (Bx ((w.alloc (.cells #[.slice p.ra p.R.length p.rc, .slice p.ua p.U.length p.uc] 25)).alloc (.cells #[.slice q.ra q.R.length q.rc, .slice q.ua q.U.length q.uc] 25)) (w.heap.size + 1) 25 #[.slice q.ra q.R.length q.rc, .slice q.ua q.U.length q.uc]) := hide n2
  have HX3 := hide (hp.below al)
  have HY3 := hide (hq.below al)
  have HQ : Hid (eqG n p q = (twoB eqR p.R q.R && twoB (eqU n) p.U q.U)) := hide rfl
  have hlR : p.R.length < 9223372036854775000 := by have := hp.fitR; omega
  have hlU : p.U.length < 9223372036854775000 := by have := hp.fitU; omega
  clear al1 al n1 n2 hp hq
  go_enter Try.func6, Try.ntmps6
  go_upto_region 1 with fail
  generalize ((w.alloc (.cells #[.slice p.ra p.R.length p.rc, .slice p.ua p.U.length p.uc] 25)).alloc (.cells #[.slice q.ra q.R.length q.rc, .slice q.ua q.U.length q.uc] 25)) = W3 at HB HC1 HC2 HX3 HY3 ⊢
  have HB3 := HB
  have HD1 := HC1
  have HD2 := HC2
  clear HB HC1 HC2
  have k0 := (unhide HD1).c 0 rfl
  have k1 := (unhide HD1).c 1 rfl
  have m0 := (unhide HD2).c 0 rfl
  have m1 := (unhide HD2).c 1 rfl
  by_cases hr : p.R.length = q.R.length
  rotate_left
  · have HR : Hid (eqG n p q = false) := hide (by rw [unhide HQ, twoB_len hr]; rfl)
    have b1 : (((p.R.length : Nat) : Int) != ((q.R.length : Nat) : Int)) = true := bne_t (by omega)
    clear hr
    go_wp2
    go_ret
    exact ⟨ret_bool (unhide HR).symm, unhide HB3⟩
  have b1 : (((p.R.length : Nat) : Int) != ((q.R.length : Nat) : Int)) = false := bne_f (by omega)
  have HLR := hide hr
  clear hr
  by_cases hu : p.U.length = q.U.length
  rotate_left
  · have HR : Hid (eqG n p q = false) := hide (by rw [unhide HQ, twoB_len hu]; simp)
    have b2 : (((p.U.length : Nat) : Int) != ((q.U.length : Nat) : Int)) = true := bne_t (by omega)
    clear hu
    go_wp2
    go_ret
    exact ⟨ret_bool (unhide HR).symm, unhide HB3⟩
  have b2 : (((p.U.length : Nat) : Int) != ((q.U.length : Nat) : Int)) = false := bne_f (by omega)
  have HLU := hide hu
  clear hu
  go_wp2_with fail
  clear k0 k1 m0 m1
  go_loopw [30] (fun i wr => ∃ k : Nat, k ≤ p.R.length ∧ i = .int .i64 (k : Int) ∧ Hid (∀ (j : Nat) x y, j < k → p.R[j]? = some x → q.R[j]? = some y → eqR x y = true) ∧ Hid (Below W3.heap.size W3 wr)) (fun i _ => p.R.length - (intOf i).toNat)
  case atStart => exact ⟨0, by omega, rfl, hide (fun j x y h => by omega), hide (Below.refl _ _)⟩
  case round =>
    obtain ⟨k, hk, rfl, HK, HBr⟩ := hrel
    have HBw := hide ((unhide HB3).trans ((unhide HBr).mono (unhide HB3).size))
    by_cases hlt : k < p.R.length
    rotate_left
    · have i1 : ¬ ((k : Nat) : Int) < ((p.R.length : Nat) : Int) := by omega
      have HALL : Hid (twoB eqR p.R q.R = true) := hide (twoB_yes (unhide HLR) (fun i x y h1 h2 => unhide HK i x y (by have := (List.getElem?_eq_some_iff.1 h1).1; omega) h1 h2))
      have HALLR := HALL
      have HD1b := hide ((unhide HD1).below (unhide HBr))
      have HD2b := hide ((unhide HD2).below (unhide HBr))
      have HX3b := hide ((unhide HX3).below (unhide HBr))
      have HY3b := hide ((unhide HY3).below (unhide HBr))
      have k1 := (unhide HD1b).c 1 rfl
      go_wp2_with fail
      clear k1 HALL HK HB3 HD1 HD2 HX3 HY3 HBr
      obtain ⟨W3, HW3⟩ : ∃ x, x = wr := ⟨_, rfl⟩
      subst HW3
      have HB3 := HBw
      have HD1 := HD1b
      have HD2 := HD2b
      have HX3 := HX3b
      have HY3 := HY3b
      clear HBw HD1b HD2b HX3b HY3b
      go_loopw [67] (fun i wr => ∃ k : Nat, k ≤ p.U.length ∧ i = .int .i64 (k : Int) ∧ Hid (∀ (j : Nat) x y, j < k → p.U[j]? = some x → q.U[j]? = some y → (eqU n) x y = true) ∧ Hid (Below W3.heap.size W3 wr)) (fun i _ => p.U.length - (intOf i).toNat)
      case atStart => exact ⟨0, by omega, rfl, hide (fun j x y h => by omega), hide (Below.refl _ _)⟩
      case round =>
        obtain ⟨k, hk, rfl, HK, HBr⟩ := hrel
        have HBw := hide ((unhide HB3).trans ((unhide HBr).mono (unhide HB3).size))
        by_cases hlt : k < p.U.length
        rotate_left
        · have i1 : ¬ ((k : Nat) : Int) < ((p.U.length : Nat) : Int) := by omega
          have HALL : Hid (twoB (eqU n) p.U q.U = true) := hide (twoB_yes (unhide HLU) (fun i x y h1 h2 => unhide HK i x y (by have := (List.getElem?_eq_some_iff.1 h1).1; omega) h1 h2))
          have HE : Hid (eqG n p q = true) := hide (by rw [unhide HQ, unhide HALLR, unhide HALL]; rfl)
          go_wp2
          go_ret
          exact ⟨ret_bool (unhide HE).symm, unhide HBw⟩
        have i1 : ((k : Nat) : Int) < ((p.U.length : Nat) : Int) := by omega
        have hkT : k < q.U.length := by have := unhide HLU; omega
        have i2 : ((k : Nat) : Int) < ((q.U.length : Nat) : Int) := by omega
        have i0 : (0 : Int) ≤ ((k : Nat) : Int) := by omega
        have hx := List.getElem?_eq_getElem hlt
        have hy := List.getElem?_eq_getElem hkT
        obtain ⟨b, off, ebx, hra, hxa⟩ := (unhide HX3).funs.below (unhide HBr) k _ hx
        obtain ⟨b', off', eby, hrb, hya⟩ := (unhide HY3).funs.below (unhide HBr) k _ hy
        generalize p.U[k] = x at hxa hx hra
        generalize q.U[k]'hkT = y at hya hy hrb
        have hra : wr.rangeAt b (off + k * 7) (fuC x) := hra
        have hrb : wr.rangeAt b' (off' + k * 7) (fuC y) := hrb
        have HNO : Hid ((eqU n) x y = false → eqG n p q = false) := hide (fun e => by rw [unhide HQ, twoB_no hx hy e]; simp)
        have HK2 : Hid ((eqU n) x y = true → ∀ (j : Nat) a b, j < k + 1 → p.U[j]? = some a → q.U[j]? = some b → (eqU n) a b = true) := hide (fun e j a b h1 h2 h3 => by
          by_cases e' : j = k
          · rw [e', hx] at h2
            rw [e', hy] at h3
            injection h2 with h2
            injection h3 with h3
            rw [← h2, ← h3] <;> exact e
          · exact unhide HK j a b (by omega) h2 h3)
        have HXA := hide hxa
        have HYA := hide hya
        have HEX := hide ebx
        have HEY := hide eby
        clear ebx eby
        have HP1 := hide ((unhide HD1).below (unhide HBr))
        have HP2 := hide ((unhide HD2).below (unhide HBr))
        clear hx hy hxa hya HK
        go_upto_region 13 with fail
        go_cut [9, 10] (fun s1 s2 wx => ∃ g1 g2, s1 = .pointer (some ⟨g1, 0, none⟩) ∧ s2 = .pointer (some ⟨g2, 0, none⟩) ∧ Hid (Bx wx g1 37 #[.int .i64 x.pl, .string x.nm, .string x.of, .slice x.pa x.ps.length x.pc, .slice x.ba x.bs.length x.bc, .int .u8 (x.res : Int), .int .i64 x.lo]) ∧ Hid (Bx wx g2 37 #[.int .i64 y.pl, .string y.nm, .string y.of, .slice y.pa y.ps.length y.pc, .slice y.ba y.bs.length y.bc, .int .u8 (y.res : Int), .int .i64 y.lo]) ∧ Hid (Below wr.heap.size wr wx))
        case first =>
          have HS0 := hide ((show Bx wr.drew w.heap.size 25 #[.slice p.ra p.R.length p.rc, .slice p.ua p.U.length p.uc] ∧ Bx wr.drew (w.heap.size + 1) 25 #[.slice q.ra q.R.length q.rc, .slice q.ua q.U.length q.uc] ∧ wr.drew.rangeAt b (off + k * 7) (fuC x) ∧ wr.drew.rangeAt b' (off' + k * 7) (fuC y) from ⟨unhide HP1, unhide HP2, hra, hrb⟩))
          refine wp_region_held_drew (S := fun w' => Bx w' w.heap.size 25 #[.slice p.ra p.R.length p.rc, .slice p.ua p.U.length p.uc] ∧ Bx w' (w.heap.size + 1) 25 #[.slice q.ra q.R.length q.rc, .slice q.ua q.U.length q.uc] ∧ w'.rangeAt b (off + k * 7) (fuC x) ∧ w'.rangeAt b' (off' + k * 7) (fuC y)) (by kernel_rfl) (unhide HS0) (fun hS => ?_)
          have hD : Below wr.heap.size wr wr.drew := belowD (Below.refl _ _) 1
          have hdz : wr.heap.size ≤ wr.drew.heap.size := Nat.le_refl _
          generalize wr.drew = Wd at hS hD hdz ⊢
          refine wpAnyH_take (i := 0) (v := .pointer (some ⟨w.heap.size, 1, none⟩)) rfl (by kernel_rfl) (by kernel_rfl) (by kernel_rfl) (fun _ _ _ h => h) (Or.inl ⟨by rfl, fun w _ => by go_simp⟩) hS ?_
          refine wpAnyH_take (i := 1) (v := .slice (some ⟨b, off, none⟩) p.U.length p.uc) rfl (by kernel_rfl) (by kernel_rfl) (by kernel_rfl) (fun _ _ _ h => h) (Or.inl ⟨by rfl, fun W h => by have h0 := h.1.c 1 rfl; rw [unhide HEX] at h0; go_simp⟩) hS ?_
          go_simp
          refine wpAnyH_take (i := 2) (v := .int .i64 (k : Int)) rfl (by kernel_rfl) (by kernel_rfl) (by kernel_rfl) (fun _ _ _ h => h) (Or.inl ⟨by rfl, fun w _ => by go_simp⟩) hS ?_
          refine wpAnyH_take (i := 3) (v := .pointer (some ⟨b, off + k * 7, none⟩)) rfl (by kernel_rfl) (by kernel_rfl) (by kernel_rfl) (fun _ _ _ h => h) (Or.inl ⟨by rfl, fun w _ => by go_simp⟩) hS ?_
          go_simp
          refine wpAnyH_take (i := 4) (v := .agg #[.int .i64 x.pl, .string x.nm, .string x.of, .slice x.pa x.ps.length x.pc, .slice x.ba x.bs.length x.bc, .int .u8 (x.res : Int), .int .i64 x.lo]) rfl (by kernel_rfl) (by kernel_rfl) (by kernel_rfl) (fun _ _ _ h => h) (yieldsIf_load_mid (by rfl) 37 _ rfl b (off + k * 7) rfl (fuC x) _ (fun _ h => h.2.2.1) Try.underlying37 rfl (by kernel_rfl)) hS ?_
          refine wpAnyH_take (i := 5) (v := .pointer (some ⟨w.heap.size + 1, 1, none⟩)) rfl (by kernel_rfl) (by kernel_rfl) (by kernel_rfl) (fun _ _ _ h => h) (Or.inl ⟨by rfl, fun w _ => by go_simp⟩) hS ?_
          refine wpAnyH_take (i := 6) (v := .slice (some ⟨b', off', none⟩) q.U.length q.uc) rfl (by kernel_rfl) (by kernel_rfl) (by kernel_rfl) (fun _ _ _ h => h) (Or.inl ⟨by rfl, fun W h => by have h0 := h.2.1.c 1 rfl; rw [unhide HEY] at h0; go_simp⟩) hS ?_
          go_simp
          refine wpAnyH_take (i := 7) (v := .int .i64 (k : Int)) rfl (by kernel_rfl) (by kernel_rfl) (by kernel_rfl) (fun _ _ _ h => h) (Or.inl ⟨by rfl, fun w _ => by go_simp⟩) hS ?_
          refine wpAnyH_take (i := 8) (v := .pointer (some ⟨b', off' + k * 7, none⟩)) rfl (by kernel_rfl) (by kernel_rfl) (by kernel_rfl) (fun _ _ _ h => h) (Or.inl ⟨by rfl, fun w _ => by go_simp⟩) hS ?_
          go_simp
          refine wpAnyH_take (i := 9) (v := .agg #[.int .i64 y.pl, .string y.nm, .string y.of, .slice y.pa y.ps.length y.pc, .slice y.ba y.bs.length y.bc, .int .u8 (y.res : Int), .int .i64 y.lo]) rfl (by kernel_rfl) (by kernel_rfl) (by kernel_rfl) (fun _ _ _ h => h) (yieldsIf_load_mid (by rfl) 37 _ rfl b' (off' + k * 7) rfl (fuC y) _ (fun _ h => h.2.2.2) Try.underlying37 rfl (by kernel_rfl)) hS ?_
          have HSB := hide (fun W (hW : Below wr.heap.size wr W) => (And.intro ((unhide HP1).below hW) (And.intro ((unhide HP2).below hW) (And.intro (range_below hra hW) (range_below hrb hW)))))
          refine wpAnyH_ready (rs := [10, 11]) (by kernel_rfl) (by simp) ?_
          refine AllReadyH.cons rfl (fun K hK => ?_) (AllReadyH.cons rfl (fun K hK => ?_) AllReadyH.nil)
          · go_simp
            have b1 : Below wr.heap.size wr (Wd.alloc (.cells #[.int .i64 0, .string ⟨#[]⟩, .string ⟨#[]⟩, .slice none 0 0, .slice none 0 0, .int .u8 0, .int .i64 0] 37)) := hD.alloc hdz _
            refine hK.out _ _ (unhide HSB _ b1) (fun hS2 => ?_)
            clear hK K
            refine wpAnyH_ready (rs := [11]) (by kernel_rfl) (by simp) ?_
            refine AllReadyH.cons rfl (fun K hK => ?_) AllReadyH.nil
            go_simp
            have b2 : Below wr.heap.size wr ((Wd.alloc (.cells #[.int .i64 0, .string ⟨#[]⟩, .string ⟨#[]⟩, .slice none 0 0, .slice none 0 0, .int .u8 0, .int .i64 0] 37)).alloc (.cells #[.int .i64 0, .string ⟨#[]⟩, .string ⟨#[]⟩, .slice none 0 0, .slice none 0 0, .int .u8 0, .int .i64 0] 37)) := b1.alloc (by simp; omega) _
            refine hK.out _ _ (unhide HSB _ b2) (fun hS3 => ?_)
            clear hK K
            have z1 : Bx ((Wd.alloc (.cells #[.int .i64 0, .string ⟨#[]⟩, .string ⟨#[]⟩, .slice none 0 0, .slice none 0 0, .int .u8 0, .int .i64 0] 37)).alloc (.cells #[.int .i64 0, .string ⟨#[]⟩, .string ⟨#[]⟩, .slice none 0 0, .slice none 0 0, .int .u8 0, .int .i64 0] 37)) Wd.heap.size 37 #[.int .i64 0, .string ⟨#[]⟩, .string ⟨#[]⟩, .slice none 0 0, .slice none 0 0, .int .u8 0, .int .i64 0] := (((Below.refl _ _).alloc (Nat.le_refl _) _).block Wd.heap.size (by simp)).trans (heap_alloc_new Wd _)
            have z2 : Bx ((Wd.alloc (.cells #[.int .i64 0, .string ⟨#[]⟩, .string ⟨#[]⟩, .slice none 0 0, .slice none 0 0, .int .u8 0, .int .i64 0] 37)).alloc (.cells #[.int .i64 0, .string ⟨#[]⟩, .string ⟨#[]⟩, .slice none 0 0, .slice none 0 0, .int .u8 0, .int .i64 0] 37)) (Wd.heap.size + 1) 37 #[.int .i64 0, .string ⟨#[]⟩, .string ⟨#[]⟩, .slice none 0 0, .slice none 0 0, .int .u8 0, .int .i64 0] := by have := heap_alloc_new (Wd.alloc (.cells #[.int .i64 0, .string ⟨#[]⟩, .string ⟨#[]⟩, .slice none 0 0, .slice none 0 0, .int .u8 0, .int .i64 0] 37)) (.cells #[.int .i64 0, .string ⟨#[]⟩, .string ⟨#[]⟩, .slice none 0 0, .slice none 0 0, .int .u8 0, .int .i64 0] 37); rw [World.size_alloc] at this; exact this
            generalize ((Wd.alloc (.cells #[.int .i64 0, .string ⟨#[]⟩, .string ⟨#[]⟩, .slice none 0 0, .slice none 0 0, .int .u8 0, .int .i64 0] 37)).alloc (.cells #[.int .i64 0, .string ⟨#[]⟩, .string ⟨#[]⟩, .slice none 0 0, .slice none 0 0, .int .u8 0, .int .i64 0] 37)) = W2 at b2 z1 z2 hS3 ⊢
            generalize hgg : Wd.heap.size = g at z1 z2 ⊢
            have hge : wr.heap.size ≤ g := by omega
            clear hgg
            refine wpAnyH_ready (rs := [12]) (by kernel_rfl) (by simp) ?_
            refine AllReadyH.cons rfl (fun K hK => ?_) AllReadyH.nil
            rw [if_pos (by rfl)]
            refine wp_store_row 37 _ _ rfl g #[.int .i64 x.pl, .string x.nm, .string x.of, .slice x.pa x.ps.length x.pc, .slice x.ba x.bs.length x.bc, .int .u8 (x.res : Int), .int .i64 x.lo] rfl rfl 37 #[.int .i64 0, .string ⟨#[]⟩, .string ⟨#[]⟩, .slice none 0 0, .slice none 0 0, .int .u8 0, .int .i64 0] z1 (by kernel_rfl) rfl (by simp [Value.oneCell']) ?_
            have b3 : Below wr.heap.size wr (W2.setRow g #[.int .i64 x.pl, .string x.nm, .string x.of, .slice x.pa x.ps.length x.pc, .slice x.ba x.bs.length x.bc, .int .u8 (x.res : Int), .int .i64 x.lo]) := below_setRow' b2 (by omega) _
            refine hK.out _ _ (unhide HSB _ b3) (fun hS4 => ?_)
            clear hK K
            have y1 : Bx (W2.setRow g #[.int .i64 x.pl, .string x.nm, .string x.of, .slice x.pa x.ps.length x.pc, .slice x.ba x.bs.length x.bc, .int .u8 (x.res : Int), .int .i64 x.lo]) g 37 #[.int .i64 x.pl, .string x.nm, .string x.of, .slice x.pa x.ps.length x.pc, .slice x.ba x.bs.length x.bc, .int .u8 (x.res : Int), .int .i64 x.lo] := setRow_heap _ _ _ _ _ _ z1
            have y2 : Bx (W2.setRow g #[.int .i64 x.pl, .string x.nm, .string x.of, .slice x.pa x.ps.length x.pc, .slice x.ba x.bs.length x.bc, .int .u8 (x.res : Int), .int .i64 x.lo]) (g + 1) 37 #[.int .i64 0, .string ⟨#[]⟩, .string ⟨#[]⟩, .slice none 0 0, .slice none 0 0, .int .u8 0, .int .i64 0] := (setRow_other W2 g (g + 1) _ (by omega)).trans z2
            generalize W2.setRow g #[.int .i64 x.pl, .string x.nm, .string x.of, .slice x.pa x.ps.length x.pc, .slice x.ba x.bs.length x.bc, .int .u8 (x.res : Int), .int .i64 x.lo] = W3 at b3 y1 y2 hS4 ⊢
            refine wpAnyH_ready (rs := [13]) (by kernel_rfl) (by simp) ?_
            refine AllReadyH.cons rfl (fun K hK => ?_) AllReadyH.nil
            rw [if_pos (by rfl)]
            refine wp_store_row 37 _ _ rfl (g + 1) #[.int .i64 y.pl, .string y.nm, .string y.of, .slice y.pa y.ps.length y.pc, .slice y.ba y.bs.length y.bc, .int .u8 (y.res : Int), .int .i64 y.lo] rfl rfl 37 #[.int .i64 0, .string ⟨#[]⟩, .string ⟨#[]⟩, .slice none 0 0, .slice none 0 0, .int .u8 0, .int .i64 0] y2 (by kernel_rfl) rfl (by simp [Value.oneCell']) ?_
            have b4 : Below wr.heap.size wr (W3.setRow (g + 1) #[.int .i64 y.pl, .string y.nm, .string y.of, .slice y.pa y.ps.length y.pc, .slice y.ba y.bs.length y.bc, .int .u8 (y.res : Int), .int .i64 y.lo]) := below_setRow' b3 (by omega) _
            refine hK.out _ _ (unhide HSB _ b4) (fun hS5 => ?_)
            clear hK K
            refine wpAnyH_done (by kernel_rfl) ?_ _
            go_wp2_with fail
            go_meet
            exact ⟨g, (g + 1), rfl, rfl, hide ((setRow_other W3 (g + 1) g _ (by omega)).trans y1), hide (setRow_heap _ _ _ _ _ _ y2), hide b4⟩
          · go_simp
            have b1 : Below wr.heap.size wr (Wd.alloc (.cells #[.int .i64 0, .string ⟨#[]⟩, .string ⟨#[]⟩, .slice none 0 0, .slice none 0 0, .int .u8 0, .int .i64 0] 37)) := hD.alloc hdz _
            refine hK.out _ _ (unhide HSB _ b1) (fun hS2 => ?_)
            clear hK K
            refine wpAnyH_ready (rs := [10]) (by kernel_rfl) (by simp) ?_
            refine AllReadyH.cons rfl (fun K hK => ?_) AllReadyH.nil
            go_simp
            have b2 : Below wr.heap.size wr ((Wd.alloc (.cells #[.int .i64 0, .string ⟨#[]⟩, .string ⟨#[]⟩, .slice none 0 0, .slice none 0 0, .int .u8 0, .int .i64 0] 37)).alloc (.cells #[.int .i64 0, .string ⟨#[]⟩, .string ⟨#[]⟩, .slice none 0 0, .slice none 0 0, .int .u8 0, .int .i64 0] 37)) := b1.alloc (by simp; omega) _
            refine hK.out _ _ (unhide HSB _ b2) (fun hS3 => ?_)
            clear hK K
            have z1 : Bx ((Wd.alloc (.cells #[.int .i64 0, .string ⟨#[]⟩, .string ⟨#[]⟩, .slice none 0 0, .slice none 0 0, .int .u8 0, .int .i64 0] 37)).alloc (.cells #[.int .i64 0, .string ⟨#[]⟩, .string ⟨#[]⟩, .slice none 0 0, .slice none 0 0, .int .u8 0, .int .i64 0] 37)) Wd.heap.size 37 #[.int .i64 0, .string ⟨#[]⟩, .string ⟨#[]⟩, .slice none 0 0, .slice none 0 0, .int .u8 0, .int .i64 0] := (((Below.refl _ _).alloc (Nat.le_refl _) _).block Wd.heap.size (by simp)).trans (heap_alloc_new Wd _)
            have z2 : Bx ((Wd.alloc (.cells #[.int .i64 0, .string ⟨#[]⟩, .string ⟨#[]⟩, .slice none 0 0, .slice none 0 0, .int .u8 0, .int .i64 0] 37)).alloc (.cells #[.int .i64 0, .string ⟨#[]⟩, .string ⟨#[]⟩, .slice none 0 0, .slice none 0 0, .int .u8 0, .int .i64 0] 37)) (Wd.heap.size + 1) 37 #[.int .i64 0, .string ⟨#[]⟩, .string ⟨#[]⟩, .slice none 0 0, .slice none 0 0, .int .u8 0, .int .i64 0] := by have := heap_alloc_new (Wd.alloc (.cells #[.int .i64 0, .string ⟨#[]⟩, .string ⟨#[]⟩, .slice none 0 0, .slice none 0 0, .int .u8 0, .int .i64 0] 37)) (.cells #[.int .i64 0, .string ⟨#[]⟩, .string ⟨#[]⟩, .slice none 0 0, .slice none 0 0, .int .u8 0, .int .i64 0] 37); rw [World.size_alloc] at this; exact this
            generalize ((Wd.alloc (.cells #[.int .i64 0, .string ⟨#[]⟩, .string ⟨#[]⟩, .slice none 0 0, .slice none 0 0, .int .u8 0, .int .i64 0] 37)).alloc (.cells #[.int .i64 0, .string ⟨#[]⟩, .string ⟨#[]⟩, .slice none 0 0, .slice none 0 0, .int .u8 0, .int .i64 0] 37)) = W2 at b2 z1 z2 hS3 ⊢
            generalize hgg : Wd.heap.size = g at z1 z2 ⊢
            have hge : wr.heap.size ≤ g := by omega
            clear hgg
            refine wpAnyH_ready (rs := [12]) (by kernel_rfl) (by simp) ?_
            refine AllReadyH.cons rfl (fun K hK => ?_) AllReadyH.nil
            rw [if_pos (by rfl)]
            refine wp_store_row 37 _ _ rfl (g + 1) #[.int .i64 x.pl, .string x.nm, .string x.of, .slice x.pa x.ps.length x.pc, .slice x.ba x.bs.length x.bc, .int .u8 (x.res : Int), .int .i64 x.lo] rfl rfl 37 #[.int .i64 0, .string ⟨#[]⟩, .string ⟨#[]⟩, .slice none 0 0, .slice none 0 0, .int .u8 0, .int .i64 0] z2 (by kernel_rfl) rfl (by simp [Value.oneCell']) ?_
            have b3 : Below wr.heap.size wr (W2.setRow (g + 1) #[.int .i64 x.pl, .string x.nm, .string x.of, .slice x.pa x.ps.length x.pc, .slice x.ba x.bs.length x.bc, .int .u8 (x.res : Int), .int .i64 x.lo]) := below_setRow' b2 (by omega) _
            refine hK.out _ _ (unhide HSB _ b3) (fun hS4 => ?_)
            clear hK K
            have y1 : Bx (W2.setRow (g + 1) #[.int .i64 x.pl, .string x.nm, .string x.of, .slice x.pa x.ps.length x.pc, .slice x.ba x.bs.length x.bc, .int .u8 (x.res : Int), .int .i64 x.lo]) (g + 1) 37 #[.int .i64 x.pl, .string x.nm, .string x.of, .slice x.pa x.ps.length x.pc, .slice x.ba x.bs.length x.bc, .int .u8 (x.res : Int), .int .i64 x.lo] := setRow_heap _ _ _ _ _ _ z2
            have y2 : Bx (W2.setRow (g + 1) #[.int .i64 x.pl, .string x.nm, .string x.of, .slice x.pa x.ps.length x.pc, .slice x.ba x.bs.length x.bc, .int .u8 (x.res : Int), .int .i64 x.lo]) g 37 #[.int .i64 0, .string ⟨#[]⟩, .string ⟨#[]⟩, .slice none 0 0, .slice none 0 0, .int .u8 0, .int .i64 0] := (setRow_other W2 (g + 1) g _ (by omega)).trans z1
            generalize W2.setRow (g + 1) #[.int .i64 x.pl, .string x.nm, .string x.of, .slice x.pa x.ps.length x.pc, .slice x.ba x.bs.length x.bc, .int .u8 (x.res : Int), .int .i64 x.lo] = W3 at b3 y1 y2 hS4 ⊢
            refine wpAnyH_ready (rs := [13]) (by kernel_rfl) (by simp) ?_
            refine AllReadyH.cons rfl (fun K hK => ?_) AllReadyH.nil
            rw [if_pos (by rfl)]
            refine wp_store_row 37 _ _ rfl g #[.int .i64 y.pl, .string y.nm, .string y.of, .slice y.pa y.ps.length y.pc, .slice y.ba y.bs.length y.bc, .int .u8 (y.res : Int), .int .i64 y.lo] rfl rfl 37 #[.int .i64 0, .string ⟨#[]⟩, .string ⟨#[]⟩, .slice none 0 0, .slice none 0 0, .int .u8 0, .int .i64 0] y2 (by kernel_rfl) rfl (by simp [Value.oneCell']) ?_
            have b4 : Below wr.heap.size wr (W3.setRow g #[.int .i64 y.pl, .string y.nm, .string y.of, .slice y.pa y.ps.length y.pc, .slice y.ba y.bs.length y.bc, .int .u8 (y.res : Int), .int .i64 y.lo]) := below_setRow' b3 (by omega) _
            refine hK.out _ _ (unhide HSB _ b4) (fun hS5 => ?_)
            clear hK K
            refine wpAnyH_done (by kernel_rfl) ?_ _
            go_wp2_with fail
            go_meet
            exact ⟨(g + 1), g, rfl, rfl, hide ((setRow_other W3 g (g + 1) _ (by omega)).trans y1), hide (setRow_heap _ _ _ _ _ _ y2), hide b4⟩
        case rest =>
          obtain ⟨g1, g2, rfl, rfl, HG1, HG2, HBx⟩ := hcut
          clear hra hrb
          have HXX := hide ((fuN n).below (unhide HXA) (unhide HBx))
          have HYY := hide ((fuN n).below (unhide HYA) (unhide HBx))
          have HQq1 : Hid (eqU n x y = ((x.nm.toList == y.nm.toList) && (x.of.toList == y.of.toList) && twoB eqP x.ps y.ps && twoB (eqS n) x.bs y.bs)) := hide (by rfl)
          have k1q1 := (unhide HG1).c 1 rfl
          have m1q1 := (unhide HG2).c 1 rfl
          have k2q1 := (unhide HG1).c 2 rfl
          have m2q1 := (unhide HG2).c 2 rfl
          have k3q1 := (unhide HG1).c 3 rfl
          have m3q1 := (unhide HG2).c 3 rfl
          cases h0q1 : (x.nm.toList == y.nm.toList)
          · have HF : Hid (eqU n x y = false) := hide (by rw [unhide HQq1]; simp [h0q1])
            have HE := hide (unhide HNO (unhide HF))
            have HBe := hide ((unhide HBw).trans ((unhide HBx).mono (unhide HBw).size))
            go_wp2
            go_ret
            exact ⟨ret_bool (unhide HE).symm, unhide HBe⟩
          cases h1q1 : (x.of.toList == y.of.toList)
          · have HF : Hid (eqU n x y = false) := hide (by rw [unhide HQq1]; simp [h0q1, h1q1])
            have HE := hide (unhide HNO (unhide HF))
            have HBe := hide ((unhide HBw).trans ((unhide HBx).mono (unhide HBw).size))
            go_wp2
            go_ret
            exact ⟨ret_bool (unhide HE).symm, unhide HBe⟩
          have HE0q1 := hide (refSameParams_any x.pa y.pa x.pc y.pc x.ps y.ps wc (unhide HXX).2.1 (unhide HYY).2.1 (by have := (unhide HXX).1.fitP; omega))
          go_wp2_with fail
          refine (unhide HE0q1).mono ?_
          rintro e V0q1 ⟨rfl, hb0q1⟩
          have HBq1q1 := hide ((unhide HBx).trans (hb0q1.mono (unhide HBx).size))
          have HCa1q1 := hide ((unhide HG1).below hb0q1)
          have HCb1q1 := hide ((unhide HG2).below hb0q1)
          have HXq1q1 := hide ((fuN n).below (unhide HXX) hb0q1)
          have HYq1q1 := hide ((fuN n).below (unhide HYY) hb0q1)
          clear k1q1 m1q1 k2q1 m2q1 k3q1 m3q1 HBx HG1 HG2 HXX HYY HE0q1 hb0q1
          cases hs0q1 : twoB eqP x.ps y.ps
          · have HF : Hid (eqU n x y = false) := hide (by rw [unhide HQq1]; simp [h0q1, h1q1, hs0q1])
            clear hs0q1
            have HE := hide (unhide HNO (unhide HF))
            have HBe := hide ((unhide HBw).trans ((unhide HBq1q1).mono (unhide HBw).size))
            go_wp2
            go_ret
            exact ⟨ret_bool (unhide HE).symm, unhide HBe⟩
          have HS0q1 := hide hs0q1
          clear hs0q1
          have k4q1 := (unhide HCa1q1).c 4 rfl
          have m4q1 := (unhide HCb1q1).c 4 rfl
          have HE1q1 := hide (refSameStmts_any n x.ba y.ba x.bc y.bc x.bs y.bs V0q1 (unhide HXq1q1).2.2 (unhide HYq1q1).2.2 (by have := (unhide HXq1q1).1.fitB; omega))
          go_wp2_with fail
          refine (unhide HE1q1).mono ?_
          rintro e V1q1 ⟨rfl, hb1q1⟩
          have HBq2q1 := hide ((unhide HBq1q1).trans (hb1q1.mono (unhide HBq1q1).size))
          have HCa2q1 := hide ((unhide HCa1q1).below hb1q1)
          have HCb2q1 := hide ((unhide HCb1q1).below hb1q1)
          have HXq2q1 := hide ((fuN n).below (unhide HXq1q1) hb1q1)
          have HYq2q1 := hide ((fuN n).below (unhide HYq1q1) hb1q1)
          clear k4q1 m4q1 HBq1q1 HCa1q1 HCb1q1 HXq1q1 HYq1q1 HE1q1 hb1q1
          cases hs1q1 : twoB (eqS n) x.bs y.bs
          · have HF : Hid (eqU n x y = false) := hide (by rw [unhide HQq1]; simp [h0q1, h1q1, unhide HS0q1, hs1q1])
            clear hs1q1
            have HE := hide (unhide HNO (unhide HF))
            have HBe := hide ((unhide HBw).trans ((unhide HBq2q1).mono (unhide HBw).size))
            go_wp2
            go_ret
            exact ⟨ret_bool (unhide HE).symm, unhide HBe⟩
          have HS1q1 := hide hs1q1
          clear hs1q1
          have HT : Hid (eqU n x y = true) := hide (by rw [unhide HQq1]; simp [h0q1, h1q1, unhide HS0q1, unhide HS1q1])
          have HE := hide (unhide HK2 (unhide HT))
          have HBe := hide ((unhide HBr).trans ((unhide HBq2q1).mono (unhide HBr).size))
          go_wp2
          go_roundw
          case rel => exact ⟨k + 1, by omega, by go_num, HE, HBe⟩
          case measure => simp [intOf]; omega
    have i1 : ((k : Nat) : Int) < ((p.R.length : Nat) : Int) := by omega
    have hkT : k < q.R.length := by have := unhide HLR; omega
    have i2 : ((k : Nat) : Int) < ((q.R.length : Nat) : Int) := by omega
    have i0 : (0 : Int) ≤ ((k : Nat) : Int) := by omega
    have hx := List.getElem?_eq_getElem hlt
    have hy := List.getElem?_eq_getElem hkT
    obtain ⟨b, off, ebx, hra, hxa⟩ := (unhide HX3).recs.below (unhide HBr) k _ hx
    obtain ⟨b', off', eby, hrb, hya⟩ := (unhide HY3).recs.below (unhide HBr) k _ hy
    generalize p.R[k] = x at hxa hx hra
    generalize q.R[k]'hkT = y at hya hy hrb
    have hra : wr.rangeAt b (off + k * 4) (rcC x) := hra
    have hrb : wr.rangeAt b' (off' + k * 4) (rcC y) := hrb
    have HNO : Hid (eqR x y = false → eqG n p q = false) := hide (fun e => by rw [unhide HQ, twoB_no hx hy e]; rfl)
    have HK2 : Hid (eqR x y = true → ∀ (j : Nat) a b, j < k + 1 → p.R[j]? = some a → q.R[j]? = some b → eqR a b = true) := hide (fun e j a b h1 h2 h3 => by
      by_cases e' : j = k
      · rw [e', hx] at h2
        rw [e', hy] at h3
        injection h2 with h2
        injection h3 with h3
        rw [← h2, ← h3] <;> exact e
      · exact unhide HK j a b (by omega) h2 h3)
    have HXA := hide hxa
    have HYA := hide hya
    have HEX := hide ebx
    have HEY := hide eby
    clear ebx eby
    have HP1 := hide ((unhide HD1).below (unhide HBr))
    have HP2 := hide ((unhide HD2).below (unhide HBr))
    clear hx hy hxa hya HK
    go_upto_region 6 with fail
    go_cut [6, 7] (fun s1 s2 wx => ∃ g1 g2, s1 = .pointer (some ⟨g1, 0, none⟩) ∧ s2 = .pointer (some ⟨g2, 0, none⟩) ∧ Hid (Bx wx g1 30 #[.int .i64 x.pl, .string x.nm, .string x.par, .slice x.fa x.fs.length x.fc]) ∧ Hid (Bx wx g2 30 #[.int .i64 y.pl, .string y.nm, .string y.par, .slice y.fa y.fs.length y.fc]) ∧ Hid (Below wr.heap.size wr wx))
    case first =>
      have HS0 := hide ((show Bx wr.drew w.heap.size 25 #[.slice p.ra p.R.length p.rc, .slice p.ua p.U.length p.uc] ∧ Bx wr.drew (w.heap.size + 1) 25 #[.slice q.ra q.R.length q.rc, .slice q.ua q.U.length q.uc] ∧ wr.drew.rangeAt b (off + k * 4) (rcC x) ∧ wr.drew.rangeAt b' (off' + k * 4) (rcC y) from ⟨unhide HP1, unhide HP2, hra, hrb⟩))
      refine wp_region_held_drew (S := fun w' => Bx w' w.heap.size 25 #[.slice p.ra p.R.length p.rc, .slice p.ua p.U.length p.uc] ∧ Bx w' (w.heap.size + 1) 25 #[.slice q.ra q.R.length q.rc, .slice q.ua q.U.length q.uc] ∧ w'.rangeAt b (off + k * 4) (rcC x) ∧ w'.rangeAt b' (off' + k * 4) (rcC y)) (by kernel_rfl) (unhide HS0) (fun hS => ?_)
      have hD : Below wr.heap.size wr wr.drew := belowD (Below.refl _ _) 1
      have hdz : wr.heap.size ≤ wr.drew.heap.size := Nat.le_refl _
      generalize wr.drew = Wd at hS hD hdz ⊢
      refine wpAnyH_take (i := 0) (v := .pointer (some ⟨w.heap.size, 0, none⟩)) rfl (by kernel_rfl) (by kernel_rfl) (by kernel_rfl) (fun _ _ _ h => h) (Or.inl ⟨by rfl, fun w _ => by go_simp⟩) hS ?_
      refine wpAnyH_take (i := 1) (v := .slice (some ⟨b, off, none⟩) p.R.length p.rc) rfl (by kernel_rfl) (by kernel_rfl) (by kernel_rfl) (fun _ _ _ h => h) (Or.inl ⟨by rfl, fun W h => by have h0 := h.1.c 0 rfl; rw [unhide HEX] at h0; go_simp⟩) hS ?_
      go_simp
      refine wpAnyH_take (i := 2) (v := .int .i64 (k : Int)) rfl (by kernel_rfl) (by kernel_rfl) (by kernel_rfl) (fun _ _ _ h => h) (Or.inl ⟨by rfl, fun w _ => by go_simp⟩) hS ?_
      refine wpAnyH_take (i := 3) (v := .pointer (some ⟨b, off + k * 4, none⟩)) rfl (by kernel_rfl) (by kernel_rfl) (by kernel_rfl) (fun _ _ _ h => h) (Or.inl ⟨by rfl, fun w _ => by go_simp⟩) hS ?_
      go_simp
      refine wpAnyH_take (i := 4) (v := .agg #[.int .i64 x.pl, .string x.nm, .string x.par, .slice x.fa x.fs.length x.fc]) rfl (by kernel_rfl) (by kernel_rfl) (by kernel_rfl) (fun _ _ _ h => h) (yieldsIf_load_mid (by rfl) 30 _ rfl b (off + k * 4) rfl (rcC x) _ (fun _ h => h.2.2.1) Try.underlying30 rfl (by kernel_rfl)) hS ?_
      refine wpAnyH_take (i := 5) (v := .pointer (some ⟨w.heap.size + 1, 0, none⟩)) rfl (by kernel_rfl) (by kernel_rfl) (by kernel_rfl) (fun _ _ _ h => h) (Or.inl ⟨by rfl, fun w _ => by go_simp⟩) hS ?_
      refine wpAnyH_take (i := 6) (v := .slice (some ⟨b', off', none⟩) q.R.length q.rc) rfl (by kernel_rfl) (by kernel_rfl) (by kernel_rfl) (fun _ _ _ h => h) (Or.inl ⟨by rfl, fun W h => by have h0 := h.2.1.c 0 rfl; rw [unhide HEY] at h0; go_simp⟩) hS ?_
      go_simp
      refine wpAnyH_take (i := 7) (v := .int .i64 (k : Int)) rfl (by kernel_rfl) (by kernel_rfl) (by kernel_rfl) (fun _ _ _ h => h) (Or.inl ⟨by rfl, fun w _ => by go_simp⟩) hS ?_
      refine wpAnyH_take (i := 8) (v := .pointer (some ⟨b', off' + k * 4, none⟩)) rfl (by kernel_rfl) (by kernel_rfl) (by kernel_rfl) (fun _ _ _ h => h) (Or.inl ⟨by rfl, fun w _ => by go_simp⟩) hS ?_
      go_simp
      refine wpAnyH_take (i := 9) (v := .agg #[.int .i64 y.pl, .string y.nm, .string y.par, .slice y.fa y.fs.length y.fc]) rfl (by kernel_rfl) (by kernel_rfl) (by kernel_rfl) (fun _ _ _ h => h) (yieldsIf_load_mid (by rfl) 30 _ rfl b' (off' + k * 4) rfl (rcC y) _ (fun _ h => h.2.2.2) Try.underlying30 rfl (by kernel_rfl)) hS ?_
      have HSB := hide (fun W (hW : Below wr.heap.size wr W) => (And.intro ((unhide HP1).below hW) (And.intro ((unhide HP2).below hW) (And.intro (range_below hra hW) (range_below hrb hW)))))
      refine wpAnyH_ready (rs := [10, 11]) (by kernel_rfl) (by simp) ?_
      refine AllReadyH.cons rfl (fun K hK => ?_) (AllReadyH.cons rfl (fun K hK => ?_) AllReadyH.nil)
      · go_simp
        have b1 : Below wr.heap.size wr (Wd.alloc (.cells #[.int .i64 0, .string ⟨#[]⟩, .string ⟨#[]⟩, .slice none 0 0] 30)) := hD.alloc hdz _
        refine hK.out _ _ (unhide HSB _ b1) (fun hS2 => ?_)
        clear hK K
        refine wpAnyH_ready (rs := [11]) (by kernel_rfl) (by simp) ?_
        refine AllReadyH.cons rfl (fun K hK => ?_) AllReadyH.nil
        go_simp
        have b2 : Below wr.heap.size wr ((Wd.alloc (.cells #[.int .i64 0, .string ⟨#[]⟩, .string ⟨#[]⟩, .slice none 0 0] 30)).alloc (.cells #[.int .i64 0, .string ⟨#[]⟩, .string ⟨#[]⟩, .slice none 0 0] 30)) := b1.alloc (by simp; omega) _
        refine hK.out _ _ (unhide HSB _ b2) (fun hS3 => ?_)
        clear hK K
        have z1 : Bx ((Wd.alloc (.cells #[.int .i64 0, .string ⟨#[]⟩, .string ⟨#[]⟩, .slice none 0 0] 30)).alloc (.cells #[.int .i64 0, .string ⟨#[]⟩, .string ⟨#[]⟩, .slice none 0 0] 30)) Wd.heap.size 30 #[.int .i64 0, .string ⟨#[]⟩, .string ⟨#[]⟩, .slice none 0 0] := (((Below.refl _ _).alloc (Nat.le_refl _) _).block Wd.heap.size (by simp)).trans (heap_alloc_new Wd _)
        have z2 : Bx ((Wd.alloc (.cells #[.int .i64 0, .string ⟨#[]⟩, .string ⟨#[]⟩, .slice none 0 0] 30)).alloc (.cells #[.int .i64 0, .string ⟨#[]⟩, .string ⟨#[]⟩, .slice none 0 0] 30)) (Wd.heap.size + 1) 30 #[.int .i64 0, .string ⟨#[]⟩, .string ⟨#[]⟩, .slice none 0 0] := by have := heap_alloc_new (Wd.alloc (.cells #[.int .i64 0, .string ⟨#[]⟩, .string ⟨#[]⟩, .slice none 0 0] 30)) (.cells #[.int .i64 0, .string ⟨#[]⟩, .string ⟨#[]⟩, .slice none 0 0] 30); rw [World.size_alloc] at this; exact this
        generalize ((Wd.alloc (.cells #[.int .i64 0, .string ⟨#[]⟩, .string ⟨#[]⟩, .slice none 0 0] 30)).alloc (.cells #[.int .i64 0, .string ⟨#[]⟩, .string ⟨#[]⟩, .slice none 0 0] 30)) = W2 at b2 z1 z2 hS3 ⊢
        generalize hgg : Wd.heap.size = g at z1 z2 ⊢
        have hge : wr.heap.size ≤ g := by omega
        clear hgg
        refine wpAnyH_ready (rs := [12]) (by kernel_rfl) (by simp) ?_
        refine AllReadyH.cons rfl (fun K hK => ?_) AllReadyH.nil
        rw [if_pos (by rfl)]
        refine wp_store_row 30 _ _ rfl g #[.int .i64 x.pl, .string x.nm, .string x.par, .slice x.fa x.fs.length x.fc] rfl rfl 30 #[.int .i64 0, .string ⟨#[]⟩, .string ⟨#[]⟩, .slice none 0 0] z1 (by kernel_rfl) rfl (by simp [Value.oneCell']) ?_
        have b3 : Below wr.heap.size wr (W2.setRow g #[.int .i64 x.pl, .string x.nm, .string x.par, .slice x.fa x.fs.length x.fc]) := below_setRow' b2 (by omega) _
        refine hK.out _ _ (unhide HSB _ b3) (fun hS4 => ?_)
        clear hK K
        have y1 : Bx (W2.setRow g #[.int .i64 x.pl, .string x.nm, .string x.par, .slice x.fa x.fs.length x.fc]) g 30 #[.int .i64 x.pl, .string x.nm, .string x.par, .slice x.fa x.fs.length x.fc] := setRow_heap _ _ _ _ _ _ z1
        have y2 : Bx (W2.setRow g #[.int .i64 x.pl, .string x.nm, .string x.par, .slice x.fa x.fs.length x.fc]) (g + 1) 30 #[.int .i64 0, .string ⟨#[]⟩, .string ⟨#[]⟩, .slice none 0 0] := (setRow_other W2 g (g + 1) _ (by omega)).trans z2
        generalize W2.setRow g #[.int .i64 x.pl, .string x.nm, .string x.par, .slice x.fa x.fs.length x.fc] = W3 at b3 y1 y2 hS4 ⊢
        refine wpAnyH_ready (rs := [13]) (by kernel_rfl) (by simp) ?_
        refine AllReadyH.cons rfl (fun K hK => ?_) AllReadyH.nil
        rw [if_pos (by rfl)]
        refine wp_store_row 30 _ _ rfl (g + 1) #[.int .i64 y.pl, .string y.nm, .string y.par, .slice y.fa y.fs.length y.fc] rfl rfl 30 #[.int .i64 0, .string ⟨#[]⟩, .string ⟨#[]⟩, .slice none 0 0] y2 (by kernel_rfl) rfl (by simp [Value.oneCell']) ?_
        have b4 : Below wr.heap.size wr (W3.setRow (g + 1) #[.int .i64 y.pl, .string y.nm, .string y.par, .slice y.fa y.fs.length y.fc]) := below_setRow' b3 (by omega) _
        refine hK.out _ _ (unhide HSB _ b4) (fun hS5 => ?_)
        clear hK K
        refine wpAnyH_done (by kernel_rfl) ?_ _
        go_wp2_with fail
        go_meet
        exact ⟨g, (g + 1), rfl, rfl, hide ((setRow_other W3 (g + 1) g _ (by omega)).trans y1), hide (setRow_heap _ _ _ _ _ _ y2), hide b4⟩
      · go_simp
        have b1 : Below wr.heap.size wr (Wd.alloc (.cells #[.int .i64 0, .string ⟨#[]⟩, .string ⟨#[]⟩, .slice none 0 0] 30)) := hD.alloc hdz _
        refine hK.out _ _ (unhide HSB _ b1) (fun hS2 => ?_)
        clear hK K
        refine wpAnyH_ready (rs := [10]) (by kernel_rfl) (by simp) ?_
        refine AllReadyH.cons rfl (fun K hK => ?_) AllReadyH.nil
        go_simp
        have b2 : Below wr.heap.size wr ((Wd.alloc (.cells #[.int .i64 0, .string ⟨#[]⟩, .string ⟨#[]⟩, .slice none 0 0] 30)).alloc (.cells #[.int .i64 0, .string ⟨#[]⟩, .string ⟨#[]⟩, .slice none 0 0] 30)) := b1.alloc (by simp; omega) _
        refine hK.out _ _ (unhide HSB _ b2) (fun hS3 => ?_)
        clear hK K
        have z1 : Bx ((Wd.alloc (.cells #[.int .i64 0, .string ⟨#[]⟩, .string ⟨#[]⟩, .slice none 0 0] 30)).alloc (.cells #[.int .i64 0, .string ⟨#[]⟩, .string ⟨#[]⟩, .slice none 0 0] 30)) Wd.heap.size 30 #[.int .i64 0, .string ⟨#[]⟩, .string ⟨#[]⟩, .slice none 0 0] := (((Below.refl _ _).alloc (Nat.le_refl _) _).block Wd.heap.size (by simp)).trans (heap_alloc_new Wd _)
        have z2 : Bx ((Wd.alloc (.cells #[.int .i64 0, .string ⟨#[]⟩, .string ⟨#[]⟩, .slice none 0 0] 30)).alloc (.cells #[.int .i64 0, .string ⟨#[]⟩, .string ⟨#[]⟩, .slice none 0 0] 30)) (Wd.heap.size + 1) 30 #[.int .i64 0, .string ⟨#[]⟩, .string ⟨#[]⟩, .slice none 0 0] := by have := heap_alloc_new (Wd.alloc (.cells #[.int .i64 0, .string ⟨#[]⟩, .string ⟨#[]⟩, .slice none 0 0] 30)) (.cells #[.int .i64 0, .string ⟨#[]⟩, .string ⟨#[]⟩, .slice none 0 0] 30); rw [World.size_alloc] at this; exact this
        generalize ((Wd.alloc (.cells #[.int .i64 0, .string ⟨#[]⟩, .string ⟨#[]⟩, .slice none 0 0] 30)).alloc (.cells #[.int .i64 0, .string ⟨#[]⟩, .string ⟨#[]⟩, .slice none 0 0] 30)) = W2 at b2 z1 z2 hS3 ⊢
        generalize hgg : Wd.heap.size = g at z1 z2 ⊢
        have hge : wr.heap.size ≤ g := by omega
        clear hgg
        refine wpAnyH_ready (rs := [12]) (by kernel_rfl) (by simp) ?_
        refine AllReadyH.cons rfl (fun K hK => ?_) AllReadyH.nil
        rw [if_pos (by rfl)]
        refine wp_store_row 30 _ _ rfl (g + 1) #[.int .i64 x.pl, .string x.nm, .string x.par, .slice x.fa x.fs.length x.fc] rfl rfl 30 #[.int .i64 0, .string ⟨#[]⟩, .string ⟨#[]⟩, .slice none 0 0] z2 (by kernel_rfl) rfl (by simp [Value.oneCell']) ?_
        have b3 : Below wr.heap.size wr (W2.setRow (g + 1) #[.int .i64 x.pl, .string x.nm, .string x.par, .slice x.fa x.fs.length x.fc]) := below_setRow' b2 (by omega) _
        refine hK.out _ _ (unhide HSB _ b3) (fun hS4 => ?_)
        clear hK K
        have y1 : Bx (W2.setRow (g + 1) #[.int .i64 x.pl, .string x.nm, .string x.par, .slice x.fa x.fs.length x.fc]) (g + 1) 30 #[.int .i64 x.pl, .string x.nm, .string x.par, .slice x.fa x.fs.length x.fc] := setRow_heap _ _ _ _ _ _ z2
        have y2 : Bx (W2.setRow (g + 1) #[.int .i64 x.pl, .string x.nm, .string x.par, .slice x.fa x.fs.length x.fc]) g 30 #[.int .i64 0, .string ⟨#[]⟩, .string ⟨#[]⟩, .slice none 0 0] := (setRow_other W2 (g + 1) g _ (by omega)).trans z1
        generalize W2.setRow (g + 1) #[.int .i64 x.pl, .string x.nm, .string x.par, .slice x.fa x.fs.length x.fc] = W3 at b3 y1 y2 hS4 ⊢
        refine wpAnyH_ready (rs := [13]) (by kernel_rfl) (by simp) ?_
        refine AllReadyH.cons rfl (fun K hK => ?_) AllReadyH.nil
        rw [if_pos (by rfl)]
        refine wp_store_row 30 _ _ rfl g #[.int .i64 y.pl, .string y.nm, .string y.par, .slice y.fa y.fs.length y.fc] rfl rfl 30 #[.int .i64 0, .string ⟨#[]⟩, .string ⟨#[]⟩, .slice none 0 0] y2 (by kernel_rfl) rfl (by simp [Value.oneCell']) ?_
        have b4 : Below wr.heap.size wr (W3.setRow g #[.int .i64 y.pl, .string y.nm, .string y.par, .slice y.fa y.fs.length y.fc]) := below_setRow' b3 (by omega) _
        refine hK.out _ _ (unhide HSB _ b4) (fun hS5 => ?_)
        clear hK K
        refine wpAnyH_done (by kernel_rfl) ?_ _
        go_wp2_with fail
        go_meet
        exact ⟨(g + 1), g, rfl, rfl, hide ((setRow_other W3 g (g + 1) _ (by omega)).trans y1), hide (setRow_heap _ _ _ _ _ _ y2), hide b4⟩
    case rest =>
      obtain ⟨g1, g2, rfl, rfl, HG1, HG2, HBx⟩ := hcut
      clear hra hrb
      have HXX := hide (rcN.below (unhide HXA) (unhide HBx))
      have HYY := hide (rcN.below (unhide HYA) (unhide HBx))
      have HQq2 : Hid (eqR x y = ((x.nm.toList == y.nm.toList) && (x.par.toList == y.par.toList) && twoB eqP x.fs y.fs)) := hide (by rfl)
      have k1q2 := (unhide HG1).c 1 rfl
      have m1q2 := (unhide HG2).c 1 rfl
      have k2q2 := (unhide HG1).c 2 rfl
      have m2q2 := (unhide HG2).c 2 rfl
      have k3q2 := (unhide HG1).c 3 rfl
      have m3q2 := (unhide HG2).c 3 rfl
      cases h0q2 : (x.nm.toList == y.nm.toList)
      · have HF : Hid (eqR x y = false) := hide (by rw [unhide HQq2]; simp [h0q2])
        have HE := hide (unhide HNO (unhide HF))
        have HBe := hide ((unhide HBw).trans ((unhide HBx).mono (unhide HBw).size))
        go_wp2
        go_ret
        exact ⟨ret_bool (unhide HE).symm, unhide HBe⟩
      cases h1q2 : (x.par.toList == y.par.toList)
      · have HF : Hid (eqR x y = false) := hide (by rw [unhide HQq2]; simp [h0q2, h1q2])
        have HE := hide (unhide HNO (unhide HF))
        have HBe := hide ((unhide HBw).trans ((unhide HBx).mono (unhide HBw).size))
        go_wp2
        go_ret
        exact ⟨ret_bool (unhide HE).symm, unhide HBe⟩
      have HE0q2 := hide (refSameParams_any x.fa y.fa x.fc y.fc x.fs y.fs wc (unhide HXX).2 (unhide HYY).2 (by have := (unhide HXX).1.fit; omega))
      go_wp2_with fail
      refine (unhide HE0q2).mono ?_
      rintro e V0q2 ⟨rfl, hb0q2⟩
      have HBq1q2 := hide ((unhide HBx).trans (hb0q2.mono (unhide HBx).size))
      have HCa1q2 := hide ((unhide HG1).below hb0q2)
      have HCb1q2 := hide ((unhide HG2).below hb0q2)
      have HXq1q2 := hide (rcN.below (unhide HXX) hb0q2)
      have HYq1q2 := hide (rcN.below (unhide HYY) hb0q2)
      clear k1q2 m1q2 k2q2 m2q2 k3q2 m3q2 HBx HG1 HG2 HXX HYY HE0q2 hb0q2
      cases hs0q2 : twoB eqP x.fs y.fs
      · have HF : Hid (eqR x y = false) := hide (by rw [unhide HQq2]; simp [h0q2, h1q2, hs0q2])
        clear hs0q2
        have HE := hide (unhide HNO (unhide HF))
        have HBe := hide ((unhide HBw).trans ((unhide HBq1q2).mono (unhide HBw).size))
        go_wp2
        go_ret
        exact ⟨ret_bool (unhide HE).symm, unhide HBe⟩
      have HS0q2 := hide hs0q2
      clear hs0q2
      have HT : Hid (eqR x y = true) := hide (by rw [unhide HQq2]; simp [h0q2, h1q2, unhide HS0q2])
      have HE := hide (unhide HK2 (unhide HT))
      have HBe := hide ((unhide HBr).trans ((unhide HBq1q2).mono (unhide HBr).size))
      go_wp2
      go_roundw
      case rel => exact ⟨k + 1, by omega, by go_num, HE, HBe⟩
      case measure => simp [intOf]; omega
end Go.Proofs.Ytjccomjgmejnhaa
