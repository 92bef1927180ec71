/-
  provisoplain.SameProgram tells that a program and its copy are the same. Conditions: lengths fit.
-/
import Derived.Test.YtjccomjgmejnhaaKTr8
import Derived.Test.YtjccomjgmejnhaaKTr10
namespace Go.Proofs.Ytjccomjgmejnhaa
open Go.RowKit

set_option maxRecDepth 20000 in
set_option maxHeartbeats 16000000 in
theorem SameProgram_yes (n : Nat) (p q : Pg) (w : World) (hp : PgOk n w p) (hq : PgOk n w q) (hs : sameG n q p) :
    Calls Try.prog 7 #[.agg #[.slice p.ra p.R.length p.rc, .slice p.ua p.U.length p.uc], .agg #[.slice q.ra q.R.length q.rc, .slice q.ua q.U.length q.uc]] w fun e w' => e = .returned (.bool true) ∧ Below w.heap.size w w' := by
  obtain ⟨hsR, hsU⟩ := hs
  rw [hsR.1, hsU.1]
  have al1 := (Below.refl w.heap.size w).alloc (Nat.le_refl _) (.cells #[.slice p.ra q.R.length p.rc, .slice p.ua q.U.length p.uc] 25)
  have al := al1.alloc (by simp) (.cells #[.slice q.ra q.R.length q.rc, .slice q.ua q.U.length q.uc] 25)
  have n1 := heap_alloc_new w (.cells #[.slice p.ra q.R.length p.rc, .slice p.ua q.U.length p.uc] 25)
  have n2 := heap_alloc_new (w.alloc (.cells #[.slice p.ra q.R.length p.rc, .slice p.ua q.U.length p.uc] 25)) (.cells #[.slice q.ra q.R.length q.rc, .slice q.ua q.U.length q.uc] 25)
  rw [World.size_alloc] at n2
  have HB3 := hide al
  have HD1 : Hid (Bx ((w.alloc (.cells #[.slice p.ra q.R.length p.rc, .slice p.ua q.U.length p.uc] 25)).alloc (.cells #[.slice q.ra q.R.length q.rc, .slice q.ua q.U.length q.uc] 25)) w.heap.size 25 #[.slice p.ra q.R.length p.rc, .slice p.ua q.U.length p.uc]) := hide ((((Below.refl _ _).alloc (Nat.le_refl _) _).block w.heap.size (by simp)).trans n1)
  have HD2 : Hid (Bx ((w.alloc (.cells #[.slice p.ra q.R.length p.rc, .slice p.ua q.U.length p.uc] 25)).alloc (.cells #[.slice q.ra q.R.length q.rc, .slice q.ua q.U.length q.uc] 25)) (w.heap.size + 1) 25 #[.slice q.ra q.R.length q.rc, .slice q.ua q.U.length q.uc]) := hide n2
  have HX3 := hide (hp.below al)
  have HY3 := hide (hq.below al)
  have HSR := hide hsR
  have HSU := hide hsU
  have hlR : q.R.length < 9223372036854775000 := by have := hq.fitR; omega
  have hlU : q.U.length < 9223372036854775000 := by have := hq.fitU; omega
  have b1 : (((q.R.length : Nat) : Int) != ((q.R.length : Nat) : Int)) = false := by simp
  have b2 : (((q.U.length : Nat) : Int) != ((q.U.length : Nat) : Int)) = false := by simp
  clear al1 al n1 n2 hp hq hsR hsU
  go_enter Try.func7, Try.ntmps7
  go_upto_region 1 with fail
  generalize ((w.alloc (.cells #[.slice p.ra q.R.length p.rc, .slice p.ua q.U.length p.uc] 25)).alloc (.cells #[.slice q.ra q.R.length q.rc, .slice q.ua q.U.length q.uc] 25)) = W3 at HB3 HD1 HD2 HX3 HY3 ⊢
  have k0 := (unhide HD1).c 0 rfl
  have k1 := (unhide HD1).c 1 rfl
  have m0 := (unhide HD2).c 0 rfl
  have m1 := (unhide HD2).c 1 rfl
  go_wp2_with fail
  clear k0 k1 m0 m1
  go_loopw [30] (fun i wr => ∃ k : Nat, k ≤ q.R.length ∧ i = .int .i64 (k : Int) ∧ Hid (Below W3.heap.size W3 wr)) (fun i _ => q.R.length - (intOf i).toNat)
  case atStart => exact ⟨0, by omega, rfl, hide (Below.refl _ _)⟩
  case round =>
    obtain ⟨k, hk, rfl, HBr⟩ := hrel
    have HBw := hide ((unhide HB3).trans ((unhide HBr).mono (unhide HB3).size))
    by_cases hlt : k < q.R.length
    rotate_left
    · have i1 : ¬ ((k : Nat) : Int) < ((q.R.length : Nat) : Int) := by omega
      have HD1b := hide ((unhide HD1).below (unhide HBr))
      have HD2b := hide ((unhide HD2).below (unhide HBr))
      have HX3b := hide ((unhide HX3).below (unhide HBr))
      have HY3b := hide ((unhide HY3).below (unhide HBr))
      have k1 := (unhide HD1b).c 1 rfl
      go_wp2_with fail
      clear k1 HB3 HD1 HD2 HX3 HY3 HBr
      obtain ⟨W3, HW3⟩ : ∃ x, x = wr := ⟨_, rfl⟩
      subst HW3
      have HB3 := HBw
      have HD1 := HD1b
      have HD2 := HD2b
      have HX3 := HX3b
      have HY3 := HY3b
      clear HBw HD1b HD2b HX3b HY3b
      go_loopw [74] (fun i wr => ∃ k : Nat, k ≤ q.U.length ∧ i = .int .i64 (k : Int) ∧ Hid (Below W3.heap.size W3 wr)) (fun i _ => q.U.length - (intOf i).toNat)
      case atStart => exact ⟨0, by omega, rfl, hide (Below.refl _ _)⟩
      case round =>
        obtain ⟨k, hk, rfl, HBr⟩ := hrel
        have HBw := hide ((unhide HB3).trans ((unhide HBr).mono (unhide HB3).size))
        by_cases hlt : k < q.U.length
        rotate_left
        · have i1 : ¬ ((k : Nat) : Int) < ((q.U.length : Nat) : Int) := by omega
          go_wp2
          go_ret
          exact ⟨rfl, unhide HBw⟩
        have i1 : ((k : Nat) : Int) < ((q.U.length : Nat) : Int) := by omega
        have hkP : k < p.U.length := by rw [(unhide HSU).1]; exact hlt
        have i0 : (0 : Int) ≤ ((k : Nat) : Int) := by omega
        have hx := List.getElem?_eq_getElem hkP
        have hy := List.getElem?_eq_getElem hlt
        have hsk := (unhide HSU).2 k _ _ hy hx
        obtain ⟨b, off, ebx, hra, hxa⟩ := (unhide HX3).funs.below (unhide HBr) k _ hx
        obtain ⟨b', off', eby, hrb, hya⟩ := (unhide HY3).funs.below (unhide HBr) k _ hy
        generalize p.U[k]'hkP = x at hxa hx hra hsk
        generalize q.U[k] = y at hya hy hrb hsk
        have hra : wr.rangeAt b (off + k * 7) (fuC x) := hra
        have hrb : wr.rangeAt b' (off' + k * 7) (fuC y) := hrb
        have HXA := hide hxa
        have HYA := hide hya
        have HSK := hide hsk
        have HEX := hide ebx
        have HEY := hide eby
        have HP1 := hide ((unhide HD1).below (unhide HBr))
        have HP2 := hide ((unhide HD2).below (unhide HBr))
        clear hx hy hxa hya ebx eby hsk
        go_upto_region 13 with fail
        go_cut [9, 10] (fun s1 s2 wx => ∃ g1 g2, s1 = .pointer (some ⟨g1, 0, none⟩) ∧ s2 = .pointer (some ⟨g2, 0, none⟩) ∧ Hid (Bx wx g1 37 #[.int .i64 x.pl, .string x.nm, .string x.of, .slice x.pa x.ps.length x.pc, .slice x.ba x.bs.length x.bc, .int .u8 (x.res : Int), .int .i64 x.lo]) ∧ Hid (Bx wx g2 37 #[.int .i64 y.pl, .string y.nm, .string y.of, .slice y.pa y.ps.length y.pc, .slice y.ba y.bs.length y.bc, .int .u8 (y.res : Int), .int .i64 y.lo]) ∧ Hid (Below wr.heap.size wr wx))
        case first =>
          have HS0 := hide ((show Bx wr.drew w.heap.size 25 #[.slice p.ra q.R.length p.rc, .slice p.ua q.U.length p.uc] ∧ Bx wr.drew (w.heap.size + 1) 25 #[.slice q.ra q.R.length q.rc, .slice q.ua q.U.length q.uc] ∧ wr.drew.rangeAt b (off + k * 7) (fuC x) ∧ wr.drew.rangeAt b' (off' + k * 7) (fuC y) from ⟨unhide HP1, unhide HP2, hra, hrb⟩))
          refine wp_region_held_drew (S := fun w' => Bx w' w.heap.size 25 #[.slice p.ra q.R.length p.rc, .slice p.ua q.U.length p.uc] ∧ Bx w' (w.heap.size + 1) 25 #[.slice q.ra q.R.length q.rc, .slice q.ua q.U.length q.uc] ∧ w'.rangeAt b (off + k * 7) (fuC x) ∧ w'.rangeAt b' (off' + k * 7) (fuC y)) (by kernel_rfl) (unhide HS0) (fun hS => ?_)
          have hD : Below wr.heap.size wr wr.drew := belowD (Below.refl _ _) 1
          have hdz : wr.heap.size ≤ wr.drew.heap.size := Nat.le_refl _
          generalize wr.drew = Wd at hS hD hdz ⊢
          refine wpAnyH_take (i := 0) (v := .pointer (some ⟨w.heap.size, 1, none⟩)) rfl (by kernel_rfl) (by kernel_rfl) (by kernel_rfl) (fun _ _ _ h => h) (Or.inl ⟨by rfl, fun w _ => by go_simp⟩) hS ?_
          refine wpAnyH_take (i := 1) (v := .slice (some ⟨b, off, none⟩) q.U.length p.uc) rfl (by kernel_rfl) (by kernel_rfl) (by kernel_rfl) (fun _ _ _ h => h) (Or.inl ⟨by rfl, fun W h => by have h0 := h.1.c 1 rfl; rw [unhide HEX] at h0; go_simp⟩) hS ?_
          go_simp
          refine wpAnyH_take (i := 2) (v := .int .i64 (k : Int)) rfl (by kernel_rfl) (by kernel_rfl) (by kernel_rfl) (fun _ _ _ h => h) (Or.inl ⟨by rfl, fun w _ => by go_simp⟩) hS ?_
          refine wpAnyH_take (i := 3) (v := .pointer (some ⟨b, off + k * 7, none⟩)) rfl (by kernel_rfl) (by kernel_rfl) (by kernel_rfl) (fun _ _ _ h => h) (Or.inl ⟨by rfl, fun w _ => by go_simp⟩) hS ?_
          go_simp
          refine wpAnyH_take (i := 4) (v := .agg #[.int .i64 x.pl, .string x.nm, .string x.of, .slice x.pa x.ps.length x.pc, .slice x.ba x.bs.length x.bc, .int .u8 (x.res : Int), .int .i64 x.lo]) rfl (by kernel_rfl) (by kernel_rfl) (by kernel_rfl) (fun _ _ _ h => h) (yieldsIf_load_mid (by rfl) 37 _ rfl b (off + k * 7) rfl (fuC x) _ (fun _ h => h.2.2.1) Try.underlying37 rfl (by kernel_rfl)) hS ?_
          refine wpAnyH_take (i := 5) (v := .pointer (some ⟨w.heap.size + 1, 1, none⟩)) rfl (by kernel_rfl) (by kernel_rfl) (by kernel_rfl) (fun _ _ _ h => h) (Or.inl ⟨by rfl, fun w _ => by go_simp⟩) hS ?_
          refine wpAnyH_take (i := 6) (v := .slice (some ⟨b', off', none⟩) q.U.length q.uc) rfl (by kernel_rfl) (by kernel_rfl) (by kernel_rfl) (fun _ _ _ h => h) (Or.inl ⟨by rfl, fun W h => by have h0 := h.2.1.c 1 rfl; rw [unhide HEY] at h0; go_simp⟩) hS ?_
          go_simp
          refine wpAnyH_take (i := 7) (v := .int .i64 (k : Int)) rfl (by kernel_rfl) (by kernel_rfl) (by kernel_rfl) (fun _ _ _ h => h) (Or.inl ⟨by rfl, fun w _ => by go_simp⟩) hS ?_
          refine wpAnyH_take (i := 8) (v := .pointer (some ⟨b', off' + k * 7, none⟩)) rfl (by kernel_rfl) (by kernel_rfl) (by kernel_rfl) (fun _ _ _ h => h) (Or.inl ⟨by rfl, fun w _ => by go_simp⟩) hS ?_
          go_simp
          refine wpAnyH_take (i := 9) (v := .agg #[.int .i64 y.pl, .string y.nm, .string y.of, .slice y.pa y.ps.length y.pc, .slice y.ba y.bs.length y.bc, .int .u8 (y.res : Int), .int .i64 y.lo]) rfl (by kernel_rfl) (by kernel_rfl) (by kernel_rfl) (fun _ _ _ h => h) (yieldsIf_load_mid (by rfl) 37 _ rfl b' (off' + k * 7) rfl (fuC y) _ (fun _ h => h.2.2.2) Try.underlying37 rfl (by kernel_rfl)) hS ?_
          have HSB := hide (fun W (hW : Below wr.heap.size wr W) => (And.intro ((unhide HP1).below hW) (And.intro ((unhide HP2).below hW) (And.intro (range_below hra hW) (range_below hrb hW)))))
          refine wpAnyH_ready (rs := [10, 11]) (by kernel_rfl) (by simp) ?_
          refine AllReadyH.cons rfl (fun K hK => ?_) (AllReadyH.cons rfl (fun K hK => ?_) AllReadyH.nil)
          · go_simp
            have b1 : Below wr.heap.size wr (Wd.alloc (.cells #[.int .i64 0, .string ⟨#[]⟩, .string ⟨#[]⟩, .slice none 0 0, .slice none 0 0, .int .u8 0, .int .i64 0] 37)) := hD.alloc hdz _
            refine hK.out _ _ (unhide HSB _ b1) (fun hS2 => ?_)
            clear hK K
            refine wpAnyH_ready (rs := [11]) (by kernel_rfl) (by simp) ?_
            refine AllReadyH.cons rfl (fun K hK => ?_) AllReadyH.nil
            go_simp
            have b2 : Below wr.heap.size wr ((Wd.alloc (.cells #[.int .i64 0, .string ⟨#[]⟩, .string ⟨#[]⟩, .slice none 0 0, .slice none 0 0, .int .u8 0, .int .i64 0] 37)).alloc (.cells #[.int .i64 0, .string ⟨#[]⟩, .string ⟨#[]⟩, .slice none 0 0, .slice none 0 0, .int .u8 0, .int .i64 0] 37)) := b1.alloc (by simp; omega) _
            refine hK.out _ _ (unhide HSB _ b2) (fun hS3 => ?_)
            clear hK K
            have z1 : Bx ((Wd.alloc (.cells #[.int .i64 0, .string ⟨#[]⟩, .string ⟨#[]⟩, .slice none 0 0, .slice none 0 0, .int .u8 0, .int .i64 0] 37)).alloc (.cells #[.int .i64 0, .string ⟨#[]⟩, .string ⟨#[]⟩, .slice none 0 0, .slice none 0 0, .int .u8 0, .int .i64 0] 37)) Wd.heap.size 37 #[.int .i64 0, .string ⟨#[]⟩, .string ⟨#[]⟩, .slice none 0 0, .slice none 0 0, .int .u8 0, .int .i64 0] := (((Below.refl _ _).alloc (Nat.le_refl _) _).block Wd.heap.size (by simp)).trans (heap_alloc_new Wd _)
            have z2 : Bx ((Wd.alloc (.cells #[.int .i64 0, .string ⟨#[]⟩, .string ⟨#[]⟩, .slice none 0 0, .slice none 0 0, .int .u8 0, .int .i64 0] 37)).alloc (.cells #[.int .i64 0, .string ⟨#[]⟩, .string ⟨#[]⟩, .slice none 0 0, .slice none 0 0, .int .u8 0, .int .i64 0] 37)) (Wd.heap.size + 1) 37 #[.int .i64 0, .string ⟨#[]⟩, .string ⟨#[]⟩, .slice none 0 0, .slice none 0 0, .int .u8 0, .int .i64 0] := by have := heap_alloc_new (Wd.alloc (.cells #[.int .i64 0, .string ⟨#[]⟩, .string ⟨#[]⟩, .slice none 0 0, .slice none 0 0, .int .u8 0, .int .i64 0] 37)) (.cells #[.int .i64 0, .string ⟨#[]⟩, .string ⟨#[]⟩, .slice none 0 0, .slice none 0 0, .int .u8 0, .int .i64 0] 37); rw [World.size_alloc] at this; exact this
            generalize ((Wd.alloc (.cells #[.int .i64 0, .string ⟨#[]⟩, .string ⟨#[]⟩, .slice none 0 0, .slice none 0 0, .int .u8 0, .int .i64 0] 37)).alloc (.cells #[.int .i64 0, .string ⟨#[]⟩, .string ⟨#[]⟩, .slice none 0 0, .slice none 0 0, .int .u8 0, .int .i64 0] 37)) = W2 at b2 z1 z2 hS3 ⊢
            generalize hgg : Wd.heap.size = g at z1 z2 ⊢
            have hge : wr.heap.size ≤ g := by omega
            clear hgg
            refine wpAnyH_ready (rs := [12]) (by kernel_rfl) (by simp) ?_
            refine AllReadyH.cons rfl (fun K hK => ?_) AllReadyH.nil
            rw [if_pos (by rfl)]
            refine wp_store_row 37 _ _ rfl g #[.int .i64 x.pl, .string x.nm, .string x.of, .slice x.pa x.ps.length x.pc, .slice x.ba x.bs.length x.bc, .int .u8 (x.res : Int), .int .i64 x.lo] rfl rfl 37 #[.int .i64 0, .string ⟨#[]⟩, .string ⟨#[]⟩, .slice none 0 0, .slice none 0 0, .int .u8 0, .int .i64 0] z1 (by kernel_rfl) rfl (by simp [Value.oneCell']) ?_
            have b3 : Below wr.heap.size wr (W2.setRow g #[.int .i64 x.pl, .string x.nm, .string x.of, .slice x.pa x.ps.length x.pc, .slice x.ba x.bs.length x.bc, .int .u8 (x.res : Int), .int .i64 x.lo]) := below_setRow' b2 (by omega) _
            refine hK.out _ _ (unhide HSB _ b3) (fun hS4 => ?_)
            clear hK K
            have y1 : Bx (W2.setRow g #[.int .i64 x.pl, .string x.nm, .string x.of, .slice x.pa x.ps.length x.pc, .slice x.ba x.bs.length x.bc, .int .u8 (x.res : Int), .int .i64 x.lo]) g 37 #[.int .i64 x.pl, .string x.nm, .string x.of, .slice x.pa x.ps.length x.pc, .slice x.ba x.bs.length x.bc, .int .u8 (x.res : Int), .int .i64 x.lo] := setRow_heap _ _ _ _ _ _ z1
            have y2 : Bx (W2.setRow g #[.int .i64 x.pl, .string x.nm, .string x.of, .slice x.pa x.ps.length x.pc, .slice x.ba x.bs.length x.bc, .int .u8 (x.res : Int), .int .i64 x.lo]) (g + 1) 37 #[.int .i64 0, .string ⟨#[]⟩, .string ⟨#[]⟩, .slice none 0 0, .slice none 0 0, .int .u8 0, .int .i64 0] := (setRow_other W2 g (g + 1) _ (by omega)).trans z2
            generalize W2.setRow g #[.int .i64 x.pl, .string x.nm, .string x.of, .slice x.pa x.ps.length x.pc, .slice x.ba x.bs.length x.bc, .int .u8 (x.res : Int), .int .i64 x.lo] = W3 at b3 y1 y2 hS4 ⊢
            refine wpAnyH_ready (rs := [13]) (by kernel_rfl) (by simp) ?_
            refine AllReadyH.cons rfl (fun K hK => ?_) AllReadyH.nil
            rw [if_pos (by rfl)]
            refine wp_store_row 37 _ _ rfl (g + 1) #[.int .i64 y.pl, .string y.nm, .string y.of, .slice y.pa y.ps.length y.pc, .slice y.ba y.bs.length y.bc, .int .u8 (y.res : Int), .int .i64 y.lo] rfl rfl 37 #[.int .i64 0, .string ⟨#[]⟩, .string ⟨#[]⟩, .slice none 0 0, .slice none 0 0, .int .u8 0, .int .i64 0] y2 (by kernel_rfl) rfl (by simp [Value.oneCell']) ?_
            have b4 : Below wr.heap.size wr (W3.setRow (g + 1) #[.int .i64 y.pl, .string y.nm, .string y.of, .slice y.pa y.ps.length y.pc, .slice y.ba y.bs.length y.bc, .int .u8 (y.res : Int), .int .i64 y.lo]) := below_setRow' b3 (by omega) _
            refine hK.out _ _ (unhide HSB _ b4) (fun hS5 => ?_)
            clear hK K
            refine wpAnyH_done (by kernel_rfl) ?_ _
            go_wp2_with fail
            go_meet
            exact ⟨g, (g + 1), rfl, rfl, hide ((setRow_other W3 (g + 1) g _ (by omega)).trans y1), hide (setRow_heap _ _ _ _ _ _ y2), hide b4⟩
          · go_simp
            have b1 : Below wr.heap.size wr (Wd.alloc (.cells #[.int .i64 0, .string ⟨#[]⟩, .string ⟨#[]⟩, .slice none 0 0, .slice none 0 0, .int .u8 0, .int .i64 0] 37)) := hD.alloc hdz _
            refine hK.out _ _ (unhide HSB _ b1) (fun hS2 => ?_)
            clear hK K
            refine wpAnyH_ready (rs := [10]) (by kernel_rfl) (by simp) ?_
            refine AllReadyH.cons rfl (fun K hK => ?_) AllReadyH.nil
            go_simp
            have b2 : Below wr.heap.size wr ((Wd.alloc (.cells #[.int .i64 0, .string ⟨#[]⟩, .string ⟨#[]⟩, .slice none 0 0, .slice none 0 0, .int .u8 0, .int .i64 0] 37)).alloc (.cells #[.int .i64 0, .string ⟨#[]⟩, .string ⟨#[]⟩, .slice none 0 0, .slice none 0 0, .int .u8 0, .int .i64 0] 37)) := b1.alloc (by simp; omega) _
            refine hK.out _ _ (unhide HSB _ b2) (fun hS3 => ?_)
            clear hK K
            have z1 : Bx ((Wd.alloc (.cells #[.int .i64 0, .string ⟨#[]⟩, .string ⟨#[]⟩, .slice none 0 0, .slice none 0 0, .int .u8 0, .int .i64 0] 37)).alloc (.cells #[.int .i64 0, .string ⟨#[]⟩, .string ⟨#[]⟩, .slice none 0 0, .slice none 0 0, .int .u8 0, .int .i64 0] 37)) Wd.heap.size 37 #[.int .i64 0, .string ⟨#[]⟩, .string ⟨#[]⟩, .slice none 0 0, .slice none 0 0, .int .u8 0, .int .i64 0] := (((Below.refl _ _).alloc (Nat.le_refl _) _).block Wd.heap.size (by simp)).trans (heap_alloc_new Wd _)
            have z2 : Bx ((Wd.alloc (.cells #[.int .i64 0, .string ⟨#[]⟩, .string ⟨#[]⟩, .slice none 0 0, .slice none 0 0, .int .u8 0, .int .i64 0] 37)).alloc (.cells #[.int .i64 0, .string ⟨#[]⟩, .string ⟨#[]⟩, .slice none 0 0, .slice none 0 0, .int .u8 0, .int .i64 0] 37)) (Wd.heap.size + 1) 37 #[.int .i64 0, .string ⟨#[]⟩, .string ⟨#[]⟩, .slice none 0 0, .slice none 0 0, .int .u8 0, .int .i64 0] := by have := heap_alloc_new (Wd.alloc (.cells #[.int .i64 0, .string ⟨#[]⟩, .string ⟨#[]⟩, .slice none 0 0, .slice none 0 0, .int .u8 0, .int .i64 0] 37)) (.cells #[.int .i64 0, .string ⟨#[]⟩, .string ⟨#[]⟩, .slice none 0 0, .slice none 0 0, .int .u8 0, .int .i64 0] 37); rw [World.size_alloc] at this; exact this
            generalize ((Wd.alloc (.cells #[.int .i64 0, .string ⟨#[]⟩, .string ⟨#[]⟩, .slice none 0 0, .slice none 0 0, .int .u8 0, .int .i64 0] 37)).alloc (.cells #[.int .i64 0, .string ⟨#[]⟩, .string ⟨#[]⟩, .slice none 0 0, .slice none 0 0, .int .u8 0, .int .i64 0] 37)) = W2 at b2 z1 z2 hS3 ⊢
            generalize hgg : Wd.heap.size = g at z1 z2 ⊢
            have hge : wr.heap.size ≤ g := by omega
            clear hgg
            refine wpAnyH_ready (rs := [12]) (by kernel_rfl) (by simp) ?_
            refine AllReadyH.cons rfl (fun K hK => ?_) AllReadyH.nil
            rw [if_pos (by rfl)]
            refine wp_store_row 37 _ _ rfl (g + 1) #[.int .i64 x.pl, .string x.nm, .string x.of, .slice x.pa x.ps.length x.pc, .slice x.ba x.bs.length x.bc, .int .u8 (x.res : Int), .int .i64 x.lo] rfl rfl 37 #[.int .i64 0, .string ⟨#[]⟩, .string ⟨#[]⟩, .slice none 0 0, .slice none 0 0, .int .u8 0, .int .i64 0] z2 (by kernel_rfl) rfl (by simp [Value.oneCell']) ?_
            have b3 : Below wr.heap.size wr (W2.setRow (g + 1) #[.int .i64 x.pl, .string x.nm, .string x.of, .slice x.pa x.ps.length x.pc, .slice x.ba x.bs.length x.bc, .int .u8 (x.res : Int), .int .i64 x.lo]) := below_setRow' b2 (by omega) _
            refine hK.out _ _ (unhide HSB _ b3) (fun hS4 => ?_)
            clear hK K
            have y1 : Bx (W2.setRow (g + 1) #[.int .i64 x.pl, .string x.nm, .string x.of, .slice x.pa x.ps.length x.pc, .slice x.ba x.bs.length x.bc, .int .u8 (x.res : Int), .int .i64 x.lo]) (g + 1) 37 #[.int .i64 x.pl, .string x.nm, .string x.of, .slice x.pa x.ps.length x.pc, .slice x.ba x.bs.length x.bc, .int .u8 (x.res : Int), .int .i64 x.lo] := setRow_heap _ _ _ _ _ _ z2
            have y2 : Bx (W2.setRow (g + 1) #[.int .i64 x.pl, .string x.nm, .string x.of, .slice x.pa x.ps.length x.pc, .slice x.ba x.bs.length x.bc, .int .u8 (x.res : Int), .int .i64 x.lo]) g 37 #[.int .i64 0, .string ⟨#[]⟩, .string ⟨#[]⟩, .slice none 0 0, .slice none 0 0, .int .u8 0, .int .i64 0] := (setRow_other W2 (g + 1) g _ (by omega)).trans z1
            generalize W2.setRow (g + 1) #[.int .i64 x.pl, .string x.nm, .string x.of, .slice x.pa x.ps.length x.pc, .slice x.ba x.bs.length x.bc, .int .u8 (x.res : Int), .int .i64 x.lo] = W3 at b3 y1 y2 hS4 ⊢
            refine wpAnyH_ready (rs := [13]) (by kernel_rfl) (by simp) ?_
            refine AllReadyH.cons rfl (fun K hK => ?_) AllReadyH.nil
            rw [if_pos (by rfl)]
            refine wp_store_row 37 _ _ rfl g #[.int .i64 y.pl, .string y.nm, .string y.of, .slice y.pa y.ps.length y.pc, .slice y.ba y.bs.length y.bc, .int .u8 (y.res : Int), .int .i64 y.lo] rfl rfl 37 #[.int .i64 0, .string ⟨#[]⟩, .string ⟨#[]⟩, .slice none 0 0, .slice none 0 0, .int .u8 0, .int .i64 0] y2 (by kernel_rfl) rfl (by simp [Value.oneCell']) ?_
            have b4 : Below wr.heap.size wr (W3.setRow g #[.int .i64 y.pl, .string y.nm, .string y.of, .slice y.pa y.ps.length y.pc, .slice y.ba y.bs.length y.bc, .int .u8 (y.res : Int), .int .i64 y.lo]) := below_setRow' b3 (by omega) _
            refine hK.out _ _ (unhide HSB _ b4) (fun hS5 => ?_)
            clear hK K
            refine wpAnyH_done (by kernel_rfl) ?_ _
            go_wp2_with fail
            go_meet
            exact ⟨(g + 1), g, rfl, rfl, hide ((setRow_other W3 g (g + 1) _ (by omega)).trans y1), hide (setRow_heap _ _ _ _ _ _ y2), hide b4⟩
        case rest =>
          obtain ⟨g1, g2, rfl, rfl, HG1, HG2, HBx⟩ := hcut
          clear hra hrb
          have HXX := hide ((fuN n).below (unhide HXA) (unhide HBx))
          have HYY := hide ((fuN n).below (unhide HYA) (unhide HBx))
          obtain ⟨⟨e1, e2, e3, e4, e5, e6⟩, hbs⟩ := unhide HSK
          rw [e1, e2, e3, e4, e5, e6, hbs.1] at HG1
          have HE := hide (equalPm_yes x.pa y.pa x.pc y.pc y.ps wc (by have := (unhide HXX).2.1; rw [e4] at this; exact this) (unhide HYY).2.1 (unhide HYY).1.fitP)
          have HBS := hide hbs
          clear e1 e2 e3 e4 e5 e6 hbs
          have c0 : (y.pl != y.pl) = false := by simp
          have c1 : (y.nm.toList == y.nm.toList) = true := by simp
          have c2 : (y.of.toList == y.of.toList) = true := by simp
          have c3 : (((y.res : Nat) : Int) != ((y.res : Nat) : Int)) = false := by simp
          have c4 : (y.lo != y.lo) = false := by simp
          have k0 := (unhide HG1).c 0 rfl
          have m0 := (unhide HG2).c 0 rfl
          have k1 := (unhide HG1).c 1 rfl
          have m1 := (unhide HG2).c 1 rfl
          have k2 := (unhide HG1).c 2 rfl
          have m2 := (unhide HG2).c 2 rfl
          have k3 := (unhide HG1).c 3 rfl
          have m3 := (unhide HG2).c 3 rfl
          have k4 := (unhide HG1).c 4 rfl
          have m4 := (unhide HG2).c 4 rfl
          have k5 := (unhide HG1).c 5 rfl
          have m5 := (unhide HG2).c 5 rfl
          have k6 := (unhide HG1).c 6 rfl
          have m6 := (unhide HG2).c 6 rfl
          go_wp2_with fail
          refine (unhide HE).mono ?_
          rintro e V ⟨rfl, qq, rfl⟩
          have HE2 := hide (SameStmts_yes n x.ba y.ba x.bc y.bc x.bs y.bs (wc.drewN qq) ((unhide HXX).2.2.below (below_drew _ _)) ((unhide HYY).2.2.below (below_drew _ _)) (unhide HBS) (by have := (unhide HYY).1.fitB; omega))
          rw [(unhide HBS).1] at HE2
          go_wp2_with fail
          refine (unhide HE2).mono ?_
          rintro e V ⟨rfl, hb2⟩
          have HBe := hide ((belowD ((unhide HBr).trans ((unhide HBx).mono (unhide HBr).size)) qq).trans (hb2.mono ((unhide HBr).trans ((unhide HBx).mono (unhide HBr).size)).size))
          clear hb2
          go_wp2
          go_roundw
          case rel => exact ⟨k + 1, by omega, by go_num, HBe⟩
          case measure => simp [intOf]; omega
    have i1 : ((k : Nat) : Int) < ((q.R.length : Nat) : Int) := by omega
    have hkP : k < p.R.length := by rw [(unhide HSR).1]; exact hlt
    have i0 : (0 : Int) ≤ ((k : Nat) : Int) := by omega
    have hx := List.getElem?_eq_getElem hkP
    have hy := List.getElem?_eq_getElem hlt
    have hsk := (unhide HSR).2 k _ _ hy hx
    obtain ⟨b, off, ebx, hra, hxa⟩ := (unhide HX3).recs.below (unhide HBr) k _ hx
    obtain ⟨b', off', eby, hrb, hya⟩ := (unhide HY3).recs.below (unhide HBr) k _ hy
    generalize p.R[k]'hkP = x at hxa hx hra hsk
    generalize q.R[k] = y at hya hy hrb hsk
    have hra : wr.rangeAt b (off + k * 4) (rcC x) := hra
    have hrb : wr.rangeAt b' (off' + k * 4) (rcC y) := hrb
    have HXA := hide hxa
    have HYA := hide hya
    have HSK := hide hsk
    have HEX := hide ebx
    have HEY := hide eby
    have HP1 := hide ((unhide HD1).below (unhide HBr))
    have HP2 := hide ((unhide HD2).below (unhide HBr))
    clear hx hy hxa hya ebx eby hsk
    go_upto_region 6 with fail
    go_cut [6, 7] (fun s1 s2 wx => ∃ g1 g2, s1 = .pointer (some ⟨g1, 0, none⟩) ∧ s2 = .pointer (some ⟨g2, 0, none⟩) ∧ Hid (Bx wx g1 30 #[.int .i64 x.pl, .string x.nm, .string x.par, .slice x.fa x.fs.length x.fc]) ∧ Hid (Bx wx g2 30 #[.int .i64 y.pl, .string y.nm, .string y.par, .slice y.fa y.fs.length y.fc]) ∧ Hid (Below wr.heap.size wr wx))
    case first =>
      have HS0 := hide ((show Bx wr.drew w.heap.size 25 #[.slice p.ra q.R.length p.rc, .slice p.ua q.U.length p.uc] ∧ Bx wr.drew (w.heap.size + 1) 25 #[.slice q.ra q.R.length q.rc, .slice q.ua q.U.length q.uc] ∧ wr.drew.rangeAt b (off + k * 4) (rcC x) ∧ wr.drew.rangeAt b' (off' + k * 4) (rcC y) from ⟨unhide HP1, unhide HP2, hra, hrb⟩))
      refine wp_region_held_drew (S := fun w' => Bx w' w.heap.size 25 #[.slice p.ra q.R.length p.rc, .slice p.ua q.U.length p.uc] ∧ Bx w' (w.heap.size + 1) 25 #[.slice q.ra q.R.length q.rc, .slice q.ua q.U.length q.uc] ∧ w'.rangeAt b (off + k * 4) (rcC x) ∧ w'.rangeAt b' (off' + k * 4) (rcC y)) (by kernel_rfl) (unhide HS0) (fun hS => ?_)
      have hD : Below wr.heap.size wr wr.drew := belowD (Below.refl _ _) 1
      have hdz : wr.heap.size ≤ wr.drew.heap.size := Nat.le_refl _
      generalize wr.drew = Wd at hS hD hdz ⊢
      refine wpAnyH_take (i := 0) (v := .pointer (some ⟨w.heap.size, 0, none⟩)) rfl (by kernel_rfl) (by kernel_rfl) (by kernel_rfl) (fun _ _ _ h => h) (Or.inl ⟨by rfl, fun w _ => by go_simp⟩) hS ?_
      refine wpAnyH_take (i := 1) (v := .slice (some ⟨b, off, none⟩) q.R.length p.rc) rfl (by kernel_rfl) (by kernel_rfl) (by kernel_rfl) (fun _ _ _ h => h) (Or.inl ⟨by rfl, fun W h => by have h0 := h.1.c 0 rfl; rw [unhide HEX] at h0; go_simp⟩) hS ?_
      go_simp
      refine wpAnyH_take (i := 2) (v := .int .i64 (k : Int)) rfl (by kernel_rfl) (by kernel_rfl) (by kernel_rfl) (fun _ _ _ h => h) (Or.inl ⟨by rfl, fun w _ => by go_simp⟩) hS ?_
      refine wpAnyH_take (i := 3) (v := .pointer (some ⟨b, off + k * 4, none⟩)) rfl (by kernel_rfl) (by kernel_rfl) (by kernel_rfl) (fun _ _ _ h => h) (Or.inl ⟨by rfl, fun w _ => by go_simp⟩) hS ?_
      go_simp
      refine wpAnyH_take (i := 4) (v := .agg #[.int .i64 x.pl, .string x.nm, .string x.par, .slice x.fa x.fs.length x.fc]) rfl (by kernel_rfl) (by kernel_rfl) (by kernel_rfl) (fun _ _ _ h => h) (yieldsIf_load_mid (by rfl) 30 _ rfl b (off + k * 4) rfl (rcC x) _ (fun _ h => h.2.2.1) Try.underlying30 rfl (by kernel_rfl)) hS ?_
      refine wpAnyH_take (i := 5) (v := .pointer (some ⟨w.heap.size + 1, 0, none⟩)) rfl (by kernel_rfl) (by kernel_rfl) (by kernel_rfl) (fun _ _ _ h => h) (Or.inl ⟨by rfl, fun w _ => by go_simp⟩) hS ?_
      refine wpAnyH_take (i := 6) (v := .slice (some ⟨b', off', none⟩) q.R.length q.rc) rfl (by kernel_rfl) (by kernel_rfl) (by kernel_rfl) (fun _ _ _ h => h) (Or.inl ⟨by rfl, fun W h => by have h0 := h.2.1.c 0 rfl; rw [unhide HEY] at h0; go_simp⟩) hS ?_
      go_simp
      refine wpAnyH_take (i := 7) (v := .int .i64 (k : Int)) rfl (by kernel_rfl) (by kernel_rfl) (by kernel_rfl) (fun _ _ _ h => h) (Or.inl ⟨by rfl, fun w _ => by go_simp⟩) hS ?_
      refine wpAnyH_take (i := 8) (v := .pointer (some ⟨b', off' + k * 4, none⟩)) rfl (by kernel_rfl) (by kernel_rfl) (by kernel_rfl) (fun _ _ _ h => h) (Or.inl ⟨by rfl, fun w _ => by go_simp⟩) hS ?_
      go_simp
      refine wpAnyH_take (i := 9) (v := .agg #[.int .i64 y.pl, .string y.nm, .string y.par, .slice y.fa y.fs.length y.fc]) rfl (by kernel_rfl) (by kernel_rfl) (by kernel_rfl) (fun _ _ _ h => h) (yieldsIf_load_mid (by rfl) 30 _ rfl b' (off' + k * 4) rfl (rcC y) _ (fun _ h => h.2.2.2) Try.underlying30 rfl (by kernel_rfl)) hS ?_
      have HSB := hide (fun W (hW : Below wr.heap.size wr W) => (And.intro ((unhide HP1).below hW) (And.intro ((unhide HP2).below hW) (And.intro (range_below hra hW) (range_below hrb hW)))))
      refine wpAnyH_ready (rs := [10, 11]) (by kernel_rfl) (by simp) ?_
      refine AllReadyH.cons rfl (fun K hK => ?_) (AllReadyH.cons rfl (fun K hK => ?_) AllReadyH.nil)
      · go_simp
        have b1 : Below wr.heap.size wr (Wd.alloc (.cells #[.int .i64 0, .string ⟨#[]⟩, .string ⟨#[]⟩, .slice none 0 0] 30)) := hD.alloc hdz _
        refine hK.out _ _ (unhide HSB _ b1) (fun hS2 => ?_)
        clear hK K
        refine wpAnyH_ready (rs := [11]) (by kernel_rfl) (by simp) ?_
        refine AllReadyH.cons rfl (fun K hK => ?_) AllReadyH.nil
        go_simp
        have b2 : Below wr.heap.size wr ((Wd.alloc (.cells #[.int .i64 0, .string ⟨#[]⟩, .string ⟨#[]⟩, .slice none 0 0] 30)).alloc (.cells #[.int .i64 0, .string ⟨#[]⟩, .string ⟨#[]⟩, .slice none 0 0] 30)) := b1.alloc (by simp; omega) _
        refine hK.out _ _ (unhide HSB _ b2) (fun hS3 => ?_)
        clear hK K
        have z1 : Bx ((Wd.alloc (.cells #[.int .i64 0, .string ⟨#[]⟩, .string ⟨#[]⟩, .slice none 0 0] 30)).alloc (.cells #[.int .i64 0, .string ⟨#[]⟩, .string ⟨#[]⟩, .slice none 0 0] 30)) Wd.heap.size 30 #[.int .i64 0, .string ⟨#[]⟩, .string ⟨#[]⟩, .slice none 0 0] := (((Below.refl _ _).alloc (Nat.le_refl _) _).block Wd.heap.size (by simp)).trans (heap_alloc_new Wd _)
        have z2 : Bx ((Wd.alloc (.cells #[.int .i64 0, .string ⟨#[]⟩, .string ⟨#[]⟩, .slice none 0 0] 30)).alloc (.cells #[.int .i64 0, .string ⟨#[]⟩, .string ⟨#[]⟩, .slice none 0 0] 30)) (Wd.heap.size + 1) 30 #[.int .i64 0, .string ⟨#[]⟩, .string ⟨#[]⟩, .slice none 0 0] := by have := heap_alloc_new (Wd.alloc (.cells #[.int .i64 0, .string ⟨#[]⟩, .string ⟨#[]⟩, .slice none 0 0] 30)) (.cells #[.int .i64 0, .string ⟨#[]⟩, .string ⟨#[]⟩, .slice none 0 0] 30); rw [World.size_alloc] at this; exact this
        generalize ((Wd.alloc (.cells #[.int .i64 0, .string ⟨#[]⟩, .string ⟨#[]⟩, .slice none 0 0] 30)).alloc (.cells #[.int .i64 0, .string ⟨#[]⟩, .string ⟨#[]⟩, .slice none 0 0] 30)) = W2 at b2 z1 z2 hS3 ⊢
        generalize hgg : Wd.heap.size = g at z1 z2 ⊢
        have hge : wr.heap.size ≤ g := by omega
        clear hgg
        refine wpAnyH_ready (rs := [12]) (by kernel_rfl) (by simp) ?_
        refine AllReadyH.cons rfl (fun K hK => ?_) AllReadyH.nil
        rw [if_pos (by rfl)]
        refine wp_store_row 30 _ _ rfl g #[.int .i64 x.pl, .string x.nm, .string x.par, .slice x.fa x.fs.length x.fc] rfl rfl 30 #[.int .i64 0, .string ⟨#[]⟩, .string ⟨#[]⟩, .slice none 0 0] z1 (by kernel_rfl) rfl (by simp [Value.oneCell']) ?_
        have b3 : Below wr.heap.size wr (W2.setRow g #[.int .i64 x.pl, .string x.nm, .string x.par, .slice x.fa x.fs.length x.fc]) := below_setRow' b2 (by omega) _
        refine hK.out _ _ (unhide HSB _ b3) (fun hS4 => ?_)
        clear hK K
        have y1 : Bx (W2.setRow g #[.int .i64 x.pl, .string x.nm, .string x.par, .slice x.fa x.fs.length x.fc]) g 30 #[.int .i64 x.pl, .string x.nm, .string x.par, .slice x.fa x.fs.length x.fc] := setRow_heap _ _ _ _ _ _ z1
        have y2 : Bx (W2.setRow g #[.int .i64 x.pl, .string x.nm, .string x.par, .slice x.fa x.fs.length x.fc]) (g + 1) 30 #[.int .i64 0, .string ⟨#[]⟩, .string ⟨#[]⟩, .slice none 0 0] := (setRow_other W2 g (g + 1) _ (by omega)).trans z2
        generalize W2.setRow g #[.int .i64 x.pl, .string x.nm, .string x.par, .slice x.fa x.fs.length x.fc] = W3 at b3 y1 y2 hS4 ⊢
        refine wpAnyH_ready (rs := [13]) (by kernel_rfl) (by simp) ?_
        refine AllReadyH.cons rfl (fun K hK => ?_) AllReadyH.nil
        rw [if_pos (by rfl)]
        refine wp_store_row 30 _ _ rfl (g + 1) #[.int .i64 y.pl, .string y.nm, .string y.par, .slice y.fa y.fs.length y.fc] rfl rfl 30 #[.int .i64 0, .string ⟨#[]⟩, .string ⟨#[]⟩, .slice none 0 0] y2 (by kernel_rfl) rfl (by simp [Value.oneCell']) ?_
        have b4 : Below wr.heap.size wr (W3.setRow (g + 1) #[.int .i64 y.pl, .string y.nm, .string y.par, .slice y.fa y.fs.length y.fc]) := below_setRow' b3 (by omega) _
        refine hK.out _ _ (unhide HSB _ b4) (fun hS5 => ?_)
        clear hK K
        refine wpAnyH_done (by kernel_rfl) ?_ _
        go_wp2_with fail
        go_meet
        exact ⟨g, (g + 1), rfl, rfl, hide ((setRow_other W3 (g + 1) g _ (by omega)).trans y1), hide (setRow_heap _ _ _ _ _ _ y2), hide b4⟩
      · go_simp
        have b1 : Below wr.heap.size wr (Wd.alloc (.cells #[.int .i64 0, .string ⟨#[]⟩, .string ⟨#[]⟩, .slice none 0 0] 30)) := hD.alloc hdz _
        refine hK.out _ _ (unhide HSB _ b1) (fun hS2 => ?_)
        clear hK K
        refine wpAnyH_ready (rs := [10]) (by kernel_rfl) (by simp) ?_
        refine AllReadyH.cons rfl (fun K hK => ?_) AllReadyH.nil
        go_simp
        have b2 : Below wr.heap.size wr ((Wd.alloc (.cells #[.int .i64 0, .string ⟨#[]⟩, .string ⟨#[]⟩, .slice none 0 0] 30)).alloc (.cells #[.int .i64 0, .string ⟨#[]⟩, .string ⟨#[]⟩, .slice none 0 0] 30)) := b1.alloc (by simp; omega) _
        refine hK.out _ _ (unhide HSB _ b2) (fun hS3 => ?_)
        clear hK K
        have z1 : Bx ((Wd.alloc (.cells #[.int .i64 0, .string ⟨#[]⟩, .string ⟨#[]⟩, .slice none 0 0] 30)).alloc (.cells #[.int .i64 0, .string ⟨#[]⟩, .string ⟨#[]⟩, .slice none 0 0] 30)) Wd.heap.size 30 #[.int .i64 0, .string ⟨#[]⟩, .string ⟨#[]⟩, .slice none 0 0] := (((Below.refl _ _).alloc (Nat.le_refl _) _).block Wd.heap.size (by simp)).trans (heap_alloc_new Wd _)
        have z2 : Bx ((Wd.alloc (.cells #[.int .i64 0, .string ⟨#[]⟩, .string ⟨#[]⟩, .slice none 0 0] 30)).alloc (.cells #[.int .i64 0, .string ⟨#[]⟩, .string ⟨#[]⟩, .slice none 0 0] 30)) (Wd.heap.size + 1) 30 #[.int .i64 0, .string ⟨#[]⟩, .string ⟨#[]⟩, .slice none 0 0] := by have := heap_alloc_new (Wd.alloc (.cells #[.int .i64 0, .string ⟨#[]⟩, .string ⟨#[]⟩, .slice none 0 0] 30)) (.cells #[.int .i64 0, .string ⟨#[]⟩, .string ⟨#[]⟩, .slice none 0 0] 30); rw [World.size_alloc] at this; exact this
        generalize ((Wd.alloc (.cells #[.int .i64 0, .string ⟨#[]⟩, .string ⟨#[]⟩, .slice none 0 0] 30)).alloc (.cells #[.int .i64 0, .string ⟨#[]⟩, .string ⟨#[]⟩, .slice none 0 0] 30)) = W2 at b2 z1 z2 hS3 ⊢
        generalize hgg : Wd.heap.size = g at z1 z2 ⊢
        have hge : wr.heap.size ≤ g := by omega
        clear hgg
        refine wpAnyH_ready (rs := [12]) (by kernel_rfl) (by simp) ?_
        refine AllReadyH.cons rfl (fun K hK => ?_) AllReadyH.nil
        rw [if_pos (by rfl)]
        refine wp_store_row 30 _ _ rfl (g + 1) #[.int .i64 x.pl, .string x.nm, .string x.par, .slice x.fa x.fs.length x.fc] rfl rfl 30 #[.int .i64 0, .string ⟨#[]⟩, .string ⟨#[]⟩, .slice none 0 0] z2 (by kernel_rfl) rfl (by simp [Value.oneCell']) ?_
        have b3 : Below wr.heap.size wr (W2.setRow (g + 1) #[.int .i64 x.pl, .string x.nm, .string x.par, .slice x.fa x.fs.length x.fc]) := below_setRow' b2 (by omega) _
        refine hK.out _ _ (unhide HSB _ b3) (fun hS4 => ?_)
        clear hK K
        have y1 : Bx (W2.setRow (g + 1) #[.int .i64 x.pl, .string x.nm, .string x.par, .slice x.fa x.fs.length x.fc]) (g + 1) 30 #[.int .i64 x.pl, .string x.nm, .string x.par, .slice x.fa x.fs.length x.fc] := setRow_heap _ _ _ _ _ _ z2
        have y2 : Bx (W2.setRow (g + 1) #[.int .i64 x.pl, .string x.nm, .string x.par, .slice x.fa x.fs.length x.fc]) g 30 #[.int .i64 0, .string ⟨#[]⟩, .string ⟨#[]⟩, .slice none 0 0] := (setRow_other W2 (g + 1) g _ (by omega)).trans z1
        generalize W2.setRow (g + 1) #[.int .i64 x.pl, .string x.nm, .string x.par, .slice x.fa x.fs.length x.fc] = W3 at b3 y1 y2 hS4 ⊢
        refine wpAnyH_ready (rs := [13]) (by kernel_rfl) (by simp) ?_
        refine AllReadyH.cons rfl (fun K hK => ?_) AllReadyH.nil
        rw [if_pos (by rfl)]
        refine wp_store_row 30 _ _ rfl g #[.int .i64 y.pl, .string y.nm, .string y.par, .slice y.fa y.fs.length y.fc] rfl rfl 30 #[.int .i64 0, .string ⟨#[]⟩, .string ⟨#[]⟩, .slice none 0 0] y2 (by kernel_rfl) rfl (by simp [Value.oneCell']) ?_
        have b4 : Below wr.heap.size wr (W3.setRow g #[.int .i64 y.pl, .string y.nm, .string y.par, .slice y.fa y.fs.length y.fc]) := below_setRow' b3 (by omega) _
        refine hK.out _ _ (unhide HSB _ b4) (fun hS5 => ?_)
        clear hK K
        refine wpAnyH_done (by kernel_rfl) ?_ _
        go_wp2_with fail
        go_meet
        exact ⟨(g + 1), g, rfl, rfl, hide ((setRow_other W3 g (g + 1) _ (by omega)).trans y1), hide (setRow_heap _ _ _ _ _ _ y2), hide b4⟩
    case rest =>
      obtain ⟨g1, g2, rfl, rfl, HG1, HG2, HBx⟩ := hcut
      clear hra hrb
      have HXX := hide (rcN.below (unhide HXA) (unhide HBx))
      have HYY := hide (rcN.below (unhide HYA) (unhide HBx))
      obtain ⟨e1, e2, e3, e4⟩ := unhide HSK
      rw [e1, e2, e3, e4] at HG1
      have HE := hide (equalPm_yes x.fa y.fa x.fc y.fc y.fs wc (by have := (unhide HXX).2; rw [e4] at this; exact this) (unhide HYY).2 (unhide HYY).1.fit)
      clear e1 e2 e3 e4
      have c0 : (y.pl != y.pl) = false := by simp
      have c1 : (y.nm.toList == y.nm.toList) = true := by simp
      have c2 : (y.par.toList == y.par.toList) = true := by simp
      have k0 := (unhide HG1).c 0 rfl
      have m0 := (unhide HG2).c 0 rfl
      have k1 := (unhide HG1).c 1 rfl
      have m1 := (unhide HG2).c 1 rfl
      have k2 := (unhide HG1).c 2 rfl
      have m2 := (unhide HG2).c 2 rfl
      have k3 := (unhide HG1).c 3 rfl
      have m3 := (unhide HG2).c 3 rfl
      go_wp2_with fail
      refine (unhide HE).mono ?_
      rintro e V ⟨rfl, qq, rfl⟩
      have HBe := hide (belowD ((unhide HBr).trans ((unhide HBx).mono (unhide HBr).size)) qq)
      go_wp2
      go_roundw
      case rel => exact ⟨k + 1, by omega, by go_num, HBe⟩
      case measure => simp [intOf]; omega
end Go.Proofs.Ytjccomjgmejnhaa
