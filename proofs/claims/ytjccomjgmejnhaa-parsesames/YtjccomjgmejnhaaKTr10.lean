/-
  provisoplain.SameStmts tells that statements and their copy are the same. Conditions: lengths fit.
-/
import Derived.Test.YtjccomjgmejnhaaKTr9
namespace Go.Proofs.Ytjccomjgmejnhaa
open Go.RowKit

set_option maxRecDepth 20000 in
set_option maxHeartbeats 8000000 in
theorem SameStmts_zero (go ao : Option Addr) (gc cap : Nat) (G T : List Stm) (w : World) (hG : RowAt (stN 0) w go G) (hT : RowAt (stN 0) w ao T) (hs : Two (sameS 0) T G) (hz : T.length < 9223372036854775000) :
    Calls Try.prog 17 #[.slice go G.length gc, .slice ao T.length cap] w fun e w' => e = .returned (.bool true) ∧ Below w.heap.size w w' := by
  rw [hs.1]
  have e0 : (((T.length : Nat) : Int) != ((T.length : Nat) : Int)) = false := by simp
  have HG := hide hG
  have HT := hide hT
  have HSS := hide hs
  clear hG hT hs
  go_enter Try.func17, Try.ntmps17
  go_wp2
  go_loopw [16] (fun i wr => ∃ k : Nat, k ≤ T.length ∧ i = .int .i64 (k : Int) ∧ Hid (Below w.heap.size w wr)) (fun i _ => T.length - (intOf i).toNat)
  case atStart => exact ⟨0, by omega, rfl, hide (Below.refl _ _)⟩
  case round =>
    obtain ⟨k, hk, rfl, HBr⟩ := hrel
    by_cases hlt : k < T.length
    rotate_left
    · have i1 : ¬ ((k : Nat) : Int) < ((T.length : Nat) : Int) := by omega
      go_wp2
      go_ret
      exact ⟨rfl, unhide HBr⟩
    have i1 : ((k : Nat) : Int) < ((T.length : Nat) : Int) := by omega
    have hkG : k < G.length := by rw [(unhide HSS).1]; exact hlt
    have i0 : (0 : Int) ≤ ((k : Nat) : Int) := by omega
    have hx := List.getElem?_eq_getElem hkG
    have hy := List.getElem?_eq_getElem hlt
    have hsk := (unhide HSS).2 k _ _ hy hx
    obtain ⟨b, off, rfl, hra, hxa⟩ := (unhide HG).below (unhide HBr) k _ hx
    obtain ⟨b', off', rfl, hrb, hya⟩ := (unhide HT).below (unhide HBr) k _ hy
    exact (show False from hxa).elim

set_option maxRecDepth 20000 in
set_option maxHeartbeats 16000000 in
theorem SameStmts_in (n : Nat) (IH : ∀ (go ao : Option Addr) (gc cap : Nat) (G T : List Stm) (w : World), RowAt (stN n) w go G → RowAt (stN n) w ao T → Two (sameS n) T G → T.length < 9223372036854775000 → Calls Try.prog 17 #[.slice go G.length gc, .slice ao T.length cap] w fun e w' => e = .returned (.bool true) ∧ Below w.heap.size w w') (go ao : Option Addr) (gc cap : Nat) (G T : List Stm) (w : World) (hG : RowAt (stN (n + 1)) w go G) (hT : RowAt (stN (n + 1)) w ao T) (hs : Two (sameS (n + 1)) T G) (hz : T.length < 9223372036854775000) :
    Calls Try.prog 17 #[.slice go G.length gc, .slice ao T.length cap] w fun e w' => e = .returned (.bool true) ∧ Below w.heap.size w w' := by
  rw [hs.1]
  have e0 : (((T.length : Nat) : Int) != ((T.length : Nat) : Int)) = false := by simp
  have HG := hide hG
  have HT := hide hT
  have HSS := hide hs
  clear hG hT hs
  go_enter Try.func17, Try.ntmps17
  go_wp2
  go_loopw [16] (fun i wr => ∃ k : Nat, k ≤ T.length ∧ i = .int .i64 (k : Int) ∧ Hid (Below w.heap.size w wr)) (fun i _ => T.length - (intOf i).toNat)
  case atStart => exact ⟨0, by omega, rfl, hide (Below.refl _ _)⟩
  case round =>
    obtain ⟨k, hk, rfl, HBr⟩ := hrel
    by_cases hlt : k < T.length
    rotate_left
    · have i1 : ¬ ((k : Nat) : Int) < ((T.length : Nat) : Int) := by omega
      go_wp2
      go_ret
      exact ⟨rfl, unhide HBr⟩
    have i1 : ((k : Nat) : Int) < ((T.length : Nat) : Int) := by omega
    have hkG : k < G.length := by rw [(unhide HSS).1]; exact hlt
    have i0 : (0 : Int) ≤ ((k : Nat) : Int) := by omega
    have hx := List.getElem?_eq_getElem hkG
    have hy := List.getElem?_eq_getElem hlt
    have hsk := (unhide HSS).2 k _ _ hy hx
    obtain ⟨b, off, rfl, hra, hxa⟩ := (unhide HG).below (unhide HBr) k _ hx
    obtain ⟨b', off', rfl, hrb, hya⟩ := (unhide HT).below (unhide HBr) k _ hy
    generalize G[k]'hkG = x at hxa hx hra hsk
    generalize T[k] = y at hya hy hrb hsk
    have hra : wr.rangeAt b (off + k * 10) (stC x) := hra
    have hrb : wr.rangeAt b' (off' + k * 10) (stC y) := hrb
    have HXA := hide hxa
    have HYA := hide hya
    have HSK := hide hsk
    clear hx hy hxa hya hsk
    go_upto_region 6 with fail
    go_cut [6, 7] (fun s1 s2 wx => ∃ g1 g2, s1 = .pointer (some ⟨g1, 0, none⟩) ∧ s2 = .pointer (some ⟨g2, 0, none⟩) ∧ Hid (Bx wx g1 47 #[.int .i64 x.r.op, .int .i64 x.r.pl, .string x.r.nm, .string x.r.of, .int .i64 x.r.num, .slice x.r.ea x.es.length x.r.ec, .slice x.r.ba x.bs.length x.r.bc, .slice x.r.la x.ls.length x.r.lc, .int .u8 (x.r.ty : Int), .int .i64 x.r.rf]) ∧ Hid (Bx wx g2 47 #[.int .i64 y.r.op, .int .i64 y.r.pl, .string y.r.nm, .string y.r.of, .int .i64 y.r.num, .slice y.r.ea y.es.length y.r.ec, .slice y.r.ba y.bs.length y.r.bc, .slice y.r.la y.ls.length y.r.lc, .int .u8 (y.r.ty : Int), .int .i64 y.r.rf]) ∧ Hid (Below wr.heap.size wr wx))
    case first =>
      have HS0 := hide ((show wr.drew.rangeAt b (off + k * 10) (stC x) ∧ wr.drew.rangeAt b' (off' + k * 10) (stC y) from ⟨hra, hrb⟩))
      refine wp_region_held_drew (S := fun w' => w'.rangeAt b (off + k * 10) (stC x) ∧ w'.rangeAt b' (off' + k * 10) (stC y)) (by kernel_rfl) (unhide HS0) (fun hS => ?_)
      have hD : Below wr.heap.size wr wr.drew := belowD (Below.refl _ _) 1
      have hdz : wr.heap.size ≤ wr.drew.heap.size := Nat.le_refl _
      generalize wr.drew = Wd at hS hD hdz ⊢
      refine wpAnyH_take (i := 0) (v := .slice (some ⟨b, off, none⟩) T.length gc) rfl (by kernel_rfl) (by kernel_rfl) (by kernel_rfl) (fun _ _ _ h => h) (Or.inl ⟨by rfl, fun w _ => by go_simp⟩) hS ?_
      refine wpAnyH_take (i := 1) (v := .int .i64 (k : Int)) rfl (by kernel_rfl) (by kernel_rfl) (by kernel_rfl) (fun _ _ _ h => h) (Or.inl ⟨by rfl, fun w _ => by go_simp⟩) hS ?_
      go_simp
      refine wpAnyH_take (i := 2) (v := .pointer (some ⟨b, off + k * 10, none⟩)) rfl (by kernel_rfl) (by kernel_rfl) (by kernel_rfl) (fun _ _ _ h => h) (Or.inl ⟨by rfl, fun w _ => by go_simp⟩) hS ?_
      refine wpAnyH_take (i := 3) (v := .agg #[.int .i64 x.r.op, .int .i64 x.r.pl, .string x.r.nm, .string x.r.of, .int .i64 x.r.num, .slice x.r.ea x.es.length x.r.ec, .slice x.r.ba x.bs.length x.r.bc, .slice x.r.la x.ls.length x.r.lc, .int .u8 (x.r.ty : Int), .int .i64 x.r.rf]) rfl (by kernel_rfl) (by kernel_rfl) (by kernel_rfl) (fun _ _ _ h => h) (yieldsIf_load_mid (by rfl) 47 _ rfl b (off + k * 10) rfl (stC x) _ (fun _ h => h.1) Try.underlying47 rfl (by kernel_rfl)) hS ?_
      go_simp
      refine wpAnyH_take (i := 4) (v := .slice (some ⟨b', off', none⟩) T.length cap) rfl (by kernel_rfl) (by kernel_rfl) (by kernel_rfl) (fun _ _ _ h => h) (Or.inl ⟨by rfl, fun w _ => by go_simp⟩) hS ?_
      refine wpAnyH_take (i := 5) (v := .int .i64 (k : Int)) rfl (by kernel_rfl) (by kernel_rfl) (by kernel_rfl) (fun _ _ _ h => h) (Or.inl ⟨by rfl, fun w _ => by go_simp⟩) hS ?_
      go_simp
      refine wpAnyH_take (i := 6) (v := .pointer (some ⟨b', off' + k * 10, none⟩)) rfl (by kernel_rfl) (by kernel_rfl) (by kernel_rfl) (fun _ _ _ h => h) (Or.inl ⟨by rfl, fun w _ => by go_simp⟩) hS ?_
      refine wpAnyH_take (i := 7) (v := .agg #[.int .i64 y.r.op, .int .i64 y.r.pl, .string y.r.nm, .string y.r.of, .int .i64 y.r.num, .slice y.r.ea y.es.length y.r.ec, .slice y.r.ba y.bs.length y.r.bc, .slice y.r.la y.ls.length y.r.lc, .int .u8 (y.r.ty : Int), .int .i64 y.r.rf]) rfl (by kernel_rfl) (by kernel_rfl) (by kernel_rfl) (fun _ _ _ h => h) (yieldsIf_load_mid (by rfl) 47 _ rfl b' (off' + k * 10) rfl (stC y) _ (fun _ h => h.2) Try.underlying47 rfl (by kernel_rfl)) hS ?_
      go_simp
      have HSB := hide (fun W (hW : Below wr.heap.size wr W) => (And.intro (range_below hra hW) (range_below hrb hW)))
      refine wpAnyH_ready (rs := [8, 9]) (by kernel_rfl) (by simp) ?_
      refine AllReadyH.cons rfl (fun K hK => ?_) (AllReadyH.cons rfl (fun K hK => ?_) AllReadyH.nil)
      · go_simp
        have b1 : Below wr.heap.size wr (Wd.alloc (.cells #[.int .i64 0, .int .i64 0, .string ⟨#[]⟩, .string ⟨#[]⟩, .int .i64 0, .slice none 0 0, .slice none 0 0, .slice none 0 0, .int .u8 0, .int .i64 0] 47)) := hD.alloc hdz _
        refine hK.out _ _ (unhide HSB _ b1) (fun hS2 => ?_)
        clear hK K
        refine wpAnyH_ready (rs := [9]) (by kernel_rfl) (by simp) ?_
        refine AllReadyH.cons rfl (fun K hK => ?_) AllReadyH.nil
        go_simp
        have b2 : Below wr.heap.size wr ((Wd.alloc (.cells #[.int .i64 0, .int .i64 0, .string ⟨#[]⟩, .string ⟨#[]⟩, .int .i64 0, .slice none 0 0, .slice none 0 0, .slice none 0 0, .int .u8 0, .int .i64 0] 47)).alloc (.cells #[.int .i64 0, .int .i64 0, .string ⟨#[]⟩, .string ⟨#[]⟩, .int .i64 0, .slice none 0 0, .slice none 0 0, .slice none 0 0, .int .u8 0, .int .i64 0] 47)) := b1.alloc (by simp; omega) _
        refine hK.out _ _ (unhide HSB _ b2) (fun hS3 => ?_)
        clear hK K
        have z1 : Bx ((Wd.alloc (.cells #[.int .i64 0, .int .i64 0, .string ⟨#[]⟩, .string ⟨#[]⟩, .int .i64 0, .slice none 0 0, .slice none 0 0, .slice none 0 0, .int .u8 0, .int .i64 0] 47)).alloc (.cells #[.int .i64 0, .int .i64 0, .string ⟨#[]⟩, .string ⟨#[]⟩, .int .i64 0, .slice none 0 0, .slice none 0 0, .slice none 0 0, .int .u8 0, .int .i64 0] 47)) Wd.heap.size 47 #[.int .i64 0, .int .i64 0, .string ⟨#[]⟩, .string ⟨#[]⟩, .int .i64 0, .slice none 0 0, .slice none 0 0, .slice none 0 0, .int .u8 0, .int .i64 0] := (((Below.refl _ _).alloc (Nat.le_refl _) _).block Wd.heap.size (by simp)).trans (heap_alloc_new Wd _)
        have z2 : Bx ((Wd.alloc (.cells #[.int .i64 0, .int .i64 0, .string ⟨#[]⟩, .string ⟨#[]⟩, .int .i64 0, .slice none 0 0, .slice none 0 0, .slice none 0 0, .int .u8 0, .int .i64 0] 47)).alloc (.cells #[.int .i64 0, .int .i64 0, .string ⟨#[]⟩, .string ⟨#[]⟩, .int .i64 0, .slice none 0 0, .slice none 0 0, .slice none 0 0, .int .u8 0, .int .i64 0] 47)) (Wd.heap.size + 1) 47 #[.int .i64 0, .int .i64 0, .string ⟨#[]⟩, .string ⟨#[]⟩, .int .i64 0, .slice none 0 0, .slice none 0 0, .slice none 0 0, .int .u8 0, .int .i64 0] := by have := heap_alloc_new (Wd.alloc (.cells #[.int .i64 0, .int .i64 0, .string ⟨#[]⟩, .string ⟨#[]⟩, .int .i64 0, .slice none 0 0, .slice none 0 0, .slice none 0 0, .int .u8 0, .int .i64 0] 47)) (.cells #[.int .i64 0, .int .i64 0, .string ⟨#[]⟩, .string ⟨#[]⟩, .int .i64 0, .slice none 0 0, .slice none 0 0, .slice none 0 0, .int .u8 0, .int .i64 0] 47); rw [World.size_alloc] at this; exact this
        generalize ((Wd.alloc (.cells #[.int .i64 0, .int .i64 0, .string ⟨#[]⟩, .string ⟨#[]⟩, .int .i64 0, .slice none 0 0, .slice none 0 0, .slice none 0 0, .int .u8 0, .int .i64 0] 47)).alloc (.cells #[.int .i64 0, .int .i64 0, .string ⟨#[]⟩, .string ⟨#[]⟩, .int .i64 0, .slice none 0 0, .slice none 0 0, .slice none 0 0, .int .u8 0, .int .i64 0] 47)) = W2 at b2 z1 z2 hS3 ⊢
        generalize hgg : Wd.heap.size = g at z1 z2 ⊢
        have hge : wr.heap.size ≤ g := by omega
        clear hgg
        refine wpAnyH_ready (rs := [10]) (by kernel_rfl) (by simp) ?_
        refine AllReadyH.cons rfl (fun K hK => ?_) AllReadyH.nil
        rw [if_pos (by rfl)]
        refine wp_store_row 47 _ _ rfl g #[.int .i64 x.r.op, .int .i64 x.r.pl, .string x.r.nm, .string x.r.of, .int .i64 x.r.num, .slice x.r.ea x.es.length x.r.ec, .slice x.r.ba x.bs.length x.r.bc, .slice x.r.la x.ls.length x.r.lc, .int .u8 (x.r.ty : Int), .int .i64 x.r.rf] rfl rfl 47 #[.int .i64 0, .int .i64 0, .string ⟨#[]⟩, .string ⟨#[]⟩, .int .i64 0, .slice none 0 0, .slice none 0 0, .slice none 0 0, .int .u8 0, .int .i64 0] z1 (by kernel_rfl) rfl (by simp [Value.oneCell']) ?_
        have b3 : Below wr.heap.size wr (W2.setRow g #[.int .i64 x.r.op, .int .i64 x.r.pl, .string x.r.nm, .string x.r.of, .int .i64 x.r.num, .slice x.r.ea x.es.length x.r.ec, .slice x.r.ba x.bs.length x.r.bc, .slice x.r.la x.ls.length x.r.lc, .int .u8 (x.r.ty : Int), .int .i64 x.r.rf]) := below_setRow' b2 (by omega) _
        refine hK.out _ _ (unhide HSB _ b3) (fun hS4 => ?_)
        clear hK K
        have y1 : Bx (W2.setRow g #[.int .i64 x.r.op, .int .i64 x.r.pl, .string x.r.nm, .string x.r.of, .int .i64 x.r.num, .slice x.r.ea x.es.length x.r.ec, .slice x.r.ba x.bs.length x.r.bc, .slice x.r.la x.ls.length x.r.lc, .int .u8 (x.r.ty : Int), .int .i64 x.r.rf]) g 47 #[.int .i64 x.r.op, .int .i64 x.r.pl, .string x.r.nm, .string x.r.of, .int .i64 x.r.num, .slice x.r.ea x.es.length x.r.ec, .slice x.r.ba x.bs.length x.r.bc, .slice x.r.la x.ls.length x.r.lc, .int .u8 (x.r.ty : Int), .int .i64 x.r.rf] := setRow_heap _ _ _ _ _ _ z1
        have y2 : Bx (W2.setRow g #[.int .i64 x.r.op, .int .i64 x.r.pl, .string x.r.nm, .string x.r.of, .int .i64 x.r.num, .slice x.r.ea x.es.length x.r.ec, .slice x.r.ba x.bs.length x.r.bc, .slice x.r.la x.ls.length x.r.lc, .int .u8 (x.r.ty : Int), .int .i64 x.r.rf]) (g + 1) 47 #[.int .i64 0, .int .i64 0, .string ⟨#[]⟩, .string ⟨#[]⟩, .int .i64 0, .slice none 0 0, .slice none 0 0, .slice none 0 0, .int .u8 0, .int .i64 0] := (setRow_other W2 g (g + 1) _ (by omega)).trans z2
        generalize W2.setRow g #[.int .i64 x.r.op, .int .i64 x.r.pl, .string x.r.nm, .string x.r.of, .int .i64 x.r.num, .slice x.r.ea x.es.length x.r.ec, .slice x.r.ba x.bs.length x.r.bc, .slice x.r.la x.ls.length x.r.lc, .int .u8 (x.r.ty : Int), .int .i64 x.r.rf] = W3 at b3 y1 y2 hS4 ⊢
        refine wpAnyH_ready (rs := [11]) (by kernel_rfl) (by simp) ?_
        refine AllReadyH.cons rfl (fun K hK => ?_) AllReadyH.nil
        rw [if_pos (by rfl)]
        refine wp_store_row 47 _ _ rfl (g + 1) #[.int .i64 y.r.op, .int .i64 y.r.pl, .string y.r.nm, .string y.r.of, .int .i64 y.r.num, .slice y.r.ea y.es.length y.r.ec, .slice y.r.ba y.bs.length y.r.bc, .slice y.r.la y.ls.length y.r.lc, .int .u8 (y.r.ty : Int), .int .i64 y.r.rf] rfl rfl 47 #[.int .i64 0, .int .i64 0, .string ⟨#[]⟩, .string ⟨#[]⟩, .int .i64 0, .slice none 0 0, .slice none 0 0, .slice none 0 0, .int .u8 0, .int .i64 0] y2 (by kernel_rfl) rfl (by simp [Value.oneCell']) ?_
        have b4 : Below wr.heap.size wr (W3.setRow (g + 1) #[.int .i64 y.r.op, .int .i64 y.r.pl, .string y.r.nm, .string y.r.of, .int .i64 y.r.num, .slice y.r.ea y.es.length y.r.ec, .slice y.r.ba y.bs.length y.r.bc, .slice y.r.la y.ls.length y.r.lc, .int .u8 (y.r.ty : Int), .int .i64 y.r.rf]) := below_setRow' b3 (by omega) _
        refine hK.out _ _ (unhide HSB _ b4) (fun hS5 => ?_)
        clear hK K
        refine wpAnyH_done (by kernel_rfl) ?_ _
        go_wp2_with fail
        go_meet
        exact ⟨g, (g + 1), rfl, rfl, hide ((setRow_other W3 (g + 1) g _ (by omega)).trans y1), hide (setRow_heap _ _ _ _ _ _ y2), hide b4⟩
      · go_simp
        have b1 : Below wr.heap.size wr (Wd.alloc (.cells #[.int .i64 0, .int .i64 0, .string ⟨#[]⟩, .string ⟨#[]⟩, .int .i64 0, .slice none 0 0, .slice none 0 0, .slice none 0 0, .int .u8 0, .int .i64 0] 47)) := hD.alloc hdz _
        refine hK.out _ _ (unhide HSB _ b1) (fun hS2 => ?_)
        clear hK K
        refine wpAnyH_ready (rs := [8]) (by kernel_rfl) (by simp) ?_
        refine AllReadyH.cons rfl (fun K hK => ?_) AllReadyH.nil
        go_simp
        have b2 : Below wr.heap.size wr ((Wd.alloc (.cells #[.int .i64 0, .int .i64 0, .string ⟨#[]⟩, .string ⟨#[]⟩, .int .i64 0, .slice none 0 0, .slice none 0 0, .slice none 0 0, .int .u8 0, .int .i64 0] 47)).alloc (.cells #[.int .i64 0, .int .i64 0, .string ⟨#[]⟩, .string ⟨#[]⟩, .int .i64 0, .slice none 0 0, .slice none 0 0, .slice none 0 0, .int .u8 0, .int .i64 0] 47)) := b1.alloc (by simp; omega) _
        refine hK.out _ _ (unhide HSB _ b2) (fun hS3 => ?_)
        clear hK K
        have z1 : Bx ((Wd.alloc (.cells #[.int .i64 0, .int .i64 0, .string ⟨#[]⟩, .string ⟨#[]⟩, .int .i64 0, .slice none 0 0, .slice none 0 0, .slice none 0 0, .int .u8 0, .int .i64 0] 47)).alloc (.cells #[.int .i64 0, .int .i64 0, .string ⟨#[]⟩, .string ⟨#[]⟩, .int .i64 0, .slice none 0 0, .slice none 0 0, .slice none 0 0, .int .u8 0, .int .i64 0] 47)) Wd.heap.size 47 #[.int .i64 0, .int .i64 0, .string ⟨#[]⟩, .string ⟨#[]⟩, .int .i64 0, .slice none 0 0, .slice none 0 0, .slice none 0 0, .int .u8 0, .int .i64 0] := (((Below.refl _ _).alloc (Nat.le_refl _) _).block Wd.heap.size (by simp)).trans (heap_alloc_new Wd _)
        have z2 : Bx ((Wd.alloc (.cells #[.int .i64 0, .int .i64 0, .string ⟨#[]⟩, .string ⟨#[]⟩, .int .i64 0, .slice none 0 0, .slice none 0 0, .slice none 0 0, .int .u8 0, .int .i64 0] 47)).alloc (.cells #[.int .i64 0, .int .i64 0, .string ⟨#[]⟩, .string ⟨#[]⟩, .int .i64 0, .slice none 0 0, .slice none 0 0, .slice none 0 0, .int .u8 0, .int .i64 0] 47)) (Wd.heap.size + 1) 47 #[.int .i64 0, .int .i64 0, .string ⟨#[]⟩, .string ⟨#[]⟩, .int .i64 0, .slice none 0 0, .slice none 0 0, .slice none 0 0, .int .u8 0, .int .i64 0] := by have := heap_alloc_new (Wd.alloc (.cells #[.int .i64 0, .int .i64 0, .string ⟨#[]⟩, .string ⟨#[]⟩, .int .i64 0, .slice none 0 0, .slice none 0 0, .slice none 0 0, .int .u8 0, .int .i64 0] 47)) (.cells #[.int .i64 0, .int .i64 0, .string ⟨#[]⟩, .string ⟨#[]⟩, .int .i64 0, .slice none 0 0, .slice none 0 0, .slice none 0 0, .int .u8 0, .int .i64 0] 47); rw [World.size_alloc] at this; exact this
        generalize ((Wd.alloc (.cells #[.int .i64 0, .int .i64 0, .string ⟨#[]⟩, .string ⟨#[]⟩, .int .i64 0, .slice none 0 0, .slice none 0 0, .slice none 0 0, .int .u8 0, .int .i64 0] 47)).alloc (.cells #[.int .i64 0, .int .i64 0, .string ⟨#[]⟩, .string ⟨#[]⟩, .int .i64 0, .slice none 0 0, .slice none 0 0, .slice none 0 0, .int .u8 0, .int .i64 0] 47)) = W2 at b2 z1 z2 hS3 ⊢
        generalize hgg : Wd.heap.size = g at z1 z2 ⊢
        have hge : wr.heap.size ≤ g := by omega
        clear hgg
        refine wpAnyH_ready (rs := [10]) (by kernel_rfl) (by simp) ?_
        refine AllReadyH.cons rfl (fun K hK => ?_) AllReadyH.nil
        rw [if_pos (by rfl)]
        refine wp_store_row 47 _ _ rfl (g + 1) #[.int .i64 x.r.op, .int .i64 x.r.pl, .string x.r.nm, .string x.r.of, .int .i64 x.r.num, .slice x.r.ea x.es.length x.r.ec, .slice x.r.ba x.bs.length x.r.bc, .slice x.r.la x.ls.length x.r.lc, .int .u8 (x.r.ty : Int), .int .i64 x.r.rf] rfl rfl 47 #[.int .i64 0, .int .i64 0, .string ⟨#[]⟩, .string ⟨#[]⟩, .int .i64 0, .slice none 0 0, .slice none 0 0, .slice none 0 0, .int .u8 0, .int .i64 0] z2 (by kernel_rfl) rfl (by simp [Value.oneCell']) ?_
        have b3 : Below wr.heap.size wr (W2.setRow (g + 1) #[.int .i64 x.r.op, .int .i64 x.r.pl, .string x.r.nm, .string x.r.of, .int .i64 x.r.num, .slice x.r.ea x.es.length x.r.ec, .slice x.r.ba x.bs.length x.r.bc, .slice x.r.la x.ls.length x.r.lc, .int .u8 (x.r.ty : Int), .int .i64 x.r.rf]) := below_setRow' b2 (by omega) _
        refine hK.out _ _ (unhide HSB _ b3) (fun hS4 => ?_)
        clear hK K
        have y1 : Bx (W2.setRow (g + 1) #[.int .i64 x.r.op, .int .i64 x.r.pl, .string x.r.nm, .string x.r.of, .int .i64 x.r.num, .slice x.r.ea x.es.length x.r.ec, .slice x.r.ba x.bs.length x.r.bc, .slice x.r.la x.ls.length x.r.lc, .int .u8 (x.r.ty : Int), .int .i64 x.r.rf]) (g + 1) 47 #[.int .i64 x.r.op, .int .i64 x.r.pl, .string x.r.nm, .string x.r.of, .int .i64 x.r.num, .slice x.r.ea x.es.length x.r.ec, .slice x.r.ba x.bs.length x.r.bc, .slice x.r.la x.ls.length x.r.lc, .int .u8 (x.r.ty : Int), .int .i64 x.r.rf] := setRow_heap _ _ _ _ _ _ z2
        have y2 : Bx (W2.setRow (g + 1) #[.int .i64 x.r.op, .int .i64 x.r.pl, .string x.r.nm, .string x.r.of, .int .i64 x.r.num, .slice x.r.ea x.es.length x.r.ec, .slice x.r.ba x.bs.length x.r.bc, .slice x.r.la x.ls.length x.r.lc, .int .u8 (x.r.ty : Int), .int .i64 x.r.rf]) g 47 #[.int .i64 0, .int .i64 0, .string ⟨#[]⟩, .string ⟨#[]⟩, .int .i64 0, .slice none 0 0, .slice none 0 0, .slice none 0 0, .int .u8 0, .int .i64 0] := (setRow_other W2 (g + 1) g _ (by omega)).trans z1
        generalize W2.setRow (g + 1) #[.int .i64 x.r.op, .int .i64 x.r.pl, .string x.r.nm, .string x.r.of, .int .i64 x.r.num, .slice x.r.ea x.es.length x.r.ec, .slice x.r.ba x.bs.length x.r.bc, .slice x.r.la x.ls.length x.r.lc, .int .u8 (x.r.ty : Int), .int .i64 x.r.rf] = W3 at b3 y1 y2 hS4 ⊢
        refine wpAnyH_ready (rs := [11]) (by kernel_rfl) (by simp) ?_
        refine AllReadyH.cons rfl (fun K hK => ?_) AllReadyH.nil
        rw [if_pos (by rfl)]
        refine wp_store_row 47 _ _ rfl g #[.int .i64 y.r.op, .int .i64 y.r.pl, .string y.r.nm, .string y.r.of, .int .i64 y.r.num, .slice y.r.ea y.es.length y.r.ec, .slice y.r.ba y.bs.length y.r.bc, .slice y.r.la y.ls.length y.r.lc, .int .u8 (y.r.ty : Int), .int .i64 y.r.rf] rfl rfl 47 #[.int .i64 0, .int .i64 0, .string ⟨#[]⟩, .string ⟨#[]⟩, .int .i64 0, .slice none 0 0, .slice none 0 0, .slice none 0 0, .int .u8 0, .int .i64 0] y2 (by kernel_rfl) rfl (by simp [Value.oneCell']) ?_
        have b4 : Below wr.heap.size wr (W3.setRow g #[.int .i64 y.r.op, .int .i64 y.r.pl, .string y.r.nm, .string y.r.of, .int .i64 y.r.num, .slice y.r.ea y.es.length y.r.ec, .slice y.r.ba y.bs.length y.r.bc, .slice y.r.la y.ls.length y.r.lc, .int .u8 (y.r.ty : Int), .int .i64 y.r.rf]) := below_setRow' b3 (by omega) _
        refine hK.out _ _ (unhide HSB _ b4) (fun hS5 => ?_)
        clear hK K
        refine wpAnyH_done (by kernel_rfl) ?_ _
        go_wp2_with fail
        go_meet
        exact ⟨(g + 1), g, rfl, rfl, hide ((setRow_other W3 g (g + 1) _ (by omega)).trans y1), hide (setRow_heap _ _ _ _ _ _ y2), hide b4⟩
    case rest =>
      obtain ⟨g1, g2, rfl, rfl, HG1, HG2, HBx⟩ := hcut
      obtain ⟨⟨e1, e2, e3, e4, e5, e6, e7⟩, hes, hbs, hls⟩ := unhide HSK
      rw [e1, e2, e3, e4, e5, e6, e7, hes.1, hbs.1, hls.1] at HG1
      have HES := hide hes
      have HBS := hide hbs
      have HLS := hide hls
      have HXX := hide ((stN (n + 1)).below (unhide HXA) (unhide HBx))
      have HYY := hide ((stN (n + 1)).below (unhide HYA) (unhide HBx))
      have hle : y.es.length < 9223372036854775000 := by have := (unhide HYY).1.fitE; omega
      clear hra hrb e1 e2 e3 e4 e5 e6 e7 hes hbs hls
      have b1 : (y.r.op != y.r.op) = false := by simp
      have b2 : (y.r.pl != y.r.pl) = false := by simp
      have b3 : (y.r.nm.toList == y.r.nm.toList) = true := by simp
      have b4 : (y.r.of.toList == y.r.of.toList) = true := by simp
      have b5 : (y.r.num != y.r.num) = false := by simp
      have b6 : (((y.r.ty : Nat) : Int) != ((y.r.ty : Nat) : Int)) = false := by simp
      have b7 : (y.r.rf != y.r.rf) = false := by simp
      have b8 : (((y.es.length : Nat) : Int) != ((y.es.length : Nat) : Int)) = false := by simp
      have k0 := (unhide HG1).c 0 rfl
      have m0 := (unhide HG2).c 0 rfl
      have k1 := (unhide HG1).c 1 rfl
      have m1 := (unhide HG2).c 1 rfl
      have k2 := (unhide HG1).c 2 rfl
      have m2 := (unhide HG2).c 2 rfl
      have k3 := (unhide HG1).c 3 rfl
      have m3 := (unhide HG2).c 3 rfl
      have k4 := (unhide HG1).c 4 rfl
      have m4 := (unhide HG2).c 4 rfl
      have k5 := (unhide HG1).c 5 rfl
      have m5 := (unhide HG2).c 5 rfl
      have k8 := (unhide HG1).c 8 rfl
      have m8 := (unhide HG2).c 8 rfl
      have k9 := (unhide HG1).c 9 rfl
      have m9 := (unhide HG2).c 9 rfl
      go_wp2_with fail
      clear k0 m0 k1 m1 k2 m2 k3 m3 k4 m4 k5 m5 k8 m8 k9 m9
      obtain ⟨W3, HW3⟩ : ∃ q, q = wc := ⟨_, rfl⟩
      subst HW3
      go_loopw [86] (fun i wq => ∃ j : Nat, j ≤ y.es.length ∧ i = .int .i64 (j : Int) ∧ Hid (Below W3.heap.size W3 wq)) (fun i _ => y.es.length - (intOf i).toNat)
      case atStart => exact ⟨0, by omega, rfl, hide (Below.refl _ _)⟩
      case round =>
        obtain ⟨j, hj, rfl, HBj⟩ := hrel
        by_cases hlj : j < y.es.length
        rotate_left
        · have i3 : ¬ ((j : Nat) : Int) < ((y.es.length : Nat) : Int) := by omega
          have HQ1 := hide ((unhide HG1).below (unhide HBj))
          have HQ2 := hide ((unhide HG2).below (unhide HBj))
          have HXj := hide ((stN (n + 1)).below (unhide HXX) (unhide HBj))
          have HYj := hide ((stN (n + 1)).below (unhide HYY) (unhide HBj))
          have HE1 := hide (IH x.r.ba y.r.ba x.r.bc y.r.bc x.bs y.bs wr (unhide HXj).2.2.1 (unhide HYj).2.2.1 (unhide HBS) (by have := (unhide HYj).1.fitB; omega))
          rw [(unhide HBS).1] at HE1
          have q6 := (unhide HQ1).c 6 rfl
          have r6 := (unhide HQ2).c 6 rfl
          go_wp2_with fail
          refine (unhide HE1).mono ?_
          rintro e W4 ⟨rfl, hb4⟩
          have HQ3 := hide ((unhide HQ1).below hb4)
          have HQ4 := hide ((unhide HQ2).below hb4)
          have HXq := hide ((stN (n + 1)).below (unhide HXj) hb4)
          have HYq := hide ((stN (n + 1)).below (unhide HYj) hb4)
          have HB4 := hide ((unhide HBj).trans (hb4.mono (unhide HBj).size))
          have HE2 := hide (IH x.r.la y.r.la x.r.lc y.r.lc x.ls y.ls W4 (unhide HXq).2.2.2 (unhide HYq).2.2.2 (unhide HLS) (by have := (unhide HYq).1.fitL; omega))
          rw [(unhide HLS).1] at HE2
          clear q6 r6 hb4 HE1
          have q7 := (unhide HQ3).c 7 rfl
          have r7 := (unhide HQ4).c 7 rfl
          go_wp2_with fail
          refine (unhide HE2).mono ?_
          rintro e W5 ⟨rfl, hb5⟩
          have HB5 := hide ((unhide HBr).trans (((unhide HBx).trans (((unhide HB4).trans (hb5.mono (unhide HB4).size)).mono (unhide HBx).size)).mono (unhide HBr).size))
          clear q7 r7 hb5 HE2
          go_wp2
          go_roundw
          case rel => exact ⟨k + 1, by omega, by go_num, HB5⟩
          case measure => simp [intOf]; omega
        have i3 : ((j : Nat) : Int) < ((y.es.length : Nat) : Int) := by omega
        have hjX : j < x.es.length := by rw [(unhide HES).1]; exact hlj
        have i4 : (0 : Int) ≤ ((j : Nat) : Int) := by omega
        have hx := List.getElem?_eq_getElem hjX
        have hy := List.getElem?_eq_getElem hlj
        have hsk := (unhide HES).2 j _ _ hy hx
        obtain ⟨f, fo, efx, hra, hxa⟩ := (unhide HXX).2.1.below (unhide HBj) j _ hx
        obtain ⟨f', fo', efy, hrb, hya⟩ := (unhide HYY).2.1.below (unhide HBj) j _ hy
        generalize x.es[j]'hjX = z at hxa hx hra hsk
        generalize y.es[j] = u at hya hy hrb hsk
        have hra : wr.rangeAt f (fo + j * 8) (exC z) := hra
        have hrb : wr.rangeAt f' (fo' + j * 8) (exC u) := hrb
        have HEX := hide efx
        have HEY := hide efy
        have HP1 := hide ((unhide HG1).below (unhide HBj))
        have HP2 := hide ((unhide HG2).below (unhide HBj))
        have HZA := hide hxa
        have HUA := hide hya
        have HZS := hide hsk
        clear hx hy hxa hya efx efy hsk
        go_upto_region 12 with fail
        have HS0 := hide (show Bx wr.drew g1 47 #[.int .i64 y.r.op, .int .i64 y.r.pl, .string y.r.nm, .string y.r.of, .int .i64 y.r.num, .slice x.r.ea y.es.length x.r.ec, .slice x.r.ba y.bs.length x.r.bc, .slice x.r.la y.ls.length x.r.lc, .int .u8 (y.r.ty : Int), .int .i64 y.r.rf] ∧ Bx wr.drew g2 47 #[.int .i64 y.r.op, .int .i64 y.r.pl, .string y.r.nm, .string y.r.of, .int .i64 y.r.num, .slice y.r.ea y.es.length y.r.ec, .slice y.r.ba y.bs.length y.r.bc, .slice y.r.la y.ls.length y.r.lc, .int .u8 (y.r.ty : Int), .int .i64 y.r.rf] ∧ wr.drew.rangeAt f (fo + j * 8) (exC z) ∧ wr.drew.rangeAt f' (fo' + j * 8) (exC u) from ⟨unhide HP1, unhide HP2, hra, hrb⟩)
        refine wp_region_held_drew (S := fun w' => Bx w' g1 47 #[.int .i64 y.r.op, .int .i64 y.r.pl, .string y.r.nm, .string y.r.of, .int .i64 y.r.num, .slice x.r.ea y.es.length x.r.ec, .slice x.r.ba y.bs.length x.r.bc, .slice x.r.la y.ls.length x.r.lc, .int .u8 (y.r.ty : Int), .int .i64 y.r.rf] ∧ Bx w' g2 47 #[.int .i64 y.r.op, .int .i64 y.r.pl, .string y.r.nm, .string y.r.of, .int .i64 y.r.num, .slice y.r.ea y.es.length y.r.ec, .slice y.r.ba y.bs.length y.r.bc, .slice y.r.la y.ls.length y.r.lc, .int .u8 (y.r.ty : Int), .int .i64 y.r.rf] ∧ w'.rangeAt f (fo + j * 8) (exC z) ∧ w'.rangeAt f' (fo' + j * 8) (exC u)) (by kernel_rfl) (unhide HS0) (fun hS => ?_)
        have hD : Below wr.heap.size wr wr.drew := belowD (Below.refl _ _) 1
        have hdz : wr.heap.size ≤ wr.drew.heap.size := Nat.le_refl _
        have HOK := hide (And.intro ((exN n).below (unhide HZA) hD) ((exN n).below (unhide HUA) hD))
        generalize wr.drew = Wd at hS hD hdz HOK ⊢
        refine wpAnyH_take (i := 0) (v := .pointer (some ⟨g1, 5, none⟩)) rfl (by kernel_rfl) (by kernel_rfl) (by kernel_rfl) (fun _ _ _ h => h) (Or.inl ⟨by rfl, fun w _ => by go_simp⟩) hS ?_
        refine wpAnyH_take (i := 1) (v := .slice (some ⟨f, fo, none⟩) y.es.length x.r.ec) rfl (by kernel_rfl) (by kernel_rfl) (by kernel_rfl) (fun _ _ _ h => h) (Or.inl ⟨by rfl, fun W h => by have h0 := h.1.c 5 rfl; rw [unhide HEX] at h0; go_simp⟩) hS ?_
        go_simp
        refine wpAnyH_take (i := 2) (v := .int .i64 (j : Int)) rfl (by kernel_rfl) (by kernel_rfl) (by kernel_rfl) (fun _ _ _ h => h) (Or.inl ⟨by rfl, fun w _ => by go_simp⟩) hS ?_
        refine wpAnyH_take (i := 3) (v := .pointer (some ⟨f, fo + j * 8, none⟩)) rfl (by kernel_rfl) (by kernel_rfl) (by kernel_rfl) (fun _ _ _ h => h) (Or.inl ⟨by rfl, fun w _ => by go_simp⟩) hS ?_
        go_simp
        refine wpAnyH_take (i := 4) (v := .agg #[.int .i64 z.r.op, .int .i64 z.r.pl, .string z.r.nm, .int .i64 z.r.num, .slice z.r.ka z.ks.length z.r.kc, .int .u8 (z.r.ty : Int), .int .i64 z.r.cl, .int .i64 z.r.rf]) rfl (by kernel_rfl) (by kernel_rfl) (by kernel_rfl) (fun _ _ _ h => h) (yieldsIf_load_mid (by rfl) 49 _ rfl f (fo + j * 8) rfl (exC z) _ (fun _ h => h.2.2.1) Try.underlying49 rfl (by kernel_rfl)) hS ?_
        refine wpAnyH_take (i := 5) (v := .pointer (some ⟨g2, 5, none⟩)) rfl (by kernel_rfl) (by kernel_rfl) (by kernel_rfl) (fun _ _ _ h => h) (Or.inl ⟨by rfl, fun w _ => by go_simp⟩) hS ?_
        refine wpAnyH_take (i := 6) (v := .slice (some ⟨f', fo', none⟩) y.es.length y.r.ec) rfl (by kernel_rfl) (by kernel_rfl) (by kernel_rfl) (fun _ _ _ h => h) (Or.inl ⟨by rfl, fun W h => by have h0 := h.2.1.c 5 rfl; rw [unhide HEY] at h0; go_simp⟩) hS ?_
        go_simp
        refine wpAnyH_take (i := 7) (v := .int .i64 (j : Int)) rfl (by kernel_rfl) (by kernel_rfl) (by kernel_rfl) (fun _ _ _ h => h) (Or.inl ⟨by rfl, fun w _ => by go_simp⟩) hS ?_
        refine wpAnyH_take (i := 8) (v := .pointer (some ⟨f', fo' + j * 8, none⟩)) rfl (by kernel_rfl) (by kernel_rfl) (by kernel_rfl) (fun _ _ _ h => h) (Or.inl ⟨by rfl, fun w _ => by go_simp⟩) hS ?_
        go_simp
        refine wpAnyH_take (i := 9) (v := .agg #[.int .i64 u.r.op, .int .i64 u.r.pl, .string u.r.nm, .int .i64 u.r.num, .slice u.r.ka u.ks.length u.r.kc, .int .u8 (u.r.ty : Int), .int .i64 u.r.cl, .int .i64 u.r.rf]) rfl (by kernel_rfl) (by kernel_rfl) (by kernel_rfl) (fun _ _ _ h => h) (yieldsIf_load_mid (by rfl) 49 _ rfl f' (fo' + j * 8) rfl (exC u) _ (fun _ h => h.2.2.2) Try.underlying49 rfl (by kernel_rfl)) hS ?_
        refine wpAnyH_ready (rs := [10]) (by kernel_rfl) (by simp) ?_
        refine AllReadyH.cons rfl (fun K hK => ?_) AllReadyH.nil
        go_simp
        go_wp2_with (go_at_call 23; refine (SameExpr_yes n u z Wd (unhide HOK).2 (unhide HOK).1 (unhide HZS)).mono ?_; rintro e W2 ⟨rfl, hb2⟩)
        have hb3 : Below wr.heap.size wr W2 := hD.trans (hb2.mono hdz)
        refine hK.out _ _ (And.intro ((unhide HP1).below hb3) (And.intro ((unhide HP2).below hb3) (And.intro (range_below hra hb3) (range_below hrb hb3)))) (fun hS2 => ?_)
        have HB2 := hide ((unhide HBj).trans (hb3.mono (unhide HBj).size))
        refine wpAnyH_ready (rs := [11]) (by kernel_rfl) (by simp) ?_
        clear hK K
        refine AllReadyH.cons rfl (fun K hK => ?_) AllReadyH.nil
        go_simp
        refine hK.out _ _ hS2 (fun hS3 => ?_)
        clear hK K hS2 hS3 hra hrb hb2 hb3 hD hS
        refine wpAnyH_done (by kernel_rfl) ?_ _
        go_wp2
        go_roundw
        case rel => exact ⟨j + 1, by omega, by go_num, HB2⟩
        case measure => simp [intOf]; omega
theorem SameStmts_yes : ∀ (n : Nat) (go ao : Option Addr) (gc cap : Nat) (G T : List Stm) (w : World), RowAt (stN n) w go G → RowAt (stN n) w ao T → Two (sameS n) T G → T.length < 9223372036854775000 → Calls Try.prog 17 #[.slice go G.length gc, .slice ao T.length cap] w fun e w' => e = .returned (.bool true) ∧ Below w.heap.size w w'
  | 0, go, ao, gc, cap, G, T, w, h1, h2, h3, h4 => SameStmts_zero go ao gc cap G T w h1 h2 h3 h4
  | n + 1, go, ao, gc, cap, G, T, w, h1, h2, h3, h4 => SameStmts_in n (SameStmts_yes n) go ao gc cap G T w h1 h2 h3 h4
end Go.Proofs.Ytjccomjgmejnhaa
