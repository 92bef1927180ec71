/-
  Contracts of the heap's add, Record and Row. Conditions: the heap is one that calls made; its last reference is far from the greatest number.
-/
import Derived.Test.YtbbfnampjbdnbaaDoorKHq3
import Derived.Deep.RegionHeld
import Derived.Deep.MidRow
import Derived.Deep.DeepCutAuto
namespace Go.Proofs.YtbbfnampjbdnbaaDoor
open Go.RowKit
set_option maxRecDepth 20000

theorem infoOb : (Tryd.prog.info? 83).map (fun i => (i.zero, i.size, i.bytes)) = some (some (.agg #[.int .i64 0, .int .i64 0, .slice none 0 0]), 3, 40) := by kernel_rfl
theorem infoI32 : (Tryd.prog.info? 21).map (fun i => (i.zero, i.size, i.bytes)) = some (some (.int .i32 0), 1, 4) := by kernel_rfl
theorem made_oneH (v : Value) (N : Nat) : madeCells #[v] N = (List.replicate N v).toArray := by
  apply Array.ext
  · simp [madeCells]
  · intro i h1 h2
    simp [madeCells, Nat.mod_one]
theorem make_i32 {N : Nat} (hN : N ≤ 4097) (W : World) : (Instr.makeSlice 81 (.int .i64 (N : Int)) (.int .i64 (N : Int))).run Tryd.prog W = .ok (.slice (some ⟨W.heap.size, 0, none⟩) N N) (W.alloc (.cells (plC (List.replicate N 0)) 21)) := by
  obtain ⟨i, hi, hz0, hz1, hz2⟩ := info_parts infoI32
  have h := run_makeSlice (P := Tryd.prog) (w := W) 81 21 i (.int .i32 0) Tryd.underlying81 hi hz0 .i64 .i64 (N : Int) (N : Int) (by omega) (by omega) (by rw [hz1]; simp; omega) (by rw [hz2]; omega) (by omega)
  rw [hz1, show ((N : Nat) : Int).toNat = N from by simp, Nat.mul_one] at h
  rw [h]
  show Result.ok _ (W.alloc (.cells (madeCells #[.int .i32 0] N) _)) = _
  rw [made_oneH]
  unfold plC
  rw [List.map_replicate]
theorem HpAt.upd {B : Nat} {W : World} {g : Nat} {h : Hm} (H : HpAt B W g h) (h' : Hm) (i : Nat) (v : Value) (e1 : h'.lv = h.lv) (e2 : h'.L = h.L) (e3 : h'.ov = h.ov) (e4 : h'.O = h.O) (e : hpC h' = (hpC h).setIfInBounds i v) : HpAt B (W.setCell ⟨g, i, none⟩ v) g h' ∧ Kp B [55] W (W.setCell ⟨g, i, none⟩ v) := by
  have hk : Kp B [55] W (W.setCell ⟨g, i, none⟩ v) := Kp.set H.box H.lo (by simp) i v
  refine ⟨⟨H.lo, H.box.set i v e, ?_, ?_, ?_, ?_, ?_⟩, hk⟩
  · rw [e1, e2]; exact own_kp H.lds hk (by decide)
  · rw [e2]; exact fun x hx => own_kp (H.each x hx) hk (by decide)
  · rw [e3, e4]; exact own_kp H.own hk (by decide)
  · rw [e4]; exact fun o ho => ⟨(H.pls o ho).1, (H.pls o ho).2.kp hk (by decide)⟩
  · rw [e4]; exact H.nd
/-- One more object. -/
theorem HpAt.app {B : Nat} {W w3 : World} {g : Nat} {h : Hm} (H : HpAt B W g h) (o : Ob) (obj : Obj) (g3 cap3 : Nat) (ho : B ≤ o.pb ∧ Bx W o.pb 21 (plC o.ps)) (hn : ∀ x ∈ h.O, x.pb ≠ o.pb) (hBW : B ≤ W.heap.size)
    (hown : w3.ownsRow B 83 3 (.slice (some ⟨g3, 0, none⟩) (h.O.length + 1) cap3) (h.O.length + 1) (obvals h.O ++ obC o)) (hg : (W.alloc obj).grownBy w3 h.ov.ownBlock) :
    HpAt B (w3.setCell ⟨g, 4, none⟩ (.slice (some ⟨g3, 0, none⟩) (h.O.length + 1) cap3)) g { h with ov := .slice (some ⟨g3, 0, none⟩) (h.O.length + 1) cap3, O := h.O ++ [o] } ∧ Kp B [55, 83] W (w3.setCell ⟨g, 4, none⟩ (.slice (some ⟨g3, 0, none⟩) (h.O.length + 1) cap3)) ∧ Bx w3 g 55 (hpC h) := by
  have al : Below W.heap.size W (W.alloc obj) := (Below.refl _ _).alloc (Nat.le_refl _) obj
  have H1 := H.below al
  have k1 : Kp B [83] (W.alloc obj) w3 := Kp.of_grown hg (Nat.le_trans hBW al.size) (own_block H1.own)
  have k0 : Kp B [83] W w3 := (Kp.of_below al hBW).trans k1
  have b3 : Bx w3 g 55 (hpC h) := H1.box.kp k1 (by decide)
  have k2 : Kp B [55] w3 (w3.setCell ⟨g, 4, none⟩ (.slice (some ⟨g3, 0, none⟩) (h.O.length + 1) cap3)) := Kp.set b3 H.lo (by simp) 4 _
  refine ⟨⟨H.lo, b3.set 4 _ rfl, own_kp (own_kp H.lds k0 (by decide)) k2 (by decide), fun x hx => own_kp (own_kp (H.each x hx) k0 (by decide)) k2 (by decide), ?_, ?_, ?_⟩, (k0.mono (Nat.le_refl _) (by simp)).trans (k2.mono (Nat.le_refl _) (by simp)), b3⟩
  · show World.ownsRow _ B 83 3 _ (h.O ++ [o]).length (obvals (h.O ++ [o]))
    rw [obvals_snoc, List.length_append]
    exact own_kp hown k2 (by decide)
  · intro x hx
    rcases List.mem_append.1 hx with hx | hx
    · exact ⟨(H.pls x hx).1, ((H.pls x hx).2.kp k0 (by decide)).kp k2 (by decide)⟩
    · rw [List.mem_singleton] at hx
      subst hx
      exact ⟨ho.1, (ho.2.kp k0 (by decide)).kp k2 (by decide)⟩
  · show ((h.O ++ [o]).map Ob.pb).Nodup
    rw [List.map_append, List.nodup_append]
    refine ⟨H.nd, by simp, ?_⟩
    intro a ha b hb
    obtain ⟨x, hx, rfl⟩ := List.mem_map.1 ha
    simp at hb
    subst hb
    exact hn x hx
/-- The heap behind add. -/
def addH (h : Hm) (c : Int) (n : Nat) (gp : Nat) (ov : Value) : Hm := { h with used := h.used + (1 + (n : Int)), last := h.last + 1, ov := ov, O := h.O ++ [⟨h.last + 1, c, gp, List.replicate n 0⟩] }
theorem HmOk.add {h : Hm} (H : HmOk h) {c : Int} {n : Nat} (gp : Nat) (ov : Value) (hf : (n : Int) < h.room - h.used) (hc : c = -1 ∨ ∃ k : Nat, c = (k : Int) ∧ ∃ x, h.L[k]? = some x ∧ x.bs.length = n) : HmOk (addH h c n gp ov) := by
  refine ⟨H.room, ?_, ?_, ?_, ?_, ?_, ?_, ?_, H.lds⟩
  · show h.used + (1 + (n : Int)) = ((cellsO (h.O ++ [_]) : Nat) : Int)
    rw [H.used]
    unfold cellsO
    simp
  · show h.used + (1 + (n : Int)) ≤ h.room
    omega
  · show 0 ≤ h.last + 1
    have := H.last; omega
  · show (h.O ++ [_]).Pairwise _
    rw [List.pairwise_append]
    refine ⟨H.asc, by simp, ?_⟩
    intro a ha b hb
    simp at hb
    subst hb
    have := (H.refs a ha).2
    show a.ref < h.last + 1
    omega
  · intro o ho
    rcases List.mem_append.1 ho with ho | ho
    · have := H.refs o ho
      exact ⟨this.1, by show o.ref ≤ h.last + 1; omega⟩
    · simp at ho
      subst ho
      exact ⟨by show 1 ≤ h.last + 1; have := H.last; omega, Int.le_refl _⟩
  · intro o ho
    rcases List.mem_append.1 ho with ho | ho
    · exact H.cls o ho
    · simp at ho
      subst ho
      rcases hc with hc | ⟨k, hc, x, hx, hl⟩
      · exact Or.inl hc
      · exact Or.inr ⟨k, hc, x, hx, by simp [hl]⟩
  · intro o ho y hy
    rcases List.mem_append.1 ho with ho | ho
    · exact H.i32 o ho y hy
    · simp at ho
      subst ho
      have : y = 0 := (List.mem_replicate.1 hy).2
      subst this
      omega
theorem obC_one (o : Ob) : ∀ u ∈ obC o, u.oneCell' = true := by
  intro u hu
  simp only [obC, List.mem_cons, List.mem_nil_iff, or_false] at hu
  rcases hu with rfl | rfl | rfl <;> rfl
theorem ob_new (r c : Int) (gp n : Nat) : (obC ⟨r, c, gp, List.replicate n 0⟩).toArray = #[.int .i64 r, .int .i64 c, .slice (some ⟨gp, 0, none⟩) n n] := by simp [obC]
theorem news_ob {W : World} {b : Nat} {o : Ob} (h : W.heap[b]? = some (.cells (obC o).toArray 83 (0, 0))) : ∀ j u, (obC o)[j]? = some u → W.cell? ((⟨b, 0, none⟩ : Addr).add j) = some u := World.news_of_block (cs := (obC o).toArray) (t := 83) (fr := (0, 0)) h
theorem box_rangeH {W : World} {g : Nat} {cs : Array Value} {t : TypeId} (h : Bx W g t cs) : W.rangeAt g 0 cs.toList := fun j v hv => by
  have e := cell_of_row W g (0 + j) _ _ _ h
  rw [e, Nat.zero_add]
  simpa using hv
/-- What a call that adds answers, and the heap behind it. -/
def AddIs (h : Hm) (c : Int) (n : Nat) (h' : Hm) (r er : Int) : Prop :=
  (h.room - h.used ≤ (n : Int) ∧ r = 0 ∧ er = 7 ∧ h' = h) ∨ ((n : Int) < h.room - h.used ∧ r = h.last + 1 ∧ er = 0 ∧ ∃ gp ov, h' = addH h c n gp ov)
structure MdN (W : World) (h : Hm) (c : Int) (n gb gp : Nat) (W0 : World) : Prop where
  bx : Bx W gb 83 #[.int .i64 (h.last + 1), .int .i64 c, .slice (some ⟨gp, 0, none⟩) n n]
  pl : Bx W gp 21 (plC (List.replicate n 0))
  new : W0.heap.size ≤ gp
  nb : W0.heap.size ≤ gb
  bel : Below W0.heap.size W0 W
set_option maxRecDepth 20000 in
set_option maxHeartbeats 4000000 in
theorem add_any (B g : Nat) (h : Hm) (c : Int) (n : Nat) (w : World) (H : HpAt B w g h) (hok : HmOk h) (hB : B ≤ w.heap.size) (hl : h.last < 4611686018427387904) (hnn : n < 9223372036854775808) :
    Calls Tryd.prog 43 #[.pointer (some ⟨g, 0, none⟩), .int .i64 c, .int .i64 ((n : Nat) : Int)] w fun e w' => ∃ h' r er, e = .returned (.tuple #[.int .i64 r, .int .i64 er]) ∧ AddIs h c n h' r er ∧ HpAt B w' g h' ∧ Kp B [55, 83] w w' := by
  obtain ⟨i0, hi0, hz0, hz1, hz2⟩ := info_parts infoOb
  have HH := hide H
  have HK := hide hok
  have HBB := hide hB
  have hr := hok.room
  have hu : 0 ≤ h.used := by have := hok.used; omega
  have hfit := hok.fits
  have hla := hok.last
  have c1 := H.c1
  have c2 := H.c2
  clear H hok hB
  go_enter Tryd.func43, Tryd.ntmps43
  by_cases hf : h.room - h.used ≤ (n : Int)
  · have HF := hide hf
    go_wp2_with fail
    go_quiet (fail)
    go_wp2
    go_ret2
    exact ⟨h, 0, 7, rfl, Or.inl ⟨unhide HF, rfl, rfl, rfl⟩, (unhide HH).below (belowD (Below.refl _ _) nq), Kp.of_below (belowD (Below.refl _ _) nq) (unhide HBB)⟩
  · have HF : Hid ((n : Int) < h.room - h.used) := hide (by omega)
    have hn6 : n ≤ 4096 := by omega
    go_wp2_with fail
    go_quiet (fail)
    have HH1 := hide ((unhide HH).below (belowD (Below.refl _ _) nq))
    have HK1 : Hid (Kp B [55, 83] w (w.drewN nq)) := hide (Kp.of_below (belowD (Below.refl _ _) nq) (unhide HBB))
    clear c1 c2 HH
    generalize w.drewN nq = W1 at HH1 HK1 ⊢
    have c3 := (unhide HH1).c3
    have f3 := (unhide HH1).box.f 3
    go_upto_region 4 with fail
    have HU := hide ((unhide HH1).upd { h with last := h.last + 1 } 3 (.int .i64 (h.last + 1)) rfl rfl rfl rfl rfl)
    have HK2 := hide ((unhide HK1).trans ((unhide HU).2.mono (Nat.le_refl _) (by simp)))
    have HH2 := hide (unhide HU).1
    clear c3 f3 HU HH1 HK1
    generalize W1.setCell ⟨g, 3, none⟩ (.int .i64 (h.last + 1)) = W2 at HH2 HK2 ⊢
    have HB2 : Hid (B ≤ W2.heap.size) := hide (Nat.le_trans (unhide HBB) (unhide HK2).size)
    go_cut [8] (fun s8 wx => ∃ gb gp, s8 = .pointer (some ⟨gb, 0, none⟩) ∧ Hid (MdN wx h c n gb gp W2))
    case first =>
      have hS0 : W2.drew.cell? ⟨g, 3, none⟩ = some (.int .i64 (h.last + 1)) := (unhide HH2).c3
      refine wp_region_held_drew (S := fun w' => w'.cell? ⟨g, 3, none⟩ = some (.int .i64 (h.last + 1))) (by kernel_rfl) hS0 (fun hS => ?_)
      have HD : Hid (Below W2.heap.size W2 W2.drew) := hide (belowD (Below.refl _ _) 1)
      generalize W2.drew = Wd at hS HD ⊢
      clear hS0
      refine wpAnyH_take (i := 0) (v := .pointer (some ⟨g, 0, none⟩)) rfl (by kernel_rfl) (by kernel_rfl) (by kernel_rfl) (fun _ _ _ h => h) (Or.inl ⟨by rfl, fun w _ => by go_simp⟩) hS ?_
      refine wpAnyH_take (i := 1) (v := .pointer (some ⟨g, 0, none⟩)) rfl (by kernel_rfl) (by kernel_rfl) (by kernel_rfl) (fun _ _ _ h => h) (Or.inl ⟨by rfl, fun w _ => by go_simp⟩) hS ?_
      go_simp
      refine wpAnyH_take (i := 2) (v := .pointer (some ⟨g, 3, none⟩)) rfl (by kernel_rfl) (by kernel_rfl) (by kernel_rfl) (fun _ _ _ h => h) (Or.inl ⟨by rfl, fun w _ => by go_simp⟩) hS ?_
      refine wpAnyH_take (i := 3) (v := .int .i64 (h.last + 1)) rfl (by kernel_rfl) (by kernel_rfl) (by kernel_rfl) (fun _ _ _ h => h) (Or.inl ⟨by rfl, fun W h => by go_simp⟩) hS ?_
      go_simp
      refine wpAnyH_take (i := 4) (v := .int .i64 c) rfl (by kernel_rfl) (by kernel_rfl) (by kernel_rfl) (fun _ _ _ h => h) (Or.inl ⟨by rfl, fun w _ => by go_simp⟩) hS ?_
      refine wpAnyH_take (i := 5) (v := .int .i64 ((n : Nat) : Int)) rfl (by kernel_rfl) (by kernel_rfl) (by kernel_rfl) (fun _ _ _ h => h) (Or.inl ⟨by rfl, fun w _ => by go_simp⟩) hS ?_
      go_simp
      refine wpAnyH_ready (rs := [6, 8]) (by kernel_rfl) (by simp) ?_
      refine (AllReadyH.cons rfl (fun K hK => ?_) (AllReadyH.cons rfl (fun K hK => ?_) AllReadyH.nil))
      · have hmk := make_i32 (N := n) (by omega) Wd
        go_simp
        have HPX0 : Hid (Bx (Wd.alloc (.cells (plC (List.replicate n 0)) 21)) Wd.heap.size 21 (plC (List.replicate n 0))) := hide (heap_alloc_new Wd _)
        have HD1 : Hid (Below W2.heap.size W2 (Wd.alloc (.cells (plC (List.replicate n 0)) 21))) := hide ((unhide HD).alloc (unhide HD).size _)
        have HS1 : Hid ((Wd.alloc (.cells (plC (List.replicate n 0)) 21)).cell? ⟨g, 3, none⟩ = some (.int .i64 (h.last + 1))) := hide (((unhide HH2).below (unhide HD1)).c3)
        have hge : W2.heap.size ≤ Wd.heap.size := (unhide HD).size
        refine hK.out _ _ (unhide HS1) (fun hS1 => ?_)
        clear hK K hS hmk
        generalize Wd.alloc (.cells (plC (List.replicate n 0)) 21) = Wa at HPX0 HD1 HS1 hS1 ⊢
        generalize Wd.heap.size = gp at HPX0 hge ⊢
        refine wpAnyH_take (i := 7) (v := .agg #[.int .i64 (h.last + 1), .int .i64 c, .slice (some ⟨gp, 0, none⟩) n n]) rfl (by kernel_rfl) (by kernel_rfl) (by kernel_rfl) (fun _ _ _ h => h) (Or.inl ⟨by rfl, fun W _ => by go_simp⟩) hS1 ?_
        refine wpAnyH_ready (rs := [8]) (by kernel_rfl) (by simp) ?_
        refine (AllReadyH.cons rfl (fun K hK => ?_) AllReadyH.nil)
        go_simp
        have HBX : Hid (Bx (Wa.alloc (.cells #[.int .i64 0, .int .i64 0, .slice none 0 0] 83)) Wa.heap.size 83 #[.int .i64 0, .int .i64 0, .slice none 0 0]) := hide (heap_alloc_new Wa _)
        have hal : Below Wa.heap.size Wa (Wa.alloc (.cells #[.int .i64 0, .int .i64 0, .slice none 0 0] 83)) := (Below.refl _ _).alloc (Nat.le_refl _) _
        have HPX := hide ((unhide HPX0).below hal)
        have HDX := hide ((unhide HD1).trans (hal.mono (unhide HD1).size))
        have HGE := hide hge
        have HNE : Hid (gp ≠ Wa.heap.size) := hide (Nat.ne_of_lt (unhide HPX0).lt)
        have HGB : Hid (W2.heap.size ≤ Wa.heap.size) := hide (unhide HD1).size
        have HS2 : Hid ((Wa.alloc (.cells #[.int .i64 0, .int .i64 0, .slice none 0 0] 83)).cell? ⟨g, 3, none⟩ = some (.int .i64 (h.last + 1))) := hide (((unhide HH2).below (unhide HDX)).c3)
        refine hK.out _ _ (unhide HS2) (fun hS2 => ?_)
        clear hK K hS1 hal HS1 HS2 HPX0 HD1
        generalize Wa.alloc (.cells #[.int .i64 0, .int .i64 0, .slice none 0 0] 83) = Wb at HBX HPX HDX hS2 ⊢
        generalize Wa.heap.size = gb at HBX HNE HGB ⊢
        refine wpAnyH_ready (rs := [9]) (by kernel_rfl) (by simp) ?_
        refine AllReadyH.cons rfl (fun K hK => ?_) AllReadyH.nil
        rw [if_pos (by rfl)]
        refine wp_store_row 83 _ _ rfl gb #[.int .i64 (h.last + 1), .int .i64 c, .slice (some ⟨gp, 0, none⟩) n n] (by rfl) (by rfl) 83 #[.int .i64 0, .int .i64 0, .slice none 0 0] (unhide HBX) (by kernel_rfl) rfl (by simp [Value.oneCell']) ?_
        have HFIN : Hid (MdN (Wb.setRow gb #[.int .i64 (h.last + 1), .int .i64 c, .slice (some ⟨gp, 0, none⟩) n n]) h c n gb gp W2) := hide ⟨setRow_heap _ _ _ _ _ _ (unhide HBX), (setRow_other _ _ _ _ (unhide HNE)).trans (unhide HPX), unhide HGE, unhide HGB, below_row (unhide HDX) (unhide HGB) _⟩
        have HSX : Hid ((Wb.setRow gb #[.int .i64 (h.last + 1), .int .i64 c, .slice (some ⟨gp, 0, none⟩) n n]).cell? ⟨g, 3, none⟩ = some (.int .i64 (h.last + 1))) := hide (((unhide HH2).below (unhide HFIN).bel).c3)
        refine hK.out _ _ (unhide HSX) (fun hS9 => ?_)
        clear hK K
        refine wpAnyH_done (by kernel_rfl) ?_ _
        go_wp2_with fail
        go_meet
        exact ⟨gb, gp, rfl, HFIN⟩
      · go_simp
        have HBX0 : Hid (Bx (Wd.alloc (.cells #[.int .i64 0, .int .i64 0, .slice none 0 0] 83)) Wd.heap.size 83 #[.int .i64 0, .int .i64 0, .slice none 0 0]) := hide (heap_alloc_new Wd _)
        have HD1 : Hid (Below W2.heap.size W2 (Wd.alloc (.cells #[.int .i64 0, .int .i64 0, .slice none 0 0] 83))) := hide ((unhide HD).alloc (unhide HD).size _)
        have HS1 : Hid ((Wd.alloc (.cells #[.int .i64 0, .int .i64 0, .slice none 0 0] 83)).cell? ⟨g, 3, none⟩ = some (.int .i64 (h.last + 1))) := hide (((unhide HH2).below (unhide HD1)).c3)
        have hge : W2.heap.size ≤ Wd.heap.size := (unhide HD).size
        refine hK.out _ _ (unhide HS1) (fun hS1 => ?_)
        clear hK K hS
        generalize Wd.alloc (.cells #[.int .i64 0, .int .i64 0, .slice none 0 0] 83) = Wa at HBX0 HD1 HS1 hS1 ⊢
        generalize Wd.heap.size = gb at HBX0 hge ⊢
        refine wpAnyH_ready (rs := [6]) (by kernel_rfl) (by simp) ?_
        refine (AllReadyH.cons rfl (fun K hK => ?_) AllReadyH.nil)
        have hmk := make_i32 (N := n) (by omega) Wa
        go_simp
        have HPX : Hid (Bx (Wa.alloc (.cells (plC (List.replicate n 0)) 21)) Wa.heap.size 21 (plC (List.replicate n 0))) := hide (heap_alloc_new Wa _)
        have hal : Below Wa.heap.size Wa (Wa.alloc (.cells (plC (List.replicate n 0)) 21)) := (Below.refl _ _).alloc (Nat.le_refl _) _
        have HBX := hide ((unhide HBX0).below hal)
        have HDX := hide ((unhide HD1).trans (hal.mono (unhide HD1).size))
        have HGB := hide hge
        have HNE : Hid (Wa.heap.size ≠ gb) := hide (Nat.ne_of_gt (unhide HBX0).lt)
        have HGE : Hid (W2.heap.size ≤ Wa.heap.size) := hide (unhide HD1).size
        have HS2 : Hid ((Wa.alloc (.cells (plC (List.replicate n 0)) 21)).cell? ⟨g, 3, none⟩ = some (.int .i64 (h.last + 1))) := hide (((unhide HH2).below (unhide HDX)).c3)
        refine hK.out _ _ (unhide HS2) (fun hS2 => ?_)
        clear hK K hS1 hal HS1 HS2 HBX0 HD1 hmk
        generalize Wa.alloc (.cells (plC (List.replicate n 0)) 21) = Wb at HBX HPX HDX hS2 ⊢
        generalize Wa.heap.size = gp at HPX HNE HGE ⊢
        refine wpAnyH_take (i := 7) (v := .agg #[.int .i64 (h.last + 1), .int .i64 c, .slice (some ⟨gp, 0, none⟩) n n]) rfl (by kernel_rfl) (by kernel_rfl) (by kernel_rfl) (fun _ _ _ h => h) (Or.inl ⟨by rfl, fun W _ => by go_simp⟩) hS2 ?_
        refine wpAnyH_ready (rs := [9]) (by kernel_rfl) (by simp) ?_
        refine AllReadyH.cons rfl (fun K hK => ?_) AllReadyH.nil
        rw [if_pos (by rfl)]
        refine wp_store_row 83 _ _ rfl gb #[.int .i64 (h.last + 1), .int .i64 c, .slice (some ⟨gp, 0, none⟩) n n] (by rfl) (by rfl) 83 #[.int .i64 0, .int .i64 0, .slice none 0 0] (unhide HBX) (by kernel_rfl) rfl (by simp [Value.oneCell']) ?_
        have HFIN : Hid (MdN (Wb.setRow gb #[.int .i64 (h.last + 1), .int .i64 c, .slice (some ⟨gp, 0, none⟩) n n]) h c n gb gp W2) := hide ⟨setRow_heap _ _ _ _ _ _ (unhide HBX), (setRow_other _ _ _ _ (unhide HNE)).trans (unhide HPX), unhide HGE, unhide HGB, below_row (unhide HDX) (unhide HGB) _⟩
        have HSX : Hid ((Wb.setRow gb #[.int .i64 (h.last + 1), .int .i64 c, .slice (some ⟨gp, 0, none⟩) n n]).cell? ⟨g, 3, none⟩ = some (.int .i64 (h.last + 1))) := hide (((unhide HH2).below (unhide HFIN).bel).c3)
        refine hK.out _ _ (unhide HSX) (fun hS9 => ?_)
        clear hK K
        refine wpAnyH_done (by kernel_rfl) ?_ _
        go_wp2_with fail
        go_meet
        exact ⟨gb, gp, rfl, HFIN⟩
    case rest =>
      obtain ⟨gb, gp, rfl, HM⟩ := hcut
      have HH3 := hide ((unhide HH2).below (unhide HM).bel)
      have HB3 : Hid (B ≤ wc.heap.size) := hide (Nat.le_trans (unhide HB2) (unhide HM).bel.size)
      have HK3 := hide ((unhide HK2).trans (Kp.of_below (unhide HM).bel (unhide HB2)))
      have HNP : Hid (∀ x ∈ h.O, x.pb ≠ gp) := hide (fun x hx => by have := ((unhide HH2).pls x hx).2.lt; have := (unhide HM).new; omega)
      obtain ⟨oa, oc, hov⟩ := (unhide HH3).ovs
      have HOV : Hid (h.ov = .slice oa h.O.length oc) := hide hov
      have HNO : Hid (h.ov.ownBlock ≠ some gb) := hide (fun e => by have := ((unhide HH2).own.lt gb e).2; have := (unhide HM).nb; omega)
      have hlen : h.O.length ≤ 4096 := (unhide HK).len
      have HB2' := HB2
      clear hov HH2 HK2 HB2
      generalize wc = W3 at HM HH3 HB3 HK3 ⊢
      have HBX := hide (unhide HM).bx
      have HPL := hide (unhide HM).pl
      have HGP : Hid (B ≤ gp) := hide (Nat.le_trans (unhide HB2') (unhide HM).new)
      clear HM
      go_upto_region 5 with fail
      go_cut [8] (fun s8 wx => s8 = .pointer (some ⟨gb, 0, none⟩) ∧ ∃ ov', Hid (HpAt B wx g { h with last := h.last + 1, ov := ov', O := h.O ++ [⟨h.last + 1, c, gp, List.replicate n 0⟩] } ∧ Kp B [55, 83] w wx ∧ Bx wx gb 83 #[.int .i64 (h.last + 1), .int .i64 c, .slice (some ⟨gp, 0, none⟩) n n]))
      case first =>
        have hS0 : Bx W3.drew gb 83 #[.int .i64 (h.last + 1), .int .i64 c, .slice (some ⟨gp, 0, none⟩) n n] := unhide HBX
        refine wp_region_held_drew (S := fun w' => Bx w' gb 83 #[.int .i64 (h.last + 1), .int .i64 c, .slice (some ⟨gp, 0, none⟩) n n]) (by kernel_rfl) hS0 (fun hS => ?_)
        have HD : Hid (Below W3.heap.size W3 W3.drew) := hide (belowD (Below.refl _ _) 1)
        have HHd := hide ((unhide HH3).below (unhide HD))
        have HPd := hide ((unhide HPL).below (unhide HD))
        have HKd := hide ((unhide HK3).trans (Kp.of_below (unhide HD) (unhide HB3)))
        have hBd : B ≤ W3.drew.heap.size := unhide HB3
        clear hS0 HH3 HPL HK3 HB3 HBX
        generalize W3.drew = Wd at hS HHd HPd HKd hBd ⊢
        clear HD
        have c4 := (unhide HHd).c4
        rw [show ({ h with last := h.last + 1 } : Hm).ov = .slice oa h.O.length oc from unhide HOV] at c4
        refine wpAnyH_take (i := 0) (v := .pointer (some ⟨g, 0, none⟩)) rfl (by kernel_rfl) (by kernel_rfl) (by kernel_rfl) (fun _ _ _ h => h) (Or.inl ⟨by rfl, fun w _ => by go_simp⟩) hS ?_
        refine wpAnyH_take (i := 1) (v := .pointer (some ⟨g, 0, none⟩)) rfl (by kernel_rfl) (by kernel_rfl) (by kernel_rfl) (fun _ _ _ h => h) (Or.inl ⟨by rfl, fun w _ => by go_simp⟩) hS ?_
        go_simp
        refine wpAnyH_take (i := 2) (v := .pointer (some ⟨g, 0, none⟩)) rfl (by kernel_rfl) (by kernel_rfl) (by kernel_rfl) (fun _ _ _ h => h) (Or.inl ⟨by rfl, fun w _ => by go_simp⟩) hS ?_
        refine wpAnyH_take (i := 3) (v := .pointer (some ⟨g, 4, none⟩)) rfl (by kernel_rfl) (by kernel_rfl) (by kernel_rfl) (fun _ _ _ h => h) (Or.inl ⟨by rfl, fun w _ => by go_simp⟩) hS ?_
        go_simp
        refine wpAnyH_take (i := 5) (v := .agg #[.int .i64 (h.last + 1), .int .i64 c, .slice (some ⟨gp, 0, none⟩) n n]) rfl (by kernel_rfl) (by kernel_rfl) (by kernel_rfl) (fun _ _ _ h => h) (yieldsIf_load_mid (by rfl) 83 _ rfl gb 0 rfl _ _ (fun _ h => box_rangeH h) Tryd.underlying83 rfl (by kernel_rfl)) hS ?_
        go_simp
        refine wpAnyH_ready (rs := [4, 6]) (by kernel_rfl) (by simp) ?_
        refine (AllReadyH.cons rfl (fun K hK => ?_) (AllReadyH.cons rfl (fun K hK => ?_) AllReadyH.nil))
        · go_simp
          refine hK.out _ _ hS (fun hS1 => ?_)
          clear hK K
          refine wpAnyH_ready (rs := [6]) (by kernel_rfl) (by simp) ?_
          refine (AllReadyH.cons rfl (fun K hK => ?_) AllReadyH.nil)
          go_simp
          have HSA : Hid (Bx (Wd.alloc (.cells #[.int .i64 (h.last + 1), .int .i64 c, .slice (some ⟨gp, 0, none⟩) n n] 83)) gb 83 #[.int .i64 (h.last + 1), .int .i64 c, .slice (some ⟨gp, 0, none⟩) n n]) := hide (Bx.below hS ((Below.refl Wd.heap.size Wd).alloc (Nat.le_refl _) _))
          refine hK.out _ _ (unhide HSA) (fun hS2 => ?_)
          have hSS := hS
          clear hK K
          refine wpAnyH_ready (rs := [7]) (by kernel_rfl) (by simp) ?_
          refine AllReadyH.cons rfl (fun K hK => ?_) AllReadyH.nil
          rw [if_pos (by rfl)]
          have HOd : Hid ((Wd.alloc (.cells #[.int .i64 (h.last + 1), .int .i64 c, .slice (some ⟨gp, 0, none⟩) n n] 83)).ownsRow B 83 3 (.slice oa h.O.length oc) h.O.length (obvals h.O)) := hide (by rw [← unhide HOV]; exact World.ownsRow.alloc (unhide HHd).own _)
          refine wp_append_lies (w := Wd.alloc (.cells #[.int .i64 (h.last + 1), .int .i64 c, .slice (some ⟨gp, 0, none⟩) n n] 83)) _ _ 53 (by rfl) B 83 i0 _ 3 40 Tryd.underlying53 hi0 hz0 hz1 hz2 rfl (by omega) (.slice oa h.O.length oc) h.O.length (obvals h.O) (by rfl) (unhide HOd) ⟨Wd.heap.size, 0, none⟩ 1 1 (obC ⟨h.last + 1, c, gp, List.replicate n 0⟩) (by rfl) (by rfl) (news_ob (by rw [ob_new]; exact heap_alloc_new Wd _)) (obC_one _) (by omega) (by unfold maxLen; omega) (by omega) (by simp; omega) (Wd.heap.size + 1) (by simp) ?_
          intro g3 cap3 w3 hown hgrow hat hlt3
          rw [← unhide HOV] at hgrow
          have HF := hide ((unhide HHd).app ⟨h.last + 1, c, gp, List.replicate n 0⟩ (.cells #[.int .i64 (h.last + 1), .int .i64 c, .slice (some ⟨gp, 0, none⟩) n n] 83) g3 cap3 ⟨unhide HGP, unhide HPd⟩ (unhide HNP) hBd hown hgrow)
          have HBX3 : Hid (Bx w3 gb 83 #[.int .i64 (h.last + 1), .int .i64 c, .slice (some ⟨gp, 0, none⟩) n n]) := hide (Bx.grown (Bx.below hSS ((Below.refl Wd.heap.size Wd).alloc (Nat.le_refl _) _)) hgrow (unhide HNO))
          have HBX4 : Hid (Bx (w3.setCell ⟨g, 4, none⟩ (.slice (some ⟨g3, 0, none⟩) (h.O.length + 1) cap3)) gb 83 #[.int .i64 (h.last + 1), .int .i64 c, .slice (some ⟨gp, 0, none⟩) n n]) := hide ((unhide HBX3).other _ _ (fun e => by have e : gb = g := e; subst e; exact absurd ((unhide HF).2.2.inj (unhide HBX3)).1 (by decide)))
          have k4 := (unhide HF).2.2.c 4 (v := h.ov) rfl
          have f4 := (unhide HF).2.2.f 4
          refine hK.out _ _ (unhide HBX3) (fun hS7 => ?_)
          clear hK K hown hgrow hat hlt3 c4
          refine wpAnyH_take (i := 8) (v := .pointer (some ⟨g, 0, none⟩)) rfl (by kernel_rfl) (by kernel_rfl) (by kernel_rfl) (fun _ _ _ h => h) (Or.inl ⟨by rfl, fun w _ => by go_simp⟩) hS7 ?_
          refine wpAnyH_take (i := 9) (v := .pointer (some ⟨g, 4, none⟩)) rfl (by kernel_rfl) (by kernel_rfl) (by kernel_rfl) (fun _ _ _ h => h) (Or.inl ⟨by rfl, fun w _ => by go_simp⟩) hS7 ?_
          refine wpAnyH_ready (rs := [10]) (by kernel_rfl) (by simp) ?_
          refine (AllReadyH.cons rfl (fun K hK => ?_) AllReadyH.nil)
          go_simp
          refine hK.out _ _ (unhide HBX4) (fun hS8 => ?_)
          clear hK K
          refine wpAnyH_done (by kernel_rfl) ?_ _
          go_wp2_with fail
          go_meet
          exact ⟨rfl, _, hide ⟨(unhide HF).1, (unhide HKd).trans (unhide HF).2.1, unhide HBX4⟩⟩
        · go_simp
          have HSA : Hid (Bx (Wd.alloc (.cells #[.int .i64 (h.last + 1), .int .i64 c, .slice (some ⟨gp, 0, none⟩) n n] 83)) gb 83 #[.int .i64 (h.last + 1), .int .i64 c, .slice (some ⟨gp, 0, none⟩) n n]) := hide (Bx.below hS ((Below.refl Wd.heap.size Wd).alloc (Nat.le_refl _) _))
          have ca4 := ((unhide HHd).below ((Below.refl Wd.heap.size Wd).alloc (Nat.le_refl _) (.cells #[.int .i64 (h.last + 1), .int .i64 c, .slice (some ⟨gp, 0, none⟩) n n] 83))).c4
          rw [show ({ h with last := h.last + 1 } : Hm).ov = .slice oa h.O.length oc from unhide HOV] at ca4
          refine hK.out _ _ (unhide HSA) (fun hS1 => ?_)
          have hSS := hS
          clear hK K
          refine wpAnyH_ready (rs := [4]) (by kernel_rfl) (by simp) ?_
          refine (AllReadyH.cons rfl (fun K hK => ?_) AllReadyH.nil)
          go_simp
          refine hK.out _ _ (unhide HSA) (fun hS2 => ?_)
          clear hK K
          refine wpAnyH_ready (rs := [7]) (by kernel_rfl) (by simp) ?_
          refine AllReadyH.cons rfl (fun K hK => ?_) AllReadyH.nil
          rw [if_pos (by rfl)]
          have HOd : Hid ((Wd.alloc (.cells #[.int .i64 (h.last + 1), .int .i64 c, .slice (some ⟨gp, 0, none⟩) n n] 83)).ownsRow B 83 3 (.slice oa h.O.length oc) h.O.length (obvals h.O)) := hide (by rw [← unhide HOV]; exact World.ownsRow.alloc (unhide HHd).own _)
          refine wp_append_lies (w := Wd.alloc (.cells #[.int .i64 (h.last + 1), .int .i64 c, .slice (some ⟨gp, 0, none⟩) n n] 83)) _ _ 53 (by rfl) B 83 i0 _ 3 40 Tryd.underlying53 hi0 hz0 hz1 hz2 rfl (by omega) (.slice oa h.O.length oc) h.O.length (obvals h.O) (by rfl) (unhide HOd) ⟨Wd.heap.size, 0, none⟩ 1 1 (obC ⟨h.last + 1, c, gp, List.replicate n 0⟩) (by rfl) (by rfl) (news_ob (by rw [ob_new]; exact heap_alloc_new Wd _)) (obC_one _) (by omega) (by unfold maxLen; omega) (by omega) (by simp; omega) (Wd.heap.size + 1) (by simp) ?_
          intro g3 cap3 w3 hown hgrow hat hlt3
          rw [← unhide HOV] at hgrow
          have HF := hide ((unhide HHd).app ⟨h.last + 1, c, gp, List.replicate n 0⟩ (.cells #[.int .i64 (h.last + 1), .int .i64 c, .slice (some ⟨gp, 0, none⟩) n n] 83) g3 cap3 ⟨unhide HGP, unhide HPd⟩ (unhide HNP) hBd hown hgrow)
          have HBX3 : Hid (Bx w3 gb 83 #[.int .i64 (h.last + 1), .int .i64 c, .slice (some ⟨gp, 0, none⟩) n n]) := hide (Bx.grown (Bx.below hSS ((Below.refl Wd.heap.size Wd).alloc (Nat.le_refl _) _)) hgrow (unhide HNO))
          have HBX4 : Hid (Bx (w3.setCell ⟨g, 4, none⟩ (.slice (some ⟨g3, 0, none⟩) (h.O.length + 1) cap3)) gb 83 #[.int .i64 (h.last + 1), .int .i64 c, .slice (some ⟨gp, 0, none⟩) n n]) := hide ((unhide HBX3).other _ _ (fun e => by have e : gb = g := e; subst e; exact absurd ((unhide HF).2.2.inj (unhide HBX3)).1 (by decide)))
          have k4 := (unhide HF).2.2.c 4 (v := h.ov) rfl
          have f4 := (unhide HF).2.2.f 4
          refine hK.out _ _ (unhide HBX3) (fun hS7 => ?_)
          clear hK K hown hgrow hat hlt3 c4
          refine wpAnyH_take (i := 8) (v := .pointer (some ⟨g, 0, none⟩)) rfl (by kernel_rfl) (by kernel_rfl) (by kernel_rfl) (fun _ _ _ h => h) (Or.inl ⟨by rfl, fun w _ => by go_simp⟩) hS7 ?_
          refine wpAnyH_take (i := 9) (v := .pointer (some ⟨g, 4, none⟩)) rfl (by kernel_rfl) (by kernel_rfl) (by kernel_rfl) (fun _ _ _ h => h) (Or.inl ⟨by rfl, fun w _ => by go_simp⟩) hS7 ?_
          refine wpAnyH_ready (rs := [10]) (by kernel_rfl) (by simp) ?_
          refine (AllReadyH.cons rfl (fun K hK => ?_) AllReadyH.nil)
          go_simp
          refine hK.out _ _ (unhide HBX4) (fun hS8 => ?_)
          clear hK K
          refine wpAnyH_done (by kernel_rfl) ?_ _
          go_wp2_with fail
          go_meet
          exact ⟨rfl, _, hide ⟨(unhide HF).1, (unhide HKd).trans (unhide HF).2.1, unhide HBX4⟩⟩
      case rest =>
        obtain ⟨rfl, ov', HR⟩ := hcut
        clear HH3 HBX HPL HK3 HB3
        generalize wc = W4 at HR ⊢
        have HB4 : Hid (B ≤ W4.heap.size) := hide (Nat.le_trans (unhide HBB) (unhide HR).2.1.size)
        go_upto_region 6 with fail
        go_cut [8] (fun s8 wx => s8 = .pointer (some ⟨gb, 0, none⟩) ∧ Hid (HpAt B wx g (addH h c n gp ov') ∧ Kp B [55, 83] w wx ∧ Bx wx gb 83 #[.int .i64 (h.last + 1), .int .i64 c, .slice (some ⟨gp, 0, none⟩) n n]))
        case first =>
          have hS0 : Bx W4.drew gb 83 #[.int .i64 (h.last + 1), .int .i64 c, .slice (some ⟨gp, 0, none⟩) n n] := (unhide HR).2.2
          refine wp_region_held_drew (S := fun w' => Bx w' gb 83 #[.int .i64 (h.last + 1), .int .i64 c, .slice (some ⟨gp, 0, none⟩) n n]) (by kernel_rfl) hS0 (fun hS => ?_)
          have HD : Hid (Below W4.heap.size W4 W4.drew) := hide (belowD (Below.refl _ _) 1)
          have HHd := hide ((unhide HR).1.below (unhide HD))
          have HKd := hide ((unhide HR).2.1.trans (Kp.of_below (unhide HD) (unhide HB4)))
          have HBd : Hid (B ≤ W4.drew.heap.size) := hide (unhide HB4)
          clear hS0 HR HB4
          generalize W4.drew = Wd at hS HHd HKd HBd ⊢
          clear HD
          have hu3 : IntKind.i64.wrap (h.used + (1 + (n : Int))) = h.used + (1 + (n : Int)) := by have := unhide HF; simp [IntKind.wrap, IntKind.bits, IntKind.signed]; omega
          refine wpAnyH_take (i := 0) (v := .pointer (some ⟨g, 0, none⟩)) rfl (by kernel_rfl) (by kernel_rfl) (by kernel_rfl) (fun _ _ _ h => h) (Or.inl ⟨by rfl, fun w _ => by go_simp⟩) hS ?_
          refine wpAnyH_take (i := 1) (v := .pointer (some ⟨g, 0, none⟩)) rfl (by kernel_rfl) (by kernel_rfl) (by kernel_rfl) (fun _ _ _ h => h) (Or.inl ⟨by rfl, fun w _ => by go_simp⟩) hS ?_
          go_simp
          refine wpAnyH_take (i := 2) (v := .pointer (some ⟨g, 2, none⟩)) rfl (by kernel_rfl) (by kernel_rfl) (by kernel_rfl) (fun _ _ _ h => h) (Or.inl ⟨by rfl, fun w _ => by go_simp⟩) hS ?_
          refine wpAnyH_take (i := 4) (v := .agg #[.int .i64 (h.last + 1), .int .i64 c, .slice (some ⟨gp, 0, none⟩) n n]) rfl (by kernel_rfl) (by kernel_rfl) (by kernel_rfl) (fun _ _ _ h => h) (yieldsIf_load_mid (by rfl) 83 _ rfl gb 0 rfl _ _ (fun _ h => box_rangeH h) Tryd.underlying83 rfl (by kernel_rfl)) hS ?_
          go_simp
          refine wpAnyH_ready (rs := [3, 5]) (by kernel_rfl) (by simp) ?_
          refine (AllReadyH.cons rfl (fun K hK => ?_) (AllReadyH.cons rfl (fun K hK => ?_) AllReadyH.nil))
          · have q2 := (unhide HHd).c2
            go_simp
            refine hK.out _ _ hS (fun hS1 => ?_)
            clear hK K q2
            refine wpAnyH_ready (rs := [5]) (by kernel_rfl) (by simp) ?_
            refine (AllReadyH.cons rfl (fun K hK => ?_) AllReadyH.nil)
            go_simp
            go_wp2_with (go_at_call 53; refine (cells_any (h.last + 1) c (some ⟨gp, 0, none⟩) n n Wd hn6).mono ?_; rintro e We ⟨rfl, hb⟩)
            have HHe := hide ((unhide HHd).below hb)
            have HKe := hide ((unhide HKd).trans (Kp.of_below hb (unhide HBd)))
            have hSe : Bx We gb 83 #[.int .i64 (h.last + 1), .int .i64 c, .slice (some ⟨gp, 0, none⟩) n n] := Bx.below hS hb
            refine hK.out _ _ hSe (fun hS2 => ?_)
            clear hK K hb
            refine wpAnyH_take (i := 6) (v := .int .i64 (h.used + (1 + (n : Int)))) rfl (by kernel_rfl) (by kernel_rfl) (by kernel_rfl) (fun _ _ _ h => h) (Or.inl ⟨by rfl, fun w _ => by go_simp⟩) hSe ?_
            refine wpAnyH_take (i := 7) (v := .pointer (some ⟨g, 0, none⟩)) rfl (by kernel_rfl) (by kernel_rfl) (by kernel_rfl) (fun _ _ _ h => h) (Or.inl ⟨by rfl, fun w _ => by go_simp⟩) hSe ?_
            go_simp
            refine wpAnyH_take (i := 8) (v := .pointer (some ⟨g, 2, none⟩)) rfl (by kernel_rfl) (by kernel_rfl) (by kernel_rfl) (fun _ _ _ h => h) (Or.inl ⟨by rfl, fun w _ => by go_simp⟩) hSe ?_
            refine wpAnyH_ready (rs := [9]) (by kernel_rfl) (by simp) ?_
            refine (AllReadyH.cons rfl (fun K hK => ?_) AllReadyH.nil)
            have HU := hide ((unhide HHe).upd (addH h c n gp ov') 2 (.int .i64 (h.used + (1 + (n : Int)))) rfl rfl rfl rfl rfl)
            have HBX6 : Hid (Bx (We.setCell ⟨g, 2, none⟩ (.int .i64 (h.used + (1 + (n : Int))))) gb 83 #[.int .i64 (h.last + 1), .int .i64 c, .slice (some ⟨gp, 0, none⟩) n n]) := hide (Bx.other hSe _ _ (fun e => by have e : gb = g := e; subst e; exact absurd ((unhide HHe).box.inj hSe).1 (by decide)))
            have k2 := (unhide HHe).c2
            have f2 := (unhide HHe).box.f 2
            go_simp
            refine hK.out _ _ (unhide HBX6) (fun hS8 => ?_)
            clear hK K
            refine wpAnyH_done (by kernel_rfl) ?_ _
            go_wp2_with fail
            go_meet
            exact ⟨rfl, hide ⟨(unhide HU).1, (unhide HKe).trans ((unhide HU).2.mono (Nat.le_refl _) (by simp)), unhide HBX6⟩⟩
          · go_simp
            go_wp2_with (go_at_call 53; refine (cells_any (h.last + 1) c (some ⟨gp, 0, none⟩) n n Wd hn6).mono ?_; rintro e We ⟨rfl, hb⟩)
            have HHe := hide ((unhide HHd).below hb)
            have HKe := hide ((unhide HKd).trans (Kp.of_below hb (unhide HBd)))
            have hSe : Bx We gb 83 #[.int .i64 (h.last + 1), .int .i64 c, .slice (some ⟨gp, 0, none⟩) n n] := Bx.below hS hb
            refine hK.out _ _ hSe (fun hS2 => ?_)
            clear hK K hb
            refine wpAnyH_ready (rs := [3]) (by kernel_rfl) (by simp) ?_
            refine (AllReadyH.cons rfl (fun K hK => ?_) AllReadyH.nil)
            have q2 := (unhide HHe).c2
            go_simp
            refine hK.out _ _ hSe (fun hS1 => ?_)
            clear hK K q2
            refine wpAnyH_take (i := 6) (v := .int .i64 (h.used + (1 + (n : Int)))) rfl (by kernel_rfl) (by kernel_rfl) (by kernel_rfl) (fun _ _ _ h => h) (Or.inl ⟨by rfl, fun w _ => by go_simp⟩) hSe ?_
            refine wpAnyH_take (i := 7) (v := .pointer (some ⟨g, 0, none⟩)) rfl (by kernel_rfl) (by kernel_rfl) (by kernel_rfl) (fun _ _ _ h => h) (Or.inl ⟨by rfl, fun w _ => by go_simp⟩) hSe ?_
            go_simp
            refine wpAnyH_take (i := 8) (v := .pointer (some ⟨g, 2, none⟩)) rfl (by kernel_rfl) (by kernel_rfl) (by kernel_rfl) (fun _ _ _ h => h) (Or.inl ⟨by rfl, fun w _ => by go_simp⟩) hSe ?_
            refine wpAnyH_ready (rs := [9]) (by kernel_rfl) (by simp) ?_
            refine (AllReadyH.cons rfl (fun K hK => ?_) AllReadyH.nil)
            have HU := hide ((unhide HHe).upd (addH h c n gp ov') 2 (.int .i64 (h.used + (1 + (n : Int)))) rfl rfl rfl rfl rfl)
            have HBX6 : Hid (Bx (We.setCell ⟨g, 2, none⟩ (.int .i64 (h.used + (1 + (n : Int))))) gb 83 #[.int .i64 (h.last + 1), .int .i64 c, .slice (some ⟨gp, 0, none⟩) n n]) := hide (Bx.other hSe _ _ (fun e => by have e : gb = g := e; subst e; exact absurd ((unhide HHe).box.inj hSe).1 (by decide)))
            have k2 := (unhide HHe).c2
            have f2 := (unhide HHe).box.f 2
            go_simp
            refine hK.out _ _ (unhide HBX6) (fun hS8 => ?_)
            clear hK K
            refine wpAnyH_done (by kernel_rfl) ?_ _
            go_wp2_with fail
            go_meet
            exact ⟨rfl, hide ⟨(unhide HU).1, (unhide HKe).trans ((unhide HU).2.mono (Nat.le_refl _) (by simp)), unhide HBX6⟩⟩
        case rest =>
          obtain ⟨rfl, HR5⟩ := hcut
          clear HR HB4
          generalize wc = W6 at HR5 ⊢
          have b0 := (unhide HR5).2.2.c 0 rfl
          go_wp2
          go_ret2
          exact ⟨addH h c n gp ov', h.last + 1, 0, rfl, Or.inr ⟨unhide HF, rfl, rfl, gp, ov', rfl⟩, (unhide HR5).1, (unhide HR5).2.1⟩
theorem Record_any (B g : Nat) (h : Hm) (c : Int) (w : World) (H : HpAt B w g h) (hok : HmOk h) (hB : B ≤ w.heap.size) (hl : h.last < 4611686018427387904) :
    Calls Tryd.prog 16 #[.pointer (some ⟨g, 0, none⟩), .int .i64 c] w fun e w' => ∃ h' r er, e = .returned (.tuple #[.int .i64 r, .int .i64 er]) ∧ ((r = 0 ∧ er = 1 ∧ h' = h ∧ (c < 0 ∨ (h.L.length : Int) ≤ c)) ∨ ∃ (k : Nat) (x : Ld), c = (k : Int) ∧ h.L[k]? = some x ∧ AddIs h c x.bs.length h' r er) ∧ HpAt B w' g h' ∧ Kp B [55, 83] w w' := by
  have HM := hide (isMade_yes B g h w H)
  have HH := hide H
  have HK := hide hok
  have HBB := hide hB
  obtain ⟨la, lc, hlv⟩ : ∃ la lc, h.lv = .slice la h.L.length lc := by
    rcases H.lds.2 with ⟨h1, h2⟩ | ⟨b, cap, cur, e, _⟩
    · exact ⟨none, 0, by rw [h1, h2]⟩
    · exact ⟨_, _, e⟩
  have c0 := H.c0
  rw [hlv] at c0
  have hll := hok.lds
  go_enter Tryd.func16, Tryd.ntmps16
  go_wp2_with fail
  refine (unhide HM).mono ?_
  rintro e W ⟨rfl, hw⟩
  rw [hw]
  clear hw W HM
  by_cases h1 : c < 0
  · have HC := hide h1
    go_wp2
    go_ret2
    exact ⟨h, 0, 1, rfl, Or.inl ⟨rfl, rfl, rfl, Or.inl (unhide HC)⟩, unhide HH, Kp.refl _ _ _⟩
  · by_cases h2 : (h.L.length : Int) ≤ c
    · have HC := hide h2
      go_wp2
      go_ret2
      exact ⟨h, 0, 1, rfl, Or.inl ⟨rfl, rfl, rfl, Or.inr (unhide HC)⟩, unhide HH, Kp.refl _ _ _⟩
    · obtain ⟨k, rfl⟩ : ∃ k : Nat, c = (k : Int) := ⟨c.toNat, by omega⟩
      have hk : k < h.L.length := by omega
      have hx := List.getElem?_eq_getElem hk
      generalize h.L[k] = x at hx
      have own := H.lds
      rw [hlv] at own
      rcases own.2 with ⟨e1, e2⟩ | ⟨b, cap, cur, e, _⟩
      · omega
      · injection e with e1 _ e2
        subst e1
        have c1 := World.ownsRow.cellAt own k (by omega)
        rw [List.getElem?_map, hx] at c1
        change w.cell? ⟨b, k, none⟩ = some (.slice x.a x.bs.length x.c) at c1
        have hxl : x.bs.length < 9223372036854775808 := by
          rcases (H.each x (List.mem_of_getElem? hx)).2 with ⟨_, e⟩ | ⟨_, _, _, _, _, _, e1, e2, _⟩
          · omega
          · unfold maxLen at e2; omega
        have HA := hide (add_any B g h (k : Int) x.bs.length w H hok hB hl hxl)
        have HX := hide hx
        clear e2 own hx H hok hB hlv hl hxl
        go_wp2_with fail
        refine (unhide HA).mono ?_
        rintro e W2 ⟨h', r, er, rfl, hI, hH, hKp⟩
        have HI := hide (And.intro hI (And.intro hH hKp))
        clear hI hH hKp
        go_wp2
        go_ret2
        exact ⟨h', r, er, rfl, Or.inr ⟨k, x, rfl, unhide HX, (unhide HI).1⟩, (unhide HI).2.1, (unhide HI).2.2⟩
theorem Row_any (B g : Nat) (h : Hm) (n : Int) (w : World) (H : HpAt B w g h) (hok : HmOk h) (hB : B ≤ w.heap.size) (hl : h.last < 4611686018427387904) (hn : n < 9223372036854775808) :
    Calls Tryd.prog 18 #[.pointer (some ⟨g, 0, none⟩), .int .i64 n] w fun e w' => ∃ h' r er, e = .returned (.tuple #[.int .i64 r, .int .i64 er]) ∧ ((n < 0 ∧ r = 0 ∧ er = 5 ∧ h' = h) ∨ ∃ k : Nat, n = (k : Int) ∧ AddIs h (-1) k h' r er) ∧ HpAt B w' g h' ∧ Kp B [55, 83] w w' := by
  have HM := hide (isMade_yes B g h w H)
  have HH := hide H
  go_enter Tryd.func18, Tryd.ntmps18
  go_wp2_with fail
  refine (unhide HM).mono ?_
  rintro e W ⟨rfl, hw⟩
  rw [hw]
  clear hw W HM
  by_cases h1 : n < 0
  · have HC := hide h1
    go_wp2
    go_ret2
    exact ⟨h, 0, 5, rfl, Or.inl ⟨unhide HC, rfl, rfl, rfl⟩, unhide HH, Kp.refl _ _ _⟩
  · obtain ⟨k, rfl⟩ : ∃ k : Nat, n = (k : Int) := ⟨n.toNat, by omega⟩
    have HA := hide (add_any B g h (-1) k w H hok hB hl (by omega))
    clear H hok hB hn hl
    go_wp2_with fail
    refine (unhide HA).mono ?_
    rintro e W2 ⟨h', r, er, rfl, hI, hH, hKp⟩
    have HI := hide (And.intro hI (And.intro hH hKp))
    clear hI hH hKp
    go_wp2
    go_ret2
    exact ⟨h', r, er, rfl, Or.inr ⟨k, rfl, (unhide HI).1⟩, (unhide HI).2.1, (unhide HI).2.2⟩
end Go.Proofs.YtbbfnampjbdnbaaDoor
