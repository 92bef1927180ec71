/-
  Texts of contracts and plain lemmas, one behind another; each says at its head what it holds.
-/
import Derived.Test.YtibgfdjopikafaaGreatDoorJFT
import Derived.Test.YtibgfdjopikafaaGreatDoorKMp0
import Derived.Test.YtibgfdjopikafaaGreatDoorJTK
import Derived.Deep.Cut
import Derived.Test.YtibgfdjopikafaaGreatDoorBx1
import Derived.Deep.RegionHeld3
import Derived.WalkLawsBesides
import Derived.Test.YtibgfdjopikafaaGreatDoorJMB
import Derived.Test.YtibgfdjopikafaaGreatDoorKMq0
import Derived.Test.YtibgfdjopikafaaGreatDoorKMp1
import Derived.Lib.SlBytesConst
/-
  The writer of a module's file: must, byte, name, long: what is put, or the fault with which it gives up. Conditions: numbers fit, names may be.
-/
namespace Go.Proofs.YtibgfdjopikafaaGreatDoor
open Go.RowKit
set_option maxRecDepth 20000
set_option linter.unusedVariables false

theorem GiveUp_any (a e : Int) (w : World) : Calls Tryz.prog 66 #[.int .i64 a, .int .i64 e] w fun x w' => x = .panicked [{ v := fltV a e, recovered := false }] ∧ w' = w := by
  go_enter Tryz.func66, Tryz.ntmps66
  go_wp2
  exact ⟨rfl, rfl, rfl⟩
/-- A writer that holds l; all below B is as it was. -/
structure WS (B : Nat) (w0 w : World) (p : Nat) (v : Value) (l : List UInt8) : Prop where
  is : IsWriter w p v l
  bp : B ≤ p
  bv : ∀ k, v.ownBlock = some k → B ≤ k
  bel : Below B w0 w
theorem WS.lt {B : Nat} {w0 w : World} {p : Nat} {v : Value} {l : List UInt8} (h : WS B w0 w p v l) : B ≤ w.heap.size := by
  have := (Array.getElem?_eq_some_iff.1 h.is.row).1
  have := h.bp
  omega
theorem WS.wt {B : Nat} {w0 w : World} {p : Nat} {v : Value} {l : List UInt8} (h : WS B w0 w p v l) {k : Nat} (e : WT p v k) : k < w.heap.size := by
  rcases e with rfl | e
  · exact (Array.getElem?_eq_some_iff.1 h.is.row).1
  · exact (World.ownsRow.lt h.is.own k e).2
theorem keepG {g p : Nat} {v : Value} {W W' : World} {t : TypeId} {cs : Array Value} (h : Hid (Bx W g t cs)) (hk : Kept (WT p v) W W') (hg : ∀ k, WT p v k → k ≠ g) : Bx W' g t cs :=
  (hk.block g (unhide h).lt (fun e => hg g e rfl)).trans (unhide h)
theorem wE_fit {l : List UInt8} {s : Nat} (n : Int) (hn : ¬ (n < loN s ∨ hiN s < n)) (h : l.length + s ≤ 1048576) : wE l n s = 0 ∧ wL l n s = l ++ be n s := by
  have h0 : wE l n s = 0 := by unfold wE; rw [if_neg hn, if_neg (by omega)]
  exact ⟨h0, by unfold wL; rw [if_pos h0]⟩
theorem wE_ful {l : List UInt8} {s : Nat} (n : Int) (hn : ¬ (n < loN s ∨ hiN s < n)) (h : ¬ l.length + s ≤ 1048576) : wE l n s = 7 ∧ wL l n s = l := by
  have h0 : wE l n s = 7 := by unfold wE; rw [if_neg hn, if_pos (by omega)]
  exact ⟨h0, by unfold wL; rw [h0]; rfl⟩
theorem jE_fit {l m : List UInt8} (h : l.length + m.length ≤ 1048576) : jE l m = 0 ∧ jL l m = l ++ m := by
  have h0 : jE l m = 0 := by unfold jE; rw [if_neg (by omega)]
  exact ⟨h0, by unfold jL; rw [if_pos h0]⟩
theorem jE_ful {l m : List UInt8} (h : ¬ l.length + m.length ≤ 1048576) : jE l m = 7 ∧ jL l m = l := by
  have h0 : jE l m = 7 := by unfold jE; rw [if_pos (by omega)]
  exact ⟨h0, by unfold jL; rw [h0]; rfl⟩
theorem nE_fit {l : List UInt8} {s : ByteArray} (hn : nameB s = true) (h : l.length + (nb s).length ≤ 1048576) : nE l s = 0 ∧ nL l s = l ++ nb s := by
  have h0 : nE l s = 0 := by unfold nE; rw [if_pos hn]; exact (jE_fit h).1
  exact ⟨h0, by unfold nL; rw [if_pos h0]⟩
theorem nE_ful {l : List UInt8} {s : ByteArray} (hn : nameB s = true) (h : ¬ l.length + (nb s).length ≤ 1048576) : nE l s = 7 ∧ nL l s = l := by
  have h0 : nE l s = 7 := by unfold nE; rw [if_pos hn]; exact (jE_ful h).1
  exact ⟨h0, by unfold nL; rw [h0]; rfl⟩
theorem WS.below {B : Nat} {w0 w w' : World} {p : Nat} {v : Value} {l : List UInt8} (h : WS B w0 w p v l) (hb : Below w.heap.size w w') : WS B w0 w' p v l :=
  ⟨h.is.below hb, h.bp, h.bv, h.bel.trans (hb.mono h.lt)⟩
theorem WS.post {B : Nat} {w0 w w' : World} {p : Nat} {v v' : Value} {l l' : List UInt8} (h : WS B w0 w p v l) (hi : IsWriter w' p v' l') (hk : Kept (WT p v) w w') (hf : ∀ k, v'.ownBlock = some k → v.ownBlock = some k ∨ w.heap.size ≤ k) : WS B w0 w' p v' l' :=
  ⟨hi, h.bp, fun k e => by
    rcases hf k e with h1 | h1
    · exact h.bv k h1
    · have := h.lt; omega, below_wT h.bel h.lt h.bp h.bv hk⟩
/-- From one world to another: nothing but the writer's own has turned; its block is the old one, or new. -/
structure WK (w w' : World) (p : Nat) (v v' : Value) : Prop where
  kept : Kept (WT p v) w w'
  fresh : ∀ k, v'.ownBlock = some k → v.ownBlock = some k ∨ w.heap.size ≤ k
theorem WK.of_below {w w' : World} (p : Nat) (v : Value) (hb : Below w.heap.size w w') : WK w w' p v v := ⟨Kept.of_below hb _, fun _ h => Or.inl h⟩
theorem WK.trans {w w1 w2 : World} {p : Nat} {v v1 v2 : Value} (h : WK w w1 p v v1) (h' : WK w1 w2 p v1 v2) : WK w w2 p v v2 :=
  ⟨h.kept.trans h'.kept (fun _ _ e => e) (fun x hx e => by
    rcases e with e | e
    · exact Or.inl e
    · rcases h.fresh x e with e | e
      · exact Or.inr e
      · omega), fun k e => by
    rcases h'.fresh k e with e | e
    · exact h.fresh k e
    · have := h.kept.size; omega⟩
theorem WK.bx {w w' : World} {p : Nat} {v v' : Value} {l : List UInt8} (h : WK w w' p v v') (hi : IsWriter w p v l) {g : Nat} {t : TypeId} {cs : Array Value} (hx : Bx w g t cs) (h1 : t ≠ 89) (h2 : t ≠ 5) : Bx w' g t cs := by
  refine (h.kept.block g hx.lt (fun e => ?_)).trans hx
  rcases e with rfl | e
  · have h3 := hi.row
    unfold Bx at hx
    rw [hx] at h3
    injection h3 with h3
    injection h3 with _ h3
    exact h1 h3
  · rcases hi.own.2 with ⟨rfl, _⟩ | ⟨g', cap, cur, rfl, _, hh, _⟩
    · cases e
    · have e' : g' = g := by injection e
      subst e'
      unfold Bx at hx
      rw [hx] at hh
      injection hh with hh
      injection hh with _ hh
      exact h2 hh
/-- All blocks but those of a writer and of bytes are as they were. -/
def TyK (w w' : World) : Prop := ∀ (g : Nat) (t : TypeId) (cs : Array Value), Bx w g t cs → t ≠ 89 → t ≠ 5 → Bx w' g t cs
theorem TyK.trans {a b c : World} (h : TyK a b) (k : TyK b c) : TyK a c := fun g t cs hx h1 h2 => k g t cs (h g t cs hx h1 h2) h1 h2
theorem TyK.below {w w' : World} (hb : Below w.heap.size w w') : TyK w w' := fun _ _ _ hx _ _ => hx.below hb
theorem WK.ty {w w' : World} {p : Nat} {v v' : Value} {l : List UInt8} (h : WK w w' p v v') (hi : IsWriter w p v l) : TyK w w' := fun _ _ _ hx h1 h2 => h.bx hi hx h1 h2
/-- What a call of the module's writer comes to. -/
def MPo (B : Nat) (w0 w : World) (p : Nat) (v : Value) (l' : List UInt8) (e : Ending) (w' : World) : Prop :=
  (l'.length ≤ 1048576 ∧ e = .returned (.tuple #[]) ∧ ∃ v', WS B w0 w' p v' l' ∧ WK w w' p v v') ∨ (1048576 < l'.length ∧ (∃ n : Int, e = .panicked [{ v := fltV n 7, recovered := false }]) ∧ Below B w0 w' ∧ TyK w w')
def wrC (p : Nat) : Value := .agg #[.pointer (some ⟨p, 0, none⟩)]
theorem must_ok (p : Nat) (w : World) : Calls Tryz.prog 46 #[.agg #[.pointer (some ⟨p, 0, none⟩)], .int .i64 0] w fun e w' => e = .returned (.tuple #[]) ∧ Below w.heap.size w w' := by
  have al := (Below.refl w.heap.size w).alloc (Nat.le_refl _) (.cells #[.pointer (some ⟨p, 0, none⟩)] 59)
  have HB := hide al
  clear al
  go_enter Tryz.func46, Tryz.ntmps46
  go_wp2
  go_end0
  exact ⟨rfl, unhide HB⟩
theorem must_no {w : World} {p : Nat} {v : Value} {l : List UInt8} (h : IsWriter w p v l) (x : Int) (hx : x ≠ 0) : Calls Tryz.prog 46 #[.agg #[.pointer (some ⟨p, 0, none⟩)], .int .i64 x] w fun e w' => (∃ n : Int, e = .panicked [{ v := fltV n x, recovered := false }]) ∧ Below w.heap.size w w' := by
  have al := (Below.refl w.heap.size w).alloc (Nat.le_refl _) (.cells #[.pointer (some ⟨p, 0, none⟩)] 59)
  have HB := hide al
  have HX : Hid (Bx (w.alloc (.cells #[.pointer (some ⟨p, 0, none⟩)] 59)) w.heap.size 59 #[.pointer (some ⟨p, 0, none⟩)]) := hide (heap_alloc_new w _)
  have HW := hide (h.below al)
  have t0 : (x != 0) = true := bne_t hx
  clear al h hx
  go_enter Tryz.func46, Tryz.ntmps46
  go_upto_region 1 with fail
  generalize (w.alloc (.cells #[.pointer (some ⟨p, 0, none⟩)] 59)) = W1 at HB HX HW ⊢
  have k0 := (unhide HX).c 0 rfl
  go_wp2_with fail
  refine (Len_any (unhide HW)).mono ?_
  rintro e W ⟨rfl, hw⟩
  rw [hw]
  clear hw W
  go_wp2_with fail
  refine (GiveUp_any _ x W1).mono ?_
  rintro e W ⟨rfl, hw⟩
  rw [hw]
  exact ⟨rfl, ⟨_, rfl⟩, unhide HB⟩
theorem bat_wt {W W' : World} {p : Nat} {v : Value} {ao : Option Addr} {x : List UInt8} (h : BAt W ao x) (ha : ∀ b off, ao = some ⟨b, off, none⟩ → 0 < x.length → ¬ WT p v b) (hk : Kept (WT p v) W W') : BAt W' ao x := fun i hi => by
  obtain ⟨b, off, e, hc⟩ := h i hi
  refine ⟨b, off, e, ?_⟩
  have hl : b < W.heap.size := World.block_lt_of_cell? W _ hc
  rw [← hc]
  simp only [World.cell?, hk.block b hl (ha b off e (by omega))]
theorem wt_next {p g : Nat} {v v' : Value} {n : Nat} (h : ∀ k, WT p v k → k ≠ g) (hf : ∀ k, v'.ownBlock = some k → v.ownBlock = some k ∨ n ≤ k) (hg : g < n) : ∀ k, WT p v' k → k ≠ g := fun k e => by
  rcases e with rfl | e
  · exact h k (Or.inl rfl)
  · rcases hf k e with e | e
    · exact h k (Or.inr e)
    · omega
/-! SMALL -/
set_option maxHeartbeats 2000000 in
theorem wbyte {B : Nat} {w0 w : World} {p : Nat} {v : Value} {l : List UInt8} (h : WS B w0 w p v l) (n : Int) (hn : 0 ≤ n ∧ n ≤ 255) : Calls Tryz.prog 49 #[.agg #[.pointer (some ⟨p, 0, none⟩)], .int .i64 n] w (MPo B w0 w p v (l ++ be n 1)) := by
  have al := (Below.refl w.heap.size w).alloc (Nat.le_refl _) (.cells #[.pointer (some ⟨p, 0, none⟩)] 59)
  have HX : Hid (Bx (w.alloc (.cells #[.pointer (some ⟨p, 0, none⟩)] 59)) w.heap.size 59 #[.pointer (some ⟨p, 0, none⟩)]) := hide (heap_alloc_new w _)
  have HW := hide (h.below al)
  have HK := hide (WK.of_below p v al)
  have HI := hide h.is
  have mixed := mixedT
  clear al h
  go_enter Tryz.func49, Tryz.ntmps49
  go_upto_region 1 with fail
  generalize (w.alloc (.cells #[.pointer (some ⟨p, 0, none⟩)] 59)) = W1 at HX HW HK ⊢
  generalize w.heap.size = g at HX ⊢
  have hdr : Below W1.heap.size W1 W1.drew := (Below.refl _ _).drew
  have HX2 := hide ((unhide HX).below hdr)
  have HW2 := hide ((unhide HW).below hdr)
  have HK2 := hide ((unhide HK).trans (WK.of_below p v hdr))
  clear hdr HX HW HK
  refine wp_region_held_drew (S := fun w' => Bx w' g 59 #[.pointer (some ⟨p, 0, none⟩)]) mixed (unhide HX2) (fun hS => ?_)
  generalize W1.drew = Wd at hS HX2 HW2 HK2 ⊢
  refine wpAnyH_take (i := 0) (v := .agg #[.pointer (some ⟨p, 0, none⟩)]) rfl (by kernel_rfl) (by kernel_rfl) (by kernel_rfl) (fun _ _ _ h => h) (Or.inl ⟨by rfl, fun W h => by have h0 := h.c 0 rfl; go_simp⟩) hS ?_
  go_simp
  refine wpAnyH_take (i := 1) (v := .pointer (some ⟨g, 0, none⟩)) rfl (by kernel_rfl) (by kernel_rfl) (by kernel_rfl) (fun _ _ _ h => h) (Or.inl ⟨by rfl, fun W _ => by go_simp⟩) hS ?_
  go_simp
  refine wpAnyH_take (i := 2) (v := .pointer (some ⟨p, 0, none⟩)) rfl (by kernel_rfl) (by kernel_rfl) (by kernel_rfl) (fun _ _ _ h => h) (Or.inl ⟨by rfl, fun W h => by have h0 := h.c 0 rfl; go_simp⟩) hS ?_
  go_simp
  refine wpAnyH_take (i := 3) (v := .int .i64 n) rfl (by kernel_rfl) (by kernel_rfl) (by kernel_rfl) (fun _ _ _ h => h) (Or.inl ⟨by rfl, fun W _ => by go_simp⟩) hS ?_
  go_simp
  have HC := hide (wByte_u (unhide HW2).is n)
  refine wpAnyH_ready (rs := [4]) (by kernel_rfl) (by simp) ?_
  refine AllReadyH.cons rfl (fun KK hK => ?_) AllReadyH.nil
  go_simp
  by_cases hfit : l.length + 1 ≤ 1048576
  rotate_left
  · have HF : Hid (1048576 < (l ++ be n 1).length) := hide (by simp only [List.length_append, be_length] at hfit ⊢; omega)
    rw [(wE_ful n (by simp [loN, hiN]; omega) hfit).1, (wE_ful n (by simp [loN, hiN]; omega) hfit).2] at HC
    refine (unhide HC).mono ?_
    rintro e W3 ⟨rfl, v3, hi3, hk3, hf3⟩
    have hS3 := WK.bx ⟨hk3, hf3⟩ (unhide HW2).is (unhide HX2) (by decide) (by decide)
    have HW3 := hide ((unhide HW2).post hi3 hk3 hf3)
    have HK3 := hide ((unhide HK2).trans (v2 := v3) ⟨hk3, hf3⟩)
    refine hK.out _ _ hS3 (fun hS3 => ?_)
    clear hi3 hk3 hf3 hK KK HC hfit
    have HM := hide (must_no (unhide HW3).is 7 (by decide))
    refine wpAnyH_ready (rs := [5]) (by kernel_rfl) (by simp) ?_
    refine AllReadyH.cons rfl (fun KK hK => ?_) AllReadyH.nil
    go_simp
    refine (unhide HM).mono ?_
    rintro e W4 ⟨⟨n7, rfl⟩, hb4⟩
    exact ⟨rfl, Or.inr ⟨unhide HF, ⟨n7, rfl⟩, (unhide HW3).bel.trans (hb4.mono (unhide HW3).lt), ((unhide HK3).ty (unhide HI)).trans (TyK.below hb4)⟩⟩
  rw [(wE_fit n (by simp [loN, hiN]; omega) hfit).1, (wE_fit n (by simp [loN, hiN]; omega) hfit).2] at HC
  refine (unhide HC).mono ?_
  rintro e W3 ⟨rfl, v3, hi3, hk3, hf3⟩
  have hS3 := WK.bx ⟨hk3, hf3⟩ (unhide HW2).is (unhide HX2) (by decide) (by decide)
  have HW3 := hide ((unhide HW2).post hi3 hk3 hf3)
  have HK3 := hide ((unhide HK2).trans (v2 := v3) ⟨hk3, hf3⟩)
  refine hK.out _ _ hS3 (fun hS3 => ?_)
  have HM := hide (must_ok p W3)
  clear hK KK HC
  refine wpAnyH_ready (rs := [5]) (by kernel_rfl) (by simp) ?_
  refine AllReadyH.cons rfl (fun KK hK => ?_) AllReadyH.nil
  go_simp
  refine (unhide HM).mono ?_
  rintro e W4 ⟨rfl, hb4⟩
  have HX4 := hide (hS3.below hb4)
  refine hK.out _ _ (unhide HX4) (fun hS4 => ?_)
  have HW4 := hide ((unhide HW3).below hb4)
  have HK4 := hide ((unhide HK3).trans (WK.of_below p v3 hb4))
  have HF : Hid ((l ++ be n 1).length ≤ 1048576) := hide (by simp only [List.length_append, be_length] at hfit ⊢; omega)
  clear hi3 hk3 hf3 hK KK hb4 HM hS3 HX2 HW2 HK2 HK3
  refine wpAnyH_done (by kernel_rfl) ?_ _
  go_end0
  exact Or.inl ⟨unhide HF, rfl, v3, unhide HW4, unhide HK4⟩
set_option maxHeartbeats 2000000 in
theorem wname {B : Nat} {w0 w : World} {p : Nat} {v : Value} {l : List UInt8} (h : WS B w0 w p v l) (s : ByteArray) (hn : nameB s = true) (hs : s.size ≤ maxLen) : Calls Tryz.prog 48 #[.agg #[.pointer (some ⟨p, 0, none⟩)], .string s] w (MPo B w0 w p v (l ++ nb s)) := by
  have al := (Below.refl w.heap.size w).alloc (Nat.le_refl _) (.cells #[.pointer (some ⟨p, 0, none⟩)] 59)
  have HX : Hid (Bx (w.alloc (.cells #[.pointer (some ⟨p, 0, none⟩)] 59)) w.heap.size 59 #[.pointer (some ⟨p, 0, none⟩)]) := hide (heap_alloc_new w _)
  have HW := hide (h.below al)
  have HK := hide (WK.of_below p v al)
  have HI := hide h.is
  have mixed := mixedT
  clear al h
  go_enter Tryz.func48, Tryz.ntmps48
  go_upto_region 1 with fail
  generalize (w.alloc (.cells #[.pointer (some ⟨p, 0, none⟩)] 59)) = W1 at HX HW HK ⊢
  generalize w.heap.size = g at HX ⊢
  have hdr : Below W1.heap.size W1 W1.drew := (Below.refl _ _).drew
  have HX2 := hide ((unhide HX).below hdr)
  have HW2 := hide ((unhide HW).below hdr)
  have HK2 := hide ((unhide HK).trans (WK.of_below p v hdr))
  clear hdr HX HW HK
  refine wp_region_held_drew (S := fun w' => Bx w' g 59 #[.pointer (some ⟨p, 0, none⟩)]) mixed (unhide HX2) (fun hS => ?_)
  generalize W1.drew = Wd at hS HX2 HW2 HK2 ⊢
  refine wpAnyH_take (i := 0) (v := .agg #[.pointer (some ⟨p, 0, none⟩)]) rfl (by kernel_rfl) (by kernel_rfl) (by kernel_rfl) (fun _ _ _ h => h) (Or.inl ⟨by rfl, fun W h => by have h0 := h.c 0 rfl; go_simp⟩) hS ?_
  go_simp
  refine wpAnyH_take (i := 1) (v := .pointer (some ⟨g, 0, none⟩)) rfl (by kernel_rfl) (by kernel_rfl) (by kernel_rfl) (fun _ _ _ h => h) (Or.inl ⟨by rfl, fun W _ => by go_simp⟩) hS ?_
  go_simp
  refine wpAnyH_take (i := 2) (v := .pointer (some ⟨p, 0, none⟩)) rfl (by kernel_rfl) (by kernel_rfl) (by kernel_rfl) (fun _ _ _ h => h) (Or.inl ⟨by rfl, fun W h => by have h0 := h.c 0 rfl; go_simp⟩) hS ?_
  go_simp
  refine wpAnyH_take (i := 3) (v := .string s) rfl (by kernel_rfl) (by kernel_rfl) (by kernel_rfl) (fun _ _ _ h => h) (Or.inl ⟨by rfl, fun W _ => by go_simp⟩) hS ?_
  go_simp
  have HC := hide (wName_u (unhide HW2).is s hs)
  refine wpAnyH_ready (rs := [4]) (by kernel_rfl) (by simp) ?_
  refine AllReadyH.cons rfl (fun KK hK => ?_) AllReadyH.nil
  go_simp
  by_cases hfit : l.length + (nb s).length ≤ 1048576
  rotate_left
  · have HF : Hid (1048576 < (l ++ nb s).length) := hide (by simp only [List.length_append] at hfit ⊢; omega)
    rw [(nE_ful hn hfit).1, (nE_ful hn hfit).2] at HC
    refine (unhide HC).mono ?_
    rintro e W3 ⟨rfl, v3, hi3, hk3, hf3⟩
    have hS3 := WK.bx ⟨hk3, hf3⟩ (unhide HW2).is (unhide HX2) (by decide) (by decide)
    have HW3 := hide ((unhide HW2).post hi3 hk3 hf3)
    have HK3 := hide ((unhide HK2).trans (v2 := v3) ⟨hk3, hf3⟩)
    refine hK.out _ _ hS3 (fun hS3 => ?_)
    clear hi3 hk3 hf3 hK KK HC hfit
    have HM := hide (must_no (unhide HW3).is 7 (by decide))
    refine wpAnyH_ready (rs := [5]) (by kernel_rfl) (by simp) ?_
    refine AllReadyH.cons rfl (fun KK hK => ?_) AllReadyH.nil
    go_simp
    refine (unhide HM).mono ?_
    rintro e W4 ⟨⟨n7, rfl⟩, hb4⟩
    exact ⟨rfl, Or.inr ⟨unhide HF, ⟨n7, rfl⟩, (unhide HW3).bel.trans (hb4.mono (unhide HW3).lt), ((unhide HK3).ty (unhide HI)).trans (TyK.below hb4)⟩⟩
  rw [(nE_fit hn hfit).1, (nE_fit hn hfit).2] at HC
  refine (unhide HC).mono ?_
  rintro e W3 ⟨rfl, v3, hi3, hk3, hf3⟩
  have hS3 := WK.bx ⟨hk3, hf3⟩ (unhide HW2).is (unhide HX2) (by decide) (by decide)
  have HW3 := hide ((unhide HW2).post hi3 hk3 hf3)
  have HK3 := hide ((unhide HK2).trans (v2 := v3) ⟨hk3, hf3⟩)
  refine hK.out _ _ hS3 (fun hS3 => ?_)
  have HM := hide (must_ok p W3)
  clear hK KK HC
  refine wpAnyH_ready (rs := [5]) (by kernel_rfl) (by simp) ?_
  refine AllReadyH.cons rfl (fun KK hK => ?_) AllReadyH.nil
  go_simp
  refine (unhide HM).mono ?_
  rintro e W4 ⟨rfl, hb4⟩
  have HX4 := hide (hS3.below hb4)
  refine hK.out _ _ (unhide HX4) (fun hS4 => ?_)
  have HW4 := hide ((unhide HW3).below hb4)
  have HK4 := hide ((unhide HK3).trans (WK.of_below p v3 hb4))
  have HF : Hid ((l ++ nb s).length ≤ 1048576) := hide (by simp only [List.length_append] at hfit ⊢; omega)
  clear hi3 hk3 hf3 hK KK hb4 HM hS3 HX2 HW2 HK2 HK3
  refine wpAnyH_done (by kernel_rfl) ?_ _
  go_end0
  exact Or.inl ⟨unhide HF, rfl, v3, unhide HW4, unhide HK4⟩
set_option maxHeartbeats 2000000 in
theorem wlong {B : Nat} {w0 w : World} {p : Nat} {v : Value} {l : List UInt8} (h : WS B w0 w p v l) (ao : Option Addr) (c : Nat) (x : List UInt8) (hx : x.length ≤ 65535) (hb : BAt w ao x) (hap : ∀ b off, ao = some ⟨b, off, none⟩ → 0 < x.length → ¬ WT p v b) (hnil : ao = none → x = [] ∧ c = 0) : Calls Tryz.prog 94 #[.agg #[.pointer (some ⟨p, 0, none⟩)], .slice ao x.length c] w (MPo B w0 w p v (l ++ (be (x.length : Int) 2 ++ x))) := by
  have al := (Below.refl w.heap.size w).alloc (Nat.le_refl _) (.cells #[.pointer (some ⟨p, 0, none⟩)] 59)
  have HX : Hid (Bx (w.alloc (.cells #[.pointer (some ⟨p, 0, none⟩)] 59)) w.heap.size 59 #[.pointer (some ⟨p, 0, none⟩)]) := hide (heap_alloc_new w _)
  have HW := hide (h.below al)
  have HK := hide (WK.of_below p v al)
  have HI := hide h.is
  have HD := hide (hb.below' al)
  have HA := hide hap
  clear hap
  have mixed := mixedT
  clear al h hb
  go_enter Tryz.func94, Tryz.ntmps94
  go_upto_region 1 with fail
  generalize (w.alloc (.cells #[.pointer (some ⟨p, 0, none⟩)] 59)) = W1 at HX HW HK HD ⊢
  generalize w.heap.size = g at HX ⊢
  have hdr : Below W1.heap.size W1 W1.drew := (Below.refl _ _).drew
  have HX2 := hide ((unhide HX).below hdr)
  have HW2 := hide ((unhide HW).below hdr)
  have HK2 := hide ((unhide HK).trans (WK.of_below p v hdr))
  have HD2 := hide ((unhide HD).below' hdr)
  clear HD
  clear hdr HX HW HK
  refine wp_region_held_drew (S := fun w' => Bx w' g 59 #[.pointer (some ⟨p, 0, none⟩)]) mixed (unhide HX2) (fun hS => ?_)
  generalize W1.drew = Wd at hS HX2 HW2 HK2 HD2 ⊢
  refine wpAnyH_take (i := 0) (v := .agg #[.pointer (some ⟨p, 0, none⟩)]) rfl (by kernel_rfl) (by kernel_rfl) (by kernel_rfl) (fun _ _ _ h => h) (Or.inl ⟨by rfl, fun W h => by have h0 := h.c 0 rfl; go_simp⟩) hS ?_
  go_simp
  refine wpAnyH_take (i := 1) (v := .pointer (some ⟨g, 0, none⟩)) rfl (by kernel_rfl) (by kernel_rfl) (by kernel_rfl) (fun _ _ _ h => h) (Or.inl ⟨by rfl, fun W _ => by go_simp⟩) hS ?_
  go_simp
  refine wpAnyH_take (i := 2) (v := .pointer (some ⟨p, 0, none⟩)) rfl (by kernel_rfl) (by kernel_rfl) (by kernel_rfl) (fun _ _ _ h => h) (Or.inl ⟨by rfl, fun W h => by have h0 := h.c 0 rfl; go_simp⟩) hS ?_
  go_simp
  refine wpAnyH_take (i := 3) (v := .slice ao x.length c) rfl (by kernel_rfl) (by kernel_rfl) (by kernel_rfl) (fun _ _ _ h => h) (Or.inl ⟨by rfl, fun W _ => by go_simp⟩) hS ?_
  go_simp
  refine wpAnyH_take (i := 4) (v := .int .i64 (x.length : Int)) rfl (by kernel_rfl) (by kernel_rfl) (by kernel_rfl) (fun _ _ _ h => h) (Or.inl ⟨by rfl, fun W _ => by go_simp⟩) hS ?_
  go_simp
  have HC := hide (wWord_u (unhide HW2).is (x.length : Int))
  refine wpAnyH_ready (rs := [5]) (by kernel_rfl) (by simp) ?_
  refine AllReadyH.cons rfl (fun KK hK => ?_) AllReadyH.nil
  go_simp
  by_cases hfit : l.length + 2 ≤ 1048576
  rotate_left
  · have HF : Hid (1048576 < (l ++ (be (x.length : Int) 2 ++ x)).length) := hide (by simp only [List.length_append, be_length] at hfit ⊢; omega)
    rw [(wE_ful (x.length : Int) (by simp [loN, hiN]; omega) hfit).1, (wE_ful (x.length : Int) (by simp [loN, hiN]; omega) hfit).2] at HC
    refine (unhide HC).mono ?_
    rintro e W3 ⟨rfl, v3, hi3, hk3, hf3⟩
    have hS3 := WK.bx ⟨hk3, hf3⟩ (unhide HW2).is (unhide HX2) (by decide) (by decide)
    have HW3 := hide ((unhide HW2).post hi3 hk3 hf3)
    have HK3 := hide ((unhide HK2).trans (v2 := v3) ⟨hk3, hf3⟩)
    refine hK.out _ _ hS3 (fun hS3 => ?_)
    clear hi3 hk3 hf3 hK KK HC hfit
    have HM := hide (must_no (unhide HW3).is 7 (by decide))
    refine wpAnyH_ready (rs := [6]) (by kernel_rfl) (by simp) ?_
    refine AllReadyH.cons rfl (fun KK hK => ?_) AllReadyH.nil
    go_simp
    refine (unhide HM).mono ?_
    rintro e W4 ⟨⟨n7, rfl⟩, hb4⟩
    exact ⟨rfl, Or.inr ⟨unhide HF, ⟨n7, rfl⟩, (unhide HW3).bel.trans (hb4.mono (unhide HW3).lt), ((unhide HK3).ty (unhide HI)).trans (TyK.below hb4)⟩⟩
  rw [(wE_fit (x.length : Int) (by simp [loN, hiN]; omega) hfit).1, (wE_fit (x.length : Int) (by simp [loN, hiN]; omega) hfit).2] at HC
  refine (unhide HC).mono ?_
  rintro e W3 ⟨rfl, v3, hi3, hk3, hf3⟩
  have hS3 := WK.bx ⟨hk3, hf3⟩ (unhide HW2).is (unhide HX2) (by decide) (by decide)
  have HW3 := hide ((unhide HW2).post hi3 hk3 hf3)
  have HK3 := hide ((unhide HK2).trans (v2 := v3) ⟨hk3, hf3⟩)
  have HD3 := hide (bat_wt (unhide HD2) (unhide HA) hk3)
  refine hK.out _ _ hS3 (fun hS3 => ?_)
  have HM := hide (must_ok p W3)
  clear hK KK HC
  refine wpAnyH_ready (rs := [6]) (by kernel_rfl) (by simp) ?_
  refine AllReadyH.cons rfl (fun KK hK => ?_) AllReadyH.nil
  go_simp
  refine (unhide HM).mono ?_
  rintro e W4 ⟨rfl, hb4⟩
  have HX4 := hide (hS3.below hb4)
  refine hK.out _ _ (unhide HX4) (fun hS4 => ?_)
  have HW4 := hide ((unhide HW3).below hb4)
  have HK4 := hide ((unhide HK3).trans (WK.of_below p v3 hb4))
  have HD4 := hide ((unhide HD3).below' hb4)
  have hfit0 := hfit
  clear hi3 hk3 hf3 hK KK hb4 HM hS3 hS4 HX2 HW2 HD2 HD3 HW3 hS HK2 HK3 hfit
  refine wpAnyH_done (by kernel_rfl) ?_ _
  go_upto_region 2 with fail
  have HX := HX4
  have HW := HW4
  have HK := HK4
  clear HX4 HW4 HK4
  have hdr : Below W4.heap.size W4 W4.drew := (Below.refl _ _).drew
  have HX2 := hide ((unhide HX).below hdr)
  have HW2 := hide ((unhide HW).below hdr)
  have HK2 := hide ((unhide HK).trans (WK.of_below p v3 hdr))
  have HD2 := hide ((unhide HD4).below' hdr)
  clear HD4
  clear hdr HX HW HK
  refine wp_region_held_drew (S := fun w' => Bx w' g 59 #[.pointer (some ⟨p, 0, none⟩)]) mixed (unhide HX2) (fun hS => ?_)
  generalize W4.drew = Wd at hS HX2 HW2 HK2 HD2 ⊢
  refine wpAnyH_take (i := 0) (v := .agg #[.pointer (some ⟨p, 0, none⟩)]) rfl (by kernel_rfl) (by kernel_rfl) (by kernel_rfl) (fun _ _ _ h => h) (Or.inl ⟨by rfl, fun W h => by have h0 := h.c 0 rfl; go_simp⟩) hS ?_
  go_simp
  refine wpAnyH_take (i := 1) (v := .pointer (some ⟨g, 0, none⟩)) rfl (by kernel_rfl) (by kernel_rfl) (by kernel_rfl) (fun _ _ _ h => h) (Or.inl ⟨by rfl, fun W _ => by go_simp⟩) hS ?_
  go_simp
  refine wpAnyH_take (i := 2) (v := .pointer (some ⟨p, 0, none⟩)) rfl (by kernel_rfl) (by kernel_rfl) (by kernel_rfl) (fun _ _ _ h => h) (Or.inl ⟨by rfl, fun W h => by have h0 := h.c 0 rfl; go_simp⟩) hS ?_
  go_simp
  refine wpAnyH_take (i := 3) (v := .slice ao x.length c) rfl (by kernel_rfl) (by kernel_rfl) (by kernel_rfl) (fun _ _ _ h => h) (Or.inl ⟨by rfl, fun W _ => by go_simp⟩) hS ?_
  go_simp
  have HC := hide (Put_u (unhide HW2).is _ x (srcT (unhide HD2) hnil) (by omega))
  refine wpAnyH_ready (rs := [4]) (by kernel_rfl) (by simp) ?_
  refine AllReadyH.cons rfl (fun KK hK => ?_) AllReadyH.nil
  go_simp
  by_cases hfit : (l ++ be (x.length : Int) 2).length + x.length ≤ 1048576
  rotate_left
  · have HF : Hid (1048576 < (l ++ (be (x.length : Int) 2 ++ x)).length) := hide (by simp only [List.length_append, be_length] at hfit ⊢; omega)
    rw [(jE_ful hfit).1, (jE_ful hfit).2] at HC
    refine (unhide HC).mono ?_
    rintro e W3 ⟨rfl, v4, hi3, hk3, hf3⟩
    have hS3 := WK.bx ⟨hk3, hf3⟩ (unhide HW2).is (unhide HX2) (by decide) (by decide)
    have HW3 := hide ((unhide HW2).post hi3 hk3 hf3)
    have HK3 := hide ((unhide HK2).trans (v2 := v4) ⟨hk3, hf3⟩)
    refine hK.out _ _ hS3 (fun hS3 => ?_)
    clear hi3 hk3 hf3 hK KK HC hfit
    have HM := hide (must_no (unhide HW3).is 7 (by decide))
    refine wpAnyH_ready (rs := [5]) (by kernel_rfl) (by simp) ?_
    refine AllReadyH.cons rfl (fun KK hK => ?_) AllReadyH.nil
    go_simp
    refine (unhide HM).mono ?_
    rintro e W4 ⟨⟨n7, rfl⟩, hb4⟩
    exact ⟨rfl, Or.inr ⟨unhide HF, ⟨n7, rfl⟩, (unhide HW3).bel.trans (hb4.mono (unhide HW3).lt), ((unhide HK3).ty (unhide HI)).trans (TyK.below hb4)⟩⟩
  rw [(jE_fit hfit).1, (jE_fit hfit).2] at HC
  refine (unhide HC).mono ?_
  rintro e W3 ⟨rfl, v4, hi3, hk3, hf3⟩
  have hS3 := WK.bx ⟨hk3, hf3⟩ (unhide HW2).is (unhide HX2) (by decide) (by decide)
  have HW3 := hide ((unhide HW2).post hi3 hk3 hf3)
  have HK3 := hide ((unhide HK2).trans (v2 := v4) ⟨hk3, hf3⟩)
  refine hK.out _ _ hS3 (fun hS3 => ?_)
  have HM := hide (must_ok p W3)
  clear hK KK HC
  refine wpAnyH_ready (rs := [5]) (by kernel_rfl) (by simp) ?_
  refine AllReadyH.cons rfl (fun KK hK => ?_) AllReadyH.nil
  go_simp
  refine (unhide HM).mono ?_
  rintro e W4 ⟨rfl, hb4⟩
  have HX4 := hide (hS3.below hb4)
  refine hK.out _ _ (unhide HX4) (fun hS4 => ?_)
  have HW4 := hide ((unhide HW3).below hb4)
  have HK4 := hide ((unhide HK3).trans (WK.of_below p v4 hb4))
  have HF : Hid ((l ++ (be (x.length : Int) 2 ++ x)).length ≤ 1048576) := hide (by simp only [List.length_append, be_length] at hfit ⊢; omega)
  clear hi3 hk3 hf3 hK KK hb4 HM hS3 HX2 HW2 HK2 HK3
  refine wpAnyH_done (by kernel_rfl) ?_ _
  go_end0
  have HW5 := unhide HW4
  rw [List.append_assoc] at HW5
  exact Or.inl ⟨unhide HF, rfl, v4, HW5, unhide HK4⟩
end Go.Proofs.YtibgfdjopikafaaGreatDoor

/-
  The writer of a module's file: a class. Conditions: what stands in it may be.
-/
namespace Go.Proofs.YtibgfdjopikafaaGreatDoor
open Go.RowKit
set_option maxRecDepth 20000
set_option linter.unusedVariables false

theorem nb_eq (s : ByteArray) : nb s = nbL s.toList := by
  unfold nb nbL
  rw [ByteArray.toList_eq]
  rfl
theorem one_eq {n : Nat} (h : n < 256) : be (n : Int) 1 = oneB n := by
  show [byteOf n 0] = [UInt8.ofNat n]
  congr 1
  apply UInt8.toNat_inj.1
  have h0 := byteOf_eq (n : Int) 0
  rw [ofNat_nat h]
  omega
theorem big {A C R : List UInt8} (h : 1048576 < A.length) (e : C = A ++ R) : 1048576 < C.length := by rw [e, List.length_append]; omega
theorem flat_at {α : Type} {l : List α} {j : Nat} {x : α} (f : α → List UInt8) (h : l[j]? = some x) : l.flatMap f = (l.take j).flatMap f ++ (f x ++ (l.drop (j + 1)).flatMap f) ∧ (l.take (j + 1)).flatMap f = (l.take j).flatMap f ++ f x := by
  obtain ⟨hj, e⟩ := List.getElem?_eq_some_iff.1 h
  constructor
  · have h1 : l = l.take j ++ x :: l.drop (j + 1) := by rw [← e, List.getElem_cons_drop, List.take_append_drop]
    conv => lhs; rw [h1]
    rw [List.flatMap_append, List.flatMap_cons]
  · rw [List.take_add_one, h]
    simp
/-- A field's bytes. -/
def flE (f : Fl) : List UInt8 := nb f.nm ++ be (f.ty : Int) 1
theorem flE_eq {f : Fl} (h : f.ty < 256) : flE f = fdB (flC f) := by unfold flE fdB flC; rw [nb_eq, one_eq h]
def clE (x : Cl) : List UInt8 := nb x.nm ++ (be (parN x.par : Int) 1 ++ (be (x.fs.length : Int) 1 ++ x.fs.flatMap flE))
theorem flat_eq {α β : Type} {l : List α} {f : α → List UInt8} {c : α → β} {g : β → List UInt8} (h : ∀ x ∈ l, f x = g (c x)) : l.flatMap f = (l.map c).flatMap g := by
  rw [List.flatMap_map]
  induction l with
  | nil => rfl
  | cons a l ih => rw [List.flatMap_cons, List.flatMap_cons, h a List.mem_cons_self, ih (fun x hx => h x (List.mem_cons_of_mem _ hx))]
theorem clE_eq {x : Cl} (hv : ClV (clC x)) : clE x = clB (clC x) := by
  obtain ⟨_, h2, h3, h4⟩ := hv
  have h2 : ParV x.par := h2
  have h3 : (x.fs.map flC).length ≤ 32 := h3
  rw [List.length_map] at h3
  unfold clE clB
  show _ = nbL x.nm.toList ++ (oneB (parN x.par) ++ (oneB (x.fs.map flC).length ++ (x.fs.map flC).flatMap fdB))
  rw [nb_eq, one_eq (par_there h2).2, one_eq (by omega), List.length_map, flat_eq (c := flC) (g := fdB) (fun f hf => flE_eq (h4 (flC f) (List.mem_map_of_mem hf)).2)]
set_option maxHeartbeats 4000000 in
theorem wclass {w0 w : World} {p : Nat} {v : Value} {l : List UInt8} (h : WS w0.heap.size w0 w p v l) (x : Cl) (hf : FsAt w0 x.fo x.fs) (hcap : x.fs.length ≤ x.fc) (hn : nameB x.nm = true) (hp : ParV x.par) (hl : x.fs.length ≤ 32) (hfs : ∀ (i : Nat) (f : Fl), x.fs[i]? = some f → nameB f.nm = true) :
    Calls Tryz.prog 50 #[.agg #[.pointer (some ⟨p, 0, none⟩)], .agg #[.string x.nm, .int .i64 x.par, .slice x.fo x.fs.length x.fc]] w (MPo w0.heap.size w0 w p v (l ++ clE x)) := by
  obtain ⟨nm, par, fo, fc, fs⟩ := x
  simp only at hf hcap hn hp hl hfs
  have al1 := (Below.refl w.heap.size w).alloc (Nat.le_refl _) (.cells #[.pointer (some ⟨p, 0, none⟩)] 59)
  have al := al1.alloc (by simp) (.cells #[.string nm, .int .i64 par, .slice fo fs.length fc] 80)
  have n1 := heap_alloc_new w (.cells #[.pointer (some ⟨p, 0, none⟩)] 59)
  have n2 := heap_alloc_new (w.alloc (.cells #[.pointer (some ⟨p, 0, none⟩)] 59)) (.cells #[.string nm, .int .i64 par, .slice fo fs.length fc] 80)
  rw [World.size_alloc] at n2
  have HX0 : Hid (Bx ((w.alloc (.cells #[.pointer (some ⟨p, 0, none⟩)] 59)).alloc (.cells #[.string nm, .int .i64 par, .slice fo fs.length fc] 80)) w.heap.size 59 #[.pointer (some ⟨p, 0, none⟩)]) := hide ((((Below.refl _ _).alloc (Nat.le_refl _) _).block w.heap.size (by simp)).trans n1)
  have HC0 : Hid (Bx ((w.alloc (.cells #[.pointer (some ⟨p, 0, none⟩)] 59)).alloc (.cells #[.string nm, .int .i64 par, .slice fo fs.length fc] 80)) (w.heap.size + 1) 80 #[.string nm, .int .i64 par, .slice fo fs.length fc]) := hide n2
  have HW0 := hide (h.below al)
  have HK0 := hide (WK.of_below p v al)
  have HI := hide h.is
  have HT : Hid (l ++ clE ⟨nm, par, fo, fc, fs⟩ = l ++ nb nm ++ be (parN par : Int) 1 ++ be (fs.length : Int) 1 ++ fs.flatMap flE) := hide (by unfold clE; simp only [List.append_assoc])
  have HF := hide hf
  have HN := hide hfs
  have hnm : nm.size ≤ maxLen := by have := name_size hn; unfold maxLen; omega
  clear al1 al n1 n2 h hf hfs
  go_enter Tryz.func50, Tryz.ntmps50
  go_upto_region 1 with fail
  generalize ((w.alloc (.cells #[.pointer (some ⟨p, 0, none⟩)] 59)).alloc (.cells #[.string nm, .int .i64 par, .slice fo fs.length fc] 80)) = W0 at HX0 HC0 HW0 HK0 ⊢
  generalize w.heap.size = g at HX0 HC0 ⊢
  have k0 := (unhide HX0).c 0 rfl
  have c0 := (unhide HC0).c 0 rfl
  have HC := hide (wname (unhide HW0) nm hn hnm)
  go_wp2_with fail
  refine (unhide HC).mono ?_
  rintro e W1 (⟨hl1, rfl, v1, hw1, hk1⟩ | ⟨hF, ⟨n7, rfl⟩, hbF, htF⟩)
  rotate_left
  · exact ⟨rfl, Or.inr ⟨big hF (by rw [unhide HT] <;> (simp only [List.append_assoc] <;> rfl)), ⟨n7, rfl⟩, hbF, ((unhide HK0).ty (unhide HI)).trans htF⟩⟩
  have HW1 := hide hw1
  have HK1 := hide ((unhide HK0).trans hk1)
  have HX1 := hide (hk1.bx (unhide HW0).is (unhide HX0) (by decide) (by decide))
  have HC1 := hide (hk1.bx (unhide HW0).is (unhide HC0) (by decide) (by decide))
  clear hl1 hw1 hk1 HC HW0 HK0 HX0 HC0 k0 c0
  have k0 := (unhide HX1).c 0 rfl
  have c0 := (unhide HC1).c 1 rfl
  by_cases h0 : par < 0
  · have h1 : (255 : Int) = (parN par : Int) := by unfold parN; rw [if_pos h0]; rfl
    have HC := hide (wbyte (unhide HW1) 255 (by omega))
    rw [h1] at HC
    rw [← h1] at HC
    have HP := hide h1
    clear h1
    go_wp2_with fail
    refine (unhide HC).mono ?_
    rintro e W2 (⟨hl2, rfl, v2, hw2, hk2⟩ | ⟨hF, ⟨n7, rfl⟩, hbF, htF⟩)
    rotate_left
    · exact ⟨rfl, Or.inr ⟨big hF (by rw [unhide HT, ← unhide HP] <;> (simp only [List.append_assoc] <;> rfl)), ⟨n7, rfl⟩, hbF, ((unhide HK1).ty (unhide HI)).trans htF⟩⟩
    have HW2 := hide hw2
    have HK2 := hide ((unhide HK1).trans hk2)
    have HX2 := hide (hk2.bx (unhide HW1).is (unhide HX1) (by decide) (by decide))
    have HC2 := hide (hk2.bx (unhide HW1).is (unhide HC1) (by decide) (by decide))
    clear hl2 hw2 hk2 HC HW1 HK1 HX1 HC1 k0 c0
    rw [unhide HP] at HW2
    clear h0 HP
    have k0 := (unhide HX2).c 0 rfl
    have c0 := (unhide HC2).c 2 rfl
    have HC := hide (wbyte (unhide HW2) (fs.length : Int) (by omega))
    go_wp2_with fail
    refine (unhide HC).mono ?_
    rintro e W3 (⟨hl3, rfl, v3, hw3, hk3⟩ | ⟨hF, ⟨n7, rfl⟩, hbF, htF⟩)
    rotate_left
    · exact ⟨rfl, Or.inr ⟨big hF (by rw [unhide HT] <;> (simp only [List.append_assoc] <;> rfl)), ⟨n7, rfl⟩, hbF, ((unhide HK2).ty (unhide HI)).trans htF⟩⟩
    have HW3 := hide hw3
    have HK3 := hide ((unhide HK2).trans hk3)
    have HX3 := hide (hk3.bx (unhide HW2).is (unhide HX2) (by decide) (by decide))
    have HC3 := hide (hk3.bx (unhide HW2).is (unhide HC2) (by decide) (by decide))
    clear hl3 hw3 hk3 HC HW2 HK2 HX2 HC2 k0 c0
    have k0 := (unhide HX3).c 0 rfl
    have c0 := (unhide HC3).c 2 rfl
    go_wp2_with fail
    go_loopw [27] (fun i wr => ∃ (j : Nat) (vr : Value), j ≤ fs.length ∧ i = .int .i64 (j : Int) ∧ Hid (WS w0.heap.size w0 wr p vr (l ++ nb nm ++ be (parN par : Int) 1 ++ be (fs.length : Int) 1 ++ (fs.take j).flatMap flE)) ∧ Hid (WK w wr p v vr) ∧ Hid (Bx wr g 59 #[.pointer (some ⟨p, 0, none⟩)]) ∧ Hid (Bx wr (g + 1) 80 #[.string nm, .int .i64 par, .slice fo fs.length fc])) (fun i _ => fs.length - (intOf i).toNat)
    case atStart => exact ⟨0, v3, by omega, rfl, hide (by have := unhide HW3; rw [List.take_zero, List.flatMap_nil, List.append_nil]; exact this), HK3, HX3, HC3⟩
    case round =>
      clear HW3 HK3 HX3 HC3 k0 c0
      obtain ⟨j, v4, hj, rfl, HW4, HK4, HX4, HC4⟩ := hrel
      by_cases hlt : j < fs.length
      · have i1 : ((j : Nat) : Int) < ((fs.length : Nat) : Int) := by omega
        obtain ⟨f, HFJ⟩ : ∃ f, Hid (fs[j]? = some f) := ⟨_, hide (List.getElem?_eq_getElem hlt)⟩
        obtain ⟨b, off, rfl, hfl⟩ := (unhide HF).below (unhide HW4).bel j f (unhide HFJ)
        have hfn := unhide HN j f (unhide HFJ)
        have hfm : f.nm.size ≤ maxLen := by have := name_size hfn; unfold maxLen; omega
        have hft := hfl.ty
        have q0 := hfl.c0
        have q1 := hfl.c1
        have HFL := hide (flat_at flE (unhide HFJ))
        clear hfl
        go_upto_region 9 with fail
        have al : Below wr.heap.size wr (wr.alloc (.cells #[.string f.nm, .int .u8 (f.ty : Int)] 83)) := (Below.refl _ _).alloc (Nat.le_refl _) _
        have HW5 := hide ((unhide HW4).below al)
        have HK5 := hide ((unhide HK4).trans (WK.of_below p v4 al))
        have HX5 := hide ((unhide HX4).below al)
        have HC5 := hide ((unhide HC4).below al)
        have HF5 : Hid (Bx (wr.alloc (.cells #[.string f.nm, .int .u8 (f.ty : Int)] 83)) wr.heap.size 83 #[.string f.nm, .int .u8 (f.ty : Int)]) := hide (heap_alloc_new wr _)
        clear al q0 q1 HW4 HK4 HX4 HC4
        generalize wr.alloc (.cells #[.string f.nm, .int .u8 (f.ty : Int)] 83) = W5 at HW5 HK5 HX5 HC5 HF5 ⊢
        generalize wr.heap.size = gf at HF5 ⊢
        have k0 := (unhide HX5).c 0 rfl
        have c0 := (unhide HF5).c 0 rfl
        have HC := hide (wname (unhide HW5) f.nm hfn hfm)
        go_wp2_with fail
        refine (unhide HC).mono ?_
        rintro e W6 (⟨hl6, rfl, v6, hw6, hk6⟩ | ⟨hF, ⟨n7, rfl⟩, hbF, htF⟩)
        rotate_left
        · exact ⟨rfl, Or.inr ⟨big hF (by rw [unhide HT, (unhide HFL).1] <;> (simp only [flE, List.append_assoc] <;> rfl)), ⟨n7, rfl⟩, hbF, ((unhide HK5).ty (unhide HI)).trans htF⟩⟩
        have HW6 := hide hw6
        have HK6 := hide ((unhide HK5).trans hk6)
        have HX6 := hide (hk6.bx (unhide HW5).is (unhide HX5) (by decide) (by decide))
        have HC6 := hide (hk6.bx (unhide HW5).is (unhide HC5) (by decide) (by decide))
        have HF6 := hide (hk6.bx (unhide HW5).is (unhide HF5) (by decide) (by decide))
        clear hl6 hw6 hk6 HC HW5 HK5 HX5 HC5 HF5 k0 c0
        have k0 := (unhide HX6).c 0 rfl
        have c0 := (unhide HF6).c 1 rfl
        have HC := hide (wbyte (unhide HW6) (f.ty : Int) (by omega))
        go_wp2_with fail
        refine (unhide HC).mono ?_
        rintro e W7 (⟨hl7, rfl, v7, hw7, hk7⟩ | ⟨hF, ⟨n7, rfl⟩, hbF, htF⟩)
        rotate_left
        · exact ⟨rfl, Or.inr ⟨big hF (by rw [unhide HT, (unhide HFL).1] <;> (simp only [flE, List.append_assoc] <;> rfl)), ⟨n7, rfl⟩, hbF, ((unhide HK6).ty (unhide HI)).trans htF⟩⟩
        have HW7 := hide hw7
        have HK7 := hide ((unhide HK6).trans hk7)
        have HX7 := hide (hk7.bx (unhide HW6).is (unhide HX6) (by decide) (by decide))
        have HC7 := hide (hk7.bx (unhide HW6).is (unhide HC6) (by decide) (by decide))
        clear hl7 hw7 hk7 HC HW6 HK6 HX6 HC6 k0 c0 HF6
        have HW8 : Hid (WS w0.heap.size w0 W7 p v7 (l ++ nb nm ++ be (parN par : Int) 1 ++ be (fs.length : Int) 1 ++ (fs.take (j + 1)).flatMap flE)) := hide (by rw [(unhide HFL).2]; have := unhide HW7; simp only [flE, List.append_assoc] at this ⊢; exact this)
        clear HW7 HFL HFJ hfn hft hfm
        go_wp2
        go_roundw
        case rel => exact ⟨j + 1, v7, by omega, by go_num, HW8, HK7, HX7, HC7⟩
        case measure => simp [intOf]; omega
      · have i1 : ¬ ((j : Nat) : Int) < ((fs.length : Nat) : Int) := by omega
        have HW5 : Hid (WS w0.heap.size w0 wr p v4 (l ++ clE ⟨nm, par, fo, fc, fs⟩)) := hide (by have := unhide HW4; rw [List.take_of_length_le (by omega)] at this; rw [unhide HT]; exact this)
        clear HW4
        go_wp2
        go_end0
        exact Or.inl ⟨(unhide HW5).is.len, rfl, v4, unhide HW5, unhide HK4⟩
  · have h1 : par = (parN par : Int) := by unfold parN; rw [if_neg h0]; omega
    have h2 : 0 ≤ par ∧ par ≤ 255 := by unfold ParV at hp; omega
    have HC := hide (wbyte (unhide HW1) par h2)
    have HP := hide h1
    clear h1
    go_wp2_with fail
    refine (unhide HC).mono ?_
    rintro e W2 (⟨hl2, rfl, v2, hw2, hk2⟩ | ⟨hF, ⟨n7, rfl⟩, hbF, htF⟩)
    rotate_left
    · exact ⟨rfl, Or.inr ⟨big hF (by rw [unhide HT, ← unhide HP] <;> (simp only [List.append_assoc] <;> rfl)), ⟨n7, rfl⟩, hbF, ((unhide HK1).ty (unhide HI)).trans htF⟩⟩
    have HW2 := hide hw2
    have HK2 := hide ((unhide HK1).trans hk2)
    have HX2 := hide (hk2.bx (unhide HW1).is (unhide HX1) (by decide) (by decide))
    have HC2 := hide (hk2.bx (unhide HW1).is (unhide HC1) (by decide) (by decide))
    clear hl2 hw2 hk2 HC HW1 HK1 HX1 HC1 k0 c0
    have HW2b := hide (unhide HW2)
    have hq : be par 1 = be (parN par : Int) 1 := by rw [← unhide HP]
    rw [hq] at HW2
    clear h0 HP h2 hq HW2b
    have k0 := (unhide HX2).c 0 rfl
    have c0 := (unhide HC2).c 2 rfl
    have HC := hide (wbyte (unhide HW2) (fs.length : Int) (by omega))
    go_wp2_with fail
    refine (unhide HC).mono ?_
    rintro e W3 (⟨hl3, rfl, v3, hw3, hk3⟩ | ⟨hF, ⟨n7, rfl⟩, hbF, htF⟩)
    rotate_left
    · exact ⟨rfl, Or.inr ⟨big hF (by rw [unhide HT] <;> (simp only [List.append_assoc] <;> rfl)), ⟨n7, rfl⟩, hbF, ((unhide HK2).ty (unhide HI)).trans htF⟩⟩
    have HW3 := hide hw3
    have HK3 := hide ((unhide HK2).trans hk3)
    have HX3 := hide (hk3.bx (unhide HW2).is (unhide HX2) (by decide) (by decide))
    have HC3 := hide (hk3.bx (unhide HW2).is (unhide HC2) (by decide) (by decide))
    clear hl3 hw3 hk3 HC HW2 HK2 HX2 HC2 k0 c0
    have k0 := (unhide HX3).c 0 rfl
    have c0 := (unhide HC3).c 2 rfl
    go_wp2_with fail
    go_loopw [27] (fun i wr => ∃ (j : Nat) (vr : Value), j ≤ fs.length ∧ i = .int .i64 (j : Int) ∧ Hid (WS w0.heap.size w0 wr p vr (l ++ nb nm ++ be (parN par : Int) 1 ++ be (fs.length : Int) 1 ++ (fs.take j).flatMap flE)) ∧ Hid (WK w wr p v vr) ∧ Hid (Bx wr g 59 #[.pointer (some ⟨p, 0, none⟩)]) ∧ Hid (Bx wr (g + 1) 80 #[.string nm, .int .i64 par, .slice fo fs.length fc])) (fun i _ => fs.length - (intOf i).toNat)
    case atStart => exact ⟨0, v3, by omega, rfl, hide (by have := unhide HW3; rw [List.take_zero, List.flatMap_nil, List.append_nil]; exact this), HK3, HX3, HC3⟩
    case round =>
      clear HW3 HK3 HX3 HC3 k0 c0
      obtain ⟨j, v4, hj, rfl, HW4, HK4, HX4, HC4⟩ := hrel
      by_cases hlt : j < fs.length
      · have i1 : ((j : Nat) : Int) < ((fs.length : Nat) : Int) := by omega
        obtain ⟨f, HFJ⟩ : ∃ f, Hid (fs[j]? = some f) := ⟨_, hide (List.getElem?_eq_getElem hlt)⟩
        obtain ⟨b, off, rfl, hfl⟩ := (unhide HF).below (unhide HW4).bel j f (unhide HFJ)
        have hfn := unhide HN j f (unhide HFJ)
        have hfm : f.nm.size ≤ maxLen := by have := name_size hfn; unfold maxLen; omega
        have hft := hfl.ty
        have q0 := hfl.c0
        have q1 := hfl.c1
        have HFL := hide (flat_at flE (unhide HFJ))
        clear hfl
        go_upto_region 9 with fail
        have al : Below wr.heap.size wr (wr.alloc (.cells #[.string f.nm, .int .u8 (f.ty : Int)] 83)) := (Below.refl _ _).alloc (Nat.le_refl _) _
        have HW5 := hide ((unhide HW4).below al)
        have HK5 := hide ((unhide HK4).trans (WK.of_below p v4 al))
        have HX5 := hide ((unhide HX4).below al)
        have HC5 := hide ((unhide HC4).below al)
        have HF5 : Hid (Bx (wr.alloc (.cells #[.string f.nm, .int .u8 (f.ty : Int)] 83)) wr.heap.size 83 #[.string f.nm, .int .u8 (f.ty : Int)]) := hide (heap_alloc_new wr _)
        clear al q0 q1 HW4 HK4 HX4 HC4
        generalize wr.alloc (.cells #[.string f.nm, .int .u8 (f.ty : Int)] 83) = W5 at HW5 HK5 HX5 HC5 HF5 ⊢
        generalize wr.heap.size = gf at HF5 ⊢
        have k0 := (unhide HX5).c 0 rfl
        have c0 := (unhide HF5).c 0 rfl
        have HC := hide (wname (unhide HW5) f.nm hfn hfm)
        go_wp2_with fail
        refine (unhide HC).mono ?_
        rintro e W6 (⟨hl6, rfl, v6, hw6, hk6⟩ | ⟨hF, ⟨n7, rfl⟩, hbF, htF⟩)
        rotate_left
        · exact ⟨rfl, Or.inr ⟨big hF (by rw [unhide HT, (unhide HFL).1] <;> (simp only [flE, List.append_assoc] <;> rfl)), ⟨n7, rfl⟩, hbF, ((unhide HK5).ty (unhide HI)).trans htF⟩⟩
        have HW6 := hide hw6
        have HK6 := hide ((unhide HK5).trans hk6)
        have HX6 := hide (hk6.bx (unhide HW5).is (unhide HX5) (by decide) (by decide))
        have HC6 := hide (hk6.bx (unhide HW5).is (unhide HC5) (by decide) (by decide))
        have HF6 := hide (hk6.bx (unhide HW5).is (unhide HF5) (by decide) (by decide))
        clear hl6 hw6 hk6 HC HW5 HK5 HX5 HC5 HF5 k0 c0
        have k0 := (unhide HX6).c 0 rfl
        have c0 := (unhide HF6).c 1 rfl
        have HC := hide (wbyte (unhide HW6) (f.ty : Int) (by omega))
        go_wp2_with fail
        refine (unhide HC).mono ?_
        rintro e W7 (⟨hl7, rfl, v7, hw7, hk7⟩ | ⟨hF, ⟨n7, rfl⟩, hbF, htF⟩)
        rotate_left
        · exact ⟨rfl, Or.inr ⟨big hF (by rw [unhide HT, (unhide HFL).1] <;> (simp only [flE, List.append_assoc] <;> rfl)), ⟨n7, rfl⟩, hbF, ((unhide HK6).ty (unhide HI)).trans htF⟩⟩
        have HW7 := hide hw7
        have HK7 := hide ((unhide HK6).trans hk7)
        have HX7 := hide (hk7.bx (unhide HW6).is (unhide HX6) (by decide) (by decide))
        have HC7 := hide (hk7.bx (unhide HW6).is (unhide HC6) (by decide) (by decide))
        clear hl7 hw7 hk7 HC HW6 HK6 HX6 HC6 k0 c0 HF6
        have HW8 : Hid (WS w0.heap.size w0 W7 p v7 (l ++ nb nm ++ be (parN par : Int) 1 ++ be (fs.length : Int) 1 ++ (fs.take (j + 1)).flatMap flE)) := hide (by rw [(unhide HFL).2]; have := unhide HW7; simp only [flE, List.append_assoc] at this ⊢; exact this)
        clear HW7 HFL HFJ hfn hft hfm
        go_wp2
        go_roundw
        case rel => exact ⟨j + 1, v7, by omega, by go_num, HW8, HK7, HX7, HC7⟩
        case measure => simp [intOf]; omega
      · have i1 : ¬ ((j : Nat) : Int) < ((fs.length : Nat) : Int) := by omega
        have HW5 : Hid (WS w0.heap.size w0 wr p v4 (l ++ clE ⟨nm, par, fo, fc, fs⟩)) := hide (by have := unhide HW4; rw [List.take_of_length_le (by omega)] at this; rw [unhide HT]; exact this)
        clear HW4
        go_wp2
        go_end0
        exact Or.inl ⟨(unhide HW5).is.len, rfl, v4, unhide HW5, unhide HK4⟩
end Go.Proofs.YtibgfdjopikafaaGreatDoor

/-
  The writer of a module's file: a function, the certificates. Conditions: what stands in them may be.
-/
namespace Go.Proofs.YtibgfdjopikafaaGreatDoor
open Go.RowKit
set_option maxRecDepth 20000
set_option linter.unusedVariables false

def fnW (x : Fn) : List UInt8 := nb x.nm ++ (be (x.sg.ps.length : Int) 1 ++ (x.sg.ps.flatMap (fun (t : Nat) => be (t : Int) 1) ++ (be (x.sg.rt : Int) 1 ++ (be x.lo 1 ++ (be (x.cd.length : Int) 2 ++ x.cd)))))
theorem fnW_eq {x : Fn} (hv : FnV (fnC x)) : fnW x = fnB (fnC x) := by
  obtain ⟨_, h2, h3, h4, h5, _⟩ := hv
  have h2 : x.sg.ps.length ≤ 8 := h2
  have h3 : ∀ t ∈ x.sg.ps, t < 256 := h3
  have h4 : x.sg.rt < 256 := h4
  have h5 : 0 ≤ x.lo ∧ x.lo < 256 := h5
  unfold fnW fnB
  show _ = nbL x.nm.toList ++ (oneB x.sg.ps.length ++ (x.sg.ps.flatMap oneB ++ (oneB x.sg.rt ++ (oneB x.lo.toNat ++ loB x.cd))))
  have h6 : be x.lo 1 = oneB x.lo.toNat := by rw [← one_eq (by omega : x.lo.toNat < 256), Int.toNat_of_nonneg h5.1]
  have h7 : x.sg.ps.flatMap (fun (t : Nat) => be (t : Int) 1) = x.sg.ps.flatMap oneB := by
    have := flat_eq (l := x.sg.ps) (f := fun (t : Nat) => be (t : Int) 1) (c := id) (g := oneB) (fun t ht => one_eq (h3 t ht))
    rw [List.map_id] at this
    exact this
  rw [nb_eq, one_eq (by omega), h7, one_eq h4, h6]
  rfl
theorem apart0 {w0 w : World} {p : Nat} {v : Value} {l : List UInt8} (h : WS w0.heap.size w0 w p v l) {ao : Option Addr} {x : List UInt8} (hb : BAt w0 ao x) : ∀ b off, ao = some ⟨b, off, none⟩ → 0 < x.length → ¬ WT p v b := fun b off e hx he => by
  obtain ⟨b', off', e', hc⟩ := hb 0 hx
  rw [e] at e'
  injection e' with e'
  injection e' with e1 e2
  subst e1
  have hl := World.block_lt_of_cell? w0 _ hc
  have hl : b < w0.heap.size := hl
  rcases he with rfl | he
  · have := h.bp; omega
  · have := h.bv b he; omega
set_option maxHeartbeats 4000000 in
theorem wfunction {w0 w : World} {p : Nat} {v : Value} {l : List UInt8} (h : WS w0.heap.size w0 w p v l) (x : Fn) (hx : FnOk w0 x) (hn : nameB x.nm = true) (hps : x.sg.ps.length ≤ 8) (hlo : 0 ≤ x.lo ∧ x.lo ≤ 255) (hcd : x.cd.length ≠ 0 ∧ x.cd.length ≤ 65535) :
    Calls Tryz.prog 51 #[.agg #[.pointer (some ⟨p, 0, none⟩)], .agg #[.string x.nm, .slice x.sg.po x.sg.ps.length x.sg.pc, .int .u8 (x.sg.rt : Int), .int .i64 x.lo, .slice x.ca x.cd.length x.cc]] w (MPo w0.heap.size w0 w p v (l ++ fnW x)) := by
  obtain ⟨nm, ⟨po, pc, ps, rt⟩, lo, ca, cc, cd⟩ := x
  simp only at hn hps hlo hcd
  have al1 := (Below.refl w.heap.size w).alloc (Nat.le_refl _) (.cells #[.pointer (some ⟨p, 0, none⟩)] 59)
  have al := al1.alloc (by simp) (.cells #[.string nm, .slice po ps.length pc, .int .u8 (rt : Int), .int .i64 lo, .slice ca cd.length cc] 44)
  have n1 := heap_alloc_new w (.cells #[.pointer (some ⟨p, 0, none⟩)] 59)
  have n2 := heap_alloc_new (w.alloc (.cells #[.pointer (some ⟨p, 0, none⟩)] 59)) (.cells #[.string nm, .slice po ps.length pc, .int .u8 (rt : Int), .int .i64 lo, .slice ca cd.length cc] 44)
  rw [World.size_alloc] at n2
  have HX0 : Hid (Bx ((w.alloc (.cells #[.pointer (some ⟨p, 0, none⟩)] 59)).alloc (.cells #[.string nm, .slice po ps.length pc, .int .u8 (rt : Int), .int .i64 lo, .slice ca cd.length cc] 44)) w.heap.size 59 #[.pointer (some ⟨p, 0, none⟩)]) := hide ((((Below.refl _ _).alloc (Nat.le_refl _) _).block w.heap.size (by simp)).trans n1)
  have HC0 : Hid (Bx ((w.alloc (.cells #[.pointer (some ⟨p, 0, none⟩)] 59)).alloc (.cells #[.string nm, .slice po ps.length pc, .int .u8 (rt : Int), .int .i64 lo, .slice ca cd.length cc] 44)) (w.heap.size + 1) 44 #[.string nm, .slice po ps.length pc, .int .u8 (rt : Int), .int .i64 lo, .slice ca cd.length cc]) := hide n2
  have HW0 := hide (h.below al)
  have HK0 := hide (WK.of_below p v al)
  have HI := hide h.is
  have HT : Hid (l ++ fnW ⟨nm, ⟨po, pc, ps, rt⟩, lo, ca, cc, cd⟩ = l ++ nb nm ++ be (ps.length : Int) 1 ++ ps.flatMap (fun (t : Nat) => be (t : Int) 1) ++ be (rt : Int) 1 ++ be lo 1 ++ (be (cd.length : Int) 2 ++ cd)) := hide (by unfold fnW; simp only [List.append_assoc])
  have HO := hide hx
  have hrt : rt < 256 := hx.sg.res
  have hnm : nm.size ≤ maxLen := by have := name_size hn; unfold maxLen; omega
  clear al1 al n1 n2 h hx
  go_enter Tryz.func51, Tryz.ntmps51
  go_upto_region 1 with fail
  generalize ((w.alloc (.cells #[.pointer (some ⟨p, 0, none⟩)] 59)).alloc (.cells #[.string nm, .slice po ps.length pc, .int .u8 (rt : Int), .int .i64 lo, .slice ca cd.length cc] 44)) = W0 at HX0 HC0 HW0 HK0 ⊢
  generalize w.heap.size = g at HX0 HC0 ⊢
  have k0 := (unhide HX0).c 0 rfl
  have c0 := (unhide HC0).c 0 rfl
  have HC := hide (wname (unhide HW0) nm hn hnm)
  go_wp2_with fail
  refine (unhide HC).mono ?_
  rintro e W1 (⟨hl1, rfl, v1, hw1, hk1⟩ | ⟨hF, ⟨n7, rfl⟩, hbF, htF⟩)
  rotate_left
  · exact ⟨rfl, Or.inr ⟨big hF (by rw [unhide HT] <;> (simp only [List.append_assoc] <;> rfl)), ⟨n7, rfl⟩, hbF, ((unhide HK0).ty (unhide HI)).trans htF⟩⟩
  have HW1 := hide hw1
  have HK1 := hide ((unhide HK0).trans hk1)
  have HX1 := hide (hk1.bx (unhide HW0).is (unhide HX0) (by decide) (by decide))
  have HC1 := hide (hk1.bx (unhide HW0).is (unhide HC0) (by decide) (by decide))
  clear hl1 hw1 hk1 HC HW0 HK0 HX0 HC0 k0 c0
  have k0 := (unhide HX1).c 0 rfl
  have c0 := (unhide HC1).c 1 rfl
  have HC := hide (wbyte (unhide HW1) (ps.length : Int) (by omega))
  go_wp2_with fail
  refine (unhide HC).mono ?_
  rintro e W2 (⟨hl2, rfl, v2, hw2, hk2⟩ | ⟨hF, ⟨n7, rfl⟩, hbF, htF⟩)
  rotate_left
  · exact ⟨rfl, Or.inr ⟨big hF (by rw [unhide HT] <;> (simp only [List.append_assoc] <;> rfl)), ⟨n7, rfl⟩, hbF, ((unhide HK1).ty (unhide HI)).trans htF⟩⟩
  have HW2 := hide hw2
  have HK2 := hide ((unhide HK1).trans hk2)
  have HX2 := hide (hk2.bx (unhide HW1).is (unhide HX1) (by decide) (by decide))
  have HC2 := hide (hk2.bx (unhide HW1).is (unhide HC1) (by decide) (by decide))
  clear hl2 hw2 hk2 HC HW1 HK1 HX1 HC1 k0 c0
  have k0 := (unhide HX2).c 0 rfl
  have c0 := (unhide HC2).c 1 rfl
  go_wp2_with fail
  go_loopw [20] (fun i wr => ∃ (j : Nat) (vr : Value), j ≤ ps.length ∧ i = .int .i64 (j : Int) ∧ Hid (WS w0.heap.size w0 wr p vr (l ++ nb nm ++ be (ps.length : Int) 1 ++ (ps.take j).flatMap (fun (t : Nat) => be (t : Int) 1))) ∧ Hid (WK w wr p v vr) ∧ Hid (Bx wr g 59 #[.pointer (some ⟨p, 0, none⟩)]) ∧ Hid (Bx wr (g + 1) 44 #[.string nm, .slice po ps.length pc, .int .u8 (rt : Int), .int .i64 lo, .slice ca cd.length cc])) (fun i _ => ps.length - (intOf i).toNat)
  case atStart => exact ⟨0, v2, by omega, rfl, hide (by have := unhide HW2; rw [List.take_zero, List.flatMap_nil, List.append_nil]; exact this), HK2, HX2, HC2⟩
  case round =>
    clear HW2 HK2 HX2 HC2 k0 c0
    obtain ⟨j, v4, hj, rfl, HW4, HK4, HX4, HC4⟩ := hrel
    by_cases hlt : j < ps.length
    · have i1 : ((j : Nat) : Int) < ((ps.length : Nat) : Int) := by omega
      obtain ⟨t, HFJ⟩ : ∃ t, Hid (ps[j]? = some t) := ⟨_, hide (List.getElem?_eq_getElem hlt)⟩
      obtain ⟨b, off, rfl, q0⟩ := (unhide HO).sg.prm.below (unhide HW4).bel j t (unhide HFJ)
      have hft : t < 256 := (unhide HO).sg.bts t (List.mem_of_getElem? (unhide HFJ))
      have HFL := hide (flat_at (fun (t : Nat) => be (t : Int) 1) (unhide HFJ))
      have k0 := (unhide HX4).c 0 rfl
      have HC := hide (wbyte (unhide HW4) (t : Int) (by omega))
      go_wp2_with fail
      refine (unhide HC).mono ?_
      rintro e W5 (⟨hl5, rfl, v5, hw5, hk5⟩ | ⟨hF, ⟨n7, rfl⟩, hbF, htF⟩)
      rotate_left
      · exact ⟨rfl, Or.inr ⟨big hF (by rw [unhide HT, (unhide HFL).1] <;> (simp only [List.append_assoc] <;> rfl)), ⟨n7, rfl⟩, hbF, ((unhide HK4).ty (unhide HI)).trans htF⟩⟩
      have HW5 := hide hw5
      have HK5 := hide ((unhide HK4).trans hk5)
      have HX5 := hide (hk5.bx (unhide HW4).is (unhide HX4) (by decide) (by decide))
      have HC5 := hide (hk5.bx (unhide HW4).is (unhide HC4) (by decide) (by decide))
      clear hl5 hw5 hk5 HC HW4 HK4 HX4 HC4 k0 q0
      have HW8 : Hid (WS w0.heap.size w0 W5 p v5 (l ++ nb nm ++ be (ps.length : Int) 1 ++ (ps.take (j + 1)).flatMap (fun (t : Nat) => be (t : Int) 1))) := hide (by rw [(unhide HFL).2]; have := unhide HW5; simp only [List.append_assoc] at this ⊢; exact this)
      clear HW5 HFL HFJ hft
      go_wp2
      go_roundw
      case rel => exact ⟨j + 1, v5, by omega, by go_num, HW8, HK5, HX5, HC5⟩
      case measure => simp [intOf]; omega
    · have i1 : ¬ ((j : Nat) : Int) < ((ps.length : Nat) : Int) := by omega
      have HW5 : Hid (WS w0.heap.size w0 wr p v4 (l ++ nb nm ++ be (ps.length : Int) 1 ++ ps.flatMap (fun (t : Nat) => be (t : Int) 1))) := hide (by have := unhide HW4; rw [List.take_of_length_le (by omega)] at this; exact this)
      have HK5 := HK4
      have HX5 := HX4
      have HC5 := HC4
      clear HW4 HK4 HX4 HC4
      have k0 := (unhide HX5).c 0 rfl
      have c0 := (unhide HC5).c 2 rfl
      have HC := hide (wbyte (unhide HW5) (rt : Int) (by omega))
      go_wp2_with fail
      refine (unhide HC).mono ?_
      rintro e W6 (⟨hl6, rfl, v6, hw6, hk6⟩ | ⟨hF, ⟨n7, rfl⟩, hbF, htF⟩)
      rotate_left
      · exact ⟨rfl, Or.inr ⟨big hF (by rw [unhide HT] <;> (simp only [List.append_assoc] <;> rfl)), ⟨n7, rfl⟩, hbF, ((unhide HK5).ty (unhide HI)).trans htF⟩⟩
      have HW6 := hide hw6
      have HK6 := hide ((unhide HK5).trans hk6)
      have HX6 := hide (hk6.bx (unhide HW5).is (unhide HX5) (by decide) (by decide))
      have HC6 := hide (hk6.bx (unhide HW5).is (unhide HC5) (by decide) (by decide))
      clear hl6 hw6 hk6 HC HW5 HK5 HX5 HC5 k0 c0
      have k0 := (unhide HX6).c 0 rfl
      have c0 := (unhide HC6).c 3 rfl
      have HC := hide (wbyte (unhide HW6) lo hlo)
      go_wp2_with fail
      refine (unhide HC).mono ?_
      rintro e W7 (⟨hl7, rfl, v7, hw7, hk7⟩ | ⟨hF, ⟨n7, rfl⟩, hbF, htF⟩)
      rotate_left
      · exact ⟨rfl, Or.inr ⟨big hF (by rw [unhide HT] <;> (simp only [List.append_assoc] <;> rfl)), ⟨n7, rfl⟩, hbF, ((unhide HK6).ty (unhide HI)).trans htF⟩⟩
      have HW7 := hide hw7
      have HK7 := hide ((unhide HK6).trans hk7)
      have HX7 := hide (hk7.bx (unhide HW6).is (unhide HX6) (by decide) (by decide))
      have HC7 := hide (hk7.bx (unhide HW6).is (unhide HC6) (by decide) (by decide))
      clear hl7 hw7 hk7 HC HW6 HK6 HX6 HC6 k0 c0
      have k0 := (unhide HX7).c 0 rfl
      have c0 := (unhide HC7).c 4 rfl
      have HC := hide (wlong (unhide HW7) ca cc cd hcd.2 ((unhide HO).code.below' (unhide HW7).bel) (apart0 (unhide HW7) (unhide HO).code) (fun e => absurd (show cd.length = 0 by have h := (unhide HO).nil e; have h : cd = [] := h; rw [h]; rfl) hcd.1))
      go_wp2_with fail
      refine (unhide HC).mono ?_
      rintro e W8 (⟨hl8, rfl, v8, hw8, hk8⟩ | ⟨hF, ⟨n7, rfl⟩, hbF, htF⟩)
      rotate_left
      · exact ⟨rfl, Or.inr ⟨big hF ((by rw [unhide HT, List.append_nil] : l ++ fnW ⟨nm, ⟨po, pc, ps, rt⟩, lo, ca, cc, cd⟩ = _ ++ [])), ⟨n7, rfl⟩, hbF, ((unhide HK7).ty (unhide HI)).trans htF⟩⟩
      have HW8 := hide hw8
      have HK8 := hide ((unhide HK7).trans hk8)
      have HX8 := hide (hk8.bx (unhide HW7).is (unhide HX7) (by decide) (by decide))
      have HC8 := hide (hk8.bx (unhide HW7).is (unhide HC7) (by decide) (by decide))
      clear hl8 hw8 hk8 HC HW7 HK7 HX7 HC7 k0 c0
      have HW9 : Hid (WS w0.heap.size w0 W8 p v8 (l ++ fnW ⟨nm, ⟨po, pc, ps, rt⟩, lo, ca, cc, cd⟩)) := hide (by rw [unhide HT]; exact unhide HW8)
      clear HW8
      go_wp2
      go_end0
      exact Or.inl ⟨(unhide HW9).is.len, rfl, v8, unhide HW9, unhide HK8⟩
end Go.Proofs.YtibgfdjopikafaaGreatDoor

/-
  The writer of a module's file: the certificates. Conditions: what stands in them may be.
-/
namespace Go.Proofs.YtibgfdjopikafaaGreatDoor
open Go.RowKit
set_option maxRecDepth 20000
set_option linter.unusedVariables false

def ctOne (x : Bs) : List UInt8 := be (x.cd.length : Int) 2 ++ x.cd
def ctW (C : List Bs) : List UInt8 := if C = [] then be 0 1 else be 1 1 ++ C.flatMap ctOne
theorem ctW_eq (C : List Bs) : ctW C = ctB (C.map bsC) := by
  unfold ctW ctB
  by_cases h : C = []
  · subst h; rfl
  · have h2 : C.map bsC ≠ [] := fun e => h (List.map_eq_nil_iff.1 e)
    rw [if_neg h, if_neg h2, flat_eq (l := C) (f := ctOne) (c := bsC) (g := loB) (fun x _ => rfl)]
    rfl
set_option maxHeartbeats 4000000 in
theorem wcerts {w0 w : World} {p : Nat} {v : Value} {l : List UInt8} (h : WS w0.heap.size w0 w p v l) (co : Option Addr) (cc : Nat) (C : List Bs) (hC : BssAt w0 co C) (hz : C.length * 24 ≤ 140737488351232) (hl : ∀ x ∈ C, x.cd.length ≤ 65535) (hn : ∀ x ∈ C, x.ca = none → x.cc = 0) :
    Calls Tryz.prog 52 #[.agg #[.pointer (some ⟨p, 0, none⟩)], .slice co C.length cc] w (MPo w0.heap.size w0 w p v (l ++ ctW C)) := by
  have al := (Below.refl w.heap.size w).alloc (Nat.le_refl _) (.cells #[.pointer (some ⟨p, 0, none⟩)] 59)
  have HX0 : Hid (Bx (w.alloc (.cells #[.pointer (some ⟨p, 0, none⟩)] 59)) w.heap.size 59 #[.pointer (some ⟨p, 0, none⟩)]) := hide (heap_alloc_new w _)
  have HW0 := hide (h.below al)
  have HK0 := hide (WK.of_below p v al)
  have HI := hide h.is
  have HO := hide hC
  have HL := hide hl
  have HN := hide hn
  clear al h hC hl hn
  go_enter Tryz.func52, Tryz.ntmps52
  go_upto_region 1 with fail
  generalize (w.alloc (.cells #[.pointer (some ⟨p, 0, none⟩)] 59)) = W0 at HX0 HW0 HK0 ⊢
  generalize w.heap.size = g at HX0 ⊢
  have k0 := (unhide HX0).c 0 rfl
  by_cases h0 : C = []
  · have hc0 : C.length = 0 := by rw [h0]; rfl
    have i0 : (((C.length : Nat) : Int) == 0) = true := beq_t (by omega)
    have HT : Hid (l ++ ctW C = l ++ be 0 1) := hide (by unfold ctW; rw [if_pos h0])
    have HC := hide (wbyte (unhide HW0) 0 (by omega))
    clear h0 hc0
    go_wp2_with fail
    refine (unhide HC).mono ?_
    rintro e W1 (⟨hl1, rfl, v1, hw1, hk1⟩ | ⟨hF, ⟨n7, rfl⟩, hbF, htF⟩)
    rotate_left
    · exact ⟨rfl, Or.inr ⟨big hF ((by rw [unhide HT, List.append_nil] : l ++ ctW C = (l ++ be 0 1) ++ [])), ⟨n7, rfl⟩, hbF, ((unhide HK0).ty (unhide HI)).trans htF⟩⟩
    have HW1 := hide hw1
    have HK1 := hide ((unhide HK0).trans hk1)
    have HX1 := hide (hk1.bx (unhide HW0).is (unhide HX0) (by decide) (by decide))
    clear hl1 hw1 hk1 HC HW0 HK0 HX0 k0
    have HW2 : Hid (WS w0.heap.size w0 W1 p v1 (l ++ ctW C)) := hide (by rw [unhide HT]; exact unhide HW1)
    clear HW1
    go_wp2
    refine bodyPost_ret (results_none rfl _ _ _) rfl ?_
    exact Or.inl ⟨(unhide HW2).is.len, rfl, v1, unhide HW2, unhide HK1⟩
  · have hc0 : C.length ≠ 0 := fun e => h0 (List.eq_nil_of_length_eq_zero e)
    have i0 : (((C.length : Nat) : Int) == 0) = false := beq_f (by omega)
    have HT : Hid (l ++ ctW C = l ++ be 1 1 ++ C.flatMap ctOne) := hide (by unfold ctW; rw [if_neg h0, List.append_assoc])
    have HC := hide (wbyte (unhide HW0) 1 (by omega))
    clear h0
    go_wp2_with fail
    refine (unhide HC).mono ?_
    rintro e W1 (⟨hl1, rfl, v1, hw1, hk1⟩ | ⟨hF, ⟨n7, rfl⟩, hbF, htF⟩)
    rotate_left
    · exact ⟨rfl, Or.inr ⟨big hF (by rw [unhide HT]), ⟨n7, rfl⟩, hbF, ((unhide HK0).ty (unhide HI)).trans htF⟩⟩
    have HW1 := hide hw1
    have HK1 := hide ((unhide HK0).trans hk1)
    have HX1 := hide (hk1.bx (unhide HW0).is (unhide HX0) (by decide) (by decide))
    clear hl1 hw1 hk1 HC HW0 HK0 HX0 k0
    go_wp2_with fail
    go_loopw [15] (fun i wr => ∃ (j : Nat) (vr : Value), j ≤ C.length ∧ i = .int .i64 (j : Int) ∧ Hid (WS w0.heap.size w0 wr p vr (l ++ be 1 1 ++ (C.take j).flatMap ctOne)) ∧ Hid (WK w wr p v vr) ∧ Hid (Bx wr g 59 #[.pointer (some ⟨p, 0, none⟩)])) (fun i _ => C.length - (intOf i).toNat)
    case atStart => exact ⟨0, v1, by omega, rfl, hide (by have := unhide HW1; rw [List.take_zero, List.flatMap_nil, List.append_nil]; exact this), HK1, HX1⟩
    case round =>
      clear HW1 HK1 HX1
      obtain ⟨j, v4, hj, rfl, HW4, HK4, HX4⟩ := hrel
      by_cases hlt : j < C.length
      · have i1 : ((j : Nat) : Int) < ((C.length : Nat) : Int) := by omega
        obtain ⟨x, HFJ⟩ : ∃ x, Hid (C[j]? = some x) := ⟨_, hide (List.getElem?_eq_getElem hlt)⟩
        obtain ⟨b, off, hco, hx0⟩ := (unhide HO) j x (unhide HFJ)
        have hx := hx0.below (unhide HW4).bel
        have hxl := unhide HL x (List.mem_of_getElem? (unhide HFJ))
        have hxn := unhide HN x (List.mem_of_getElem? (unhide HFJ))
        subst hco
        have q0 := hx.c0
        have HFL := hide (flat_at ctOne (unhide HFJ))
        have k0 := (unhide HX4).c 0 rfl
        have HC := hide (wlong (unhide HW4) x.ca x.cc x.cd hxl hx.code (apart0 (unhide HW4) hx0.code) (fun e => ⟨hx0.nil e, hxn e⟩))
        clear hx hx0 hxl hxn
        go_wp2_with fail
        refine (unhide HC).mono ?_
        rintro e W5 (⟨hl5, rfl, v5, hw5, hk5⟩ | ⟨hF, ⟨n7, rfl⟩, hbF, htF⟩)
        rotate_left
        · exact ⟨rfl, Or.inr ⟨big hF (by rw [unhide HT, (unhide HFL).1] <;> (simp only [ctOne, List.append_assoc] <;> rfl)), ⟨n7, rfl⟩, hbF, ((unhide HK4).ty (unhide HI)).trans htF⟩⟩
        have HW5 := hide hw5
        have HK5 := hide ((unhide HK4).trans hk5)
        have HX5 := hide (hk5.bx (unhide HW4).is (unhide HX4) (by decide) (by decide))
        clear hl5 hw5 hk5 HC HW4 HK4 HX4 k0 q0
        have HW8 : Hid (WS w0.heap.size w0 W5 p v5 (l ++ be 1 1 ++ (C.take (j + 1)).flatMap ctOne)) := hide (by rw [(unhide HFL).2]; have := unhide HW5; simp only [ctOne, List.append_assoc] at this ⊢; exact this)
        clear HW5 HFL HFJ
        go_wp2
        go_roundw
        case rel => exact ⟨j + 1, v5, by omega, by go_num, HW8, HK5, HX5⟩
        case measure => simp [intOf]; omega
      · have i1 : ¬ ((j : Nat) : Int) < ((C.length : Nat) : Int) := by omega
        have HW5 : Hid (WS w0.heap.size w0 wr p v4 (l ++ ctW C)) := hide (by have := unhide HW4; rw [List.take_of_length_le (by omega)] at this; rw [unhide HT]; exact this)
        clear HW4
        go_wp2
        go_end0
        exact Or.inl ⟨(unhide HW5).is.len, rfl, v4, unhide HW5, unhide HK4⟩
end Go.Proofs.YtibgfdjopikafaaGreatDoor

/-
  The writer of a module's file: the whole file. Conditions: what stands in the module may be.
-/
namespace Go.Proofs.YtibgfdjopikafaaGreatDoor
open Go.RowKit
set_option maxRecDepth 20000
set_option linter.unusedVariables false

def mdW (m : Md) : List UInt8 := nb m.nm ++ (be (m.T.length : Int) 1 ++ (m.T.flatMap clE ++ (be (m.F.length : Int) 1 ++ (m.F.flatMap fnW ++ ctW m.C))))
theorem nameB_of {s : ByteArray} (h : NmV s.toList) : nameB s = true := by unfold NmV at h; rw [back_nm] at h; exact h
theorem mdW_eq {m : Md} (hv : McV (mcOf m)) : mdW m = mdB (mcOf m) := by
  obtain ⟨_, h2, h3, h4, h5, _⟩ := hv
  have h2 : (m.T.map clC).length ≤ 32 := h2
  have h4 : (m.F.map fnC).length ≤ 64 := h4
  rw [List.length_map] at h2 h4
  unfold mdW mdB
  show _ = nbL m.nm.toList ++ (oneB (m.T.map clC).length ++ ((m.T.map clC).flatMap clB ++ (oneB (m.F.map fnC).length ++ ((m.F.map fnC).flatMap fnB ++ ctB (m.C.map bsC)))))
  rw [nb_eq, List.length_map, List.length_map, one_eq (by omega), one_eq (by omega), ctW_eq, flat_eq (l := m.T) (f := clE) (c := clC) (g := clB) (fun x hx => clE_eq (h3 _ (List.mem_map_of_mem hx))), flat_eq (l := m.F) (f := fnW) (c := fnC) (g := fnB) (fun x hx => fnW_eq (h5 _ (List.mem_map_of_mem hx)))]
theorem signed_any (c : Nat) (hc : c < 4294967296) (w : World) : Calls Tryz.prog 54 #[.int .i64 (c : Int)] w fun e w' => e = .returned (.int .i64 (s32 c)) ∧ w' = w := by
  have H := hide (s32_wrap c hc)
  go_enter Tryz.func54, Tryz.ntmps54
  go_wp2
  go_ret
  exact ⟨ret_int (unhide H), rfl⟩
theorem lit_bat (w : World) (xs : List UInt8) (cs : Array Value) (hc : cs.toList = bvals xs) (t : TypeId) (fr : Nat × Nat) : BAt (w.alloc (.cells cs t fr)) (some ⟨w.heap.size, 0, none⟩) xs := fun i hi => by
  refine ⟨w.heap.size, 0, rfl, ?_⟩
  rw [Nat.zero_add, cell_of_row _ _ i _ _ _ (heap_alloc_new w (.cells cs t fr)), ← Array.getElem?_toList, hc, bvals_get hi]
/-- What a module must be like for its file to be written. -/
structure MdW (w0 : World) (m : Md) : Prop where
  ok : MdOk w0 m
  v : McV (mcOf m)
  cd : ∀ f ∈ m.F, f.cd.length ≠ 0
  nil : ∀ x ∈ m.C, x.ca = none → x.cc = 0
set_option maxHeartbeats 8000000 in
theorem wfile {w0 w : World} {p : Nat} {v : Value} (h : WS w0.heap.size w0 w p v []) (m : Md) (hm : MdW w0 m) :
    Calls Tryz.prog 26 #[.agg #[.pointer (some ⟨p, 0, none⟩)], .agg #[.string m.nm, .slice m.ao m.T.length m.cap, .slice m.fo m.F.length m.fc, .slice m.co m.C.length m.cc]] w (MPo w0.heap.size w0 w p v (tsum (magB ++ mdW m))) := by
  have al1 := (Below.refl w.heap.size w).alloc (Nat.le_refl _) (.cells #[.pointer (some ⟨p, 0, none⟩)] 59)
  have al := al1.alloc (by simp) (.cells #[.string m.nm, .slice m.ao m.T.length m.cap, .slice m.fo m.F.length m.fc, .slice m.co m.C.length m.cc] 26)
  have n1 := heap_alloc_new w (.cells #[.pointer (some ⟨p, 0, none⟩)] 59)
  have n2 := heap_alloc_new (w.alloc (.cells #[.pointer (some ⟨p, 0, none⟩)] 59)) (.cells #[.string m.nm, .slice m.ao m.T.length m.cap, .slice m.fo m.F.length m.fc, .slice m.co m.C.length m.cc] 26)
  rw [World.size_alloc] at n2
  have HX0 : Hid (Bx ((w.alloc (.cells #[.pointer (some ⟨p, 0, none⟩)] 59)).alloc (.cells #[.string m.nm, .slice m.ao m.T.length m.cap, .slice m.fo m.F.length m.fc, .slice m.co m.C.length m.cc] 26)) w.heap.size 59 #[.pointer (some ⟨p, 0, none⟩)]) := hide ((((Below.refl _ _).alloc (Nat.le_refl _) _).block w.heap.size (by simp)).trans n1)
  have HC0 : Hid (Bx ((w.alloc (.cells #[.pointer (some ⟨p, 0, none⟩)] 59)).alloc (.cells #[.string m.nm, .slice m.ao m.T.length m.cap, .slice m.fo m.F.length m.fc, .slice m.co m.C.length m.cc] 26)) (w.heap.size + 1) 26 #[.string m.nm, .slice m.ao m.T.length m.cap, .slice m.fo m.F.length m.fc, .slice m.co m.C.length m.cc]) := hide n2
  have HW0 := hide (h.below al)
  have HK0 := hide (WK.of_below p v al)
  have HI := hide h.is
  have HT : Hid (tsum (magB ++ mdW m) = magB ++ nb m.nm ++ be (m.T.length : Int) 1 ++ m.T.flatMap clE ++ be (m.F.length : Int) 1 ++ m.F.flatMap fnW ++ ctW m.C ++ be (sumOf (magB ++ mdW m) : Int) 4) := hide (by unfold tsum mdW; simp only [List.append_assoc])
  have HM := hide hm
  have hnm := nameB_of hm.v.1
  have hns : m.nm.size ≤ maxLen := by have := name_size hnm; unfold maxLen; omega
  have hT : m.T.length ≤ 32 := by have := hm.v.2.1; simpa [mcOf] using this
  have hF : m.F.length ≤ 64 := by have := hm.v.2.2.2.1; simpa [mcOf] using this
  have mixed := mixedT
  clear al1 al n1 n2 h hm
  go_enter Tryz.func26, Tryz.ntmps26
  go_upto_region 1 with fail
  generalize ((w.alloc (.cells #[.pointer (some ⟨p, 0, none⟩)] 59)).alloc (.cells #[.string m.nm, .slice m.ao m.T.length m.cap, .slice m.fo m.F.length m.fc, .slice m.co m.C.length m.cc] 26)) = W0 at HX0 HC0 HW0 HK0 ⊢
  generalize w.heap.size = g at HX0 HC0 ⊢
  have hdr : Below W0.heap.size W0 W0.drew := (Below.refl _ _).drew
  have HX1 := hide ((unhide HX0).below hdr)
  have HC1 := hide ((unhide HC0).below hdr)
  have HW1 := hide ((unhide HW0).below hdr)
  have HK1 := hide ((unhide HK0).trans (WK.of_below p v hdr))
  clear hdr HX0 HC0 HW0 HK0
  refine wp_region_held_drew (S := fun w' => Bx w' g 59 #[.pointer (some ⟨p, 0, none⟩)]) mixed (unhide HX1) (fun hS => ?_)
  generalize W0.drew = Wd at hS HX1 HC1 HW1 HK1 ⊢
  refine wpAnyH_take (i := 0) (v := .agg #[.pointer (some ⟨p, 0, none⟩)]) rfl (by kernel_rfl) (by kernel_rfl) (by kernel_rfl) (fun _ _ _ h => h) (Or.inl ⟨by rfl, fun W h => by have h0 := h.c 0 rfl; go_simp⟩) hS ?_
  go_simp
  refine wpAnyH_take (i := 1) (v := .pointer (some ⟨g, 0, none⟩)) rfl (by kernel_rfl) (by kernel_rfl) (by kernel_rfl) (fun _ _ _ h => h) (Or.inl ⟨by rfl, fun W _ => by go_simp⟩) hS ?_
  go_simp
  refine wpAnyH_take (i := 2) (v := .pointer (some ⟨p, 0, none⟩)) rfl (by kernel_rfl) (by kernel_rfl) (by kernel_rfl) (fun _ _ _ h => h) (Or.inl ⟨by rfl, fun W h => by have h0 := h.c 0 rfl; go_simp⟩) hS ?_
  go_simp
  refine wpAnyH_ready (rs := [3]) (by kernel_rfl) (by simp) ?_
  refine AllReadyH.cons rfl (fun KK hK => ?_) AllReadyH.nil
  go_simp
  have al0 : Below Wd.heap.size Wd (Wd.alloc (.cells #[.int .u8 112, .int .u8 118, .int .u8 109, .int .u8 1] 5)) := (Below.refl _ _).alloc (Nat.le_refl _) _
  have al : Below Wd.heap.size Wd (Wd.alloc (.cells #[.int .u8 112, .int .u8 118, .int .u8 109, .int .u8 1] 5 (4, 5))) := (Below.refl _ _).alloc (Nat.le_refl _) _
  have hcv : (convert 28 28 (.slice (some ⟨Wd.heap.size, 0, none⟩) 4 4)).run Tryz.prog (Wd.alloc (.cells #[.int .u8 112, .int .u8 118, .int .u8 109, .int .u8 1] 5)) = .ok (.slice (some ⟨Wd.heap.size, 0, none⟩) 4 4) (Wd.alloc (.cells #[.int .u8 112, .int .u8 118, .int .u8 109, .int .u8 1] 5 (4, 5))) := Lib.run_convert_bytes_const Wd 28 5 #[.int .u8 112, .int .u8 118, .int .u8 109, .int .u8 1] 4 4 Tryz.underlying28 Tryz.underlying5
  have hSa := hS.below al
  have HL : Hid (SrcB (Wd.alloc (.cells #[.int .u8 112, .int .u8 118, .int .u8 109, .int .u8 1] 5 (4, 5))) (.slice (some ⟨Wd.heap.size, 0, none⟩) 4 4) magB) := hide (Or.inr ⟨_, 4, rfl, lit_bat Wd magB _ rfl _ _⟩)
  have HCa := hide ((unhide HC1).below al)
  have HWa := hide ((unhide HW1).below al)
  have HKa := hide ((unhide HK1).trans (WK.of_below p v al))
  refine hK.out _ _ (hS.below al0) (fun hS => ?_)
  clear hK KK
  refine wpAnyH_ready (rs := [4]) (by kernel_rfl) (by simp) ?_
  refine AllReadyH.cons rfl (fun KK hK => ?_) AllReadyH.nil
  go_simp
  refine hK.out _ _ hSa (fun hS => ?_)
  clear hK KK al0 al hcv hSa HX1 HC1 HW1 HK1
  generalize Wd.alloc (.cells #[.int .u8 112, .int .u8 118, .int .u8 109, .int .u8 1] 5 (4, 5)) = Wa at hS HL HCa HWa HKa ⊢
  generalize Wd.heap.size = ga at HL ⊢
  have HC := hide (Put_u (unhide HWa).is _ magB (unhide HL) (by unfold magB; simp))
  rw [(jE_fit (l := []) (m := magB) (by unfold magB; simp)).1, (jE_fit (l := []) (m := magB) (by unfold magB; simp)).2] at HC
  refine wpAnyH_ready (rs := [5]) (by kernel_rfl) (by simp) ?_
  refine AllReadyH.cons rfl (fun KK hK => ?_) AllReadyH.nil
  go_simp
  refine (unhide HC).mono ?_
  rintro e W3 ⟨rfl, v3, hi3, hk3, hf3⟩
  have hS3 := WK.bx ⟨hk3, hf3⟩ (unhide HWa).is hS (by decide) (by decide)
  have HC3 := hide (WK.bx ⟨hk3, hf3⟩ (unhide HWa).is (unhide HCa) (by decide) (by decide))
  have HW3 := hide ((unhide HWa).post hi3 hk3 hf3)
  have HK3 := hide ((unhide HKa).trans (v2 := v3) ⟨hk3, hf3⟩)
  refine hK.out _ _ hS3 (fun hS3 => ?_)
  have HM7 := hide (must_ok p W3)
  clear hK KK HC hi3 hk3 hf3 hS HCa HWa HKa HL
  refine wpAnyH_ready (rs := [6]) (by kernel_rfl) (by simp) ?_
  refine AllReadyH.cons rfl (fun KK hK => ?_) AllReadyH.nil
  go_simp
  refine (unhide HM7).mono ?_
  rintro e W4 ⟨rfl, hb4⟩
  have HX4 := hide (hS3.below hb4)
  have HC4 := hide ((unhide HC3).below hb4)
  have HW4 : Hid (WS w0.heap.size w0 W4 p v3 magB) := hide ((unhide HW3).below hb4)
  have HK4 := hide ((unhide HK3).trans (WK.of_below p v3 hb4))
  refine hK.out _ _ (unhide HX4) (fun hS4 => ?_)
  clear hK KK HM7 hS3 hS4 HC3 HW3 HK3 hb4
  refine wpAnyH_done (by kernel_rfl) ?_ _
  have k0 := (unhide HX4).c 0 rfl
  have c0 := (unhide HC4).c 0 rfl
  have HC := hide (wname (unhide HW4) m.nm hnm hns)
  go_wp2_with fail
  refine (unhide HC).mono ?_
  rintro e W5 (⟨hl5, rfl, v5, hw5, hk5⟩ | ⟨hF, ⟨n7, rfl⟩, hbF, htF⟩)
  rotate_left
  · exact ⟨rfl, Or.inr ⟨big hF (by rw [unhide HT] <;> (simp only [List.append_assoc] <;> rfl)), ⟨n7, rfl⟩, hbF, ((unhide HK4).ty (unhide HI)).trans htF⟩⟩
  have HW5 := hide hw5
  have HK5 := hide ((unhide HK4).trans hk5)
  have HX5 := hide (hk5.bx (unhide HW4).is (unhide HX4) (by decide) (by decide))
  have HC5 := hide (hk5.bx (unhide HW4).is (unhide HC4) (by decide) (by decide))
  clear hl5 hw5 hk5 HC HW4 HK4 HX4 HC4 k0 c0
  have k0 := (unhide HX5).c 0 rfl
  have c0 := (unhide HC5).c 1 rfl
  have HC := hide (wbyte (unhide HW5) (m.T.length : Int) (by omega))
  go_wp2_with fail
  refine (unhide HC).mono ?_
  rintro e W6 (⟨hl6, rfl, v6, hw6, hk6⟩ | ⟨hF, ⟨n7, rfl⟩, hbF, htF⟩)
  rotate_left
  · exact ⟨rfl, Or.inr ⟨big hF (by rw [unhide HT] <;> (simp only [List.append_assoc] <;> rfl)), ⟨n7, rfl⟩, hbF, ((unhide HK5).ty (unhide HI)).trans htF⟩⟩
  have HW6 := hide hw6
  have HK6 := hide ((unhide HK5).trans hk6)
  have HX6 := hide (hk6.bx (unhide HW5).is (unhide HX5) (by decide) (by decide))
  have HC6 := hide (hk6.bx (unhide HW5).is (unhide HC5) (by decide) (by decide))
  clear hl6 hw6 hk6 HC HW5 HK5 HX5 HC5 k0 c0
  have k0 := (unhide HX6).c 0 rfl
  have c0 := (unhide HC6).c 1 rfl
  go_wp2_with fail
  go_loopw [27] (fun i wr => ∃ (j : Nat) (vr : Value), j ≤ m.T.length ∧ i = .int .i64 (j : Int) ∧ Hid (WS w0.heap.size w0 wr p vr (magB ++ nb m.nm ++ be (m.T.length : Int) 1 ++ (m.T.take j).flatMap clE)) ∧ Hid (WK w wr p v vr) ∧ Hid (Bx wr g 59 #[.pointer (some ⟨p, 0, none⟩)]) ∧ Hid (Bx wr (g + 1) 26 #[.string m.nm, .slice m.ao m.T.length m.cap, .slice m.fo m.F.length m.fc, .slice m.co m.C.length m.cc])) (fun i _ => m.T.length - (intOf i).toNat)
  case atStart => exact ⟨0, v6, by omega, rfl, hide (by have := unhide HW6; rw [List.take_zero, List.flatMap_nil, List.append_nil]; exact this), HK6, HX6, HC6⟩
  case round =>
    clear HW6 HK6 HX6 HC6 k0 c0
    obtain ⟨j, v7, hj, rfl, HW7, HK7, HX7, HC7⟩ := hrel
    by_cases hlt : j < m.T.length
    · have i1 : ((j : Nat) : Int) < ((m.T.length : Nat) : Int) := by omega
      obtain ⟨x, HFJ⟩ : ∃ x, Hid (m.T[j]? = some x) := ⟨_, hide (List.getElem?_eq_getElem hlt)⟩
      obtain ⟨b, off, hao, hx0⟩ := (unhide HM).ok.tab j x (unhide HFJ)
      have hx := hx0.below (unhide HW7).bel
      have hv := (unhide HM).v.2.2.1 (clC x) (List.mem_map_of_mem (List.mem_of_getElem? (unhide HFJ)))
      have HFL := hide (flat_at clE (unhide HFJ))
      rw [hao]
      have q0 := hx.c0
      have q1 := hx.c1
      have q2 := hx.c2
      have HXX := hide hx0
      have HVV := hide hv
      clear hx hx0 hv
      go_upto_region 7 with fail
      have al : Below wr.heap.size wr (wr.alloc (.cells #[.string x.nm, .int .i64 x.par, .slice x.fo x.fs.length x.fc] 80)) := (Below.refl _ _).alloc (Nat.le_refl _) _
      have HW8 := hide ((unhide HW7).below al)
      have HK8 := hide ((unhide HK7).trans (WK.of_below p v7 al))
      have HX8 := hide ((unhide HX7).below al)
      have HC8 := hide ((unhide HC7).below al)
      have HF8 : Hid (Bx (wr.alloc (.cells #[.string x.nm, .int .i64 x.par, .slice x.fo x.fs.length x.fc] 80)) wr.heap.size 80 #[.string x.nm, .int .i64 x.par, .slice x.fo x.fs.length x.fc]) := hide (heap_alloc_new wr _)
      clear al q0 q1 q2 HW7 HK7 HX7 HC7
      generalize wr.alloc (.cells #[.string x.nm, .int .i64 x.par, .slice x.fo x.fs.length x.fc] 80) = W8 at HW8 HK8 HX8 HC8 HF8 ⊢
      generalize wr.heap.size = gf at HF8 ⊢
      have k0 := (unhide HX8).c 0 rfl
      have c0 := (unhide HF8).c 0 rfl
      have c1 := (unhide HF8).c 1 rfl
      have c2 := (unhide HF8).c 2 rfl
      have HC := hide (wclass (unhide HW8) x (unhide HXX).flds (unhide HXX).cap (nameB_of (unhide HVV).1) (unhide HVV).2.1 (by have h := (unhide HVV).2.2.1; have h : (x.fs.map flC).length ≤ 32 := h; rw [List.length_map] at h; exact h) (fun i f hi => nameB_of ((unhide HVV).2.2.2 (flC f) (List.mem_map_of_mem (List.mem_of_getElem? hi))).1))
      go_wp2_with fail
      refine (unhide HC).mono ?_
      rintro e W9 (⟨hl9, rfl, v9, hw9, hk9⟩ | ⟨hF, ⟨n7, rfl⟩, hbF, htF⟩)
      rotate_left
      · exact ⟨rfl, Or.inr ⟨big hF (by rw [unhide HT, (unhide HFL).1] <;> (simp only [List.append_assoc] <;> rfl)), ⟨n7, rfl⟩, hbF, ((unhide HK8).ty (unhide HI)).trans htF⟩⟩
      have HW9 := hide hw9
      have HK9 := hide ((unhide HK8).trans hk9)
      have HX9 := hide (hk9.bx (unhide HW8).is (unhide HX8) (by decide) (by decide))
      have HC9 := hide (hk9.bx (unhide HW8).is (unhide HC8) (by decide) (by decide))
      clear hl9 hw9 hk9 HC HW8 HK8 HX8 HC8 k0 c0 c1 c2 HF8 HXX HVV
      have HW10 : Hid (WS w0.heap.size w0 W9 p v9 (magB ++ nb m.nm ++ be (m.T.length : Int) 1 ++ (m.T.take (j + 1)).flatMap clE)) := hide (by rw [(unhide HFL).2]; have := unhide HW9; simp only [List.append_assoc] at this ⊢; exact this)
      clear HW9 HFL HFJ
      rw [hao] at HC9
      go_wp2
      go_roundw
      case rel => exact ⟨j + 1, v9, by omega, by go_num, HW10, HK9, HX9, HC9⟩
      case measure => simp [intOf]; omega
    · have i1 : ¬ ((j : Nat) : Int) < ((m.T.length : Nat) : Int) := by omega
      have HW8 : Hid (WS w0.heap.size w0 wr p v7 (magB ++ nb m.nm ++ be (m.T.length : Int) 1 ++ m.T.flatMap clE)) := hide (by have := unhide HW7; rw [List.take_of_length_le (by omega)] at this; exact this)
      have HK8 := HK7
      have HX8 := HX7
      have HC8 := HC7
      clear HW7 HK7 HX7 HC7
      have k0 := (unhide HX8).c 0 rfl
      have c0 := (unhide HC8).c 2 rfl
      have HC := hide (wbyte (unhide HW8) (m.F.length : Int) (by omega))
      go_wp2_with fail
      refine (unhide HC).mono ?_
      rintro e W9 (⟨hl9, rfl, v9, hw9, hk9⟩ | ⟨hF, ⟨n7, rfl⟩, hbF, htF⟩)
      rotate_left
      · exact ⟨rfl, Or.inr ⟨big hF (by rw [unhide HT] <;> (simp only [List.append_assoc] <;> rfl)), ⟨n7, rfl⟩, hbF, ((unhide HK8).ty (unhide HI)).trans htF⟩⟩
      have HW9 := hide hw9
      have HK9 := hide ((unhide HK8).trans hk9)
      have HX9 := hide (hk9.bx (unhide HW8).is (unhide HX8) (by decide) (by decide))
      have HC9 := hide (hk9.bx (unhide HW8).is (unhide HC8) (by decide) (by decide))
      clear hl9 hw9 hk9 HC HW8 HK8 HX8 HC8 k0 c0
      have k0 := (unhide HX9).c 0 rfl
      have c0 := (unhide HC9).c 2 rfl
      go_wp2_with fail
      go_loopw [43] (fun i wr => ∃ (j : Nat) (vr : Value), j ≤ m.F.length ∧ i = .int .i64 (j : Int) ∧ Hid (WS w0.heap.size w0 wr p vr (magB ++ nb m.nm ++ be (m.T.length : Int) 1 ++ m.T.flatMap clE ++ be (m.F.length : Int) 1 ++ (m.F.take j).flatMap fnW)) ∧ Hid (WK w wr p v vr) ∧ Hid (Bx wr g 59 #[.pointer (some ⟨p, 0, none⟩)]) ∧ Hid (Bx wr (g + 1) 26 #[.string m.nm, .slice m.ao m.T.length m.cap, .slice m.fo m.F.length m.fc, .slice m.co m.C.length m.cc])) (fun i _ => m.F.length - (intOf i).toNat)
      case atStart => exact ⟨0, v9, by omega, rfl, hide (by have := unhide HW9; rw [List.take_zero, List.flatMap_nil, List.append_nil]; exact this), HK9, HX9, HC9⟩
      case round =>
        clear HW9 HK9 HX9 HC9 k0 c0 hj hlt i1
        obtain ⟨j, v10, hj, rfl, HW10, HK10, HX10, HC10⟩ := hrel
        by_cases hlt : j < m.F.length
        · have i1 : ((j : Nat) : Int) < ((m.F.length : Nat) : Int) := by omega
          obtain ⟨x, HFJ⟩ : ∃ x, Hid (m.F[j]? = some x) := ⟨_, hide (List.getElem?_eq_getElem hlt)⟩
          obtain ⟨b, off, hfo, hx0⟩ := (unhide HM).ok.fns j x (unhide HFJ)
          have hx := hx0.below (unhide HW10).bel
          have hv := (unhide HM).v.2.2.2.2.1 (fnC x) (List.mem_map_of_mem (List.mem_of_getElem? (unhide HFJ)))
          have hcd := (unhide HM).cd x (List.mem_of_getElem? (unhide HFJ))
          have HFL := hide (flat_at fnW (unhide HFJ))
          rw [hfo]
          have q0 := hx.c0
          have q1 := hx.c1
          have q2 := hx.c2
          have q3 := hx.c3
          have q4 := hx.c4
          have HXX := hide hx0
          have HVV := hide hv
          have HCD := hide hcd
          clear hx hx0 hv hcd
          go_upto_region 13 with fail
          have al : Below wr.heap.size wr (wr.alloc (.cells #[.string x.nm, .slice x.sg.po x.sg.ps.length x.sg.pc, .int .u8 (x.sg.rt : Int), .int .i64 x.lo, .slice x.ca x.cd.length x.cc] 44)) := (Below.refl _ _).alloc (Nat.le_refl _) _
          have HW11 := hide ((unhide HW10).below al)
          have HK11 := hide ((unhide HK10).trans (WK.of_below p v10 al))
          have HX11 := hide ((unhide HX10).below al)
          have HC11 := hide ((unhide HC10).below al)
          have HF11 : Hid (Bx (wr.alloc (.cells #[.string x.nm, .slice x.sg.po x.sg.ps.length x.sg.pc, .int .u8 (x.sg.rt : Int), .int .i64 x.lo, .slice x.ca x.cd.length x.cc] 44)) wr.heap.size 44 #[.string x.nm, .slice x.sg.po x.sg.ps.length x.sg.pc, .int .u8 (x.sg.rt : Int), .int .i64 x.lo, .slice x.ca x.cd.length x.cc]) := hide (heap_alloc_new wr _)
          clear al q0 q1 q2 q3 q4 HW10 HK10 HX10 HC10
          generalize wr.alloc (.cells #[.string x.nm, .slice x.sg.po x.sg.ps.length x.sg.pc, .int .u8 (x.sg.rt : Int), .int .i64 x.lo, .slice x.ca x.cd.length x.cc] 44) = W11 at HW11 HK11 HX11 HC11 HF11 ⊢
          generalize wr.heap.size = gf at HF11 ⊢
          have k0 := (unhide HX11).c 0 rfl
          have c0 := (unhide HF11).c 0 rfl
          have c1 := (unhide HF11).c 1 rfl
          have c2 := (unhide HF11).c 2 rfl
          have c3 := (unhide HF11).c 3 rfl
          have c4 := (unhide HF11).c 4 rfl
          have HC := hide (wfunction (unhide HW11) x (unhide HXX).ok (nameB_of (unhide HVV).1) (unhide HVV).2.1 (by have h := (unhide HVV).2.2.2.2.1; have h : 0 ≤ x.lo ∧ x.lo < 256 := h; omega) ⟨unhide HCD, by have h := (unhide HVV).2.2.2.2.2; have h : x.cd.length < 65536 := h; omega⟩)
          go_wp2_with fail
          refine (unhide HC).mono ?_
          rintro e W12 (⟨hl12, rfl, v12, hw12, hk12⟩ | ⟨hF, ⟨n7, rfl⟩, hbF, htF⟩)
          rotate_left
          · exact ⟨rfl, Or.inr ⟨big hF (by rw [unhide HT, (unhide HFL).1] <;> (simp only [List.append_assoc] <;> rfl)), ⟨n7, rfl⟩, hbF, ((unhide HK11).ty (unhide HI)).trans htF⟩⟩
          have HW12 := hide hw12
          have HK12 := hide ((unhide HK11).trans hk12)
          have HX12 := hide (hk12.bx (unhide HW11).is (unhide HX11) (by decide) (by decide))
          have HC12 := hide (hk12.bx (unhide HW11).is (unhide HC11) (by decide) (by decide))
          clear hl12 hw12 hk12 HC HW11 HK11 HX11 HC11 k0 c0 c1 c2 c3 c4 HF11 HXX HVV HCD
          have HW13 : Hid (WS w0.heap.size w0 W12 p v12 (magB ++ nb m.nm ++ be (m.T.length : Int) 1 ++ m.T.flatMap clE ++ be (m.F.length : Int) 1 ++ (m.F.take (j + 1)).flatMap fnW)) := hide (by rw [(unhide HFL).2]; have := unhide HW12; simp only [List.append_assoc] at this ⊢; exact this)
          clear HW12 HFL HFJ
          rw [hfo] at HC12
          go_wp2
          go_roundw
          case rel => exact ⟨j + 1, v12, by omega, by go_num, HW13, HK12, HX12, HC12⟩
          case measure => simp [intOf]; omega
        · have i1 : ¬ ((j : Nat) : Int) < ((m.F.length : Nat) : Int) := by omega
          have HW11 : Hid (WS w0.heap.size w0 wr p v10 (magB ++ nb m.nm ++ be (m.T.length : Int) 1 ++ m.T.flatMap clE ++ be (m.F.length : Int) 1 ++ m.F.flatMap fnW)) := hide (by have := unhide HW10; rw [List.take_of_length_le (by omega)] at this; exact this)
          have HK11 := HK10
          have HX11 := HX10
          have HC11 := HC10
          clear HW10 HK10 HX10 HC10
          have k0 := (unhide HX11).c 0 rfl
          have c0 := (unhide HC11).c 3 rfl
          have HC := hide (wcerts (unhide HW11) m.co m.cc m.C (unhide HM).ok.cts (unhide HM).ok.cz (fun x hx => by have h := (unhide HM).v.2.2.2.2.2.2 (bsC x) (List.mem_map_of_mem hx); have h : x.cd.length < 65536 := h; omega) (unhide HM).nil)
          go_wp2_with fail
          refine (unhide HC).mono ?_
          rintro e W12 (⟨hl12, rfl, v12, hw12, hk12⟩ | ⟨hF, ⟨n7, rfl⟩, hbF, htF⟩)
          rotate_left
          · exact ⟨rfl, Or.inr ⟨big hF (by rw [unhide HT] <;> (simp only [List.append_assoc] <;> rfl)), ⟨n7, rfl⟩, hbF, ((unhide HK11).ty (unhide HI)).trans htF⟩⟩
          have HW12 := hide hw12
          have HK12 := hide ((unhide HK11).trans hk12)
          have HX12 := hide (hk12.bx (unhide HW11).is (unhide HX11) (by decide) (by decide))
          have HC12 := hide (hk12.bx (unhide HW11).is (unhide HC11) (by decide) (by decide))
          clear hl12 hw12 hk12 HC HW11 HK11 HX11 HC11 k0 c0
          go_upto_region 16 with fail
          have hdr : Below W12.heap.size W12 W12.drew := (Below.refl _ _).drew
          have HXd := hide ((unhide HX12).below hdr)
          have HWd := hide ((unhide HW12).below hdr)
          have HKd := hide ((unhide HK12).trans (WK.of_below p v12 hdr))
          clear hdr HX12 HC12 HW12 HK12 hS hS3
          refine wp_region_held_drew (S := fun w' => Bx w' g 59 #[.pointer (some ⟨p, 0, none⟩)]) mixed (unhide HXd) (fun hS => ?_)
          generalize W12.drew = Wd at hS HXd HWd HKd ⊢
          have HL : Hid (magB ++ nb m.nm ++ be (m.T.length : Int) 1 ++ m.T.flatMap clE ++ be (m.F.length : Int) 1 ++ m.F.flatMap fnW ++ ctW m.C = magB ++ mdW m) := hide (by unfold mdW; simp only [List.append_assoc])
          rw [unhide HL] at HWd
          have HT2 : Hid (tsum (magB ++ mdW m) = magB ++ mdW m ++ be (s32 (sumOf (magB ++ mdW m))) 4) := hide (by rw [be_s32]; rfl)
          clear HT HL
          generalize magB ++ mdW m = L at HWd HT2 ⊢
          refine wpAnyH_take (i := 0) (v := .agg #[.pointer (some ⟨p, 0, none⟩)]) rfl (by kernel_rfl) (by kernel_rfl) (by kernel_rfl) (fun _ _ _ h => h) (Or.inl ⟨by rfl, fun W h => by have h0 := h.c 0 rfl; go_simp⟩) hS ?_
          go_simp
          refine wpAnyH_take (i := 1) (v := .pointer (some ⟨g, 0, none⟩)) rfl (by kernel_rfl) (by kernel_rfl) (by kernel_rfl) (fun _ _ _ h => h) (Or.inl ⟨by rfl, fun W _ => by go_simp⟩) hS ?_
          go_simp
          refine wpAnyH_take (i := 2) (v := .pointer (some ⟨p, 0, none⟩)) rfl (by kernel_rfl) (by kernel_rfl) (by kernel_rfl) (fun _ _ _ h => h) (Or.inl ⟨by rfl, fun W h => by have h0 := h.c 0 rfl; go_simp⟩) hS ?_
          go_simp
          refine wpAnyH_take (i := 3) (v := .pointer (some ⟨g, 0, none⟩)) rfl (by kernel_rfl) (by kernel_rfl) (by kernel_rfl) (fun _ _ _ h => h) (Or.inl ⟨by rfl, fun W _ => by go_simp⟩) hS ?_
          go_simp
          refine wpAnyH_take (i := 4) (v := .pointer (some ⟨p, 0, none⟩)) rfl (by kernel_rfl) (by kernel_rfl) (by kernel_rfl) (fun _ _ _ h => h) (Or.inl ⟨by rfl, fun W h => by have h0 := h.c 0 rfl; go_simp⟩) hS ?_
          go_simp
          have HC := hide (Bytes_any (unhide HWd).is)
          refine wpAnyH_ready (rs := [5]) (by kernel_rfl) (by simp) ?_
          refine AllReadyH.cons rfl (fun KK hK => ?_) AllReadyH.nil
          go_simp
          refine (unhide HC).mono ?_
          rintro e Wb ⟨rfl, hob, hbb⟩
          have hSb := hS.below hbb
          have HWb := hide ((unhide HWd).below hbb)
          have HKb := hide ((unhide HKd).trans (WK.of_below p v12 hbb))
          obtain ⟨_, _, hb1, hbat⟩ := hob.at
          injection hb1 with hb1 hb2 hb3
          subst hb1
          have HBT := hide hbat
          have hlen := (unhide HWd).is.len
          refine hK.out _ _ hSb (fun hS => ?_)
          clear hK KK HC hob hbb hSb HWd HKd hbat hb2 hb3
          have HC := hide (Sum_any _ L.length L Wb (unhide HBT) (by omega))
          refine wpAnyH_ready (rs := [6]) (by kernel_rfl) (by simp) ?_
          refine AllReadyH.cons rfl (fun KK hK => ?_) AllReadyH.nil
          go_simp
          refine (unhide HC).mono ?_
          rintro e Ws ⟨rfl, hbs⟩
          have hSs := hS.below hbs
          have HWs := hide ((unhide HWb).below hbs)
          have HKs := hide ((unhide HKb).trans (WK.of_below p v12 hbs))
          refine hK.out _ _ hSs (fun hS => ?_)
          clear hK KK HC HBT hbs hSs HWb HKb
          have HC := hide (signed_any (sumOf L) (sumOf_lt L) Ws)
          refine wpAnyH_ready (rs := [7]) (by kernel_rfl) (by simp) ?_
          refine AllReadyH.cons rfl (fun KK hK => ?_) AllReadyH.nil
          go_simp
          refine (unhide HC).mono ?_
          rintro e W ⟨rfl, hw⟩
          rw [hw]
          clear hw W
          refine hK.out _ _ hS (fun hS => ?_)
          clear hK KK HC
          have HC := hide (wLong_u (unhide HWs).is (s32 (sumOf L)))
          have hsr : ¬ (s32 (sumOf L) < loN 4 ∨ hiN 4 < s32 (sumOf L)) := by have := sumOf_lt L; unfold s32 loN hiN; split <;> simp <;> omega
          refine wpAnyH_ready (rs := [8]) (by kernel_rfl) (by simp) ?_
          refine AllReadyH.cons rfl (fun KK hK => ?_) AllReadyH.nil
          go_simp
          by_cases hfit : L.length + 4 ≤ 1048576
          rotate_left
          · have HF : Hid (1048576 < (tsum L).length) := hide (by rw [tsum_len]; omega)
            rw [(wE_ful (s32 (sumOf L)) hsr hfit).1, (wE_ful (s32 (sumOf L)) hsr hfit).2] at HC
            refine (unhide HC).mono ?_
            rintro e W3 ⟨rfl, v3, hi3, hk3, hf3⟩
            have hS3 := WK.bx ⟨hk3, hf3⟩ (unhide HWs).is hS (by decide) (by decide)
            have HW3 := hide ((unhide HWs).post hi3 hk3 hf3)
            have HK3 := hide ((unhide HKs).trans (v2 := v3) ⟨hk3, hf3⟩)
            refine hK.out _ _ hS3 (fun hS3 => ?_)
            clear hi3 hk3 hf3 hK KK HC hfit
            have HM := hide (must_no (unhide HW3).is 7 (by decide))
            refine wpAnyH_ready (rs := [9]) (by kernel_rfl) (by simp) ?_
            refine AllReadyH.cons rfl (fun KK hK => ?_) AllReadyH.nil
            go_simp
            refine (unhide HM).mono ?_
            rintro e W4 ⟨⟨n7, rfl⟩, hb4⟩
            exact ⟨rfl, Or.inr ⟨unhide HF, ⟨n7, rfl⟩, (unhide HW3).bel.trans (hb4.mono (unhide HW3).lt), ((unhide HK3).ty (unhide HI)).trans (TyK.below hb4)⟩⟩
          rw [(wE_fit (s32 (sumOf L)) hsr hfit).1, (wE_fit (s32 (sumOf L)) hsr hfit).2] at HC
          refine (unhide HC).mono ?_
          rintro e W3 ⟨rfl, v3, hi3, hk3, hf3⟩
          have hS3 := WK.bx ⟨hk3, hf3⟩ (unhide HWs).is hS (by decide) (by decide)
          have HW3 := hide ((unhide HWs).post hi3 hk3 hf3)
          have HK3 := hide ((unhide HKs).trans (v2 := v3) ⟨hk3, hf3⟩)
          refine hK.out _ _ hS3 (fun hS3 => ?_)
          have HM := hide (must_ok p W3)
          clear hK KK HC
          refine wpAnyH_ready (rs := [9]) (by kernel_rfl) (by simp) ?_
          refine AllReadyH.cons rfl (fun KK hK => ?_) AllReadyH.nil
          go_simp
          refine (unhide HM).mono ?_
          rintro e W4 ⟨rfl, hb4⟩
          have HX4 := hide (hS3.below hb4)
          have HW4 : Hid (WS w0.heap.size w0 W4 p v3 (tsum L)) := hide (by rw [unhide HT2]; exact (unhide HW3).below hb4)
          have HK4 := hide ((unhide HK3).trans (WK.of_below p v3 hb4))
          refine hK.out _ _ (unhide HX4) (fun hS4 => ?_)
          clear hi3 hk3 hf3 hK KK hb4 HM hS3 HK3
          refine wpAnyH_done (by kernel_rfl) ?_ _
          go_end0
          exact Or.inl ⟨(unhide HW4).is.len, rfl, v3, unhide HW4, unhide HK4⟩
end Go.Proofs.YtibgfdjopikafaaGreatDoor
