/-
  The walk of the law CardNone: a card that no call made, and one that was; and the variables that its row lays.
-/
import Derived.Test.YtkiijdcpfbnacaaGreatDoorSr12
import Derived.Test.YtkiijdcpfbnacaaGreatDoorBx1
import Derived.Test.YtkiijdcpfbnacaaGreatDoorLayLocks
import Derived.Conc.MuLone
import Derived.Deep.Cut
import Derived.Handy
import Derived.Deep.RegionHeld3
import Derived.ProofKit
import Derived.LaidMore
import Derived.OpenShut
import Derived.Stop.Joined
namespace Go.Proofs.YtkiijdcpfbnacaaGreatDoor
open Go.ChangeShapes Go.WideShapes Go.ChangeAt Go.WideMaps Go.WideElems Go.RowKit Go.MuLone
set_option maxRecDepth 20000
set_option linter.unusedVariables false

theorem of_laidN {W : World} (h : laidMetH Tryz.prog Rows.cardNoneRow.laid W) : True := trivial
theorem door_metN (os : Os) (args : Array Value) : laidMetH Tryz.prog Rows.cardNoneRow.laid ((World.doorLaid Tryz.prog 400 os).forCall (fun _ _ => 0) ⟨#[], args, []⟩).memory :=
  laidMetH_of_parts3 (fuel := 8) (laidMet_of_run' 8 (by kernel_rfl) (by kernel_rfl)) (by kernel_rfl) (by kernel_rfl)
theorem madeC_nil (w : World) : Calls Tryz.prog 15 #[.pointer none] w fun e w' => e = .returned (.bool false) ∧ w' = w := by
  go_enter Tryz.func15, Tryz.ntmps15
  go_wp2
  go_ret
  exact ⟨rfl, rfl⟩
theorem madeC_at (w : World) (g : Nat) (b : Bool) (hc : w.cell? ⟨g, 2, none⟩ = some (.bool b)) : Calls Tryz.prog 15 #[.pointer (some ⟨g, 0, none⟩)] w fun e w' => e = .returned (.bool b) ∧ w' = w := by
  go_enter Tryz.func15, Tryz.ntmps15
  go_wp2
  go_ret
  exact ⟨rfl, rfl⟩
def NoC (v : Value) (w : World) : Prop := Calls Tryz.prog 15 #[v] w fun e w' => e = .returned (.bool false) ∧ w' = w
set_option maxHeartbeats 1000000 in
theorem sizeC (v : Value) (s : Value) (w : World) (h : NoC v w) : Calls Tryz.prog 4 #[v, s] w fun e w' => e = .returned (.tuple #[.int .i64 0, .int .i64 8]) ∧ w' = w := by
  unfold NoC at h
  have HM := hide h
  clear h
  go_enter Tryz.func4, Tryz.ntmps4
  go_wp2_with fail
  refine (unhide HM).mono ?_
  rintro e W ⟨rfl, hw⟩
  rw [hw]
  clear hw W
  go_wp2
  go_ret2
  exact ⟨rfl, rfl⟩
set_option maxHeartbeats 1000000 in
theorem instC (v : Value) (s : Value) (w : World) (h : NoC v w) : Calls Tryz.prog 5 #[v, s] w fun e w' => e = .returned (.tuple #[.string ⟨#[]⟩, .slice none 0 0, .int .i64 8]) ∧ w' = w := by
  unfold NoC at h
  have HM := hide h
  clear h
  go_enter Tryz.func5, Tryz.ntmps5
  go_wp2_with fail
  refine (unhide HM).mono ?_
  rintro e W ⟨rfl, hw⟩
  rw [hw]
  clear hw W
  go_wp2
  go_ret3
  exact ⟨rfl, rfl⟩
set_option maxHeartbeats 1000000 in
theorem remC (v : Value) (s : Value) (w : World) (h : NoC v w) : Calls Tryz.prog 6 #[v, s] w fun e w' => e = .returned (.tuple #[.slice none 0 0, .int .i64 8]) ∧ w' = w := by
  unfold NoC at h
  have HM := hide h
  clear h
  go_enter Tryz.func6, Tryz.ntmps6
  go_wp2_with fail
  refine (unhide HM).mono ?_
  rintro e W ⟨rfl, hw⟩
  rw [hw]
  clear hw W
  go_wp2
  go_ret2
  exact ⟨rfl, rfl⟩
set_option maxHeartbeats 1000000 in
theorem selC (v : Value) (s : Value) (w : World) (h : NoC v w) : Calls Tryz.prog 8 #[v, s] w fun e w' => e = .returned (.int .i64 8) ∧ w' = w := by
  unfold NoC at h
  have HM := hide h
  clear h
  go_enter Tryz.func8, Tryz.ntmps8
  go_wp2_with fail
  refine (unhide HM).mono ?_
  rintro e W ⟨rfl, hw⟩
  rw [hw]
  clear hw W
  go_wp2
  go_ret
  exact ⟨rfl, rfl⟩
set_option maxHeartbeats 1000000 in
theorem packC (v : Value) (w : World) (h : NoC v w) : Calls Tryz.prog 9 #[v] w fun e w' => e = .returned (.int .i64 8) ∧ w' = w := by
  unfold NoC at h
  have HM := hide h
  clear h
  go_enter Tryz.func9, Tryz.ntmps9
  go_wp2_with fail
  refine (unhide HM).mono ?_
  rintro e W ⟨rfl, hw⟩
  rw [hw]
  clear hw W
  go_wp2
  go_ret
  exact ⟨rfl, rfl⟩
set_option maxHeartbeats 1000000 in
theorem namesC (v : Value) (w : World) (h : NoC v w) : Calls Tryz.prog 10 #[v] w fun e w' => e = .returned (.slice none 0 0) ∧ w' = w := by
  unfold NoC at h
  have HM := hide h
  clear h
  go_enter Tryz.func10, Tryz.ntmps10
  go_wp2_with fail
  refine (unhide HM).mono ?_
  rintro e W ⟨rfl, hw⟩
  rw [hw]
  clear hw W
  go_wp2
  go_ret
  exact ⟨rfl, rfl⟩
set_option maxHeartbeats 1000000 in
theorem imgC (v : Value) (w : World) (h : NoC v w) : Calls Tryz.prog 11 #[v] w fun e w' => e = .returned (.slice none 0 0) ∧ w' = w := by
  unfold NoC at h
  have HM := hide h
  clear h
  go_enter Tryz.func11, Tryz.ntmps11
  go_wp2_with fail
  refine (unhide HM).mono ?_
  rintro e W ⟨rfl, hw⟩
  rw [hw]
  clear hw W
  go_wp2
  go_ret
  exact ⟨rfl, rfl⟩
set_option maxHeartbeats 1000000 in
theorem freeC (v : Value) (w : World) (h : NoC v w) : Calls Tryz.prog 12 #[v] w fun e w' => e = .returned (.int .i64 0) ∧ w' = w := by
  unfold NoC at h
  have HM := hide h
  clear h
  go_enter Tryz.func12, Tryz.ntmps12
  go_wp2_with fail
  refine (unhide HM).mono ?_
  rintro e W ⟨rfl, hw⟩
  rw [hw]
  clear hw W
  go_wp2
  go_ret
  exact ⟨rfl, rfl⟩
set_option maxHeartbeats 1000000 in
theorem seldC (v : Value) (w : World) (h : NoC v w) : Calls Tryz.prog 13 #[v] w fun e w' => e = .returned (.string ⟨#[]⟩) ∧ w' = w := by
  unfold NoC at h
  have HM := hide h
  clear h
  go_enter Tryz.func13, Tryz.ntmps13
  go_wp2_with fail
  refine (unhide HM).mono ?_
  rintro e W ⟨rfl, hw⟩
  rw [hw]
  clear hw W
  go_wp2
  go_ret
  exact ⟨rfl, rfl⟩
set_option maxHeartbeats 1000000 in
theorem runC (v s : Value) (w : World) (h : ∀ W, Below w.heap.size w W → NoC v W) : Calls Tryz.prog 7 #[v, s, .slice none 0 0, .int .i64 1, .int .i64 1] w fun e w' => e = .returned (.tuple #[.agg #[.int .i64 0, .int .i64 0, .int .i64 0, .slice none 0 0, .int .i64 0, .int .i64 0], .int .i64 8]) ∧ Below w.heap.size w w' := by
  have hal : Below w.heap.size w (w.alloc (.cells #[.int .i64 0, .int .i64 0, .int .i64 0, .slice none 0 0, .int .i64 0, .int .i64 0] 46)) := (Below.refl _ _).alloc (Nat.le_refl _) _
  have hm := h _ hal
  unfold NoC at hm
  have HM := hide hm
  have HA := hide hal
  clear h hm hal
  go_enter Tryz.func7, Tryz.ntmps7
  go_wp2_with fail
  refine (unhide HM).mono ?_
  rintro e W ⟨rfl, hw⟩
  rw [hw]
  clear hw W
  go_wp2
  go_returns
  exact ⟨rfl, by go_grown⟩
theorem openS_nil : openS [] = some (0, []) := rfl
def IsKp (w : World) (B gs : Nat) : Prop := ∃ iv kv, IsSt w B gs iv kv [] []
set_option maxHeartbeats 1000000 in
theorem heldC {w : World} {B gs : Nat} (h : IsKp w B gs) : Calls Tryz.prog 23 #[.iface 77 (.pointer (some ⟨gs, 0, none⟩))] w fun e w' => e = .returned (.int .i64 0) ∧ Below w.heap.size w w' := by
  obtain ⟨iv, kv, hst⟩ := h
  have HN := hide (NamesS_any hst ⟨List.Pairwise.nil, by simp⟩)
  clear hst
  go_enter Tryz.func23, Tryz.ntmps23
  go_wp2_with fail
  refine (unhide HN).mono ?_
  rintro e W1 ⟨v1, rfl, hO, hb⟩
  obtain ⟨a1, c1, hv, -⟩ := hO.at
  subst hv
  have HB := hide hb
  clear hO hb
  go_wp2_with fail
  go_rounds 1
  go_wp2
  go_ret
  exact ⟨rfl, unhide HB⟩
set_option maxHeartbeats 1000000 in
theorem mayC {w : World} {B gs : Nat} (h : IsKp w B gs) : Calls Tryz.prog 36 #[.iface 77 (.pointer (some ⟨gs, 0, none⟩)), .int .i64 7] w fun e w' => e = .returned (.int .i64 0) ∧ Below w.heap.size w w' := by
  have HK := hide h
  obtain ⟨iv, kv, hst⟩ := h
  have HN := hide (NamesS_any hst ⟨List.Pairwise.nil, by simp⟩)
  clear hst
  go_enter Tryz.func36, Tryz.ntmps36
  go_wp2_with fail
  refine (unhide HN).mono ?_
  rintro e W1 ⟨v1, rfl, hO, hb⟩
  obtain ⟨a1, c1, hv, -⟩ := hO.at
  subst hv
  have HB := hide hb
  have hkp : IsKp W1 B gs := by obtain ⟨iv, kv, hst⟩ := unhide HK; exact ⟨iv, kv, hst.below hb⟩
  have HH := hide (heldC hkp)
  clear hO hb hkp
  go_wp2_with fail
  go_loopw [16] (fun i wr => i = .int .i64 0 ∧ wr = W1) (fun _ _ => 0)
  case atStart => exact ⟨rfl, rfl⟩
  case round =>
    obtain ⟨rfl, rfl⟩ := hrel
    go_wp2_with fail
    refine (unhide HH).mono ?_
    rintro e W2 ⟨rfl, hb2⟩
    have HB2 := hide ((unhide HB).trans (hb2.mono (unhide HB).size))
    clear hb2
    go_wp2
    go_ret
    exact ⟨rfl, unhide HB2⟩
def IsCd (w : World) (B g gs : Nat) : Prop := B ≤ g ∧ Bx w g 34 #[.int .i32 0, .int .u32 0, .bool true, .int .i64 7, .iface 77 (.pointer (some ⟨gs, 0, none⟩)), .string ⟨#[]⟩] ∧ IsKp w B gs
set_option maxHeartbeats 1000000 in
theorem openC (w : World) : Calls Tryz.prog 24 #[.slice none 0 0, .int .i64 7] w fun e w' => ∃ g gs, e = .returned (.tuple #[.pointer (some ⟨g, 0, none⟩), .int .i64 0]) ∧ IsCd w' w.heap.size g gs ∧ Below w.heap.size w w' := by
  have HO := hide (OpenS_any none 0 [] w (BAt.nil _ _) (fun _ => rfl) (by simp) (by simp))
  go_enter Tryz.func24, Tryz.ntmps24
  go_wp2_with fail
  refine (unhide HO).mono ?_
  rintro e W1 ⟨hb1, ⟨-, h0⟩ | ⟨gs, iv, kv, k, K, rfl, h0, hst, -, -, -⟩⟩
  · rw [openS_nil] at h0; cases h0
  · rw [openS_nil] at h0
    injection h0 with h0
    injection h0 with h1 h2
    subst h1 h2
    have HK : Hid (IsKp W1 w.heap.size gs) := hide ⟨iv, kv, hst⟩
    have HB := hide hb1
    have HM := hide (mayC (unhide HK))
    clear hst hb1 HO
    go_wp2_with fail
    refine (unhide HM).mono ?_
    rintro e W2 ⟨rfl, hb2⟩
    have HK2 : Hid (IsKp W2 w.heap.size gs) := hide (by obtain ⟨iv, kv, hst⟩ := unhide HK; exact ⟨iv, kv, hst.below hb2⟩)
    have HB2 := hide ((unhide HB).trans (hb2.mono (unhide HB).size))
    clear hb2 HM HB HK
    go_wp2
    go_ret2
    have hal : Below W2.heap.size W2 (W2.alloc (.cells #[.int .i32 0, .int .u32 0, .bool true, .int .i64 7, .iface 77 (.pointer (some ⟨gs, 0, none⟩)), .string ⟨#[]⟩] 34)) := (Below.refl _ _).alloc (Nat.le_refl _) _
    exact ⟨W2.heap.size, gs, rfl, ⟨(unhide HB2).size, heap_alloc_new W2 _, by obtain ⟨iv, kv, hst⟩ := unhide HK2; exact ⟨iv, kv, hst.below hal⟩⟩, (unhide HB2).trans (hal.mono (unhide HB2).size)⟩
theorem newC (w : World) : Calls Tryz.prog 14 #[.int .i64 7] w fun e w' => ∃ g gs, e = .returned (.tuple #[.pointer (some ⟨g, 0, none⟩), .int .i64 0]) ∧ IsCd w' w.heap.size g gs ∧ Below w.heap.size w w' := by
  go_enter Tryz.func14, Tryz.ntmps14
  go_wp2_with fail
  refine (openC w).mono ?_
  rintro e W ⟨g, gs, rfl, hc, hb⟩
  have HC := hide hc
  have HB := hide hb
  clear hc hb
  go_wp2
  go_ret2
  exact ⟨g, gs, rfl, unhide HC, unhide HB⟩
set_option maxHeartbeats 2000000 in
theorem freeMade {w : World} {B g gs : Nat} (h : IsCd w B g gs) : Calls Tryz.prog 12 #[.pointer (some ⟨g, 0, none⟩)] w fun e w' => e = .returned (.int .i64 7) ∧ Below B w w' := by
  obtain ⟨hg, hx, hkp⟩ := h
  have HM := hide (madeC_at w g true (hx.c 2 rfl))
  have HX := hide hx
  have HG := hide hg
  have HK := hide hkp
  have c0 := hx.c 0 rfl
  have f0 := hx.f 0
  have mixed := mixedS
  have HX1 : Hid (Bx (w.setCell ⟨g, 0, none⟩ (.int .i32 1)) g 34 #[.int .i32 1, .int .u32 0, .bool true, .int .i64 7, .iface 77 (.pointer (some ⟨gs, 0, none⟩)), .string ⟨#[]⟩]) := hide (hx.set 0 _ rfl)
  have HK1 : Hid (IsKp (w.setCell ⟨g, 0, none⟩ (.int .i32 1)) B gs) := hide (by
    obtain ⟨iv, kv, hst⟩ := hkp
    refine ⟨iv, kv, hst.keep (kept_setCell w ⟨g, 0, none⟩ (.int .i32 1)) (fun (e : gs = g) => ty_ne hst.row hx (by decide) e) (fun q e (e2 : q = g) => ?_) (fun q e (e2 : q = g) => ?_)⟩
    · obtain ⟨cur, hh⟩ := hst.ity _ e
      exact ty_ne hh hx (by decide) e2
    · obtain ⟨cur, hh⟩ := hst.kty _ e
      exact ty_ne hh hx (by decide) e2)
  have HB1 : Hid (Below B w (w.setCell ⟨g, 0, none⟩ (.int .i32 1))) := hide ((Below.refl B w).setCell (p := ⟨g, 0, none⟩) hg _)
  clear hx hg hkp
  go_enter_defers Tryz.func12, Tryz.ntmps12
  go_wp2_with fail
  refine (unhide HM).mono ?_
  rintro e W ⟨rfl, hw⟩
  rw [hw]
  clear hw W
  go_wp2_with fail
  refine (lock_free Tryz.muLib ⟨g, 0, none⟩ w c0 f0).mono ?_
  rintro e W ⟨rfl, hw⟩
  rw [hw]
  clear hw W c0 f0 HM HX HK
  generalize w.setCell ⟨g, 0, none⟩ (.int .i32 1) = W1 at HX1 HK1 HB1 ⊢
  go_upto_region 5 with fail
  have hdr : Below W1.heap.size W1 W1.drew := (Below.refl _ _).drew
  have HX2 := hide ((unhide HX1).below hdr)
  have HK2 : Hid (IsKp W1.drew B gs) := hide (by obtain ⟨iv, kv, hst⟩ := unhide HK1; exact ⟨iv, kv, hst.below hdr⟩)
  have HB2 : Hid (Below B w W1.drew) := hide (unhide HB1).drew
  clear hdr
  refine wp_region_noPanic ?_
  refine wp_region_held_drew (S := fun w' => Bx w' g 34 #[.int .i32 1, .int .u32 0, .bool true, .int .i64 7, .iface 77 (.pointer (some ⟨gs, 0, none⟩)), .string ⟨#[]⟩]) mixed (unhide HX2) (fun hS => ?_)
  generalize W1.drew = Wd at hS HX2 HK2 HB2 ⊢
  clear HX1 HK1 HB1
  refine wpAnyH_take (i := 0) (v := .pointer (some ⟨g, 0, none⟩)) rfl (by kernel_rfl) (by kernel_rfl) (by kernel_rfl) (fun _ _ _ h => h) (Or.inl ⟨by rfl, fun W _ => by go_simp⟩) hS ?_
  go_simp
  refine wpAnyH_take (i := 1) (v := .pointer (some ⟨g, 0, none⟩)) rfl (by kernel_rfl) (by kernel_rfl) (by kernel_rfl) (fun _ _ _ h => h) (Or.inl ⟨by rfl, fun W _ => by go_simp⟩) hS ?_
  go_simp
  refine wpAnyH_take (i := 2) (v := .pointer (some ⟨g, 3, none⟩)) rfl (by kernel_rfl) (by kernel_rfl) (by kernel_rfl) (fun _ _ _ h => h) (Or.inl ⟨by rfl, fun W _ => by go_simp⟩) hS ?_
  go_simp
  refine wpAnyH_take (i := 3) (v := .int .i64 7) rfl (by kernel_rfl) (by kernel_rfl) (by kernel_rfl) (fun _ _ _ h => h) (Or.inl ⟨by rfl, fun W h => by have h0 := h.c 3 rfl; go_simp⟩) hS ?_
  go_simp
  refine wpAnyH_take (i := 4) (v := .pointer (some ⟨g, 0, none⟩)) rfl (by kernel_rfl) (by kernel_rfl) (by kernel_rfl) (fun _ _ _ h => h) (Or.inl ⟨by rfl, fun W _ => by go_simp⟩) hS ?_
  go_simp
  refine wpAnyH_take (i := 5) (v := .pointer (some ⟨g, 0, none⟩)) rfl (by kernel_rfl) (by kernel_rfl) (by kernel_rfl) (fun _ _ _ h => h) (Or.inl ⟨by rfl, fun W _ => by go_simp⟩) hS ?_
  go_simp
  refine wpAnyH_take (i := 6) (v := .pointer (some ⟨g, 4, none⟩)) rfl (by kernel_rfl) (by kernel_rfl) (by kernel_rfl) (fun _ _ _ h => h) (Or.inl ⟨by rfl, fun W _ => by go_simp⟩) hS ?_
  go_simp
  refine wpAnyH_take (i := 7) (v := .iface 77 (.pointer (some ⟨gs, 0, none⟩))) rfl (by kernel_rfl) (by kernel_rfl) (by kernel_rfl) (fun _ _ _ h => h) (Or.inl ⟨by rfl, fun W h => by have h0 := h.c 4 rfl; go_simp⟩) hS ?_
  go_simp
  have HC := hide (heldC (unhide HK2))
  refine wpAnyH_ready (rs := [8]) (by kernel_rfl) (by simp) ?_
  refine AllReadyH.cons rfl (fun KK hK => ?_) AllReadyH.nil
  go_simp
  go_wp2_with (go_at_call 23; (with_reducible refine (unhide HC).mono ?_); rintro e W3 ⟨rfl, hb3⟩)
  have HX3 := hide ((unhide HX2).below hb3)
  have HB3 := hide ((unhide HB2).trans (hb3.mono (by have := (unhide HX2).lt; have := unhide HG; omega)))
  refine hK.out _ _ (unhide HX3) (fun hS3 => ?_)
  clear hK KK hS hb3 HC HX2 HK2 HB2
  refine wpAnyH_take (i := 9) (v := .int .i64 7) rfl (by kernel_rfl) (by kernel_rfl) (by kernel_rfl) (fun _ _ _ h => h) (Or.inl ⟨by rfl, fun W _ => by go_simp; rfl⟩) hS3 ?_
  go_simp
  refine wpAnyH_take (i := 10) (v := .int .i64 7) rfl (by kernel_rfl) (by kernel_rfl) (by kernel_rfl) (fun _ _ _ h => h) (Or.inl ⟨by rfl, fun W _ => by go_simp⟩) hS3 ?_
  go_simp
  refine wpAnyH_done (by kernel_rfl) ?_ _
  refine NoPanic.normal ?_
  go_wp2
  refine leaves_cons (f := 17) (args := #[.pointer (some ⟨g, 0, none⟩)]) (by simp) (by simp [go_sem]) ?_
  refine (unlock_deferred Tryz.muLib ⟨g, 0, none⟩ .returning _ ((unhide HX3).c 0 rfl) ((unhide HX3).f 0)).mono ?_
  rintro e u' w'' ⟨rfl, rfl, rfl⟩
  exact ⟨_, results_tmp rfl _ _ _, rfl, (unhide HB3).setCell (p := ⟨g, 0, none⟩) (unhide HG) _⟩
theorem noC_nil (W : World) : NoC (.pointer none) W := madeC_nil W
set_option maxRecDepth 20000 in
set_option maxHeartbeats 4000000 in
theorem walkCardNone {w : World} (hW : True) (s : ByteArray) (hsm : s.size ≤ maxLen) (_hs : s.size ≤ 140737488351232) (ao : Option Addr) (c : Nat) (l : List UInt8) (hd : BAt w ao l) (hn : ao = none → l = []) (hz : l.length ≤ 140737488351232) :
    Calls Tryz.prog 3 #[.string s, .slice ao l.length c] w fun e w' => e = .returned (.bool true) ∧ Below w.heap.size w w' := by
  clear hd hn hz hsm _hs hW
  go_enter Tryz.func3, Tryz.ntmps3
  go_upto_region 3 with fail
  have HB0 : Hid (Below w.heap.size w (w.alloc (.cells #[.int .i32 0, .int .u32 0, .bool false, .int .i64 0, .nilIface, .string ⟨#[]⟩] 34))) := hide ((Below.refl _ _).alloc (Nat.le_refl _) _)
  have HX0 : Hid (Bx (w.alloc (.cells #[.int .i32 0, .int .u32 0, .bool false, .int .i64 0, .nilIface, .string ⟨#[]⟩] 34)) w.heap.size 34 #[.int .i32 0, .int .u32 0, .bool false, .int .i64 0, .nilIface, .string ⟨#[]⟩]) := hide (heap_alloc_new w _)
  generalize (w.alloc (.cells #[.int .i32 0, .int .u32 0, .bool false, .int .i64 0, .nilIface, .string ⟨#[]⟩] 34)) = W0 at HB0 HX0 ⊢
  obtain ⟨zb, hzb⟩ : ∃ zb, zb = w.heap.size := ⟨_, rfl⟩
  rw [← hzb] at HX0 ⊢
  have hal : Below W0.heap.size W0 (W0.alloc (.cells #[.pointer none, .pointer (some ⟨zb, 0, none⟩)] 23)) := (Below.refl _ _).alloc (Nat.le_refl _) _
  have HX1 := hide ((unhide HX0).below hal)
  have HB1 := hide ((unhide HB0).trans (hal.mono (unhide HB0).size))
  have HC1 : Hid (Bx (W0.alloc (.cells #[.pointer none, .pointer (some ⟨zb, 0, none⟩)] 23)) W0.heap.size 23 #[.pointer none, .pointer (some ⟨zb, 0, none⟩)]) := hide (heap_alloc_new W0 _)
  clear hal HX0 HB0 hzb
  go_wp2_with fail
  generalize (W0.alloc (.cells #[.pointer none, .pointer (some ⟨zb, 0, none⟩)] 23)) = W1 at HX1 HB1 HC1 ⊢
  generalize W0.heap.size = cb at HC1 ⊢
  go_loopw [25] (fun i wr => ∃ j : Nat, j ≤ 2 ∧ i = .int .i64 j ∧ Hid (Bx wr zb 34 #[.int .i32 0, .int .u32 0, .bool false, .int .i64 0, .nilIface, .string ⟨#[]⟩]) ∧ Hid (Bx wr cb 23 #[.pointer none, .pointer (some ⟨zb, 0, none⟩)]) ∧ Hid (Below w.heap.size w wr)) (fun i _ => 2 - (intOf i).toNat)
  case atStart => exact ⟨0, by omega, rfl, HX1, HC1, HB1⟩
  case round =>
    clear HX1 HC1 HB1
    obtain ⟨j, hj, rfl, HXr, HCr, HBr⟩ := hrel
    by_cases hlj : j < 2
    · have i1 : ((j : Nat) : Int) < 2 := by omega
      have e0 := (unhide HCr).c 0 rfl
      have e1 := (unhide HCr).c 1 rfl
      rcases (show j = 0 ∨ j = 1 by omega) with h0 | h0
      · obtain rfl : j = 0 := h0
        rw [show ((0 : Nat) : Int) = 0 from rfl] at i1 ⊢
        have HNO : Hid (∀ W, Below wr.heap.size wr W → NoC (.pointer none) W) := hide (fun W _ => noC_nil W)
        have hno0 := unhide HNO wr (Below.refl _ _)
        go_wp2_with fail
        refine (sizeC (.pointer none) (.string s) wr hno0).mono ?_
        rintro e W ⟨rfl, hw⟩
        rw [hw]
        clear hw W
        go_wp2_with fail
        refine (instC (.pointer none) (.slice ao l.length c) wr hno0).mono ?_
        rintro e W ⟨rfl, hw⟩
        rw [hw]
        clear hw W
        go_wp2_with fail
        refine (remC (.pointer none) (.string s) wr hno0).mono ?_
        rintro e W ⟨rfl, hw⟩
        rw [hw]
        clear hw W
        go_wp2_with fail
        refine (runC (.pointer none) (.string s) wr (unhide HNO)).mono ?_
        rintro e W1 ⟨rfl, hb⟩
        have HB1 := hide hb
        have HNO1 : Hid (∀ W, Below W1.heap.size W1 W → NoC (.pointer none) W) := hide (fun W h => unhide HNO W (hb.trans (h.mono hb.size)))
        clear hb HNO hno0
        go_upto_region 10 with fail
        have hal : Below W1.heap.size W1 (W1.alloc (.cells #[.int .i64 0, .int .i64 0, .int .i64 0, .slice none 0 0, .int .i64 0, .int .i64 0] 46)) := (Below.refl _ _).alloc (Nat.le_refl _) _
        have HB2 := hide ((unhide HB1).trans (hal.mono (unhide HB1).size))
        have HNO2 : Hid (∀ W, Below (W1.alloc (.cells #[.int .i64 0, .int .i64 0, .int .i64 0, .slice none 0 0, .int .i64 0, .int .i64 0] 46)).heap.size (W1.alloc (.cells #[.int .i64 0, .int .i64 0, .int .i64 0, .slice none 0 0, .int .i64 0, .int .i64 0] 46)) W → NoC (.pointer none) W) := hide (fun W h => unhide HNO1 W (hal.trans (h.mono hal.size)))
        clear hal HB1 HNO1
        generalize (W1.alloc (.cells #[.int .i64 0, .int .i64 0, .int .i64 0, .slice none 0 0, .int .i64 0, .int .i64 0] 46)) = W2 at HB2 HNO2 ⊢
        generalize W1.heap.size = bo
        have hno2 := unhide HNO2 W2 (Below.refl _ _)
        go_wp2_with fail
        refine (selC (.pointer none) (.string s) W2 hno2).mono ?_
        rintro e W ⟨rfl, hw⟩
        rw [hw]
        clear hw W
        go_wp2_with fail
        refine (packC (.pointer none) W2 hno2).mono ?_
        rintro e W ⟨rfl, hw⟩
        rw [hw]
        clear hw W
        have hal : Below W2.heap.size W2 (W2.alloc (.cells #[.int .i64 8, .int .i64 8, .int .i64 8, .int .i64 8, .int .i64 8, .int .i64 8] 36)) := (Below.refl _ _).alloc (Nat.le_refl _) _
        have HB3 := hide ((unhide HB2).trans (hal.mono (unhide HB2).size))
        have HNO3 : Hid (NoC (.pointer none) (W2.alloc (.cells #[.int .i64 8, .int .i64 8, .int .i64 8, .int .i64 8, .int .i64 8, .int .i64 8] 36))) := hide (unhide HNO2 _ hal)
        have hx := heap_alloc_new W2 (.cells #[.int .i64 8, .int .i64 8, .int .i64 8, .int .i64 8, .int .i64 8, .int .i64 8] 36)
        have HE : Hid (∀ j, j < 6 → (W2.alloc (.cells #[.int .i64 8, .int .i64 8, .int .i64 8, .int .i64 8, .int .i64 8, .int .i64 8] 36)).cell? ⟨W2.heap.size, j, none⟩ = some (.int .i64 8)) := hide (fun j hj => by
          rw [cell_of_row _ _ _ _ _ _ hx]
          match j, hj with
          | 0, _ => rfl
          | 1, _ => rfl
          | 2, _ => rfl
          | 3, _ => rfl
          | 4, _ => rfl
          | 5, _ => rfl)
        clear hal hx hno2 HB2 HNO2
        go_wp2_with fail
        generalize (W2.alloc (.cells #[.int .i64 8, .int .i64 8, .int .i64 8, .int .i64 8, .int .i64 8, .int .i64 8] 36)) = W3 at HB3 HNO3 HE ⊢
        generalize W2.heap.size = eb at HE ⊢
        go_loopw [65] (fun i wr => ∃ k : Nat, k ≤ 6 ∧ i = .int .i64 k ∧ wr = W3) (fun i _ => 6 - (intOf i).toNat)
        case atStart => exact ⟨0, by omega, rfl, rfl⟩
        case round =>
          obtain ⟨k, hk, rfl, rfl⟩ := hrel
          by_cases hlk : k < 6
          · have i2 : ((k : Nat) : Int) < 6 := by omega
            have ce := unhide HE k hlk
            go_wp2
            go_roundw
            case rel => exact ⟨k + 1, by omega, by go_num, trivial⟩
            case measure => simp [intOf]; omega
          · have i2 : ¬ ((k : Nat) : Int) < 6 := by omega
            go_wp2_with fail
            refine (namesC (.pointer none) _ (unhide HNO3)).mono ?_
            rintro e W ⟨rfl, hw⟩
            rw [hw]
            clear hw W
            go_wp2_with fail
            refine (imgC (.pointer none) _ (unhide HNO3)).mono ?_
            rintro e W ⟨rfl, hw⟩
            rw [hw]
            clear hw W
            go_wp2_with fail
            refine (freeC (.pointer none) _ (unhide HNO3)).mono ?_
            rintro e W ⟨rfl, hw⟩
            rw [hw]
            clear hw W
            go_wp2_with fail
            refine (seldC (.pointer none) _ (unhide HNO3)).mono ?_
            rintro e W ⟨rfl, hw⟩
            rw [hw]
            clear hw W
            go_wp2
            have HB4 := hide ((unhide HBr).trans ((unhide HB3).mono (unhide HBr).size))
            have HX4 := hide ((unhide HXr).below (unhide HB3))
            have HC4 := hide ((unhide HCr).below (unhide HB3))
            go_roundw
            case rel => exact ⟨1, by omega, by go_num, HX4, HC4, HB4⟩
            case measure => simp [intOf]
      · obtain rfl : j = 1 := h0
        rw [show ((1 : Nat) : Int) = 1 from rfl] at i1 ⊢
        have HNO : Hid (∀ W, Below wr.heap.size wr W → NoC (.pointer (some ⟨zb, 0, none⟩)) W) := hide (fun W h => madeC_at W zb false (((unhide HXr).below h).c 2 rfl))
        have hno0 := unhide HNO wr (Below.refl _ _)
        go_wp2_with fail
        refine (sizeC (.pointer (some ⟨zb, 0, none⟩)) (.string s) wr hno0).mono ?_
        rintro e W ⟨rfl, hw⟩
        rw [hw]
        clear hw W
        go_wp2_with fail
        refine (instC (.pointer (some ⟨zb, 0, none⟩)) (.slice ao l.length c) wr hno0).mono ?_
        rintro e W ⟨rfl, hw⟩
        rw [hw]
        clear hw W
        go_wp2_with fail
        refine (remC (.pointer (some ⟨zb, 0, none⟩)) (.string s) wr hno0).mono ?_
        rintro e W ⟨rfl, hw⟩
        rw [hw]
        clear hw W
        go_wp2_with fail
        refine (runC (.pointer (some ⟨zb, 0, none⟩)) (.string s) wr (unhide HNO)).mono ?_
        rintro e W1 ⟨rfl, hb⟩
        have HB1 := hide hb
        have HNO1 : Hid (∀ W, Below W1.heap.size W1 W → NoC (.pointer (some ⟨zb, 0, none⟩)) W) := hide (fun W h => unhide HNO W (hb.trans (h.mono hb.size)))
        clear hb HNO hno0
        go_upto_region 10 with fail
        have hal : Below W1.heap.size W1 (W1.alloc (.cells #[.int .i64 0, .int .i64 0, .int .i64 0, .slice none 0 0, .int .i64 0, .int .i64 0] 46)) := (Below.refl _ _).alloc (Nat.le_refl _) _
        have HB2 := hide ((unhide HB1).trans (hal.mono (unhide HB1).size))
        have HNO2 : Hid (∀ W, Below (W1.alloc (.cells #[.int .i64 0, .int .i64 0, .int .i64 0, .slice none 0 0, .int .i64 0, .int .i64 0] 46)).heap.size (W1.alloc (.cells #[.int .i64 0, .int .i64 0, .int .i64 0, .slice none 0 0, .int .i64 0, .int .i64 0] 46)) W → NoC (.pointer (some ⟨zb, 0, none⟩)) W) := hide (fun W h => unhide HNO1 W (hal.trans (h.mono hal.size)))
        clear hal HB1 HNO1
        generalize (W1.alloc (.cells #[.int .i64 0, .int .i64 0, .int .i64 0, .slice none 0 0, .int .i64 0, .int .i64 0] 46)) = W2 at HB2 HNO2 ⊢
        generalize W1.heap.size = bo
        have hno2 := unhide HNO2 W2 (Below.refl _ _)
        go_wp2_with fail
        refine (selC (.pointer (some ⟨zb, 0, none⟩)) (.string s) W2 hno2).mono ?_
        rintro e W ⟨rfl, hw⟩
        rw [hw]
        clear hw W
        go_wp2_with fail
        refine (packC (.pointer (some ⟨zb, 0, none⟩)) W2 hno2).mono ?_
        rintro e W ⟨rfl, hw⟩
        rw [hw]
        clear hw W
        have hal : Below W2.heap.size W2 (W2.alloc (.cells #[.int .i64 8, .int .i64 8, .int .i64 8, .int .i64 8, .int .i64 8, .int .i64 8] 36)) := (Below.refl _ _).alloc (Nat.le_refl _) _
        have HB3 := hide ((unhide HB2).trans (hal.mono (unhide HB2).size))
        have HNO3 : Hid (NoC (.pointer (some ⟨zb, 0, none⟩)) (W2.alloc (.cells #[.int .i64 8, .int .i64 8, .int .i64 8, .int .i64 8, .int .i64 8, .int .i64 8] 36))) := hide (unhide HNO2 _ hal)
        have hx := heap_alloc_new W2 (.cells #[.int .i64 8, .int .i64 8, .int .i64 8, .int .i64 8, .int .i64 8, .int .i64 8] 36)
        have HE : Hid (∀ j, j < 6 → (W2.alloc (.cells #[.int .i64 8, .int .i64 8, .int .i64 8, .int .i64 8, .int .i64 8, .int .i64 8] 36)).cell? ⟨W2.heap.size, j, none⟩ = some (.int .i64 8)) := hide (fun j hj => by
          rw [cell_of_row _ _ _ _ _ _ hx]
          match j, hj with
          | 0, _ => rfl
          | 1, _ => rfl
          | 2, _ => rfl
          | 3, _ => rfl
          | 4, _ => rfl
          | 5, _ => rfl)
        clear hal hx hno2 HB2 HNO2
        go_wp2_with fail
        generalize (W2.alloc (.cells #[.int .i64 8, .int .i64 8, .int .i64 8, .int .i64 8, .int .i64 8, .int .i64 8] 36)) = W3 at HB3 HNO3 HE ⊢
        generalize W2.heap.size = eb at HE ⊢
        go_loopw [65] (fun i wr => ∃ k : Nat, k ≤ 6 ∧ i = .int .i64 k ∧ wr = W3) (fun i _ => 6 - (intOf i).toNat)
        case atStart => exact ⟨0, by omega, rfl, rfl⟩
        case round =>
          obtain ⟨k, hk, rfl, rfl⟩ := hrel
          by_cases hlk : k < 6
          · have i2 : ((k : Nat) : Int) < 6 := by omega
            have ce := unhide HE k hlk
            go_wp2
            go_roundw
            case rel => exact ⟨k + 1, by omega, by go_num, trivial⟩
            case measure => simp [intOf]; omega
          · have i2 : ¬ ((k : Nat) : Int) < 6 := by omega
            go_wp2_with fail
            refine (namesC (.pointer (some ⟨zb, 0, none⟩)) _ (unhide HNO3)).mono ?_
            rintro e W ⟨rfl, hw⟩
            rw [hw]
            clear hw W
            go_wp2_with fail
            refine (imgC (.pointer (some ⟨zb, 0, none⟩)) _ (unhide HNO3)).mono ?_
            rintro e W ⟨rfl, hw⟩
            rw [hw]
            clear hw W
            go_wp2_with fail
            refine (freeC (.pointer (some ⟨zb, 0, none⟩)) _ (unhide HNO3)).mono ?_
            rintro e W ⟨rfl, hw⟩
            rw [hw]
            clear hw W
            go_wp2_with fail
            refine (seldC (.pointer (some ⟨zb, 0, none⟩)) _ (unhide HNO3)).mono ?_
            rintro e W ⟨rfl, hw⟩
            rw [hw]
            clear hw W
            go_wp2
            have HB4 := hide ((unhide HBr).trans ((unhide HB3).mono (unhide HBr).size))
            have HX4 := hide ((unhide HXr).below (unhide HB3))
            have HC4 := hide ((unhide HCr).below (unhide HB3))
            go_roundw
            case rel => exact ⟨2, by omega, by go_num, HX4, HC4, HB4⟩
            case measure => simp [intOf]
    · have i1 : ¬ ((j : Nat) : Int) < 2 := by omega
      go_wp2_with fail
      refine (newC wr).mono ?_
      rintro e W2 ⟨g, gs, rfl, hcd, hb2⟩
      have HFr := hide (freeMade hcd)
      have HB2 := hide ((unhide HBr).trans (hb2.mono (unhide HBr).size))
      have HB9 : Hid (∀ W, Below wr.heap.size W2 W → Below w.heap.size w W) := hide (fun W h => (unhide HB2).trans (h.mono (unhide HBr).size))
      clear hcd hb2
      go_wp2_with fail
      refine (unhide HFr).mono ?_
      rintro e W3 ⟨rfl, hb3⟩
      have HB3 := hide (unhide HB9 W3 hb3)
      clear hb3
      go_wp2
      go_ret
      exact ⟨rfl, unhide HB3⟩
end Go.Proofs.YtkiijdcpfbnacaaGreatDoor
