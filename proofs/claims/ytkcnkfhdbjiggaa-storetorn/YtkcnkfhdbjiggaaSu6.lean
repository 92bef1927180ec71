/-
  The contract of the document's laid: the image with a record behind, and the writes; or that it is full. What is answered is new memory.
-/
import Derived.Test.YtkcnkfhdbjiggaaSu5
namespace Go.Proofs.Ytkcnkfhdbjiggaa
open Go.RowKit
set_option maxRecDepth 20000

theorem results_cell_tmp2S {fn : Func} {p u v : Tmp} {ty : TypeId} (h : fn.results = #[.cell p ty, .tmp u, .tmp v]) (tmps : Array Value) (P : Program) (w : World) :
    (results fn tmps).run P w =
      ((asAddr (tmps.getD p undef)).run P w).andThen fun a w₁ => ((loadVar ty a).run P w₁).andThen fun x w₂ => .ok (.tuple #[x, tmps.getD u undef, tmps.getD v undef]) w₂ := by
  simp only [results, h]
  simp [Sem.run_bind, Result.andThen]
theorem results_st3 {fn : Func} {q u t : Tmp} (h : fn.results = #[.cell q 28, .tmp u, .tmp t]) (tmps : Array Value) (W : World) (g : Nat) (v x x0 x1 : Value) (hp : tmps.getD q undef = .pointer (some ⟨g, 0, none⟩)) (hu : tmps.getD u undef = v) (ht : tmps.getD t undef = x) (hg : Bx W g 28 #[x0, x1]) :
    (results fn tmps).run Try.prog W = .ok (.tuple #[.agg #[x0, x1], v, x]) W := by
  rw [results_cell_tmp2S h, hp, hu, ht, run_addrS, Result.andThen_ok, run_loadVar_row W g 28 28 #[x0, x1] (0, 0) _ hg Try.underlying28 rfl (by kernel_rfl), Result.andThen_ok]
def LaidPost (w : World) (xi lv lv2 : Value) (I R : List UInt8) (e : Ending) (w' : World) : Prop := Below w.heap.size w w' ∧
  ((1048576 < I.length + R.length + 1 ∧ e = .returned (.tuple #[.agg #[xi, lv], .slice none 0 0, .int .i64 7])) ∨
   (I.length + R.length + 1 ≤ 1048576 ∧ ∃ xi' v, e = .returned (.tuple #[.agg #[xi', lv2], v, .int .i64 0]) ∧ OwnB w' w.heap.size xi' (I ++ R) ∧ WrAt w' w.heap.size v I.length (hidB R) [R.getD 0 0]))
set_option maxRecDepth 20000 in
set_option maxHeartbeats 4000000 in
theorem laid_any {w : World} {B1 B2 : Nat} {xa la l2 : Option Addr} {xc ln lc n2 c2 rb rc : Nat} {I R : List UInt8} (hx : OwnB w B1 (.slice xa I.length xc) I) (hI : I.length ≤ 1048576) (hr : OwnB w B2 (.slice (some ⟨rb, 0, none⟩) R.length rc) R) (h2 : 2 ≤ R.length) (hm : R.length ≤ 5000) :
    Calls Try.prog 48 #[.agg #[.slice xa I.length xc, .slice la ln lc], .slice l2 n2 c2, .slice (some ⟨rb, 0, none⟩) R.length rc] w (LaidPost w (.slice xa I.length xc) (.slice la ln lc) (.slice l2 n2 c2) I R) := by
  obtain ⟨i0, hi, hz0, hz1, hz2⟩ := info_parts info8
  obtain ⟨W2, hW2⟩ : ∃ W2, W2 = (w.alloc (.cells #[.slice xa I.length xc, .slice la ln lc] 28)).alloc (.cells #[.slice none 0 0, .slice none 0 0] 28) := ⟨_, rfl⟩
  have hbw : Below w.heap.size w W2 := by rw [hW2]; exact ((Below.refl _ _).alloc (Nat.le_refl _) _).alloc (by simp) _
  have HX3 : Hid (Bx W2 w.heap.size 28 #[.slice xa I.length xc, .slice la ln lc]) := hide (by
    rw [hW2]
    exact Bx.below (heap_alloc_new w _) ((Below.refl _ _).alloc (Nat.le_refl _) _))
  have HX6 : Hid (Bx W2 (w.heap.size + 1) 28 #[.slice none 0 0, .slice none 0 0]) := hide (by
    rw [hW2]
    have := heap_alloc_new (w.alloc (.cells #[.slice xa I.length xc, .slice la ln lc] 28)) (.cells #[.slice none 0 0, .slice none 0 0] 28)
    rw [World.size_alloc] at this
    exact this)
  have HSZ : Hid (W2.heap.size = w.heap.size + 2) := hide (by rw [hW2]; simp)
  have hrb : rb < w.heap.size := (World.ownsRow.lt hr rb rfl).2
  have HW2 := hide hW2
  have HB2 := hide hbw
  have HXI := hide (hx.below hbw)
  have HRI := hide (hr.below hbw)
  have y0 := (unhide HX3).c 0 rfl
  have y1 := (unhide HX3).c 1 rfl
  clear hW2 hbw hx hr
  have mixed := mixedS
  by_cases hbig : 1048576 < I.length + R.length + 1
  · have i1 : (1048576 : Int) < ((I.length : Nat) : Int) + ((R.length : Nat) : Int) + 1 := by omega
    have X2 : Hid (Bx (W2.setRow (w.heap.size + 1) #[.slice xa I.length xc, .slice la ln lc]) (w.heap.size + 1) 28 #[.slice xa I.length xc, .slice la ln lc]) := hide (setRow_heap _ _ _ _ _ _ (unhide HX6))
    have XB : Hid (Below w.heap.size w (W2.setRow (w.heap.size + 1) #[.slice xa I.length xc, .slice la ln lc])) := hide (below_rowS (unhide HB2) (by omega) _)
    go_enter Try.func48, Try.ntmps48
    go_upto_region 1 with fail
    rw [← unhide HW2]
    clear HW2
    go_wp2_with (refine wpList_store_row rfl 28 _ _ rfl (w.heap.size + 1) #[.slice xa I.length xc, .slice la ln lc] rfl rfl 28 #[.slice none 0 0, .slice none 0 0] (unhide HX6) (by kernel_rfl) rfl (by simp [Value.oneCell']) ?_)
    exact bodyPost_ret (v := .tuple #[.agg #[.slice xa I.length xc, .slice la ln lc], .slice none 0 0, .int .i64 7]) (results_st3 rfl _ _ (w.heap.size + 1) _ _ _ _ rfl rfl rfl (unhide X2)) rfl ⟨unhide XB, Or.inl ⟨hbig, rfl⟩⟩
  · have i1 : ¬ (1048576 : Int) < ((I.length : Nat) : Int) + ((R.length : Nat) : Int) + 1 := by omega
    have j1 : (1 : Int) ≤ ((R.length : Nat) : Int) := by omega
    have j3 : (0 : Int) < ((R.length : Nat) : Int) := by omega
    have hrc : R.length ≤ rc := by
      rcases (unhide HRI).2 with ⟨h, _⟩ | ⟨g', cap', cur, hv, _, _, hn', _⟩
      · cases h
      · injection hv with _ _ hv
        omega
    have j2 : ¬ rc = 1 := by omega
    go_enter Try.func48, Try.ntmps48
    go_upto_region 1 with fail
    rw [← unhide HW2]
    clear HW2
    -- the hidden bytes: a nought, then all but the first
    have hal : Below W2.heap.size W2 (W2.alloc (.cells #[.int .u8 0] 5)) := (Below.refl _ _).alloc (Nat.le_refl _) _
    have HM1 : Hid (OwnB (W2.alloc (.cells #[.int .u8 0] 5)) W2.heap.size (.slice (some ⟨W2.heap.size, 0, none⟩) 1 1) [0]) := hide (one_own W2 0)
    have hrd : (R.drop 1).length = R.length - 1 := List.length_drop ..
    have HS1 : Hid (SrcB (W2.alloc (.cells #[.int .u8 0] 5)) (.slice (some ⟨rb, 1, none⟩) (R.length - 1) (rc - 1)) (R.drop 1)) := hide (Or.inr ⟨_, _, by rw [hrd], by
      obtain ⟨a', c', e', h', _⟩ := ((unhide HRI).below hal).atN
      injection e' with e' _ _
      rw [← e'] at h'
      have := BAt.sub h' 1 (R.length - 1)
      rwa [List.take_of_length_le (by rw [hrd]; exact Nat.le_refl _)] at this⟩)
    have HDR := hide hrd
    clear hal hrd
    go_wp2_with (at_builtin; refine wpList_appendB rfl (.tmp 21) (.tmp 23) rfl W2.heap.size (.slice (some ⟨W2.heap.size, 0, none⟩) 1 1) [0] rfl (unhide HM1) (.slice (some ⟨rb, 1, none⟩) (R.length - 1) (rc - 1)) (R.drop 1) rfl (unhide HS1) ?z61 ?z41 ?_)
    case z61 => first | omega | (rw [unhide HDR]; simp; omega)
    try (case z41 => simp)
    intro v3 w3 hO3 hG3 hF3 hE3
    have HN3 : Hid (Below W2.heap.size W2 w3) := hide (((Below.refl W2.heap.size W2).alloc (Nat.le_refl _) (.cells #[.int .u8 0] 5)).grown hG3 (by simp) (fun q e => (World.ownsRow.lt (unhide HM1) q e).1))
    obtain ⟨A1, hA1⟩ : ∃ A1 : List UInt8, A1 = [0] ++ R.drop 1 := ⟨_, rfl⟩
    have hA1l : A1.length ≤ 5000 := by rw [hA1, List.length_append, unhide HDR]; simp; omega
    have hO3' : OwnB w3 W2.heap.size v3 A1 := by rw [hA1]; simpa using hO3
    have HA1 := hide hA1
    have HO3 := hide hO3'
    obtain ⟨a3, c3, hv3, -⟩ := hO3'.at
    subst hv3
    clear hO3 hO3' hG3 hF3 hE3 hA1 HM1 HS1
    have hal4 : Below w3.heap.size w3 (w3.alloc (.cells #[.int .u8 0] 5)) := (Below.refl _ _).alloc (Nat.le_refl _) _
    have HM4 : Hid (SrcB (w3.alloc (.cells #[.int .u8 0] 5)) (.slice (some ⟨w3.heap.size, 0, none⟩) 1 1) [0]) := hide (one_own w3 0).src
    have HO4 := hide ((unhide HO3).below hal4)
    have HN4 := hide ((unhide HN3).trans (hal4.mono (unhide HN3).size))
    clear hal4
    go_wp2_with (at_builtin; refine wpList_appendB rfl (.tmp 25) (.tmp 26) rfl W2.heap.size (.slice a3 A1.length c3) A1 rfl (unhide HO4) (.slice (some ⟨w3.heap.size, 0, none⟩) 1 1) [0] rfl (unhide HM4) ?z62 ?z42 ?_)
    case z62 => simp; omega
    try (case z42 => exact (unhide HN4).size)
    intro v4 w4 hO4 hG4 hF4 hE4
    have HN5 : Hid (Below W2.heap.size W2 w4) := hide ((unhide HN4).grown hG4 (unhide HN4).size (fun q e => (World.ownsRow.lt (unhide HO4) q e).1))
    obtain ⟨A, hA⟩ : ∃ A : List UInt8, A = hidB R := ⟨_, rfl⟩
    have hO4' : OwnB w4 W2.heap.size v4 A := by rw [hA]; unfold hidB; rw [← unhide HA1]; exact hO4
    have HA := hide hA
    have HO5 := hide hO4'
    obtain ⟨ha, hc, hv4, -⟩ := hO4'.at
    subst hv4
    have y0 := ((unhide HX3).below (unhide HN5)).c 0 rfl
    have hal5 : Below w4.heap.size w4 (w4.alloc (.cells #[] 5)) := (Below.refl _ _).alloc (Nat.le_refl _) _
    have y0b := (((unhide HX3).below (unhide HN5)).below hal5).c 0 rfl
    have HM6 : Hid (OwnB (w4.alloc (.cells #[] 5)) w4.heap.size (.slice (some ⟨w4.heap.size, 0, none⟩) 0 0) []) := hide (World.ownsRow_made w4 #[] 0 (Nat.le_refl _) (by decide) rfl)
    have HS6 : Hid (SrcB (w4.alloc (.cells #[] 5)) (.slice xa I.length xc) I) := hide (((unhide HXI).below (unhide HN5)).below hal5).src
    have HO6 := hide ((unhide HO5).below hal5)
    have HN6 := hide ((unhide HN5).trans (hal5.mono (unhide HN5).size))
    clear hO4 hO4' hG4 hF4 hE4 hA hal5 HM4 HO4 HN4 HN3 HO3
    go_wp2_with (at_builtin; refine wpList_appendB rfl (.tmp 31) (.tmp 33) rfl w4.heap.size (.slice (some ⟨w4.heap.size, 0, none⟩) 0 0) [] rfl (unhide HM6) (.slice xa I.length xc) I rfl (unhide HS6) ?z63 ?z43 ?_)
    case z63 => simp; omega
    try (case z43 => simp)
    intro v5 w5 hO5 hG5 hF5 hE5
    have hO5' : OwnB w5 w4.heap.size v5 I := by simpa using hO5
    have HN7 : Hid (Below W2.heap.size W2 w5) := hide ((unhide HN6).grown hG5 (unhide HN6).size (fun q e => by have h1 := (World.ownsRow.lt (unhide HM6) q e).1; have h3 := (unhide HN5).size; omega))
    have HO7 : Hid (OwnB w5 W2.heap.size (.slice ha A.length hc) A) := hide ((unhide HO6).keep (Kept.of_grown hG5) (fun q e e2 => by
      have h1 := (World.ownsRow.lt (unhide HO5) q e).2
      have h3 := (World.ownsRow.lt (unhide HM6) q e2.symm).1
      omega))
    have HI7 := hide hO5'
    obtain ⟨a5, c5, hv5, -⟩ := hO5'.at
    subst hv5
    have HS7 := hide ((unhide HRI).below (unhide HN7)).src
    have HSZ7 : Hid (w4.heap.size ≤ w5.heap.size) := hide (by have := hG5.size; simp at this; omega)
    clear hO5 hO5' hG5 hF5 hE5 HM6 HS6 HO6 HN6
    go_wp2_with (at_builtin; refine wpList_appendB rfl (.tmp 35) (.tmp 36) rfl w4.heap.size (.slice a5 I.length c5) I rfl (unhide HI7) (.slice (some ⟨rb, 0, none⟩) R.length rc) R rfl (unhide HS7) ?z64 ?z44 ?_)
    case z64 => omega
    try (case z44 => exact unhide HSZ7)
    intro v6 w6 hO6 hG6 hF6 hE6
    have HN8 : Hid (Below W2.heap.size W2 w6) := hide ((unhide HN7).grown hG6 (unhide HN7).size (fun q e => by have h1 := (World.ownsRow.lt (unhide HI7) q e).1; have h3 := (unhide HN5).size; omega))
    have HO8 : Hid (OwnB w6 W2.heap.size (.slice ha A.length hc) A) := hide ((unhide HO7).keep (Kept.of_grown hG6) (fun q e e2 => by
      have h1 := (World.ownsRow.lt (unhide HO5) q e).2
      have h3 := (World.ownsRow.lt (unhide HI7) q e2.symm).1
      omega))
    have HI8 := hide hO6
    obtain ⟨J, hJ⟩ : ∃ J, J = I ++ R := ⟨_, rfl⟩
    rw [← hJ] at HI8
    obtain ⟨a6, c6, hv6, -⟩ := (unhide HI8).at
    subst hv6
    have HJ := hide hJ
    have hr0 : w6.cell? ⟨rb, 0, none⟩ = some (.int .u8 (at8 R 0)) := by
      obtain ⟨a', c', e', h', _⟩ := ((unhide HRI).below (unhide HN8)).atN
      injection e' with e' _ _
      obtain ⟨b', off', e2, hc'⟩ := h' 0 (by omega)
      rw [← e'] at e2
      injection e2 with e2
      injection e2 with e2 e3
      subst e2 e3
      exact hc'
    have hX6 := (unhide HX6).below (unhide HN8)
    have z0 := hX6.c 0 rfl
    have z1 := hX6.c 1 rfl
    have f0 := hX6.f 0
    have f1 := hX6.f 1
    have HX8 := hide hX6
    clear hO6 hG6 hF6 hE6 hJ hX6 HI7 HS7 HO7 HN7 HSZ7 y0 y0b y1
    have hrn : ¬ rb = w.heap.size + 1 := by omega
    have hl6 : w.heap.size + 1 < w6.heap.size := (unhide HX8).lt
    have hn6 : ¬ w.heap.size + 1 = w6.heap.size := by omega
    have bA : Below w6.heap.size w6 (w6.alloc (.cells #[.int .u8 (at8 R 0)] 5)) := (Below.refl _ _).alloc (Nat.le_refl _) _
    have bB : Below w6.heap.size w6 ((w6.alloc (.cells #[.int .u8 (at8 R 0)] 5)).alloc (.cells #[.int .i64 ((I.length : Nat) : Int), .slice ha A.length hc, .int .i64 ((I.length : Nat) : Int), .slice (some ⟨w6.heap.size, 0, none⟩) 1 1] 66)) := bA.alloc bA.size _
    have zA0 := ((unhide HX8).below bA).c 0 rfl
    have zA1 := ((unhide HX8).below bA).c 1 rfl
    have fA0 := ((unhide HX8).below bA).f 0
    have fA1 := ((unhide HX8).below bA).f 1
    have zB0 := ((unhide HX8).below bB).c 0 rfl
    have zB1 := ((unhide HX8).below bB).c 1 rfl
    have fB0 := ((unhide HX8).below bB).f 0
    have fB1 := ((unhide HX8).below bB).f 1
    clear bA bB
    have hrp : 0 < R.length := by omega
    have HFIN : Hid (∀ W9 : World, Bx W9 (w.heap.size + 1) 28 #[.slice a6 J.length c6, .slice l2 n2 c2] ∧ OwnB W9 W2.heap.size (.slice ha A.length hc) A ∧ OwnB W9 w4.heap.size (.slice a6 J.length c6) J ∧ Bx W9 (w6.heap.size + 1) 66 #[.int .i64 ((I.length : Nat) : Int), .slice ha A.length hc, .int .i64 ((I.length : Nat) : Int), .slice (some ⟨w6.heap.size, 0, none⟩) 1 1] ∧ OwnB W9 w6.heap.size (.slice (some ⟨w6.heap.size, 0, none⟩) 1 1) [R.getD 0 0] ∧ Below w.heap.size w W9 → LaidPost w (.slice xa I.length xc) (.slice la ln lc) (.slice l2 n2 c2) I R (.returned (.tuple #[.agg #[.slice a6 J.length c6, .slice l2 n2 c2], .slice (some ⟨w6.heap.size + 1, 0, none⟩) 2 2, .int .i64 0])) W9) := hide (fun W9 ⟨p1, p2, p3, p4, p5, p6⟩ => by
      have s1 := unhide HSZ
      have s2 := (unhide HN5).size
      have s3 := (unhide HN8).size
      refine ⟨p6, Or.inr ⟨by omega, _, _, rfl, ?_, ?_⟩⟩
      · rw [← unhide HJ]; exact p3.mono (by omega)
      · rw [← unhide HA]
        exact ⟨w6.heap.size + 1, ha, hc, some ⟨w6.heap.size, 0, none⟩, 1, rfl, by omega, p4, p2.mono (by omega), p5.mono (by omega)⟩)
    have HB6 := hide ((unhide HB2).trans ((unhide HN8).mono (unhide HB2).size))
    have HNE : Hid ((∀ q, (Value.slice ha A.length hc).ownBlock = some q → q ≠ w.heap.size + 1) ∧ (∀ q, (Value.slice a6 J.length c6).ownBlock = some q → q ≠ w.heap.size + 1)) := hide ⟨fun q e => by have h1 := (World.ownsRow.lt (unhide HO8) q e).1; have := unhide HSZ; omega, fun q e => by have h1 := (World.ownsRow.lt (unhide HI8) q e).1; have := unhide HSZ; have := (unhide HN5).size; omega⟩
    go_wp2_with fail
    go_region
    all_goals clear zA0 zA1 fA0 fA1 zB0 zB1 fB0 fB1 z0 z1 f0 f1 hr0
    rotate_left
    · have hk := (kept_setCell w6 ⟨w.heap.size + 1, 0, none⟩ (.slice a6 J.length c6)).trans (U := fun q => q = w.heap.size + 1) (kept_setCell (w6.setCell ⟨w.heap.size + 1, 0, none⟩ (.slice a6 J.length c6)) ⟨w.heap.size + 1, 1, none⟩ (.slice l2 n2 c2)) (fun _ _ h => h) (fun _ _ h => h)
      have q1 : Bx ((w6.setCell ⟨w.heap.size + 1, 0, none⟩ (.slice a6 J.length c6)).setCell ⟨w.heap.size + 1, 1, none⟩ (.slice l2 n2 c2)) (w.heap.size + 1) 28 #[.slice a6 J.length c6, .slice l2 n2 c2] := ((unhide HX8).set 0 (.slice a6 J.length c6) (cs' := #[.slice a6 J.length c6, .slice none 0 0]) rfl).set 1 (.slice l2 n2 c2) rfl
      have q2 := (unhide HO8).keep hk (unhide HNE).1
      have q3 := (unhide HI8).keep hk (unhide HNE).2
      have q6 : Below w.heap.size w ((w6.setCell ⟨w.heap.size + 1, 0, none⟩ (.slice a6 J.length c6)).setCell ⟨w.heap.size + 1, 1, none⟩ (.slice l2 n2 c2)) := ((unhide HB6).setCell (p := ⟨w.heap.size + 1, 0, none⟩) (Nat.le_add_right _ _) _).setCell (p := ⟨w.heap.size + 1, 1, none⟩) (Nat.le_add_right _ _) _
      have qs : ((w6.setCell ⟨w.heap.size + 1, 0, none⟩ (.slice a6 J.length c6)).setCell ⟨w.heap.size + 1, 1, none⟩ (.slice l2 n2 c2)).heap.size = w6.heap.size := by simp [World.setCell]
      have HQ := hide (And.intro q1 (And.intro q2 (And.intro q3 (And.intro q6 qs))))
      clear hk q1 q2 q3 q6 qs
      generalize ((w6.setCell ⟨w.heap.size + 1, 0, none⟩ (.slice a6 J.length c6)).setCell ⟨w.heap.size + 1, 1, none⟩ (.slice l2 n2 c2)) = V at HQ ⊢
      obtain ⟨q1, q2, q3, q6, qs⟩ := unhide HQ
      have bA : Below V.heap.size V (V.alloc (.cells #[.int .u8 (at8 R 0)] 5)) := (Below.refl _ _).alloc (Nat.le_refl _) _
      have bB : Below (V.alloc (.cells #[.int .u8 (at8 R 0)] 5)).heap.size (V.alloc (.cells #[.int .u8 (at8 R 0)] 5)) ((V.alloc (.cells #[.int .u8 (at8 R 0)] 5)).alloc (.cells #[.int .i64 ((I.length : Nat) : Int), .slice ha A.length hc, .int .i64 ((I.length : Nat) : Int), .slice (some ⟨w6.heap.size, 0, none⟩) 1 1] 66)) := (Below.refl _ _).alloc (Nat.le_refl _) _
      have r4 : Bx ((V.alloc (.cells #[.int .u8 (at8 R 0)] 5)).alloc (.cells #[.int .i64 ((I.length : Nat) : Int), .slice ha A.length hc, .int .i64 ((I.length : Nat) : Int), .slice (some ⟨w6.heap.size, 0, none⟩) 1 1] 66)) (w6.heap.size + 1) 66 #[.int .i64 ((I.length : Nat) : Int), .slice ha A.length hc, .int .i64 ((I.length : Nat) : Int), .slice (some ⟨w6.heap.size, 0, none⟩) 1 1] := by
        have := heap_alloc_new (V.alloc (.cells #[.int .u8 (at8 R 0)] 5)) (.cells #[.int .i64 ((I.length : Nat) : Int), .slice ha A.length hc, .int .i64 ((I.length : Nat) : Int), .slice (some ⟨w6.heap.size, 0, none⟩) 1 1] 66)
        rw [World.size_alloc, qs] at this
        exact this
      have r5 : OwnB ((V.alloc (.cells #[.int .u8 (at8 R 0)] 5)).alloc (.cells #[.int .i64 ((I.length : Nat) : Int), .slice ha A.length hc, .int .i64 ((I.length : Nat) : Int), .slice (some ⟨w6.heap.size, 0, none⟩) 1 1] 66)) w6.heap.size (.slice (some ⟨w6.heap.size, 0, none⟩) 1 1) [R.getD 0 0] := by
        have := (one_own V (R.getD 0 0)).below bB
        rw [qs] at this
        exact this
      have p1 := (q1.below bA).below bB
      have p2 := (q2.below bA).below bB
      have p3 := (q3.below bA).below bB
      have p6 : Below w.heap.size w ((V.alloc (.cells #[.int .u8 (at8 R 0)] 5)).alloc (.cells #[.int .i64 ((I.length : Nat) : Int), .slice ha A.length hc, .int .i64 ((I.length : Nat) : Int), .slice (some ⟨w6.heap.size, 0, none⟩) 1 1] 66)) := (q6.alloc q6.size _).alloc (by have := q6.size; simp; omega) _
      have HF := hide (unhide HFIN (((V.alloc (.cells #[.int .u8 (at8 R 0)] 5)).alloc (.cells #[.int .i64 ((I.length : Nat) : Int), .slice ha A.length hc, .int .i64 ((I.length : Nat) : Int), .slice (some ⟨w6.heap.size, 0, none⟩) 1 1] 66)).drew) ⟨p1, p2, p3, r4, r5, p6.drew⟩)
      have HR9 : Hid (Bx (((V.alloc (.cells #[.int .u8 (at8 R 0)] 5)).alloc (.cells #[.int .i64 ((I.length : Nat) : Int), .slice ha A.length hc, .int .i64 ((I.length : Nat) : Int), .slice (some ⟨w6.heap.size, 0, none⟩) 1 1] 66)).drew) (w.heap.size + 1) 28 #[.slice a6 J.length c6, .slice l2 n2 c2]) := hide p1
      clear bA bB r4 r5 q1 q2 q3 q6 qs p1 p2 p3 p6
      go_wp2
      exact bodyPost_ret (v := .tuple #[.agg #[.slice a6 J.length c6, .slice l2 n2 c2], .slice (some ⟨w6.heap.size + 1, 0, none⟩) 2 2, .int .i64 0]) (results_st3 rfl _ _ (w.heap.size + 1) _ _ _ _ rfl rfl rfl (unhide HR9)) rfl (unhide HF)
    · have bA : Below w6.heap.size w6 (w6.alloc (.cells #[.int .u8 (at8 R 0)] 5)) := (Below.refl _ _).alloc (Nat.le_refl _) _
      have bB : Below (w6.alloc (.cells #[.int .u8 (at8 R 0)] 5)).heap.size (w6.alloc (.cells #[.int .u8 (at8 R 0)] 5)) ((w6.alloc (.cells #[.int .u8 (at8 R 0)] 5)).alloc (.cells #[.int .i64 ((I.length : Nat) : Int), .slice ha A.length hc, .int .i64 ((I.length : Nat) : Int), .slice (some ⟨w6.heap.size, 0, none⟩) 1 1] 66)) := (Below.refl _ _).alloc (Nat.le_refl _) _
      have r4 : Bx ((w6.alloc (.cells #[.int .u8 (at8 R 0)] 5)).alloc (.cells #[.int .i64 ((I.length : Nat) : Int), .slice ha A.length hc, .int .i64 ((I.length : Nat) : Int), .slice (some ⟨w6.heap.size, 0, none⟩) 1 1] 66)) (w6.heap.size + 1) 66 #[.int .i64 ((I.length : Nat) : Int), .slice ha A.length hc, .int .i64 ((I.length : Nat) : Int), .slice (some ⟨w6.heap.size, 0, none⟩) 1 1] := by
        have := heap_alloc_new (w6.alloc (.cells #[.int .u8 (at8 R 0)] 5)) (.cells #[.int .i64 ((I.length : Nat) : Int), .slice ha A.length hc, .int .i64 ((I.length : Nat) : Int), .slice (some ⟨w6.heap.size, 0, none⟩) 1 1] 66)
        rw [World.size_alloc] at this
        exact this
      have r5 : OwnB ((w6.alloc (.cells #[.int .u8 (at8 R 0)] 5)).alloc (.cells #[.int .i64 ((I.length : Nat) : Int), .slice ha A.length hc, .int .i64 ((I.length : Nat) : Int), .slice (some ⟨w6.heap.size, 0, none⟩) 1 1] 66)) w6.heap.size (.slice (some ⟨w6.heap.size, 0, none⟩) 1 1) [R.getD 0 0] := (one_own w6 (R.getD 0 0)).below bB
      have q1 := ((unhide HX8).below bA).below bB
      have q2 := ((unhide HO8).below bA).below bB
      have q3 := ((unhide HI8).below bA).below bB
      have q6 := ((unhide HB6).trans (bA.mono (unhide HB6).size)).trans (bB.mono (by have := (unhide HB6).size; simp; omega))
      have HQ := hide (And.intro q1 (And.intro q2 (And.intro q3 (And.intro r4 (And.intro r5 q6)))))
      clear bA bB r4 r5 q1 q2 q3 q6
      generalize ((w6.alloc (.cells #[.int .u8 (at8 R 0)] 5)).alloc (.cells #[.int .i64 ((I.length : Nat) : Int), .slice ha A.length hc, .int .i64 ((I.length : Nat) : Int), .slice (some ⟨w6.heap.size, 0, none⟩) 1 1] 66)) = V at HQ ⊢
      obtain ⟨q1, q2, q3, r4, r5, q6⟩ := unhide HQ
      have hk := (kept_setCell V ⟨w.heap.size + 1, 0, none⟩ (.slice a6 J.length c6)).trans (U := fun q => q = w.heap.size + 1) (kept_setCell (V.setCell ⟨w.heap.size + 1, 0, none⟩ (.slice a6 J.length c6)) ⟨w.heap.size + 1, 1, none⟩ (.slice l2 n2 c2)) (fun _ _ h => h) (fun _ _ h => h)
      have p1 : Bx ((V.setCell ⟨w.heap.size + 1, 0, none⟩ (.slice a6 J.length c6)).setCell ⟨w.heap.size + 1, 1, none⟩ (.slice l2 n2 c2)) (w.heap.size + 1) 28 #[.slice a6 J.length c6, .slice l2 n2 c2] := (q1.set 0 (.slice a6 J.length c6) (cs' := #[.slice a6 J.length c6, .slice none 0 0]) rfl).set 1 (.slice l2 n2 c2) rfl
      have p4 := (r4.other ⟨w.heap.size + 1, 0, none⟩ (.slice a6 J.length c6) (by show w6.heap.size + 1 ≠ w.heap.size + 1; omega)).other ⟨w.heap.size + 1, 1, none⟩ (.slice l2 n2 c2) (by show w6.heap.size + 1 ≠ w.heap.size + 1; omega)
      have p2 := q2.keep hk (unhide HNE).1
      have p3 := q3.keep hk (unhide HNE).2
      have p5 := r5.keep hk (fun q e e2 => by have h1 := (World.ownsRow.lt r5 q e).1; have h3 : q = w.heap.size + 1 := e2; omega)
      have p6 : Below w.heap.size w ((V.setCell ⟨w.heap.size + 1, 0, none⟩ (.slice a6 J.length c6)).setCell ⟨w.heap.size + 1, 1, none⟩ (.slice l2 n2 c2)) := (q6.setCell (p := ⟨w.heap.size + 1, 0, none⟩) (Nat.le_add_right _ _) _).setCell (p := ⟨w.heap.size + 1, 1, none⟩) (Nat.le_add_right _ _) _
      have HF := hide (unhide HFIN (((V.setCell ⟨w.heap.size + 1, 0, none⟩ (.slice a6 J.length c6)).setCell ⟨w.heap.size + 1, 1, none⟩ (.slice l2 n2 c2)).drew) ⟨p1, p2, p3, p4, p5, p6.drew⟩)
      have HR9 : Hid (Bx (((V.setCell ⟨w.heap.size + 1, 0, none⟩ (.slice a6 J.length c6)).setCell ⟨w.heap.size + 1, 1, none⟩ (.slice l2 n2 c2)).drew) (w.heap.size + 1) 28 #[.slice a6 J.length c6, .slice l2 n2 c2]) := hide p1
      clear hk p1 p2 p3 p4 p5 p6 q1 q2 q3 r4 r5 q6
      go_wp2
      exact bodyPost_ret (v := .tuple #[.agg #[.slice a6 J.length c6, .slice l2 n2 c2], .slice (some ⟨w6.heap.size + 1, 0, none⟩) 2 2, .int .i64 0]) (results_st3 rfl _ _ (w.heap.size + 1) _ _ _ _ rfl rfl rfl (unhide HR9)) rfl (unhide HF)
end Go.Proofs.Ytkcnkfhdbjiggaa
