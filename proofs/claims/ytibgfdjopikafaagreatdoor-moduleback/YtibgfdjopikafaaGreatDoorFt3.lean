/-
  fault.in: the fault that a panic bore; fault.Catch: nil, or the fault with which the work gave up. Conditions: errors.errorType is laid.
-/
import Derived.Test.YtibgfdjopikafaaGreatDoorFt2
import Derived.Deep.Cut
import Derived.Defers
import Derived.Recover
namespace Go.Proofs.YtibgfdjopikafaaGreatDoor
open Go.RowKit Go.Extern.Stop Go.Stop Go.Extern
set_option maxRecDepth 20000
set_option linter.unusedVariables false

theorem ft_assert (a e : Int) (W : World) : (Instr.typeAssert (.iface 70 (.agg #[.int .i64 a, .int .i64 e])) 20 61 true).run Tryz.prog W = .ok (.tuple #[.iface 70 (.agg #[.int .i64 a, .int .i64 e]), .bool true]) W := by kernel_rfl
set_option maxHeartbeats 2000000 in
theorem in_any (a e : Int) (w : World) (hE : ErrAt w) : Calls Tryz.prog 45 #[fltV a e] w fun x w' => x = .returned (fltV a e) ∧ Below w.heap.size w w' := by
  have al := (Below.refl w.heap.size w).alloc (Nat.le_refl _) (.cells #[.int .i64 0, .int .i64 0] 70)
  have HX : Hid (Bx (w.alloc (.cells #[.int .i64 0, .int .i64 0] 70)) w.heap.size 70 #[.int .i64 0, .int .i64 0]) := hide (heap_alloc_new w _)
  have HB := hide al
  have HE := hide (hE.below al)
  have hta := ft_assert a e
  clear al hE
  unfold fltV
  go_enter Tryz.func45, Tryz.ntmps45
  go_upto_region 2 with fail
  generalize (w.alloc (.cells #[.int .i64 0, .int .i64 0] 70)) = W1 at HB HX HE ⊢
  go_wp2_with fail
  refine (As_hit w.heap.size a e _ _ W1 (unhide HE) (unhide HX)).mono ?_
  rintro x W2 ⟨rfl, hw⟩
  have HB2 : Hid (Below w.heap.size w W2) := hide (by rw [hw]; exact (unhide HB).trans (as_bel (Nat.le_refl _) (unhide HB).size))
  have HX2 : Hid (Bx W2 w.heap.size 70 #[.int .i64 a, .int .i64 e]) := hide (by rw [hw]; exact as_box (unhide HX))
  clear hw
  have k0 := (unhide HX2).c 0 rfl
  have k1 := (unhide HX2).c 1 rfl
  go_wp2
  go_ret
  exact ⟨rfl, unhide HB2⟩
/-- The deferred function of Catch, of a frame that panics with a fault. -/
theorem catch_panics (B g : Nat) (a e : Int) (x : Value) (older : List PanicEntry) (w : World) (hE : ErrAt w) (hg : Bx w g 61 #[x]) (hB : B ≤ g) (hl : B ≤ w.heap.size) :
    CallsD Tryz.prog 44 #[.pointer (some ⟨g, 0, none⟩)] (.panicking ({ v := fltV a e, recovered := false } :: older)) w fun y u' w' =>
      y = .returned (.tuple #[]) ∧ u' = .panicking ({ v := fltV a e, recovered := true } :: older) ∧ Bx w' g 61 #[fltV a e] ∧ Below B w w' := by
  have HX := hide hg
  have HI := hide (in_any a e w hE)
  clear hg hE
  unfold fltV at *
  refine callsD_of_wpS Tryz.func44 rfl fun c₀ cs hu => ?_
  apply wpS_seq
  apply wpS_region
  simp [wpOpsS, go_sem, recoverD, hu, Tryz.ntmps44, Exit.thenS]
  apply wpS_seq
  apply wpS_region
  simp [wpOpsS, go_sem, Exit.thenS]
  refine wpS_cond (t := true) (by simp [Act.eval, Array.replicate]) ?_
  simp only [if_true]
  refine wpS_of_wp ?_
  go_simp
  go_wp2_with fail
  refine (unhide HI).mono ?_
  rintro y W ⟨rfl, hb⟩
  have HX2 := hide ((unhide HX).below hb)
  have HB2 := hide (hb.mono hl)
  clear hb
  have k0 := (unhide HX2).c 0 rfl
  have f0 := (unhide HX2).f 0
  have HX3 : Hid (Bx (W.setCell ⟨g, 0, none⟩ (.iface 70 (.agg #[.int .i64 a, .int .i64 e]))) g 61 #[.iface 70 (.agg #[.int .i64 a, .int .i64 e])]) := hide ((unhide HX2).set 0 _ rfl)
  have HB3 := hide ((unhide HB2).setCell (p := ⟨g, 0, none⟩) hB (.iface 70 (.agg #[.int .i64 a, .int .i64 e])))
  go_wp2
  cases c₀
  simp [bodyPostS, results, Tryz.results44]
  exact ⟨unhide HX3, unhide HB3⟩
/-- Of a frame that returns: nothing is turned. -/
theorem catch_idle (p : Addr) (w : World) :
    CallsD Tryz.prog 44 #[.pointer (some p)] .returning w fun e u' w' => e = .returned (.tuple #[]) ∧ u' = .returning ∧ w' = w := by
  refine callsD_of_wpS Tryz.func44 rfl fun c₀ cs hu => ?_
  apply wpS_seq
  apply wpS_region
  simp [wpOpsS, go_sem, recoverD, hu, Tryz.ntmps44, Exit.thenS]
  apply wpS_seq
  apply wpS_region
  simp [wpOpsS, go_sem, Exit.thenS]
  refine wpS_cond (t := false) (by simp [Act.eval, Array.replicate]) ?_
  simp only [Bool.false_eq_true, if_false]
  refine wpS_of_wp (wp_skip ?_)
  cases c₀
  simp_all [bodyPostS, results, Tryz.results44]
def EntersF (n : Nat) : Prop := ∀ (args : Array Value) (W : World), (callFunc n args).run Tryz.prog W = .ok (.enter n args) W
/-- Catch of a work: what it comes to, from what the work comes to behind the new variable for the error. -/
theorem Catch_any (k : Nat) (caps : Array Value) (w : World) (Q : Ending → World → Prop) (hk : EntersF k)
    (hc : Calls Tryz.prog k caps (w.alloc (.cells #[.nilIface] 61)) Q)
    (hq : ∀ e W, Q e W → (e = .returned (.tuple #[]) ∨ ∃ a er : Int, e = .panicked [{ v := fltV a er, recovered := false }]) ∧ Bx W w.heap.size 61 #[.nilIface] ∧ ErrAt W) :
    Calls Tryz.prog 24 #[.func (.func k) #[] caps] w fun e w' => ∃ e0 W, Q e0 W ∧ Bx W w.heap.size 61 #[.nilIface] ∧ ((e0 = .returned (.tuple #[]) ∧ e = .returned .nilIface ∧ w' = W.setCell ⟨w.heap.size, 0, none⟩ .nilIface) ∨ (∃ a er : Int, e0 = .panicked [{ v := fltV a er, recovered := false }] ∧ e = .returned (fltV a er) ∧ Below w.heap.size W w')) := by
  have hmf : ∀ (fn : Fn) (first cap : Array Value) (w : World), (Instr.makeFunc fn first cap).run Tryz.prog w = .ok (.func fn first cap) w := fun _ _ _ _ => rfl
  have HC := hide hc
  have HQ := hide hq
  unfold EntersF at hk
  clear hc hq
  go_enter_defers Tryz.func24, Tryz.ntmps24
  go_wp2_with fail
  refine (unhide HC).mono ?_
  rintro e0 W hQe
  obtain ⟨ho, hbx, hE⟩ := (unhide HQ) e0 W hQe
  have HX := hide hbx
  have HE := hide hE
  rcases ho with rfl | ⟨a, er, rfl⟩
  · have HQE := hide hQe
    have k0 := hbx.c 0 rfl
    have f0 := hbx.f 0
    clear hbx hE hQe
    go_wp2
    refine leaves_cons (f := 44) (args := #[.pointer (some ⟨w.heap.size, 0, none⟩)]) (by simp) (by simp [go_sem]) ?_
    refine (catch_idle ⟨w.heap.size, 0, none⟩ _).mono ?_
    rintro e u' w'' ⟨rfl, rfl, rfl⟩
    have c1 : (W.setCell ⟨w.heap.size, 0, none⟩ .nilIface).cell? ⟨w.heap.size, 0, none⟩ = some .nilIface := ((unhide HX).set (cs' := #[.nilIface]) 0 .nilIface rfl).c 0 rfl
    simp [Leaves, settle, results, Tryz.results24, go_sem, c1]
    exact ⟨_, W, unhide HQE, unhide HX, Or.inl ⟨rfl, rfl⟩⟩
  · have HQE := hide hQe
    clear hbx hE hQe
    refine leaves_cons (f := 44) (args := #[.pointer (some ⟨w.heap.size, 0, none⟩)]) (by simp) (by simp [go_sem]) ?_
    refine (catch_panics w.heap.size w.heap.size a er .nilIface [] W (unhide HE) (unhide HX) (Nat.le_refl _) (Nat.le_of_lt (unhide HX).lt)).mono ?_
    rintro e u' w'' ⟨rfl, rfl, hx, hb⟩
    have c1 := hx.c 0 rfl
    simp [Leaves, settle, results, Tryz.results24, go_sem, c1]
    exact ⟨_, W, unhide HQE, unhide HX, Or.inr ⟨a, er, rfl, rfl, hb⟩⟩
end Go.Proofs.YtibgfdjopikafaaGreatDoor
