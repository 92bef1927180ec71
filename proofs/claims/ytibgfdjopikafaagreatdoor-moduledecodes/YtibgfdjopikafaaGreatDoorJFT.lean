/-
  Texts of contracts and plain lemmas, one behind another; each says at its head what it holds.
-/
import Derived.Test.YtibgfdjopikafaaGreatDoorMem
import Derived.Test.YtibgfdjopikafaaGreatDoorBx1
import Derived.WalkKit
import Derived.LaidEql
import Derived.Stop.Asserts
import Derived.RowKitTokens
import Derived.Deep.Cut
import Derived.Defers
import Derived.Recover
/-
  errors.As of a fault that was panicked with, at a fault's variable: it is found, and laid there. Conditions: errors.errorType is laid; the variable is a box of its own.
-/
namespace Go.Proofs.YtibgfdjopikafaaGreatDoor
open Go.RowKit Go.Extern.Stop Go.Stop Go.Extern
set_option maxRecDepth 20000
set_option linter.unusedVariables false

/-- errors.errorType is laid: the handle of the type error. -/
def ErrAt (W : World) : Prop := W.cell? ⟨0, 0, none⟩ = some (.iface 151 (.agg #[.pointer (some ⟨2, 61, none⟩)]))
theorem ErrAt.below {W w : World} (h : ErrAt W) (hb : Below W.heap.size W w) : ErrAt w := (hb.cell (p := ⟨0, 0, none⟩) (World.block_lt_of_cell? W _ h)).trans h
def fltV (a e : Int) : Value := .iface 70 (.agg #[.int .i64 a, .int .i64 e])
def rvV (a : Addr) : Value := .agg #[.pointer (some ⟨2, 73, none⟩), .pointer (some a), .int .u64 150]
theorem ft_valueOf (t : Addr) (w : World) : (ReflectliteValue.unpack (.iface 73 (.pointer (some t)))).run Tryz.prog w
    = .ok (.agg #[.pointer (some ⟨2, 73, none⟩), .pointer (some ⟨w.heap.size, 0, none⟩), .int .u64 150]) (w.alloc (.cells #[.pointer (some t)] 73)) := by kernel_rfl
theorem ft_type (a : Addr) (w : World) : (ReflectliteValue.methodAny (ReflectliteValue.valueError "reflectlite.Value.Type" 0) (fun t _ _ _ => ReflectliteType.toType t) #[.agg #[.pointer (some ⟨2, 73, none⟩), .pointer (some a), .int .u64 150]]).run Tryz.prog w
    = .ok (.iface 151 (.agg #[.pointer (some ⟨2, 73, none⟩)])) w := by kernel_rfl
theorem ft_mKind (n : Nat) (h : Value) (w : World) : (Go.method (n + 1) 151 (.agg #[h]) "Kind").run Tryz.prog w = .ok (166, h) w := by kernel_rfl
theorem ft_kindP (w : World) : ((ReflectliteType.abiMethod fun t => (fun a : Nat => Value.int IntKind.u8 (a : Int)) <$> Rtype.kind t) #[.pointer (some ⟨2, 73, none⟩)]).run Tryz.prog w = .ok (.int .u8 22) w := by kernel_rfl
theorem ft_kindF (w : World) : ((ReflectliteType.abiMethod fun t => (fun a : Nat => Value.int IntKind.u8 (a : Int)) <$> Rtype.kind t) #[.pointer (some ⟨2, 70, none⟩)]).run Tryz.prog w = .ok (.int .u8 25) w := by kernel_rfl
theorem ft_rlm (z : Sem Value) (f : TypeId → Addr → Nat → Nat → Sem Value) (v : Value) :
    ReflectliteValue.method z f #[v] = (do match ← ReflectliteValue.parts v with | none => z | some (t, a, fl) => f t a fl (fl % 32)) := rfl
theorem ft_parts (a : Addr) (w : World) : (ReflectliteValue.parts (.agg #[.pointer (some ⟨2, 73, none⟩), .pointer (some a), .int .u64 150])).run Tryz.prog w = .ok (some (73, a, 150)) w := by kernel_rfl
theorem ft_isNil (a p : Addr) (W : World) (ha : W.cell? a = some (.pointer (some p))) :
    (ReflectliteValue.method (ReflectliteValue.valueError "reflectlite.Value.IsNil" 0) ReflectliteValue.isNil #[.agg #[.pointer (some ⟨2, 73, none⟩), .pointer (some a), .int .u64 150]]).run Tryz.prog W = .ok (.bool false) W := by
  rw [ft_rlm]
  simp only [Sem.run_bind, ft_parts, Result.andThen]
  simp [ReflectliteValue.isNil, loadVar, isAgg, underlying, Tryz.underlying73, ha, Result.andThen]
theorem ft_mElem (n : Nat) (h : Value) (w : World) : (Go.method (n + 1) 151 (.agg #[h]) "Elem").run Tryz.prog w = .ok (178, .agg #[h]) w := by kernel_rfl
theorem ft_mImpl (n : Nat) (h : Value) (w : World) : (Go.method (n + 1) 151 (.agg #[h]) "Implements").run Tryz.prog w = .ok (179, .agg #[h]) w := by kernel_rfl
theorem ft_mAssign (n : Nat) (h : Value) (w : World) : (Go.method (n + 1) 151 (.agg #[h]) "AssignableTo").run Tryz.prog w = .ok (176, .agg #[h]) w := by kernel_rfl
theorem ft_elem (w : World) : (ReflectliteType.method ReflectliteType.elem #[.agg #[.pointer (some ⟨2, 73, none⟩)]]).run Tryz.prog w = .ok (.iface 151 (.agg #[.pointer (some ⟨2, 70, none⟩)])) w := by kernel_rfl
theorem ft_impl (w : World) : (ReflectliteType.relation "Implements" ReflectliteType.implements_ #[.agg #[.pointer (some ⟨2, 70, none⟩)], .iface 151 (.agg #[.pointer (some ⟨2, 61, none⟩)])]).run Tryz.prog w = .ok (.bool true) w := by kernel_rfl
theorem ft_typeOf (v : Value) (w : World) : (ReflectliteType.typeOf #[.iface 70 v]).run Tryz.prog w = .ok (.iface 151 (.agg #[.pointer (some ⟨2, 70, none⟩)])) w := by kernel_rfl
theorem ft_assign (w : World) : (ReflectliteType.relation "AssignableTo" ReflectliteType.assignableTo #[.agg #[.pointer (some ⟨2, 70, none⟩)], .iface 151 (.agg #[.pointer (some ⟨2, 70, none⟩)])]).run Tryz.prog w = .ok (.bool true) w := by kernel_rfl
theorem ft_valueF (a e : Int) (w : World) : (ReflectliteValue.unpack (.iface 70 (.agg #[.int .i64 a, .int .i64 e]))).run Tryz.prog w
    = .ok (.agg #[.pointer (some ⟨2, 70, none⟩), .pointer (some ⟨w.heap.size, 0, none⟩), .int .u64 153]) (w.alloc (.cells #[.int .i64 a, .int .i64 e] 70)) := by kernel_rfl
theorem ft_elemOf (w : World) : (Rtype.elem? 73).run Tryz.prog w = .ok (some 70) w := by kernel_rfl
theorem ft_mk (p : Addr) (w : World) : (ReflectliteValue.mk 70 p ReflectliteValue.flagAddr).run Tryz.prog w = .ok (.agg #[.pointer (some ⟨2, 70, none⟩), .pointer (some p), .int .u64 409]) w := by kernel_rfl
theorem ft_elemV (a p : Addr) (W : World) (ha : W.cell? a = some (.pointer (some p))) :
    (ReflectliteValue.method (ReflectliteValue.valueError "reflectlite.Value.Elem" 0) ReflectliteValue.elem #[.agg #[.pointer (some ⟨2, 73, none⟩), .pointer (some a), .int .u64 150]]).run Tryz.prog W
      = .ok (.agg #[.pointer (some ⟨2, 70, none⟩), .pointer (some p), .int .u64 409]) W := by
  rw [ft_rlm]
  simp only [Sem.run_bind, ft_parts, Result.andThen]
  simp [ReflectliteValue.elem, loadVar, isAgg, underlying, Tryz.underlying73, ha, Result.andThen, ft_elemOf, ft_mk]
theorem ft_rls (v x : Value) : ReflectliteValue.set #[v, x] = (do
    let (some (dst, a, fl), some (src, b, _)) := (← ReflectliteValue.parts v, ← ReflectliteValue.parts x)
      | unsupported (.noEntry "extern/(internal/reflectlite.Value).Set.zeroValue")
    if fl / ReflectliteValue.flagAddr % 2 == 0 then unsupported (.noEntry "extern/(internal/reflectlite.Value).Set.unaddressable")
    let val ← loadVar src b
    if ← Rtype.directlyAssignable dst src then storeVar dst a val
    else if ← Rtype.implements dst src then
      if (← Rtype.kind src) == 20 then
        match val with
        | .nilIface => unsupported (.noEntry "extern/reflectlite: a nil value of one interface type handed on as a value of another")
        | _ => storeVar dst a val
      else storeVar dst a (.iface src val)
    else panicString ("reflectlite.Set: value of type " ++ (← Rtype.spelt src) ++ " is not assignable to type " ++ (← Rtype.spelt dst))
    pure (.tuple #[])) := rfl
theorem ft_partsA (a : Addr) (w : World) : (ReflectliteValue.parts (.agg #[.pointer (some ⟨2, 70, none⟩), .pointer (some a), .int .u64 409])).run Tryz.prog w = .ok (some (70, a, 409)) w := by kernel_rfl
theorem ft_partsF (a : Addr) (w : World) : (ReflectliteValue.parts (.agg #[.pointer (some ⟨2, 70, none⟩), .pointer (some a), .int .u64 153])).run Tryz.prog w = .ok (some (70, a, 153)) w := by kernel_rfl
theorem ft_direct (w : World) : (Rtype.directlyAssignable 70 70).run Tryz.prog w = .ok true w := by kernel_rfl
theorem ft_set (g b : Nat) (a e : Int) (cs : Array Value) (W : World) (hb : Bx W b 70 #[.int .i64 a, .int .i64 e]) (x y : Value) (ht : Bx W g 70 #[x, y]) :
    (ReflectliteValue.set #[.agg #[.pointer (some ⟨2, 70, none⟩), .pointer (some ⟨g, 0, none⟩), .int .u64 409], .agg #[.pointer (some ⟨2, 70, none⟩), .pointer (some ⟨b, 0, none⟩), .int .u64 153]]).run Tryz.prog W
      = .ok (.tuple #[]) ((W.setCell ⟨g, 0, none⟩ (.int .i64 a)).setCell ⟨g, 1, none⟩ (.int .i64 e)) := by
  have h1 := run_loadVar_row W b 70 70 #[.int .i64 a, .int .i64 e] (0, 0) _ hb Tryz.underlying70 rfl (by kernel_rfl)
  have t0 := ht.c 0 rfl
  have t1 := (ht.set (cs' := #[.int .i64 a, y]) 0 (.int .i64 a) rfl).c 1 rfl
  have f0 := ht.f 0
  have f1 := (ht.set (cs' := #[.int .i64 a, y]) 0 (.int .i64 a) rfl).f 1
  rw [ft_rls]
  simp only [Sem.run_bind, ft_partsA, ft_partsF, Result.andThen]
  simp [ReflectliteValue.flagAddr, h1, Result.andThen, ft_direct, storeVar, Value.cells, storeCells, Addr.add]
  rw [run_store Tryz.prog W ⟨g, 0, none⟩ _ _ (by rfl)]
  simp [t0, f0]
  rw [run_store Tryz.prog _ ⟨g, 1, none⟩ _ _ (by rfl)]
  simp [t1, f1]
end Go.Proofs.YtibgfdjopikafaaGreatDoor

/-
  errors.As of a fault finds it; fault.in: the fault that a panic bore. Conditions: errors.errorType is laid.
-/
namespace Go.Proofs.YtibgfdjopikafaaGreatDoor
open Go.RowKit Go.Extern.Stop Go.Stop Go.Extern
set_option maxRecDepth 20000
set_option linter.unusedVariables false

def as4 (w : World) (g : Nat) (a e : Int) : World := (((w.alloc (.cells #[.pointer (some ⟨g, 0, none⟩)] 73)).alloc (.cells #[.pointer (some ⟨2, 73, none⟩), .pointer (some ⟨w.heap.size, 0, none⟩), .int .u64 150] 119)).alloc (.cells #[.pointer (some ⟨2, 73, none⟩), .pointer (some ⟨w.heap.size, 0, none⟩), .int .u64 150] 119)).alloc (.cells #[.int .i64 a, .int .i64 e] 70)
set_option maxHeartbeats 4000000 in
theorem As_hit (g : Nat) (a e : Int) (x y : Value) (w : World) (hE : ErrAt w) (hg : Bx w g 70 #[x, y]) :
    Calls Tryz.prog 36 #[.iface 70 (.agg #[.int .i64 a, .int .i64 e]), .iface 73 (.pointer (some ⟨g, 0, none⟩))] w fun ev w' => ev = .returned (.bool true) ∧ w' = ((as4 w g a e).setCell ⟨g, 0, none⟩ (.int .i64 a)).setCell ⟨g, 1, none⟩ (.int .i64 e) := by
  have h1 := @run_callFunc_extern Tryz.prog 74 _ (fun args => ReflectliteValue.unpack (args.getD 0 (.tuple #[]))) Tryz.func74 (by kernel_rfl) (by kernel_rfl) (by kernel_rfl) (by kernel_rfl)
  have h2 := @run_callFunc_extern Tryz.prog 75 _ (ReflectliteValue.methodAny (ReflectliteValue.valueError "reflectlite.Value.Type" 0) (fun t _ _ _ => ReflectliteType.toType t)) Tryz.func75 (by kernel_rfl) (by kernel_rfl) (by kernel_rfl) (by kernel_rfl)
  have h3 := @run_callFunc_extern Tryz.prog 76 _ (ReflectliteValue.method (ReflectliteValue.valueError "reflectlite.Value.IsNil" 0) ReflectliteValue.isNil) Tryz.func76 (by kernel_rfl) (by kernel_rfl) (by kernel_rfl) (by kernel_rfl)
  have h4 := @run_callFunc_extern Tryz.prog 166 _ (ReflectliteType.abiMethod fun t => do pure (.int .u8 (← Rtype.kind t))) Tryz.func166 (by kernel_rfl) (by kernel_rfl) (by kernel_rfl) (by kernel_rfl)
  have h5 := @run_callFunc_extern Tryz.prog 178 _ (ReflectliteType.method ReflectliteType.elem) Tryz.func178 (by kernel_rfl) (by kernel_rfl) (by kernel_rfl) (by kernel_rfl)
  have h6 := @run_callFunc_extern Tryz.prog 179 _ (ReflectliteType.relation "Implements" ReflectliteType.implements_) Tryz.func179 (by kernel_rfl) (by kernel_rfl) (by kernel_rfl) (by kernel_rfl)
  have h7 := @run_callFunc_extern Tryz.prog 111 _ ReflectliteType.typeOf Tryz.func111 (by kernel_rfl) (by kernel_rfl) (by kernel_rfl) (by kernel_rfl)
  have h8 := @run_callFunc_extern Tryz.prog 176 _ (ReflectliteType.relation "AssignableTo" ReflectliteType.assignableTo) Tryz.func176 (by kernel_rfl) (by kernel_rfl) (by kernel_rfl) (by kernel_rfl)
  have h9 := @run_callFunc_extern Tryz.prog 112 _ (ReflectliteValue.method (ReflectliteValue.valueError "reflectlite.Value.Elem" 0) ReflectliteValue.elem) Tryz.func112 (by kernel_rfl) (by kernel_rfl) (by kernel_rfl) (by kernel_rfl)
  have h10 := @run_callFunc_extern Tryz.prog 113 _ ReflectliteValue.set Tryz.func113 (by kernel_rfl) (by kernel_rfl) (by kernel_rfl) (by kernel_rfl)
  have tO := ft_typeOf
  have mA := ft_mAssign
  have aF := ft_assign
  have vF := ft_valueF
  have vP := ft_valueOf
  have f7 := ft_type
  have mK := ft_mKind
  have mE := ft_mElem
  have mI := ft_mImpl
  have kP := ft_kindP
  have kF := ft_kindF
  have eP := ft_elem
  have iF := ft_impl
  have hlt := hg.lt
  have hl0 : 0 < w.heap.size := World.block_lt_of_cell? w _ hE
  have n8 := ft_isNil ⟨w.heap.size, 0, none⟩ ⟨g, 0, none⟩ ((w.alloc (.cells #[.pointer (some ⟨g, 0, none⟩)] 73)).alloc (.cells #[.pointer (some ⟨2, 73, none⟩), .pointer (some ⟨w.heap.size, 0, none⟩), .int .u64 150] 119)) (by simp)
  have hg2 : ((w.alloc (.cells #[.pointer (some ⟨g, 0, none⟩)] 73)).alloc (.cells #[.pointer (some ⟨2, 73, none⟩), .pointer (some ⟨w.heap.size, 0, none⟩), .int .u64 150] 119)).cell? ⟨0, 0, none⟩ = some (.iface 151 (.agg #[.pointer (some ⟨2, 61, none⟩)])) := by
    rw [World.cell?_alloc_lt _ _ ⟨0, 0, none⟩ (by simp), World.cell?_alloc_lt _ _ ⟨0, 0, none⟩ hl0]; exact hE
  have el := ft_elemV ⟨w.heap.size, 0, none⟩ ⟨g, 0, none⟩ (((w.alloc (.cells #[.pointer (some ⟨g, 0, none⟩)] 73)).alloc (.cells #[.pointer (some ⟨2, 73, none⟩), .pointer (some ⟨w.heap.size, 0, none⟩), .int .u64 150] 119)).alloc (.cells #[.pointer (some ⟨2, 73, none⟩), .pointer (some ⟨w.heap.size, 0, none⟩), .int .u64 150] 119)) (by rw [World.cell?_alloc_lt _ _ ⟨w.heap.size, 0, none⟩ (by simp; omega)]; simp)
  have hb4 : Below w.heap.size w (as4 w g a e) := by unfold as4; exact ((((Below.refl _ _).alloc (Nat.le_refl _) _).alloc (by simp) _).alloc (by simp; omega) _).alloc (by simp; omega) _
  have hbx : Bx (as4 w g a e) (w.heap.size + 1 + 1 + 1) 70 #[.int .i64 a, .int .i64 e] := by
    have h := heap_alloc_new (((w.alloc (.cells #[.pointer (some ⟨g, 0, none⟩)] 73)).alloc (.cells #[.pointer (some ⟨2, 73, none⟩), .pointer (some ⟨w.heap.size, 0, none⟩), .int .u64 150] 119)).alloc (.cells #[.pointer (some ⟨2, 73, none⟩), .pointer (some ⟨w.heap.size, 0, none⟩), .int .u64 150] 119)) (.cells #[.int .i64 a, .int .i64 e] 70)
    rw [World.size_alloc, World.size_alloc, World.size_alloc] at h
    exact h
  have st := ft_set g (w.heap.size + 1 + 1 + 1) a e #[] (as4 w g a e) hbx x y (hg.below hb4)
  unfold as4 at st ⊢
  clear hE hg hl0 hlt hb4 hbx
  go_enter Tryz.func36, Tryz.ntmps36
  go_wp2
  refine wp_loop_rounds 1 ?_
  rw [rounds_succ]
  go_wp2
  go_ret
  exact ⟨rfl, rfl⟩
theorem as_bel {w : World} {g B : Nat} {a e : Int} (hB : B ≤ g) (hl : B ≤ w.heap.size) : Below B w (((as4 w g a e).setCell ⟨g, 0, none⟩ (.int .i64 a)).setCell ⟨g, 1, none⟩ (.int .i64 e)) := by
  have hb4 : Below w.heap.size w (as4 w g a e) := by unfold as4; exact ((((Below.refl _ _).alloc (Nat.le_refl _) _).alloc (by simp) _).alloc (by simp; omega) _).alloc (by simp; omega) _
  exact ((hb4.mono hl).setCell (p := ⟨g, 0, none⟩) hB _).setCell (p := ⟨g, 1, none⟩) hB _
theorem as_box {w : World} {g : Nat} {a e : Int} {x y : Value} (hg : Bx w g 70 #[x, y]) : Bx (((as4 w g a e).setCell ⟨g, 0, none⟩ (.int .i64 a)).setCell ⟨g, 1, none⟩ (.int .i64 e)) g 70 #[.int .i64 a, .int .i64 e] := by
  have hb4 : Below w.heap.size w (as4 w g a e) := by unfold as4; exact ((((Below.refl _ _).alloc (Nat.le_refl _) _).alloc (by simp) _).alloc (by simp; omega) _).alloc (by simp; omega) _
  exact ((hg.below hb4).set (cs' := #[.int .i64 a, y]) 0 _ rfl).set 1 _ rfl
end Go.Proofs.YtibgfdjopikafaaGreatDoor

/-
  fault.in: the fault that a panic bore; fault.Catch: nil, or the fault with which the work gave up. Conditions: errors.errorType is laid.
-/
namespace Go.Proofs.YtibgfdjopikafaaGreatDoor
open Go.RowKit Go.Extern.Stop Go.Stop Go.Extern
set_option maxRecDepth 20000
set_option linter.unusedVariables false

theorem ft_assert (a e : Int) (W : World) : (Instr.typeAssert (.iface 70 (.agg #[.int .i64 a, .int .i64 e])) 20 61 true).run Tryz.prog W = .ok (.tuple #[.iface 70 (.agg #[.int .i64 a, .int .i64 e]), .bool true]) W := by kernel_rfl
set_option maxHeartbeats 2000000 in
theorem in_any (a e : Int) (w : World) (hE : ErrAt w) : Calls Tryz.prog 45 #[fltV a e] w fun x w' => x = .returned (fltV a e) ∧ Below w.heap.size w w' := by
  have al := (Below.refl w.heap.size w).alloc (Nat.le_refl _) (.cells #[.int .i64 0, .int .i64 0] 70)
  have HX : Hid (Bx (w.alloc (.cells #[.int .i64 0, .int .i64 0] 70)) w.heap.size 70 #[.int .i64 0, .int .i64 0]) := hide (heap_alloc_new w _)
  have HB := hide al
  have HE := hide (hE.below al)
  have hta := ft_assert a e
  clear al hE
  unfold fltV
  go_enter Tryz.func45, Tryz.ntmps45
  go_upto_region 2 with fail
  generalize (w.alloc (.cells #[.int .i64 0, .int .i64 0] 70)) = W1 at HB HX HE ⊢
  go_wp2_with fail
  refine (As_hit w.heap.size a e _ _ W1 (unhide HE) (unhide HX)).mono ?_
  rintro x W2 ⟨rfl, hw⟩
  have HB2 : Hid (Below w.heap.size w W2) := hide (by rw [hw]; exact (unhide HB).trans (as_bel (Nat.le_refl _) (unhide HB).size))
  have HX2 : Hid (Bx W2 w.heap.size 70 #[.int .i64 a, .int .i64 e]) := hide (by rw [hw]; exact as_box (unhide HX))
  clear hw
  have k0 := (unhide HX2).c 0 rfl
  have k1 := (unhide HX2).c 1 rfl
  go_wp2
  go_ret
  exact ⟨rfl, unhide HB2⟩
/-- The deferred function of Catch, of a frame that panics with a fault. -/
theorem catch_panics (B g : Nat) (a e : Int) (x : Value) (older : List PanicEntry) (w : World) (hE : ErrAt w) (hg : Bx w g 61 #[x]) (hB : B ≤ g) (hl : B ≤ w.heap.size) :
    CallsD Tryz.prog 44 #[.pointer (some ⟨g, 0, none⟩)] (.panicking ({ v := fltV a e, recovered := false } :: older)) w fun y u' w' =>
      y = .returned (.tuple #[]) ∧ u' = .panicking ({ v := fltV a e, recovered := true } :: older) ∧ Bx w' g 61 #[fltV a e] ∧ Below B w w' := by
  have HX := hide hg
  have HI := hide (in_any a e w hE)
  clear hg hE
  unfold fltV at *
  refine callsD_of_wpS Tryz.func44 rfl fun c₀ cs hu => ?_
  apply wpS_seq
  apply wpS_region
  simp [wpOpsS, go_sem, recoverD, hu, Tryz.ntmps44, Exit.thenS]
  apply wpS_seq
  apply wpS_region
  simp [wpOpsS, go_sem, Exit.thenS]
  refine wpS_cond (t := true) (by simp [Act.eval, Array.replicate]) ?_
  simp only [if_true]
  refine wpS_of_wp ?_
  go_simp
  go_wp2_with fail
  refine (unhide HI).mono ?_
  rintro y W ⟨rfl, hb⟩
  have HX2 := hide ((unhide HX).below hb)
  have HB2 := hide (hb.mono hl)
  clear hb
  have k0 := (unhide HX2).c 0 rfl
  have f0 := (unhide HX2).f 0
  have HX3 : Hid (Bx (W.setCell ⟨g, 0, none⟩ (.iface 70 (.agg #[.int .i64 a, .int .i64 e]))) g 61 #[.iface 70 (.agg #[.int .i64 a, .int .i64 e])]) := hide ((unhide HX2).set 0 _ rfl)
  have HB3 := hide ((unhide HB2).setCell (p := ⟨g, 0, none⟩) hB (.iface 70 (.agg #[.int .i64 a, .int .i64 e])))
  go_wp2
  cases c₀
  simp [bodyPostS, results, Tryz.results44]
  exact ⟨unhide HX3, unhide HB3⟩
/-- Of a frame that returns: nothing is turned. -/
theorem catch_idle (p : Addr) (w : World) :
    CallsD Tryz.prog 44 #[.pointer (some p)] .returning w fun e u' w' => e = .returned (.tuple #[]) ∧ u' = .returning ∧ w' = w := by
  refine callsD_of_wpS Tryz.func44 rfl fun c₀ cs hu => ?_
  apply wpS_seq
  apply wpS_region
  simp [wpOpsS, go_sem, recoverD, hu, Tryz.ntmps44, Exit.thenS]
  apply wpS_seq
  apply wpS_region
  simp [wpOpsS, go_sem, Exit.thenS]
  refine wpS_cond (t := false) (by simp [Act.eval, Array.replicate]) ?_
  simp only [Bool.false_eq_true, if_false]
  refine wpS_of_wp (wp_skip ?_)
  cases c₀
  simp_all [bodyPostS, results, Tryz.results44]
def EntersF (n : Nat) : Prop := ∀ (args : Array Value) (W : World), (callFunc n args).run Tryz.prog W = .ok (.enter n args) W
/-- Catch of a work: what it comes to, from what the work comes to behind the new variable for the error. -/
theorem Catch_any (k : Nat) (caps : Array Value) (w : World) (Q : Ending → World → Prop) (hk : EntersF k)
    (hc : Calls Tryz.prog k caps (w.alloc (.cells #[.nilIface] 61)) Q)
    (hq : ∀ e W, Q e W → (e = .returned (.tuple #[]) ∨ ∃ a er : Int, e = .panicked [{ v := fltV a er, recovered := false }]) ∧ Bx W w.heap.size 61 #[.nilIface] ∧ ErrAt W) :
    Calls Tryz.prog 24 #[.func (.func k) #[] caps] w fun e w' => ∃ e0 W, Q e0 W ∧ Bx W w.heap.size 61 #[.nilIface] ∧ ((e0 = .returned (.tuple #[]) ∧ e = .returned .nilIface ∧ w' = W.setCell ⟨w.heap.size, 0, none⟩ .nilIface) ∨ (∃ a er : Int, e0 = .panicked [{ v := fltV a er, recovered := false }] ∧ e = .returned (fltV a er) ∧ Below w.heap.size W w')) := by
  have hmf : ∀ (fn : Fn) (first cap : Array Value) (w : World), (Instr.makeFunc fn first cap).run Tryz.prog w = .ok (.func fn first cap) w := fun _ _ _ _ => rfl
  have HC := hide hc
  have HQ := hide hq
  unfold EntersF at hk
  clear hc hq
  go_enter_defers Tryz.func24, Tryz.ntmps24
  go_wp2_with fail
  refine (unhide HC).mono ?_
  rintro e0 W hQe
  obtain ⟨ho, hbx, hE⟩ := (unhide HQ) e0 W hQe
  have HX := hide hbx
  have HE := hide hE
  rcases ho with rfl | ⟨a, er, rfl⟩
  · have HQE := hide hQe
    have k0 := hbx.c 0 rfl
    have f0 := hbx.f 0
    clear hbx hE hQe
    go_wp2
    refine leaves_cons (f := 44) (args := #[.pointer (some ⟨w.heap.size, 0, none⟩)]) (by simp) (by simp [go_sem]) ?_
    refine (catch_idle ⟨w.heap.size, 0, none⟩ _).mono ?_
    rintro e u' w'' ⟨rfl, rfl, rfl⟩
    have c1 : (W.setCell ⟨w.heap.size, 0, none⟩ .nilIface).cell? ⟨w.heap.size, 0, none⟩ = some .nilIface := ((unhide HX).set (cs' := #[.nilIface]) 0 .nilIface rfl).c 0 rfl
    simp [Leaves, settle, results, Tryz.results24, go_sem, c1]
    exact ⟨_, W, unhide HQE, unhide HX, Or.inl ⟨rfl, rfl⟩⟩
  · have HQE := hide hQe
    clear hbx hE hQe
    refine leaves_cons (f := 44) (args := #[.pointer (some ⟨w.heap.size, 0, none⟩)]) (by simp) (by simp [go_sem]) ?_
    refine (catch_panics w.heap.size w.heap.size a er .nilIface [] W (unhide HE) (unhide HX) (Nat.le_refl _) (Nat.le_of_lt (unhide HX).lt)).mono ?_
    rintro e u' w'' ⟨rfl, rfl, hx, hb⟩
    have c1 := hx.c 0 rfl
    simp [Leaves, settle, results, Tryz.results24, go_sem, c1]
    exact ⟨_, W, unhide HQE, unhide HX, Or.inr ⟨a, er, rfl, rfl, hb⟩⟩
end Go.Proofs.YtibgfdjopikafaaGreatDoor
