/-
  The contract of provisolaw04.fit: an instruction that may be. Conditions: none.
-/
import Derived.Test.YtihkodfcgfnjoacDoorIn14
import Derived.Test.YtihkodfcgfnjoacDoorInB
import Derived.BigQuiet
import Derived.Deep.Cut
namespace Go.Proofs.YtihkodfcgfnjoacDoor
open Go.RowKit

theorem and_le (a : Int) (m : Nat) (hm : m ≤ 255) : 0 ≤ bits .and .i64 a (m : Int) ∧ bits .and .i64 a (m : Int) ≤ (m : Int) := by
  have h2 : (BitVec.ofInt 64 (m : Int)).toNat = m := by
    rw [BitVec.ofInt_natCast, BitVec.toNat_ofNat]; exact Nat.mod_eq_of_lt (by omega)
  have hle : (BitVec.ofInt 64 a &&& BitVec.ofInt 64 (m : Int)).toNat ≤ m := by
    rw [BitVec.toNat_and, h2]; exact Nat.and_le_right
  have hw : bits .and .i64 a (m : Int) = IntKind.i64.wrap ((BitVec.ofInt 64 a &&& BitVec.ofInt 64 (m : Int)).toNat : Int) := rfl
  rw [hw]
  generalize (BitVec.ofInt 64 a &&& BitVec.ofInt 64 (m : Int)).toNat = n at hle
  simp only [IntKind.wrap, IntKind.bits, IntKind.signed]
  simp
  omega
theorem inD_none : ∀ op, op < 34 → inD op 0 0 = true := below34 (by decide)
theorem inD_one (op : Nat) (x : Int) (h : op = 4 ∨ op = 5 ∨ op = 21 ∨ op = 23 ∨ op = 30 ∨ op = 31 ∨ op = 32) (h0 : 0 ≤ x) (h1 : x ≤ 255) : inD op x 0 = true := by
  rcases h with rfl | rfl | rfl | rfl | rfl | rfl | rfl <;> simp [inD, loA, hiA, hiB, wA, wB] <;> omega
theorem inD_two (op : Nat) (x y : Int) (h : op = 24 ∨ op = 25) (h0 : 0 ≤ x) (h1 : x ≤ 255) (h2 : 0 ≤ y) (h3 : y ≤ 255) : inD op x y = true := by
  rcases h with rfl | rfl <;> simp [inD, loA, hiA, hiB, wA, wB] <;> omega
theorem inD_jump (op : Nat) (x y : Int) (h : op = 19 ∨ op = 20) (h0 : 0 ≤ x) (h1 : x ≤ 255) (h2 : 0 ≤ y) (h3 : y ≤ 255) : inD op (256 * x + y) 0 = true := by
  rcases h with rfl | rfl <;> simp [inD, loA, hiA, hiB, wA, wB] <;> omega
theorem inD_bool (x : Int) (h0 : 0 ≤ x) (h1 : x ≤ 1) : inD 2 x 0 = true := by
  simp [inD, loA, hiA, hiB, wB]; omega
theorem inD_int (x : Int) : inD 1 (wrap64 (wrap32 x)) 0 = true := by
  simp only [wrap64, wrap32]
  simp [inD, loA, hiA, hiB, wA, wB]; omega

theorem results_cell1 {fn : Func} {p : Tmp} {ty : TypeId} (h : fn.results = #[.cell p ty]) (tmps : Array Value) (P : Program) (w : World) :
    (results fn tmps).run P w = ((asAddr (tmps.getD p undef)).run P w).andThen fun a w₁ => (loadVar ty a).run P w₁ := by
  simp only [results, h]
  simp [Sem.run_bind]
theorem results_in1 {fn : Func} {q : Tmp} (h : fn.results = #[.cell q 37]) (tmps : Array Value) (W : World) (g : Nat) (p : Int) (op : Nat) (a b : Int)
    (hp : tmps.getD q undef = .pointer (some ⟨g, 0, none⟩)) (hg : IAt W g p op a b) : (results fn tmps).run Tryd.prog W = .ok (.agg #[.int .i64 p, .int .u8 (op : Int), .int .i64 a, .int .i64 b]) W := by
  rw [results_cell1 h, hp, run_addrI, Result.andThen_ok, run_loadVar_row W g 37 37 #[.int .i64 p, .int .u8 (op : Int), .int .i64 a, .int .i64 b] (0, 0) _ hg Tryd.underlying37 rfl sizeIn]
theorem IAt.cellO {W : World} {g : Nat} {p : Int} {op : Nat} {a b : Int} (h : IAt W g p op a b) (x : Addr) (v : Value) (hne : g ≠ x.block) : IAt (W.setCell x v) g p op a b := (heap_setCell_other W x g v hne).trans h

set_option maxHeartbeats 4000000 in
theorem fit_any (p : Int) (op : Nat) (a b : Int) (w : World) (ho : op < 256) :
    Calls Tryd.prog 14 #[.agg #[.int .i64 p, .int .u8 (op : Int), .int .i64 a, .int .i64 b]] w fun e w' => (∃ (A B : Int), e = .returned (.agg #[.int .i64 0, .int .u8 ((op % 34 : Nat) : Int), .int .i64 A, .int .i64 B]) ∧ inD (op % 34) A B = true) ∧ Below w.heap.size w w' := by
  have ha := and_le a 255 (by omega)
  have hb := and_le b 255 (by omega)
  have hr : op % 34 < 34 := Nat.mod_lt _ (by omega)
  have e34 : ((op : Int) % 34) = ((op % 34 : Nat) : Int) := by omega
  have E34 := hide e34
  clear e34
  go_enter Tryd.func14, Tryd.ntmps14
  go_wp2
  go_quiet (fail)
  rw [unhide E34]
  clear E34
  generalize hR : op % 34 = r at hr ⊢
  have HR := hide hR
  clear hR
  go_upto_region 5 with fail
  have h1 : IAt (((w.alloc (.cells #[.int .i64 0, .int .u8 (r : Int), .int .i64 a, .int .i64 b] 37)).alloc (.cells #[.int .i64 0, .int .u8 0, .int .i64 0, .int .i64 0] 37)).drewN nq) w.heap.size 0 r a b := IAt.below (W := w.alloc (.cells #[.int .i64 0, .int .u8 (r : Int), .int .i64 a, .int .i64 b] 37)) (heap_alloc_new w _) (belowD ((Below.refl _ _).alloc (Nat.le_refl _) _) _)
  have h2 : IAt (((w.alloc (.cells #[.int .i64 0, .int .u8 (r : Int), .int .i64 a, .int .i64 b] 37)).alloc (.cells #[.int .i64 0, .int .u8 0, .int .i64 0, .int .i64 0] 37)).drewN nq) (w.heap.size + 1) 0 0 0 0 := by
    have h := heap_alloc_new (w.alloc (.cells #[.int .i64 0, .int .u8 (r : Int), .int .i64 a, .int .i64 b] 37)) (.cells #[.int .i64 0, .int .u8 0, .int .i64 0, .int .i64 0] 37)
    rw [World.size_alloc] at h
    exact h
  have HI : Hid (IAt (((((w.alloc (.cells #[.int .i64 0, .int .u8 (r : Int), .int .i64 a, .int .i64 b] 37)).alloc (.cells #[.int .i64 0, .int .u8 0, .int .i64 0, .int .i64 0] 37)).drewN nq).setCell ⟨w.heap.size, 2, none⟩ (.int .i64 0)).setCell ⟨w.heap.size, 3, none⟩ (.int .i64 0)) w.heap.size 0 r 0 0) := hide (heap_setCell_same _ _ _ _ _ _ (heap_setCell_same _ _ _ _ _ _ h1))
  have HJ : Hid (IAt (((((w.alloc (.cells #[.int .i64 0, .int .u8 (r : Int), .int .i64 a, .int .i64 b] 37)).alloc (.cells #[.int .i64 0, .int .u8 0, .int .i64 0, .int .i64 0] 37)).drewN nq).setCell ⟨w.heap.size, 2, none⟩ (.int .i64 0)).setCell ⟨w.heap.size, 3, none⟩ (.int .i64 0)) (w.heap.size + 1) 0 0 0 0) := hide (by
    unfold IAt
    rw [heap_setCell_other _ _ _ _ (by simp), heap_setCell_other _ _ _ _ (by simp)]
    exact h2)
  have HB : Hid (Below w.heap.size w (((((w.alloc (.cells #[.int .i64 0, .int .u8 (r : Int), .int .i64 a, .int .i64 b] 37)).alloc (.cells #[.int .i64 0, .int .u8 0, .int .i64 0, .int .i64 0] 37)).drewN nq).setCell ⟨w.heap.size, 2, none⟩ (.int .i64 0)).setCell ⟨w.heap.size, 3, none⟩ (.int .i64 0))) := hide ((((belowD (((Below.refl _ _).alloc (Nat.le_refl _) _).alloc (by simp) _) _)).setCell (Nat.le_refl _) _).setCell (Nat.le_refl _) _)
  clear h1 h2
  generalize (((((w.alloc (.cells #[.int .i64 0, .int .u8 (r : Int), .int .i64 a, .int .i64 b] 37)).alloc (.cells #[.int .i64 0, .int .u8 0, .int .i64 0, .int .i64 0] 37)).drewN nq).setCell ⟨w.heap.size, 2, none⟩ (.int .i64 0)).setCell ⟨w.heap.size, 3, none⟩ (.int .i64 0)) = W at HI HJ HB ⊢
  obtain ⟨c1, c2, c3⟩ := (unhide HI).c
  have c0 := (unhide HI).c0
  have f2 := (unhide HI).f 2
  have f3 := (unhide HI).f 3
  obtain ⟨d1, d2, d3⟩ := (unhide HJ).c
  have d0 := (unhide HJ).c0
  have k0 := (unhide HJ).f 0
  have k1 := (unhide HJ).f 1
  have k2 := (unhide HJ).f 2
  have k3 := (unhide HJ).f 3
  rw [show (((255 : Nat)) : Int) = 255 from rfl] at ha hb
  generalize bits .and .i64 a 255 = x at ha ⊢
  generalize bits .and .i64 b 255 = y at hb ⊢
  have hx1 := and_le x 1 (by omega)
  rw [show (((1 : Nat)) : Int) = 1 from rfl] at hx1
  by_cases h1 : r = 1
  · have H := hide h1
    have b1 : (((r : Nat) : Int) == 1) = true := beq_t (by omega)
    have b2 : (((r : Nat) : Int) == 2) = false := beq_f (by omega)
    have b19 : (((r : Nat) : Int) == 19) = false := beq_f (by omega)
    have b20 : (((r : Nat) : Int) == 20) = false := beq_f (by omega)
    have b24 : (((r : Nat) : Int) == 24) = false := beq_f (by omega)
    have b25 : (((r : Nat) : Int) == 25) = false := beq_f (by omega)
    have b4 : (((r : Nat) : Int) == 4) = false := beq_f (by omega)
    have b5 : (((r : Nat) : Int) == 5) = false := beq_f (by omega)
    have b21 : (((r : Nat) : Int) == 21) = false := beq_f (by omega)
    have b23 : (((r : Nat) : Int) == 23) = false := beq_f (by omega)
    have b30 : (((r : Nat) : Int) == 30) = false := beq_f (by omega)
    have b31 : (((r : Nat) : Int) == 31) = false := beq_f (by omega)
    have b32 : (((r : Nat) : Int) == 32) = false := beq_f (by omega)
    clear h1
    go_wp2
    refine bodyPost_ret (results_in1 rfl _ _ (w.heap.size + 1) 0 r _ 0 rfl (IAt.chain ((unhide HJ).cellO _ _ (by simp)) _ _ _ _)) rfl ?_
    rw [unhide HR]
    refine ⟨⟨_, 0, rfl, by rw [unhide H]; exact inD_int _⟩, ?_⟩
    repeat with_reducible refine Below.setCell ?_ (by simp) _
    with_reducible exact unhide HB
  by_cases h2 : r = 2
  · have H := hide h2
    have b1 : (((r : Nat) : Int) == 1) = false := beq_f (by omega)
    have b2 : (((r : Nat) : Int) == 2) = true := beq_t (by omega)
    have b19 : (((r : Nat) : Int) == 19) = false := beq_f (by omega)
    have b20 : (((r : Nat) : Int) == 20) = false := beq_f (by omega)
    have b24 : (((r : Nat) : Int) == 24) = false := beq_f (by omega)
    have b25 : (((r : Nat) : Int) == 25) = false := beq_f (by omega)
    have b4 : (((r : Nat) : Int) == 4) = false := beq_f (by omega)
    have b5 : (((r : Nat) : Int) == 5) = false := beq_f (by omega)
    have b21 : (((r : Nat) : Int) == 21) = false := beq_f (by omega)
    have b23 : (((r : Nat) : Int) == 23) = false := beq_f (by omega)
    have b30 : (((r : Nat) : Int) == 30) = false := beq_f (by omega)
    have b31 : (((r : Nat) : Int) == 31) = false := beq_f (by omega)
    have b32 : (((r : Nat) : Int) == 32) = false := beq_f (by omega)
    clear h2
    go_wp2
    refine bodyPost_ret (results_in1 rfl _ _ (w.heap.size + 1) 0 r _ 0 rfl (IAt.chain ((unhide HJ).cellO _ _ (by simp)) _ _ _ _)) rfl ?_
    rw [unhide HR]
    refine ⟨⟨_, 0, rfl, by rw [unhide H]; exact inD_bool _ hx1.1 hx1.2⟩, ?_⟩
    repeat with_reducible refine Below.setCell ?_ (by simp) _
    with_reducible exact unhide HB
  by_cases h19 : r = 19
  · have H := hide h19
    have b1 : (((r : Nat) : Int) == 1) = false := beq_f (by omega)
    have b2 : (((r : Nat) : Int) == 2) = false := beq_f (by omega)
    have b19 : (((r : Nat) : Int) == 19) = true := beq_t (by omega)
    have b20 : (((r : Nat) : Int) == 20) = false := beq_f (by omega)
    have b24 : (((r : Nat) : Int) == 24) = false := beq_f (by omega)
    have b25 : (((r : Nat) : Int) == 25) = false := beq_f (by omega)
    have b4 : (((r : Nat) : Int) == 4) = false := beq_f (by omega)
    have b5 : (((r : Nat) : Int) == 5) = false := beq_f (by omega)
    have b21 : (((r : Nat) : Int) == 21) = false := beq_f (by omega)
    have b23 : (((r : Nat) : Int) == 23) = false := beq_f (by omega)
    have b30 : (((r : Nat) : Int) == 30) = false := beq_f (by omega)
    have b31 : (((r : Nat) : Int) == 31) = false := beq_f (by omega)
    have b32 : (((r : Nat) : Int) == 32) = false := beq_f (by omega)
    clear h19
    go_wp2
    refine bodyPost_ret (results_in1 rfl _ _ (w.heap.size + 1) 0 r _ 0 rfl (IAt.chain ((unhide HJ).cellO _ _ (by simp)) _ _ _ _)) rfl ?_
    rw [unhide HR]
    refine ⟨⟨_, 0, rfl, inD_jump _ _ _ (by have := unhide H; omega) ha.1 ha.2 hb.1 hb.2⟩, ?_⟩
    repeat with_reducible refine Below.setCell ?_ (by simp) _
    with_reducible exact unhide HB
  by_cases h20 : r = 20
  · have H := hide h20
    have b1 : (((r : Nat) : Int) == 1) = false := beq_f (by omega)
    have b2 : (((r : Nat) : Int) == 2) = false := beq_f (by omega)
    have b19 : (((r : Nat) : Int) == 19) = false := beq_f (by omega)
    have b20 : (((r : Nat) : Int) == 20) = true := beq_t (by omega)
    have b24 : (((r : Nat) : Int) == 24) = false := beq_f (by omega)
    have b25 : (((r : Nat) : Int) == 25) = false := beq_f (by omega)
    have b4 : (((r : Nat) : Int) == 4) = false := beq_f (by omega)
    have b5 : (((r : Nat) : Int) == 5) = false := beq_f (by omega)
    have b21 : (((r : Nat) : Int) == 21) = false := beq_f (by omega)
    have b23 : (((r : Nat) : Int) == 23) = false := beq_f (by omega)
    have b30 : (((r : Nat) : Int) == 30) = false := beq_f (by omega)
    have b31 : (((r : Nat) : Int) == 31) = false := beq_f (by omega)
    have b32 : (((r : Nat) : Int) == 32) = false := beq_f (by omega)
    clear h20
    go_wp2
    refine bodyPost_ret (results_in1 rfl _ _ (w.heap.size + 1) 0 r _ 0 rfl (IAt.chain ((unhide HJ).cellO _ _ (by simp)) _ _ _ _)) rfl ?_
    rw [unhide HR]
    refine ⟨⟨_, 0, rfl, inD_jump _ _ _ (by have := unhide H; omega) ha.1 ha.2 hb.1 hb.2⟩, ?_⟩
    repeat with_reducible refine Below.setCell ?_ (by simp) _
    with_reducible exact unhide HB
  by_cases h24 : r = 24
  · have H := hide h24
    have b1 : (((r : Nat) : Int) == 1) = false := beq_f (by omega)
    have b2 : (((r : Nat) : Int) == 2) = false := beq_f (by omega)
    have b19 : (((r : Nat) : Int) == 19) = false := beq_f (by omega)
    have b20 : (((r : Nat) : Int) == 20) = false := beq_f (by omega)
    have b24 : (((r : Nat) : Int) == 24) = true := beq_t (by omega)
    have b25 : (((r : Nat) : Int) == 25) = false := beq_f (by omega)
    have b4 : (((r : Nat) : Int) == 4) = false := beq_f (by omega)
    have b5 : (((r : Nat) : Int) == 5) = false := beq_f (by omega)
    have b21 : (((r : Nat) : Int) == 21) = false := beq_f (by omega)
    have b23 : (((r : Nat) : Int) == 23) = false := beq_f (by omega)
    have b30 : (((r : Nat) : Int) == 30) = false := beq_f (by omega)
    have b31 : (((r : Nat) : Int) == 31) = false := beq_f (by omega)
    have b32 : (((r : Nat) : Int) == 32) = false := beq_f (by omega)
    clear h24
    go_wp2
    refine bodyPost_ret (results_in1 rfl _ _ (w.heap.size + 1) 0 r _ _ rfl (IAt.chain (((unhide HJ).cellO _ _ (by simp)).cellO _ _ (by simp)) _ _ _ _)) rfl ?_
    rw [unhide HR]
    refine ⟨⟨_, _, rfl, inD_two _ _ _ (by have := unhide H; omega) ha.1 ha.2 hb.1 hb.2⟩, ?_⟩
    repeat with_reducible refine Below.setCell ?_ (by simp) _
    with_reducible exact unhide HB
  by_cases h25 : r = 25
  · have H := hide h25
    have b1 : (((r : Nat) : Int) == 1) = false := beq_f (by omega)
    have b2 : (((r : Nat) : Int) == 2) = false := beq_f (by omega)
    have b19 : (((r : Nat) : Int) == 19) = false := beq_f (by omega)
    have b20 : (((r : Nat) : Int) == 20) = false := beq_f (by omega)
    have b24 : (((r : Nat) : Int) == 24) = false := beq_f (by omega)
    have b25 : (((r : Nat) : Int) == 25) = true := beq_t (by omega)
    have b4 : (((r : Nat) : Int) == 4) = false := beq_f (by omega)
    have b5 : (((r : Nat) : Int) == 5) = false := beq_f (by omega)
    have b21 : (((r : Nat) : Int) == 21) = false := beq_f (by omega)
    have b23 : (((r : Nat) : Int) == 23) = false := beq_f (by omega)
    have b30 : (((r : Nat) : Int) == 30) = false := beq_f (by omega)
    have b31 : (((r : Nat) : Int) == 31) = false := beq_f (by omega)
    have b32 : (((r : Nat) : Int) == 32) = false := beq_f (by omega)
    clear h25
    go_wp2
    refine bodyPost_ret (results_in1 rfl _ _ (w.heap.size + 1) 0 r _ _ rfl (IAt.chain (((unhide HJ).cellO _ _ (by simp)).cellO _ _ (by simp)) _ _ _ _)) rfl ?_
    rw [unhide HR]
    refine ⟨⟨_, _, rfl, inD_two _ _ _ (by have := unhide H; omega) ha.1 ha.2 hb.1 hb.2⟩, ?_⟩
    repeat with_reducible refine Below.setCell ?_ (by simp) _
    with_reducible exact unhide HB
  by_cases h4 : r = 4
  · have H := hide h4
    have b1 : (((r : Nat) : Int) == 1) = false := beq_f (by omega)
    have b2 : (((r : Nat) : Int) == 2) = false := beq_f (by omega)
    have b19 : (((r : Nat) : Int) == 19) = false := beq_f (by omega)
    have b20 : (((r : Nat) : Int) == 20) = false := beq_f (by omega)
    have b24 : (((r : Nat) : Int) == 24) = false := beq_f (by omega)
    have b25 : (((r : Nat) : Int) == 25) = false := beq_f (by omega)
    have b4 : (((r : Nat) : Int) == 4) = true := beq_t (by omega)
    have b5 : (((r : Nat) : Int) == 5) = false := beq_f (by omega)
    have b21 : (((r : Nat) : Int) == 21) = false := beq_f (by omega)
    have b23 : (((r : Nat) : Int) == 23) = false := beq_f (by omega)
    have b30 : (((r : Nat) : Int) == 30) = false := beq_f (by omega)
    have b31 : (((r : Nat) : Int) == 31) = false := beq_f (by omega)
    have b32 : (((r : Nat) : Int) == 32) = false := beq_f (by omega)
    clear h4
    go_wp2
    refine bodyPost_ret (results_in1 rfl _ _ (w.heap.size + 1) 0 r _ 0 rfl (IAt.chain ((unhide HJ).cellO _ _ (by simp)) _ _ _ _)) rfl ?_
    rw [unhide HR]
    refine ⟨⟨_, 0, rfl, inD_one _ _ (by have := unhide H; omega) ha.1 ha.2⟩, ?_⟩
    repeat with_reducible refine Below.setCell ?_ (by simp) _
    with_reducible exact unhide HB
  by_cases h5 : r = 5
  · have H := hide h5
    have b1 : (((r : Nat) : Int) == 1) = false := beq_f (by omega)
    have b2 : (((r : Nat) : Int) == 2) = false := beq_f (by omega)
    have b19 : (((r : Nat) : Int) == 19) = false := beq_f (by omega)
    have b20 : (((r : Nat) : Int) == 20) = false := beq_f (by omega)
    have b24 : (((r : Nat) : Int) == 24) = false := beq_f (by omega)
    have b25 : (((r : Nat) : Int) == 25) = false := beq_f (by omega)
    have b4 : (((r : Nat) : Int) == 4) = false := beq_f (by omega)
    have b5 : (((r : Nat) : Int) == 5) = true := beq_t (by omega)
    have b21 : (((r : Nat) : Int) == 21) = false := beq_f (by omega)
    have b23 : (((r : Nat) : Int) == 23) = false := beq_f (by omega)
    have b30 : (((r : Nat) : Int) == 30) = false := beq_f (by omega)
    have b31 : (((r : Nat) : Int) == 31) = false := beq_f (by omega)
    have b32 : (((r : Nat) : Int) == 32) = false := beq_f (by omega)
    clear h5
    go_wp2
    refine bodyPost_ret (results_in1 rfl _ _ (w.heap.size + 1) 0 r _ 0 rfl (IAt.chain ((unhide HJ).cellO _ _ (by simp)) _ _ _ _)) rfl ?_
    rw [unhide HR]
    refine ⟨⟨_, 0, rfl, inD_one _ _ (by have := unhide H; omega) ha.1 ha.2⟩, ?_⟩
    repeat with_reducible refine Below.setCell ?_ (by simp) _
    with_reducible exact unhide HB
  by_cases h21 : r = 21
  · have H := hide h21
    have b1 : (((r : Nat) : Int) == 1) = false := beq_f (by omega)
    have b2 : (((r : Nat) : Int) == 2) = false := beq_f (by omega)
    have b19 : (((r : Nat) : Int) == 19) = false := beq_f (by omega)
    have b20 : (((r : Nat) : Int) == 20) = false := beq_f (by omega)
    have b24 : (((r : Nat) : Int) == 24) = false := beq_f (by omega)
    have b25 : (((r : Nat) : Int) == 25) = false := beq_f (by omega)
    have b4 : (((r : Nat) : Int) == 4) = false := beq_f (by omega)
    have b5 : (((r : Nat) : Int) == 5) = false := beq_f (by omega)
    have b21 : (((r : Nat) : Int) == 21) = true := beq_t (by omega)
    have b23 : (((r : Nat) : Int) == 23) = false := beq_f (by omega)
    have b30 : (((r : Nat) : Int) == 30) = false := beq_f (by omega)
    have b31 : (((r : Nat) : Int) == 31) = false := beq_f (by omega)
    have b32 : (((r : Nat) : Int) == 32) = false := beq_f (by omega)
    clear h21
    go_wp2
    refine bodyPost_ret (results_in1 rfl _ _ (w.heap.size + 1) 0 r _ 0 rfl (IAt.chain ((unhide HJ).cellO _ _ (by simp)) _ _ _ _)) rfl ?_
    rw [unhide HR]
    refine ⟨⟨_, 0, rfl, inD_one _ _ (by have := unhide H; omega) ha.1 ha.2⟩, ?_⟩
    repeat with_reducible refine Below.setCell ?_ (by simp) _
    with_reducible exact unhide HB
  by_cases h23 : r = 23
  · have H := hide h23
    have b1 : (((r : Nat) : Int) == 1) = false := beq_f (by omega)
    have b2 : (((r : Nat) : Int) == 2) = false := beq_f (by omega)
    have b19 : (((r : Nat) : Int) == 19) = false := beq_f (by omega)
    have b20 : (((r : Nat) : Int) == 20) = false := beq_f (by omega)
    have b24 : (((r : Nat) : Int) == 24) = false := beq_f (by omega)
    have b25 : (((r : Nat) : Int) == 25) = false := beq_f (by omega)
    have b4 : (((r : Nat) : Int) == 4) = false := beq_f (by omega)
    have b5 : (((r : Nat) : Int) == 5) = false := beq_f (by omega)
    have b21 : (((r : Nat) : Int) == 21) = false := beq_f (by omega)
    have b23 : (((r : Nat) : Int) == 23) = true := beq_t (by omega)
    have b30 : (((r : Nat) : Int) == 30) = false := beq_f (by omega)
    have b31 : (((r : Nat) : Int) == 31) = false := beq_f (by omega)
    have b32 : (((r : Nat) : Int) == 32) = false := beq_f (by omega)
    clear h23
    go_wp2
    refine bodyPost_ret (results_in1 rfl _ _ (w.heap.size + 1) 0 r _ 0 rfl (IAt.chain ((unhide HJ).cellO _ _ (by simp)) _ _ _ _)) rfl ?_
    rw [unhide HR]
    refine ⟨⟨_, 0, rfl, inD_one _ _ (by have := unhide H; omega) ha.1 ha.2⟩, ?_⟩
    repeat with_reducible refine Below.setCell ?_ (by simp) _
    with_reducible exact unhide HB
  by_cases h30 : r = 30
  · have H := hide h30
    have b1 : (((r : Nat) : Int) == 1) = false := beq_f (by omega)
    have b2 : (((r : Nat) : Int) == 2) = false := beq_f (by omega)
    have b19 : (((r : Nat) : Int) == 19) = false := beq_f (by omega)
    have b20 : (((r : Nat) : Int) == 20) = false := beq_f (by omega)
    have b24 : (((r : Nat) : Int) == 24) = false := beq_f (by omega)
    have b25 : (((r : Nat) : Int) == 25) = false := beq_f (by omega)
    have b4 : (((r : Nat) : Int) == 4) = false := beq_f (by omega)
    have b5 : (((r : Nat) : Int) == 5) = false := beq_f (by omega)
    have b21 : (((r : Nat) : Int) == 21) = false := beq_f (by omega)
    have b23 : (((r : Nat) : Int) == 23) = false := beq_f (by omega)
    have b30 : (((r : Nat) : Int) == 30) = true := beq_t (by omega)
    have b31 : (((r : Nat) : Int) == 31) = false := beq_f (by omega)
    have b32 : (((r : Nat) : Int) == 32) = false := beq_f (by omega)
    clear h30
    go_wp2
    refine bodyPost_ret (results_in1 rfl _ _ (w.heap.size + 1) 0 r _ 0 rfl (IAt.chain ((unhide HJ).cellO _ _ (by simp)) _ _ _ _)) rfl ?_
    rw [unhide HR]
    refine ⟨⟨_, 0, rfl, inD_one _ _ (by have := unhide H; omega) ha.1 ha.2⟩, ?_⟩
    repeat with_reducible refine Below.setCell ?_ (by simp) _
    with_reducible exact unhide HB
  by_cases h31 : r = 31
  · have H := hide h31
    have b1 : (((r : Nat) : Int) == 1) = false := beq_f (by omega)
    have b2 : (((r : Nat) : Int) == 2) = false := beq_f (by omega)
    have b19 : (((r : Nat) : Int) == 19) = false := beq_f (by omega)
    have b20 : (((r : Nat) : Int) == 20) = false := beq_f (by omega)
    have b24 : (((r : Nat) : Int) == 24) = false := beq_f (by omega)
    have b25 : (((r : Nat) : Int) == 25) = false := beq_f (by omega)
    have b4 : (((r : Nat) : Int) == 4) = false := beq_f (by omega)
    have b5 : (((r : Nat) : Int) == 5) = false := beq_f (by omega)
    have b21 : (((r : Nat) : Int) == 21) = false := beq_f (by omega)
    have b23 : (((r : Nat) : Int) == 23) = false := beq_f (by omega)
    have b30 : (((r : Nat) : Int) == 30) = false := beq_f (by omega)
    have b31 : (((r : Nat) : Int) == 31) = true := beq_t (by omega)
    have b32 : (((r : Nat) : Int) == 32) = false := beq_f (by omega)
    clear h31
    go_wp2
    refine bodyPost_ret (results_in1 rfl _ _ (w.heap.size + 1) 0 r _ 0 rfl (IAt.chain ((unhide HJ).cellO _ _ (by simp)) _ _ _ _)) rfl ?_
    rw [unhide HR]
    refine ⟨⟨_, 0, rfl, inD_one _ _ (by have := unhide H; omega) ha.1 ha.2⟩, ?_⟩
    repeat with_reducible refine Below.setCell ?_ (by simp) _
    with_reducible exact unhide HB
  by_cases h32 : r = 32
  · have H := hide h32
    have b1 : (((r : Nat) : Int) == 1) = false := beq_f (by omega)
    have b2 : (((r : Nat) : Int) == 2) = false := beq_f (by omega)
    have b19 : (((r : Nat) : Int) == 19) = false := beq_f (by omega)
    have b20 : (((r : Nat) : Int) == 20) = false := beq_f (by omega)
    have b24 : (((r : Nat) : Int) == 24) = false := beq_f (by omega)
    have b25 : (((r : Nat) : Int) == 25) = false := beq_f (by omega)
    have b4 : (((r : Nat) : Int) == 4) = false := beq_f (by omega)
    have b5 : (((r : Nat) : Int) == 5) = false := beq_f (by omega)
    have b21 : (((r : Nat) : Int) == 21) = false := beq_f (by omega)
    have b23 : (((r : Nat) : Int) == 23) = false := beq_f (by omega)
    have b30 : (((r : Nat) : Int) == 30) = false := beq_f (by omega)
    have b31 : (((r : Nat) : Int) == 31) = false := beq_f (by omega)
    have b32 : (((r : Nat) : Int) == 32) = true := beq_t (by omega)
    clear h32
    go_wp2
    refine bodyPost_ret (results_in1 rfl _ _ (w.heap.size + 1) 0 r _ 0 rfl (IAt.chain ((unhide HJ).cellO _ _ (by simp)) _ _ _ _)) rfl ?_
    rw [unhide HR]
    refine ⟨⟨_, 0, rfl, inD_one _ _ (by have := unhide H; omega) ha.1 ha.2⟩, ?_⟩
    repeat with_reducible refine Below.setCell ?_ (by simp) _
    with_reducible exact unhide HB
  have b1 : (((r : Nat) : Int) == 1) = false := beq_f (by omega)
  have b2 : (((r : Nat) : Int) == 2) = false := beq_f (by omega)
  have b19 : (((r : Nat) : Int) == 19) = false := beq_f (by omega)
  have b20 : (((r : Nat) : Int) == 20) = false := beq_f (by omega)
  have b24 : (((r : Nat) : Int) == 24) = false := beq_f (by omega)
  have b25 : (((r : Nat) : Int) == 25) = false := beq_f (by omega)
  have b4 : (((r : Nat) : Int) == 4) = false := beq_f (by omega)
  have b5 : (((r : Nat) : Int) == 5) = false := beq_f (by omega)
  have b21 : (((r : Nat) : Int) == 21) = false := beq_f (by omega)
  have b23 : (((r : Nat) : Int) == 23) = false := beq_f (by omega)
  have b30 : (((r : Nat) : Int) == 30) = false := beq_f (by omega)
  have b31 : (((r : Nat) : Int) == 31) = false := beq_f (by omega)
  have b32 : (((r : Nat) : Int) == 32) = false := beq_f (by omega)
  clear h1 h2 h19 h20 h24 h25 h4 h5 h21 h23 h30 h31 h32
  go_wp2
  refine bodyPost_ret (results_in1 rfl _ _ (w.heap.size + 1) 0 r 0 0 rfl (IAt.chain (unhide HJ) _ _ _ _)) rfl ?_
  rw [unhide HR]
  refine ⟨⟨0, 0, rfl, inD_none _ hr⟩, ?_⟩
  repeat with_reducible refine Below.setCell ?_ (by simp) _
  with_reducible exact unhide HB
end Go.Proofs.YtihkodfcgfnjoacDoor
