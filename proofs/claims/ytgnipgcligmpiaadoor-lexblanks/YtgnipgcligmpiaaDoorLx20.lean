/-
  provisolaw10.written: what wrT says.
-/
import Derived.Test.YtgnipgcligmpiaaDoorLx19
import Derived.Test.YtgnipgcligmpiaaDoorLayItoa
import Derived.Lib.AppendIntMem
namespace Go.Proofs.YtgnipgcligmpiaaDoor
open Go.RowKit
set_option maxRecDepth 20000

def PwAt (w : World) : Prop := Lib.TabIs Tryd.prog w "internal/strconv.uint64pow10" .u64 Lib.pow10Tab
theorem PwAt.below {w w' : World} (h : PwAt w) (hb : Below w.heap.size w w') : PwAt w' := Lib.tabBelow_of_tabIs h w' hb
theorem below_grownI (w : World) (k : Nat) (os : Array Obj) : Below w.heap.size w (Go.Sort.grow (w.drewN k) os) :=
  ⟨rfl, rfl, rfl, by show w.heap.size ≤ (w.heap ++ os).size; simp, fun i hi => by show (w.heap ++ os)[i]? = w.heap[i]?; rw [Array.getElem?_append_left hi]⟩
theorem itoa_num {n : Int} (h : 0 ≤ n) : (⟨(Lib.itoa n).toArray⟩ : ByteArray) = numT n.toNat := by
  unfold Lib.itoa numT
  rw [if_neg (by omega)]

set_option maxRecDepth 20000 in
set_option maxHeartbeats 2000000 in
theorem written_any (x : Tk) (w : World) (hW : SpAt w) (hP : PwAt w) (h0 : 0 ≤ x.n) (h1 : x.n ≤ 2147483648) :
    Calls Tryd.prog 14 #[.agg #[.int .i64 x.k, .int .i64 x.a, .int .i64 x.e, .int .i64 x.n, .string x.t]] w fun e w' => e = .returned (.string (wrT x)) ∧ Below w.heap.size w w' := by
  have HX : Hid (TkAt (w.alloc (.cells #[.int .i64 x.k, .int .i64 x.a, .int .i64 x.e, .int .i64 x.n, .string x.t] 34)) w.heap.size x) := hide (heap_alloc_new w _)
  have hal : Below w.heap.size w (w.alloc (.cells #[.int .i64 x.k, .int .i64 x.a, .int .i64 x.e, .int .i64 x.n, .string x.t] 34)) := (Below.refl _ _).alloc (Nat.le_refl _) _
  have HB := hide hal
  have HW := hide (hW.below hal)
  have HP := hide (hP.below hal)
  clear hal hW hP
  go_enter Tryd.func14, Tryd.ntmps14
  go_upto_region 1 with fail
  generalize (w.alloc (.cells #[.int .i64 x.k, .int .i64 x.a, .int .i64 x.e, .int .i64 x.n, .string x.t] 34)) = W1 at HX HB HW HP ⊢
  generalize hgx : w.heap.size = gx at HX ⊢
  have HG := hide hgx
  clear hgx
  have d0 := (unhide HX).c0
  have d3 := (unhide HX).c3
  have d4 := (unhide HX).c4
  by_cases k1 : x.k = 1
  · have b1 : (x.k == 1) = true := beq_iff_eq.2 k1
    have HR : Hid (wrT x = x.t) := hide (by unfold wrT; rw [if_pos k1])
    clear k1
    go_wp2
    go_ret
    exact ⟨by rw [unhide HR]; rfl, unhide HB⟩
  · have b1 : (x.k == 1) = false := beq_eq_false_iff_ne.2 k1
    by_cases k2 : x.k = 2
    · have b2 : (x.k == 2) = true := beq_iff_eq.2 k2
      have HR : Hid (wrT x = numT x.n.toNat) := hide (by unfold wrT; rw [if_neg k1, if_pos k2])
      have HI := hide (Any.strconv_Itoa Tryd.laysItoa x.n (by omega) (by omega) W1 (unhide HP))
      rw [itoa_num h0] at HI
      clear k1 k2
      go_wp2_with fail
      refine (unhide HI).mono ?_
      rintro e w2 ⟨rfl, k, os, rfl⟩
      have HB2 := hide ((unhide HB).trans ((below_grownI W1 k os).mono (unhide HB).size))
      go_wp2
      go_ret
      exact ⟨by rw [unhide HR]; rfl, unhide HB2⟩
    · have b2 : (x.k == 2) = false := beq_eq_false_iff_ne.2 k2
      have HR : Hid (wrT x = wdK x.k) := hide (by unfold wrT; rw [if_neg k1, if_neg k2])
      have HI := hide (Word_any x.k W1 (unhide HW))
      clear k1 k2
      go_wp2_with fail
      refine (unhide HI).mono ?_
      rintro e w2 ⟨rfl, rfl⟩
      go_wp2
      go_ret
      exact ⟨by rw [unhide HR]; rfl, unhide HB⟩
end Go.Proofs.YtgnipgcligmpiaaDoor
