/-
  How instructions that came in as an argument are read, and the widths laid: RdIn, RdAl, RdFl, RdFp and OpenedW in one.
-/
import Derived.Test.YtdpfinnclnapbaaDoorRd
import Derived.Test.YtdpfinnclnapbaaDoorAl1
import Derived.Test.YtdpfinnclnapbaaDoorIn
import Derived.ProofKit
import Derived.LaidMore
import Derived.OpenShut
import Derived.Stop.Joined
namespace Go.Proofs.YtdpfinnclnapbaaDoor
open Go.ChangeShapes Go.WideShapes Go.ChangeAt Go.RowKit
set_option maxRecDepth 20000

theorem cellsIn1 : Tryd.prog.cellsOf 3 = 1 := by kernel_rfl
theorem cellsIn8 : Tryd.prog.cellsOf 5 = 1 := by kernel_rfl
theorem Rd.instr {W : World} {ce : List Value} (h : Rd W 31 ce) (hl : ce.length = 4) : ∃ (p : Int) (op : Nat) (a b : Int), ce = [.int .i64 p, .int .u8 (op : Int), .int .i64 a, .int .i64 b] ∧ op < 256 ∧ (-9223372036854775808 ≤ a ∧ a ≤ 9223372036854775807) ∧ (-9223372036854775808 ≤ b ∧ b ≤ 9223372036854775807) := by
  have h0 : Rd W 3 ((ce.drop 0).take (Tryd.prog.cellsOf 3)) := h.struct Tryd.underlying31 0 _ rfl
  have h1 : Rd W 5 ((ce.drop 1).take (Tryd.prog.cellsOf 5)) := h.struct Tryd.underlying31 1 _ rfl
  have h2 : Rd W 3 ((ce.drop 2).take (Tryd.prog.cellsOf 3)) := h.struct Tryd.underlying31 2 _ rfl
  have h3 : Rd W 3 ((ce.drop 3).take (Tryd.prog.cellsOf 3)) := h.struct Tryd.underlying31 3 _ rfl
  rw [cellsIn1] at h0 h2 h3
  rw [cellsIn8] at h1
  obtain ⟨p, e0, hp⟩ := h0.int Tryd.underlying3
  obtain ⟨o, e1, ho⟩ := h1.int Tryd.underlying5
  obtain ⟨a, e2, ha⟩ := h2.int Tryd.underlying3
  obtain ⟨b, e3, hb⟩ := h3.int Tryd.underlying3
  have hb8 := u8_bounds ho
  refine ⟨p, o.toNat, a, b, ?_, by omega, bounds_i64 ha, bounds_i64 hb⟩
  rw [Int.toNat_of_nonneg hb8.1]
  match ce, hl with
  | [x, y, z, u], _ =>
    simp at e0 e1 e2 e3
    rw [e0, e1, e2, e3]
end Go.Proofs.YtdpfinnclnapbaaDoor

namespace Go.Proofs.YtdpfinnclnapbaaDoor
open Go.ChangeShapes Go.WideShapes Go.ChangeAt Go.RowKit

theorem cellsX : Tryd.prog.cellsOf 31 = 4 := by kernel_rfl
theorem bytesX : Tryd.prog.bytesOf 31 = 32 := by kernel_rfl
theorem Rd.instrs {W : World} {cs : List Value} (h : Rd W 23 cs) : ∃ ao cap l, cs = [.slice ao (l : List Ix).length cap] ∧ XsAt W ao l ∧ (ao = none → l = []) ∧ l.length * 32 ≤ 140737488351232 := by
  rcases h.slice Tryd.underlying23 with rfl | ⟨a, len, cap, rfl, hl, hb, hel⟩
  · exact ⟨none, 0, [], rfl, fun i x hx => by simp at hx, fun _ => rfl, by simp⟩
  · rw [bytesX] at hb
    have : ∀ i, i < len → ∃ x : Ix, W.cell? (a.add (i * 4)) = some (.int .i64 x.p) ∧ ∀ b off, a = ⟨b, off, none⟩ → IxAt W b (off + i * 4) x := by
      intro i hi
      obtain ⟨ce, h1, h2, h3⟩ := hel i hi
      rw [cellsX] at h1 h2
      obtain ⟨p, op, x, y, rfl, ho, _, _⟩ := h3.instr h1
      refine ⟨⟨p, op, x, y⟩, by simpa using h2 0 (by omega), fun b off e => ?_⟩
      subst e
      have g0 := h2 0 (by omega)
      have g1 := h2 1 (by omega)
      have g2 := h2 2 (by omega)
      have g3 := h2 3 (by omega)
      rw [Addr.add_lit] at g0 g1 g2 g3
      exact ⟨by simpa using g0, by simpa [Nat.add_assoc] using g1, by simpa [Nat.add_assoc] using g2, by simpa [Nat.add_assoc] using g3, ho⟩
    obtain ⟨L, hll, hp⟩ := choose_below this
    subst hll
    refine ⟨some a, cap, L, rfl, fun i x hx => ?_, fun h => by simp at h, by omega⟩
    have hi := (List.getElem?_eq_some_iff.1 hx).1
    obtain ⟨y, h1, h2, h3⟩ := hp i hi
    obtain ⟨y0, h10, h20, h30⟩ := hp 0 (by omega)
    rw [hx] at h1
    injection h1 with h1
    subst h1
    have ha : a = ⟨a.block, a.off, none⟩ := by
      have := plain_addr h20
      simpa [Addr.add] using this
    exact ⟨a.block, a.off, by rw [← ha], h3 _ _ ha⟩
end Go.Proofs.YtdpfinnclnapbaaDoor

namespace Go.Proofs.YtdpfinnclnapbaaDoor
open Go.ChangeShapes Go.WideShapes Go.ChangeAt Go.RowKit

theorem Rd.instrsB {W : World} {cs : List Value} (h : Rd W 23 cs) : ∃ ao cap l, cs = [.slice ao (l : List Ix).length cap] ∧ XsAt W ao l ∧ (ao = none → l = []) ∧ l.length * 32 ≤ 140737488351232 ∧ (∀ x ∈ l, -9223372036854775808 ≤ x.a ∧ x.a ≤ 9223372036854775807) := by
  rcases h.slice Tryd.underlying23 with rfl | ⟨a, len, cap, rfl, hl, hb, hel⟩
  · exact ⟨none, 0, [], rfl, fun i x hx => by simp at hx, fun _ => rfl, by simp, fun x hx => by cases hx⟩
  · rw [bytesX] at hb
    have : ∀ i, i < len → ∃ x : Ix, W.cell? (a.add (i * 4)) = some (.int .i64 x.p) ∧ (-9223372036854775808 ≤ x.a ∧ x.a ≤ 9223372036854775807) ∧ ∀ b off, a = ⟨b, off, none⟩ → IxAt W b (off + i * 4) x := by
      intro i hi
      obtain ⟨ce, h1, h2, h3⟩ := hel i hi
      rw [cellsX] at h1 h2
      obtain ⟨p, op, x, y, rfl, ho, hxa, _⟩ := h3.instr h1
      refine ⟨⟨p, op, x, y⟩, by simpa using h2 0 (by omega), hxa, fun b off e => ?_⟩
      subst e
      have g0 := h2 0 (by omega)
      have g1 := h2 1 (by omega)
      have g2 := h2 2 (by omega)
      have g3 := h2 3 (by omega)
      rw [Addr.add_lit] at g0 g1 g2 g3
      exact ⟨by simpa using g0, by simpa [Nat.add_assoc] using g1, by simpa [Nat.add_assoc] using g2, by simpa [Nat.add_assoc] using g3, ho⟩
    obtain ⟨L, hll, hp⟩ := choose_below this
    subst hll
    refine ⟨some a, cap, L, rfl, fun i x hx => ?_, fun h => by simp at h, by omega, fun x hx => ?_⟩
    rotate_left
    · obtain ⟨i, hi⟩ := List.mem_iff_getElem?.1 hx
      obtain ⟨y, h1, _, h3, _⟩ := hp i (List.getElem?_eq_some_iff.1 hi).1
      rw [hi] at h1
      injection h1 with h1
      rw [h1]
      exact h3
    have hi := (List.getElem?_eq_some_iff.1 hx).1
    obtain ⟨y, h1, h2, _, h3⟩ := hp i hi
    obtain ⟨y0, h10, h20, _, h30⟩ := hp 0 (by omega)
    rw [hx] at h1
    injection h1 with h1
    subst h1
    have ha : a = ⟨a.block, a.off, none⟩ := by
      have := plain_addr h20
      simpa [Addr.add] using this
    exact ⟨a.block, a.off, by rw [← ha], h3 _ _ ha⟩
end Go.Proofs.YtdpfinnclnapbaaDoor

namespace Go.Proofs.YtdpfinnclnapbaaDoor
open Go.ChangeShapes Go.WideShapes Go.ChangeAt Go.RowKit

theorem Rd.instrP {W : World} {ce : List Value} (h : Rd W 31 ce) (hl : ce.length = 4) : ∃ (p : Int) (op : Nat) (a b : Int), ce = [.int .i64 p, .int .u8 (op : Int), .int .i64 a, .int .i64 b] ∧ op < 256 ∧ (-9223372036854775808 ≤ p ∧ p ≤ 9223372036854775807) ∧ (-9223372036854775808 ≤ a ∧ a ≤ 9223372036854775807) ∧ (-9223372036854775808 ≤ b ∧ b ≤ 9223372036854775807) := by
  have h0 : Rd W 3 ((ce.drop 0).take (Tryd.prog.cellsOf 3)) := h.struct Tryd.underlying31 0 _ rfl
  have h1 : Rd W 5 ((ce.drop 1).take (Tryd.prog.cellsOf 5)) := h.struct Tryd.underlying31 1 _ rfl
  have h2 : Rd W 3 ((ce.drop 2).take (Tryd.prog.cellsOf 3)) := h.struct Tryd.underlying31 2 _ rfl
  have h3 : Rd W 3 ((ce.drop 3).take (Tryd.prog.cellsOf 3)) := h.struct Tryd.underlying31 3 _ rfl
  rw [cellsIn1] at h0 h2 h3
  rw [cellsIn8] at h1
  obtain ⟨p, e0, hp⟩ := h0.int Tryd.underlying3
  obtain ⟨o, e1, ho⟩ := h1.int Tryd.underlying5
  obtain ⟨a, e2, ha⟩ := h2.int Tryd.underlying3
  obtain ⟨b, e3, hb⟩ := h3.int Tryd.underlying3
  have hb8 := u8_bounds ho
  refine ⟨p, o.toNat, a, b, ?_, by omega, bounds_i64 hp, bounds_i64 ha, bounds_i64 hb⟩
  rw [Int.toNat_of_nonneg hb8.1]
  match ce, hl with
  | [x, y, z, u], _ =>
    simp at e0 e1 e2 e3
    rw [e0, e1, e2, e3]
theorem Rd.instrsP {W : World} {cs : List Value} (h : Rd W 23 cs) : ∃ ao cap l, cs = [.slice ao (l : List Ix).length cap] ∧ XsAt W ao l ∧ (ao = none → l = []) ∧ l.length * 32 ≤ 140737488351232 ∧ (∀ x ∈ l, -9223372036854775808 ≤ x.p ∧ x.p ≤ 9223372036854775807) ∧ (∀ x ∈ l, -9223372036854775808 ≤ x.a ∧ x.a ≤ 9223372036854775807) := by
  rcases h.slice Tryd.underlying23 with rfl | ⟨a, len, cap, rfl, hl, hb, hel⟩
  · exact ⟨none, 0, [], rfl, fun i x hx => by simp at hx, fun _ => rfl, by simp, (fun x hx => by cases hx), fun x hx => by cases hx⟩
  · rw [bytesX] at hb
    have : ∀ i, i < len → ∃ x : Ix, W.cell? (a.add (i * 4)) = some (.int .i64 x.p) ∧ ((-9223372036854775808 ≤ x.p ∧ x.p ≤ 9223372036854775807) ∧ (-9223372036854775808 ≤ x.a ∧ x.a ≤ 9223372036854775807)) ∧ ∀ b off, a = ⟨b, off, none⟩ → IxAt W b (off + i * 4) x := by
      intro i hi
      obtain ⟨ce, h1, h2, h3⟩ := hel i hi
      rw [cellsX] at h1 h2
      obtain ⟨p, op, x, y, rfl, ho, hxp, hxa, _⟩ := h3.instrP h1
      refine ⟨⟨p, op, x, y⟩, by simpa using h2 0 (by omega), ⟨hxp, hxa⟩, fun b off e => ?_⟩
      subst e
      have g0 := h2 0 (by omega)
      have g1 := h2 1 (by omega)
      have g2 := h2 2 (by omega)
      have g3 := h2 3 (by omega)
      rw [Addr.add_lit] at g0 g1 g2 g3
      exact ⟨by simpa using g0, by simpa [Nat.add_assoc] using g1, by simpa [Nat.add_assoc] using g2, by simpa [Nat.add_assoc] using g3, ho⟩
    obtain ⟨L, hll, hp⟩ := choose_below this
    subst hll
    have hbb : ∀ x ∈ L, (-9223372036854775808 ≤ x.p ∧ x.p ≤ 9223372036854775807) ∧ (-9223372036854775808 ≤ x.a ∧ x.a ≤ 9223372036854775807) := by
      intro x hx
      obtain ⟨i, hi⟩ := List.mem_iff_getElem?.1 hx
      obtain ⟨y, h1, _, h3, _⟩ := hp i (List.getElem?_eq_some_iff.1 hi).1
      rw [hi] at h1
      injection h1 with h1
      rw [h1]
      exact h3
    refine ⟨some a, cap, L, rfl, fun i x hx => ?_, fun h => by simp at h, by omega, fun x hx => (hbb x hx).1, fun x hx => (hbb x hx).2⟩
    have hi := (List.getElem?_eq_some_iff.1 hx).1
    obtain ⟨y, h1, h2, _, h3⟩ := hp i hi
    obtain ⟨y0, h10, h20, _, h30⟩ := hp 0 (by omega)
    rw [hx] at h1
    injection h1 with h1
    subst h1
    have ha : a = ⟨a.block, a.off, none⟩ := by
      have := plain_addr h20
      simpa [Addr.add] using this
    exact ⟨a.block, a.off, by rw [← ha], h3 _ _ ha⟩
end Go.Proofs.YtdpfinnclnapbaaDoor

namespace Go.Proofs.YtdpfinnclnapbaaDoor
open Go.ChangeShapes Go.WideShapes Go.ChangeAt Go.WideMaps Go.WideElems Go.RowKit

def laid1 : List (String × DataW Unit) := [("proviso/code.widths", Rows.laid_proviso_code_widths)]
theorem gWid : Tryd.prog.globalNamed "proviso/code.widths" = some 0 := by kernel_rfl
theorem tWid : (Tryd.prog.globals[0]?).map (·.type) = some 87 := by kernel_rfl

theorem door_met (os : Os) (args : Array Value) : laidMetH Tryd.prog laid1 ((World.doorLaid Tryd.prog 400 os).forCall (fun _ _ => 0) ⟨#[], args, []⟩).memory :=
  laidMetH_of_parts3 (fuel := 8) (laidMet_of_run' 8 (by kernel_rfl) (by kernel_rfl)) (by kernel_rfl) (by kernel_rfl)

def widL : List (DataW Unit) := (List.range 34).map fun j => .agg [.lit (.int .i64 (wA j : Int)), .lit (.int .i64 (wB j : Int))]
theorem wid_eq : (Rows.laid_proviso_code_widths : DataW Unit) = .agg widL := by rfl
theorem list_two {α : Type} {l : List α} (h : l.length = 2) : ∃ u v, l = [u, v] := by
  match l, h with
  | [u, v], _ => exact ⟨u, v, rfl⟩
theorem of_laid {W : World} (h : laidMetH Tryd.prog laid1 W) : WidAt W := by
  rw [MakeChecks.laidMetH_plain _ _ _ (by kernel_rfl)] at h
  obtain ⟨ps, ⟨g0, t0, cs0, f0, p0, q0, hg0, ht0, hv0, hd0, _, _⟩, _, _⟩ := h
  obtain rfl := Option.some.inj (gWid.symm.trans hg0)
  obtain rfl := Option.some.inj (tWid.symm.trans ht0)
  obtain ⟨xs, m1, rfl, hx1, hlen, hn3, hel⟩ := DataW.trod_array Tryd.underlying87 hd0
  have c49 : Tryd.prog.cellsOf 86 = 2 := by kernel_rfl
  have c1 : Tryd.prog.cellsOf 3 = 1 := by kernel_rfl
  have c50 : Tryd.prog.cellsOf 87 = 68 := by kernel_rfl
  simp only [Prod.mk.injEq] at hx1
  have hl := DataW.agg.inj (wid_eq.symm.trans hx1.1)
  intro op ho
  have hjl : op < xs.length := by omega
  have h0 := hel op ho
  rw [List.getElem?_eq_getElem hjl, c49] at h0
  obtain ⟨ys, n, _, e2, _, hy, hfs⟩ := DataW.trod_struct Tryd.underlying86 h0
  have hy2 : ys.length = 2 := hy
  have a0 : _ = ys[0]? := hfs 0 _ rfl
  have a1 : _ = ys[1]? := hfs 1 _ rfl
  rw [List.getElem?_eq_getElem (show 0 < ys.length by omega)] at a0
  rw [List.getElem?_eq_getElem (show 1 < ys.length by omega)] at a1
  obtain ⟨n0, e01, e02, _⟩ := DataW.trod_int Tryd.underlying3 a0
  obtain ⟨n1, e11, e12, _⟩ := DataW.trod_int Tryd.underlying3 a1
  have hw : widL[op]? = some (.agg [.lit (.int .i64 (wA op : Int)), .lit (.int .i64 (wB op : Int))]) := by
    unfold widL
    rw [List.getElem?_map, List.getElem?_range ho]
    rfl
  rw [hl, List.getElem?_map, List.getElem?_eq_getElem hjl, e2] at hw
  obtain ⟨u, v, rfl⟩ : ∃ u v, ys = [u, v] := list_two hy2
  simp only [List.getElem_cons_zero, List.getElem_cons_succ] at e02 e12
  subst e02 e12
  simp at hw
  obtain ⟨rfl, rfl⟩ := hw
  have hcl : cs0.toList.length = 68 := by rw [hlen, c50]
  have k0 := World.var?_cell hg0 hv0 (op * 2)
  have k1 := World.var?_cell hg0 hv0 (op * 2 + 1)
  have q0 := congrArg (fun l : List Value => l[0]?) e01
  have q1 := congrArg (fun l : List Value => l[0]?) e11
  simp [c1, List.getElem?_drop] at q0 q1
  exact ⟨by rw [k0]; simpa using q0, by rw [k1]; simpa using q1⟩
end Go.Proofs.YtdpfinnclnapbaaDoor
