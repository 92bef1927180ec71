/-
  Contracts of types.line and of the function that it makes: a class, its parent, and so on, while parents stand ahead. Conditions: the table fits; of a round, that it leaves the table and the box that holds it.
-/
import Derived.Test.YtbiofkgdbdjdnaaDoorT02b
import Derived.RangeFuncNested
import Derived.RangeFuncBound
import Derived.RangeFuncCalls
import Derived.RangeFuncLeaves
import Derived.Shelf.Abstract
import Derived.Shelf.RegionOpen
import Derived.WalkKit
import Derived.OwnWalkIn
import Derived.TacticsInMore
import Derived.LoopNIn
import Derived.LoopIn
import Derived.RangeFuncFrom
import Derived.Sort.QuietIn
namespace Go.Proofs.YtbiofkgdbdjdnaaDoor
open Go.RowKit Go.Shelf
set_option maxRecDepth 20000
attribute [local go_sem] Oper.semAt_some

/-- The line of a class, while each one stands ahead of the one before. -/
def lineB (T : List Cl) (bel : Nat) (at_ : Int) : List Nat :=
  if _h : 0 ≤ at_ ∧ at_ < (bel : Int) then at_.toNat :: lineB T at_.toNat (parD T at_.toNat) else []
termination_by bel
decreasing_by omega

theorem lineB_in {T : List Cl} {bel k : Nat} (h : k < bel) : lineB T bel (k : Int) = k :: lineB T k (parD T k) := by
  rw [lineB, dif_pos (by omega)]
  simp
theorem lineB_out {T : List Cl} {bel : Nat} {c : Int} (h : ¬ (0 ≤ c ∧ c < (bel : Int))) : lineB T bel c = [] := by
  rw [lineB, dif_neg h]

/-- What a round that goes on keeps. -/
def KeepsL (n₀ Bl : Nat) (W W' : World) : Prop := Below n₀ W W' ∧ W'.heap[Bl]? = W.heap[Bl]?
theorem keepsL_t {n₀ Bl : Nat} {A B C : World} (h : KeepsL n₀ Bl A B) (k : KeepsL n₀ Bl B C) : KeepsL n₀ Bl A C := ⟨h.1.trans k.1, k.2.trans h.2⟩
theorem keepsL_b {n₀ Bl : Nat} {w : World} (hn : n₀ ≤ w.heap.size) (hl : Bl < w.heap.size) (W : World) (l : Nat) (o o' : Obj) (hw : w.heap.size ≤ l) (h : W.heap[l]? = some o) (h1 : o.isCells = false) (h2 : o.isWalk = false) : KeepsL n₀ Bl W (W.putObj l o') := by
  refine ⟨belowK_b hn W l o o' hw h h1 h2, ?_⟩
  have := (grownBy_putObj' W l o').block Bl (by have := (Array.getElem?_eq_some_iff.1 h).1; omega) (fun e => by injection e with e; omega)
  exact this

set_option maxHeartbeats 1000000 in
theorem lineMake_in (n : Nat) (ao : Option Addr) (m cap : Nat) (c : Int) (w : World) :
    CallsIn Fence.wide n Tryd.prog 68 #[.slice ao m cap, .int .i64 c] w fun e w' => e = .returned (.func (.func 93) #[] #[.pointer (some ⟨w.heap.size + 1, 0, none⟩), .pointer (some ⟨w.heap.size, 0, none⟩)]) ∧ w' = (w.alloc (.cells #[.slice ao m cap] 22)).alloc (.cells #[.int .i64 c] 3) := by
  refine callsIn_of_wp Tryd.func68 rfl trivial ?_ rfl
  simp only [Tryd.ntmps68, List.size_toArray, List.length_cons, List.length_nil, Nat.reduceAdd, Nat.reduceSub, Array.replicate_succ, Array.replicate_zero, List.push_toArray, List.append_toArray, List.nil_append, List.cons_append]
  gi_wp2
  go_ret
  exact ⟨rfl, rfl⟩

set_option maxHeartbeats 2000000 in
theorem line1_in (n : Nat) (hn : 1 ≤ n) (l Bc Bl : Nat) (ao : Option Addr) (cap : Nat) (T : List Cl) (c : Int) (w0 : World) (hT : TabAt w0 ao T) (J Jx : List Nat → World → Prop) (Bj : Nat) (hJ : AbidesFrom Bj J)
    (hY : ∀ pre (x : Nat) W, J pre W → x < T.length → pre.length < (lineB T T.length c).length → YieldAt Fence.wide (n - 1) Tryd.prog l #[.int .i64 (x : Int)] W fun e W' =>
      (e = .returned (.bool true) ∧ J (pre ++ [x]) W' ∧ KeepsL w0.heap.size Bl W W') ∨ (e = .returned (.bool false) ∧ Jx (pre ++ [x]) W'))
    (W : World) (hB0 : Below w0.heap.size w0 W) (hBc : W.cell? ⟨Bc, 0, none⟩ = some (.int .i64 c)) (hBl : W.cell? ⟨Bl, 0, none⟩ = some (.slice ao T.length cap)) (h0 : J [] W) :
    CallsIn Fence.wide n Tryd.prog 93 #[.func (.yield l) #[] #[], .pointer (some ⟨Bc, 0, none⟩), .pointer (some ⟨Bl, 0, none⟩)] W fun e W' => (∃ v, e = .returned v) ∧
      ((∃ ys, ys = lineB T T.length c ∧ J ys W') ∨ (∃ pre, pre <+: lineB T T.length c ∧ Jx pre W')) := by
  have HT := hide hT
  have HB0 := hide hB0
  clear hT hB0
  refine callsIn_of_wp Tryd.func93 rfl trivial ?_ rfl
  simp only [Tryd.ntmps93, List.size_toArray, List.length_cons, List.length_nil, Nat.reduceAdd, Nat.reduceSub, Array.replicate_succ, Array.replicate_zero, List.push_toArray, List.append_toArray, List.nil_append, List.cons_append]
  gi_wp2
  gi_quiet (fail)
  gi_wp2
  gi_loopw [4, 5] (fun av bv wr => ∃ (pre : List Nat) (cur : Int) (bel : Nat), av = .int .i64 cur ∧ bv = .int .i64 (bel : Int) ∧ bel ≤ T.length ∧ Hid (lineB T T.length c = pre ++ lineB T bel cur) ∧ Hid (J pre wr) ∧ Hid (Below w0.heap.size w0 wr) ∧ wr.cell? ⟨Bl, 0, none⟩ = some (.slice ao T.length cap)) (fun _ b _ => (intOf b).toNat)
  case atStart => exact ⟨[], c, T.length, rfl, rfl, Nat.le_refl _, hide rfl, hide (hJ _ _ _ none h0 ⟨rfl, rfl, rfl, Nat.le_refl _, fun _ _ _ => rfl⟩ (fun r e => by cases e)), hide (belowD (unhide HB0) _), hBl⟩
  case round =>
    obtain ⟨pre, cur, bel, rfl, rfl, hbel, HL, HJ, HB, hbl⟩ := hrel
    by_cases h1 : 0 ≤ cur
    · by_cases h2 : cur < (bel : Int)
      · have h1' : cur ≥ 0 := h1
        obtain ⟨k, rfl⟩ : ∃ k : Nat, cur = (k : Int) := ⟨cur.toNat, by omega⟩
        have hk : k < T.length := by omega
        have HL2 : Hid (lineB T T.length c = (pre ++ [k]) ++ lineB T k (parD T k)) := hide (by rw [unhide HL, lineB_in (show k < bel by omega)]; simp)
        have hkb : k < bel := by omega
        obtain ⟨fn, tmps, assign, body, hy, hR⟩ := hY pre k wr (unhide HJ) hk (by rw [unhide HL2]; simp)
        clear HL HJ
        gi_wp2
        refine hR.mono ?_
        rintro e W3 (⟨rfl, hJ3, hk3⟩ | ⟨rfl, hJx3⟩)
        · have hbl3 : W3.cell? ⟨Bl, 0, none⟩ = some (.slice ao T.length cap) := (World.cell?_of_block hk3.2).trans hbl
          have HB3 := hide ((unhide HB).trans hk3.1)
          obtain ⟨b, off, rfl, hx⟩ := (unhide HT).below (unhide HB3) k _ (List.getElem?_eq_getElem hk)
          have d1 := hx.c1
          have HP := hide (parD_at (List.getElem?_eq_getElem hk))
          generalize T[k].par = pv at d1 HP
          have i1 : ((k : Nat) : Int) < ((T.length : Nat) : Int) := by omega
          rw [unhide HP] at HL2
          have HJ3 := hide hJ3
          clear hx hk3 hJ3 HB hR hy
          gi_wp2
          go_roundw
          case rel => exact ⟨pre ++ [k], pv, k, rfl, rfl, by omega, HL2, HJ3, HB3, hbl3⟩
          case measure => simp [intOf]; omega
        · clear hR hy
          gi_wp2
          go_end0
          exact ⟨⟨_, rfl⟩, .inr ⟨pre ++ [k], ⟨_, (unhide HL2).symm⟩, hJx3⟩⟩
      · have HR : Hid (lineB T T.length c = pre) := hide (by rw [unhide HL, lineB_out (by omega)]; simp)
        gi_wp2
        refine ⟨fun _ h => (by cases h), ?_⟩
        gi_wp2
        go_end0
        exact ⟨⟨_, rfl⟩, .inl ⟨pre, (unhide HR).symm, unhide HJ⟩⟩
    · have HR : Hid (lineB T T.length c = pre) := hide (by rw [unhide HL, lineB_out (by omega)]; simp)
      gi_wp2
      refine ⟨fun _ h => (by cases h), ?_⟩
      gi_wp2
      go_end0
      exact ⟨⟨_, rfl⟩, .inl ⟨pre, (unhide HR).symm, unhide HJ⟩⟩

theorem line_stops (n : Nat) (hn : 1 ≤ n) (Bc Bl : Nat) (ao : Option Addr) (cap : Nat) (T : List Cl) (c : Int) (w0 w : World) (hT : TabAt w0 ao T) (hB : Below w0.heap.size w0 w) (hBc : w.cell? ⟨Bc, 0, none⟩ = some (.int .i64 c)) (hBl : w.cell? ⟨Bl, 0, none⟩ = some (.slice ao T.length cap)) :
    SeqStopsK Fence.wide n Tryd.prog 93 #[.pointer (some ⟨Bc, 0, none⟩), .pointer (some ⟨Bl, 0, none⟩)] (fun x : Nat => #[Value.int .i64 (x : Int)]) (KeepsL w0.heap.size Bl) (fun ys => ys = lineB T T.length c) (fun pre => pre <+: lineB T T.length c) (lineB T T.length c).length w := fun l J Jx W hW hJ _ hY h0 =>
  line1_in n hn l Bc Bl ao cap T c w0 hT J Jx _ hJ (fun pre x W1 h1 _ h2 => hY pre x W1 h1 h2) W (hB.trans (hW.mono hB.size)) ((hW.cell (p := ⟨Bc, 0, none⟩) (World.block_lt_of_cell? w _ hBc)).trans hBc) ((hW.cell (p := ⟨Bl, 0, none⟩) (World.block_lt_of_cell? w _ hBl)).trans hBl) h0

/-- The same, where a round is told that the class is one of the table. -/
theorem line_stopsF (n : Nat) (hn : 1 ≤ n) (Bc Bl : Nat) (ao : Option Addr) (cap : Nat) (T : List Cl) (c : Int) (w0 w : World) (hT : TabAt w0 ao T) (hB : Below w0.heap.size w0 w) (hBc : w.cell? ⟨Bc, 0, none⟩ = some (.int .i64 c)) (hBl : w.cell? ⟨Bl, 0, none⟩ = some (.slice ao T.length cap)) :
    SeqStopsK Fence.wide n Tryd.prog 93 #[.pointer (some ⟨Bc, 0, none⟩), .pointer (some ⟨Bl, 0, none⟩)] (fun x : {x : Nat // x < T.length} => #[Value.int .i64 (x.1 : Int)]) (KeepsL w0.heap.size Bl) (fun ys => ys.map Subtype.val = lineB T T.length c) (fun pre => pre.map Subtype.val <+: lineB T T.length c) (lineB T T.length c).length w := fun l J Jx W hW hJ _ hY h0 => by
  refine (line1_in n hn l Bc Bl ao cap T c w0 hT (fun pre W => ∃ p : List {x : Nat // x < T.length}, p.map Subtype.val = pre ∧ J p W) (fun pre W => ∃ p : List {x : Nat // x < T.length}, p.map Subtype.val = pre ∧ Jx p W) W.heap.size (fun s A B row hs hg hr => ?_) (fun pre x W1 h1 hx hl => ?_) W (hB.trans (hW.mono hB.size)) ((hW.cell (p := ⟨Bc, 0, none⟩) (World.block_lt_of_cell? w _ hBc)).trans hBc) ((hW.cell (p := ⟨Bl, 0, none⟩) (World.block_lt_of_cell? w _ hBl)).trans hBl) ⟨[], rfl, h0⟩).mono ?_
  · obtain ⟨p, e, hp⟩ := hs
    exact ⟨p, e, hJ p A B row hp hg hr⟩
  · obtain ⟨p, rfl, hp⟩ := h1
    obtain ⟨fn, tmps, assign, body, hy, hR⟩ := hY p ⟨x, hx⟩ W1 hp (by simpa using hl)
    refine ⟨fn, tmps, assign, body, hy, hR.mono ?_⟩
    rintro e W' (⟨rfl, h2, h3⟩ | ⟨rfl, h2⟩)
    · exact .inl ⟨rfl, ⟨p ++ [⟨x, hx⟩], by simp, h2⟩, h3⟩
    · exact .inr ⟨rfl, ⟨p ++ [⟨x, hx⟩], by simp, h2⟩⟩
  · rintro e W' ⟨hv, ⟨ys, hys, p, rfl, hp⟩ | ⟨pre, hpre, p, rfl, hp⟩⟩
    · exact ⟨hv, .inl ⟨p, hys, hp⟩⟩
    · exact ⟨hv, .inr ⟨p, hpre, hp⟩⟩
end Go.Proofs.YtbiofkgdbdjdnaaDoor
