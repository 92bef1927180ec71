/-
  The contract of slices.Reverse at a row of numbers of one's own: the numbers from behind, in the same block. Conditions: the row's own.
-/
import Derived.Test.YtbiofkgdbdjdnaaDoorColl
namespace Go.Proofs.YtbiofkgdbdjdnaaDoor
open Go.RowKit
set_option maxRecDepth 20000

theorem OwnI.store {w : World} {B g n cap : Nat} {l : List Nat} (h : OwnI w B (.slice (some ⟨g, 0, none⟩) n cap) l) (hn : l.length = n) (k : Nat) (y : Nat) :
    OwnI (w.setCell ⟨g, k, none⟩ (.int .i64 (y : Int))) B (.slice (some ⟨g, 0, none⟩) n cap) (l.set k y) ∧ w.grownBy (w.setCell ⟨g, k, none⟩ (.int .i64 (y : Int))) (some g) := by
  subst hn
  have := World.ownsRow.stored h k (.int .i64 (y : Int))
  refine ⟨?_, this.2⟩
  unfold OwnI
  rw [List.length_set]
  have e : ivals (l.set k y) = (ivals l).set k (.int .i64 (y : Int)) := by unfold ivals; rw [List.map_set]
  rw [e]
  exact this.1

theorem grownBy_trans' {a b c : World} {row : Option Nat} (h : a.grownBy b row) (k : b.grownBy c row) : a.grownBy c row :=
  ⟨k.os.trans h.os, k.tape.trans h.tape, k.output.trans h.output, Nat.le_trans h.size k.size, fun i hi hne => (k.block i (Nat.lt_of_lt_of_le hi h.size) hne).trans (h.block i hi hne)⟩

/-- So far it is turned: ahead of i and behind j. -/
def Half (l m : List Nat) (i : Nat) (j : Int) : Prop := m.length = l.length ∧ ∀ q : Nat, q < l.length → m[q]? = if q < i ∨ j < (q : Int) then l[l.length - 1 - q]? else l[q]?

theorem Half.swap {l m : List Nat} {i j : Nat} (h : Half l m i j) (hij : i < j) (hs : i + j + 1 = l.length) {x y : Nat} (hx : m[i]? = some x) (hy : m[j]? = some y) : Half l ((m.set i y).set j x) (i + 1) ((j : Int) - 1) := by
  obtain ⟨hl, hq⟩ := h
  refine ⟨by simp [hl], fun q hqn => ?_⟩
  by_cases e1 : q = j
  · subst e1
    rw [List.getElem?_set_self (by simp; omega), if_pos (by omega)]
    have := hq i (by omega)
    rw [if_neg (by omega), hx] at this
    rw [this]
    congr 1
    omega
  · rw [List.getElem?_set_ne (fun h => e1 h.symm)]
    by_cases e2 : q = i
    · subst e2
      rw [List.getElem?_set_self (by omega), if_pos (by omega)]
      have := hq j (by omega)
      rw [if_neg (by omega), hy] at this
      rw [this]
      congr 1
      omega
    · rw [List.getElem?_set_ne (fun h => e2 h.symm), hq q hqn]
      by_cases e3 : q < i ∨ (j : Int) < (q : Int)
      · rw [if_pos e3, if_pos (by omega)]
      · rw [if_neg e3, if_neg (by omega)]
theorem Half.done {l m : List Nat} {i : Nat} {j : Int} (h : Half l m i j) (hij : ¬ (i : Int) < j) (hs : (i : Int) + j + 1 = l.length) : m = l.reverse := by
  obtain ⟨hl, hq⟩ := h
  apply List.ext_getElem?
  intro q
  by_cases hqn : q < l.length
  · rw [hq q hqn, List.getElem?_reverse hqn]
    by_cases e : q < i ∨ j < (q : Int)
    · rw [if_pos e]
    · rw [if_neg e]
      congr 1
      omega
  · rw [List.getElem?_eq_none (by omega), List.getElem?_eq_none (by simp; omega)]

set_option maxHeartbeats 2000000 in
theorem Reverse_own {w : World} {B : Nat} {v : Value} {l : List Nat} (h : OwnI w B v l) (hn : l.length ≤ 4000000000000) :
    Calls Tryd.prog 69 #[v] w fun e w' => e = .returned (.tuple #[]) ∧ OwnI w' B v l.reverse ∧ w.grownBy w' v.ownBlock := by
  have hn' : l.length < 9223372036854775000 := by omega
  rcases h.shape with ⟨rfl, rfl⟩ | ⟨g, cap, rfl, hg1, hg2, hg3⟩
  · go_enter Tryd.func69, Tryd.ntmps69
    go_wp2
    go_loopw [2, 3] (fun i j wr => i = .int .i64 0 ∧ j = .int .i64 (-1) ∧ wr = w) (fun _ _ _ => 0)
    case atStart => exact ⟨rfl, rfl, rfl⟩
    case round =>
      obtain ⟨rfl, rfl, rfl⟩ := hrel
      go_wp2
      go_end0
      exact ⟨rfl, h, World.grownBy.refl _ _⟩
  · have HO := hide h
    clear h hg3 hn
    go_enter Tryd.func69, Tryd.ntmps69
    go_wp2
    go_loopw [2, 3] (fun iv jv wr => ∃ (i : Nat) (j : Int) (m : List Nat), iv = .int .i64 (i : Int) ∧ jv = .int .i64 j ∧ Hid ((i : Int) + j + 1 = l.length) ∧ i ≤ l.length ∧ Hid (Half l m i j) ∧ Hid (OwnI wr B (.slice (some ⟨g, 0, none⟩) l.length cap) m) ∧ Hid (w.grownBy wr (some g))) (fun i _ _ => l.length - (intOf i).toNat)
    case atStart => exact ⟨0, (l.length : Int) - 1, l, rfl, by go_num, hide (by omega), by omega, hide ⟨rfl, fun q hq => by rw [if_neg (by omega)]⟩, HO, hide (World.grownBy.refl _ _)⟩
    case round =>
      obtain ⟨i, j, m, rfl, rfl, HS, hil, HH, HO2, HG⟩ := hrel
      by_cases hij : (i : Int) < j
      · obtain ⟨k, rfl⟩ : ∃ k : Nat, j = (k : Int) := ⟨j.toNat, by omega⟩
        have hs := unhide HS
        have hml := (unhide HH).1
        have him : i < m.length := by omega
        have hkm : k < m.length := by omega
        have hik : i < k := by omega
        have hx := List.getElem?_eq_getElem him
        have hy := List.getElem?_eq_getElem hkm
        have HSw := hide ((unhide HH).swap hik (by omega) hx hy)
        have hml' : m.length = l.length := hml
        have e1 := (unhide HO2).shape
        rcases e1 with ⟨e1, _⟩ | ⟨g2, cap2, e1, _, _, hc⟩
        · cases e1
        · injection e1 with e1 e2 e3
          clear e2
          injection e1 with e1
          injection e1 with e1
          subst e1 e3
          have d1 := hc i _ hx
          have d2 := hc k _ hy
          have f1 : wr.frozen? ⟨g, i, none⟩ = false := World.ownsRow.frozenAt (by have := unhide HO2; unfold OwnI at this; rw [hml'] at this; exact this) i
          have f2 : wr.frozen? ⟨g, k, none⟩ = false := World.ownsRow.frozenAt (by have := unhide HO2; unfold OwnI at this; rw [hml'] at this; exact this) k
          generalize m[i] = x at HSw d1
          generalize m[k] = y at HSw d2
          have i1 : ((i : Nat) : Int) < ((l.length : Nat) : Int) := by omega
          have i2 : ((k : Nat) : Int) < ((l.length : Nat) : Int) := by omega
          have hne : i ≠ k := by omega
          have h1 := (unhide HO2).store hml' i y
          have h2 := h1.1.store (by rw [List.length_set]; exact hml') k x
          have HO3 := hide h2.1
          have HG3 := hide (grownBy_trans' (grownBy_trans' (unhide HG) h1.2) h2.2)
          clear hx hy hc hml hml' hs him hkm HH h1 h2
          go_wp2
          go_region
          go_wp2
          go_roundw
          case rel =>
            exact ⟨i + 1, (k : Int) - 1, (m.set i y).set k x, by go_num, by go_num, hide (by have := unhide HS; omega), by omega, HSw, HO3, hide (grownBy_trans' (unhide HG3) ⟨rfl, rfl, rfl, Nat.le_refl _, fun _ _ _ => rfl⟩)⟩
          case measure => simp [intOf]; omega
      · have HR : Hid (m = l.reverse) := hide ((unhide HH).done hij (unhide HS))
        go_wp2
        go_end0
        exact ⟨rfl, by rw [← unhide HR]; exact unhide HO2, unhide HG⟩
end Go.Proofs.YtbiofkgdbdjdnaaDoor
