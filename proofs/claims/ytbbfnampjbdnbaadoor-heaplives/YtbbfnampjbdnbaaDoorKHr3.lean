/-
  The document's heap: New.
-/
import Derived.Test.YtbbfnampjbdnbaaDoorJHA
import Derived.Test.YtbbfnampjbdnbaaDoorJTZ
namespace Go.Proofs.YtbbfnampjbdnbaaDoor
open Go.RowKit
set_option maxRecDepth 20000
set_option linter.unusedVariables false
set_option linter.unusedSimpArgs false

/-- What the document's New answers. -/
def RNewIs (T : List Cl) (room : Int) (lv : Value) (B : Nat) (W : World) (e : Ending) : Prop :=
  ((room < 0 ∨ 4096 < room) ∧ e = .returned (.tuple #[.pointer none, .int .i64 1])) ∨
  (0 ≤ room ∧ room ≤ 4096 ∧ ∃ (n : Nat) (er : Int), IsFirst T n er ∧ e = .returned (.tuple #[.pointer none, .int .i64 er])) ∨
  (0 ≤ room ∧ room ≤ 4096 ∧ madeD T = true ∧ ∃ g, e = .returned (.tuple #[.pointer (some ⟨g, 0, none⟩), .int .i64 0]) ∧ RpAt B W g ⟨lv, room, .slice none 0 0, []⟩)
theorem RpAt.new {B : Nat} {W : World} (room : Int) (lv : Value) (hB : B ≤ W.heap.size) : RpAt B (W.alloc (.cells #[lv, .int .i64 room, .slice none 0 0] 61)) W.heap.size ⟨lv, room, .slice none 0 0, []⟩ :=
  ⟨hB, heap_alloc_new W _, World.ownsRow_nil _ _ _ _, fun x hx => by simp at hx, by simp⟩
set_option maxHeartbeats 2000000 in
theorem refNew_any (ao : Option Addr) (cap : Nat) (T : List Cl) (room : Int) (w : World) (hT : TabAt w ao T) (hz : T.length * 48 ≤ 140737488351232) :
    Calls Tryd.prog 6 #[.slice ao T.length cap, .int .i64 room] w fun e w' => RNewIs T room (.slice ao T.length cap) w.heap.size w' e ∧ Below w.heap.size w w' := by
  have HC := hide (refCheck_any ao cap T w hT hz)
  clear hT hz
  go_enter Tryd.func6, Tryd.ntmps6
  by_cases h1 : room < 0
  · have HR := hide h1
    go_wp2
    go_ret2
    exact ⟨Or.inl ⟨Or.inl (unhide HR), rfl⟩, Below.refl _ _⟩
  · by_cases h2 : 4096 < room
    · have HR := hide h2
      go_wp2
      go_ret2
      exact ⟨Or.inl ⟨Or.inr (unhide HR), rfl⟩, Below.refl _ _⟩
    · have HRM : Hid (0 ≤ room ∧ room ≤ 4096) := hide ⟨by omega, by omega⟩
      go_wp2_with fail
      refine (unhide HC).mono ?_
      rintro e W2 ⟨⟨n, er, rfl, h3⟩, hB2⟩
      have HB2 := hide hB2
      clear HC
      rcases h3 with ⟨rfl, rfl, hm⟩ | hf
      · have HM := hide hm
        have HN := hide (RpAt.new (B := w.heap.size) (W := W2) room (.slice ao T.length cap) hB2.size)
        have HB3 : Hid (Below w.heap.size w (W2.alloc (.cells #[.slice ao T.length cap, .int .i64 room, .slice none 0 0] 61))) := hide (hB2.trans (((Below.refl _ _).alloc (Nat.le_refl _) _).mono hB2.size))
        clear hm hB2
        go_wp2
        go_ret2
        exact ⟨Or.inr (Or.inr ⟨(unhide HRM).1, (unhide HRM).2, unhide HM, _, rfl, unhide HN⟩), unhide HB3⟩
      · have HE := hide hf
        have t0 : (er != 0) = true := bne_t hf.one.2.1
        clear hf hB2
        go_wp2
        go_ret2
        exact ⟨Or.inr (Or.inl ⟨(unhide HRM).1, (unhide HRM).2, n, er, unhide HE, rfl⟩), unhide HB2⟩
end Go.Proofs.YtbbfnampjbdnbaaDoor
