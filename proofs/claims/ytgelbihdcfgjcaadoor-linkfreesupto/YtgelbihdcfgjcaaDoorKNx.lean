/-
  Where an instruction goes on: the contracts of flow.Next and provisoref05.Next, in new memory. Conditions: the widths lie there.
-/
import Derived.Test.YtgelbihdcfgjcaaDoorSo
import Derived.Test.YtgelbihdcfgjcaaDoorJIN
import Derived.Test.YtgelbihdcfgjcaaDoorKNx0
namespace Go.Proofs.YtgelbihdcfgjcaaDoor
open Go.RowKit
set_option maxRecDepth 20000

/-- The ways as the program lists them. -/
def rawN (p : Int) (op : Nat) (a : Int) : List Int := (if endD op then [] else [p + sizeD op]) ++ (if jmpD op then [a] else [])
theorem next_raw {p : Int} {op : Nat} {a : Int} (h1 : sizeD op ≠ 0) (h2 : inC p = true) : onceJ (rawN p op a) = nextD p op a := by
  refine asc_ext (onceJ_asc _) (nextD_asc _ _ _) (fun x => ?_)
  have e : nextD p op a = (fun l => if jmpD op then putJ l a else l) (if endD op then [] else putJ [] (p + sizeD op)) := by
    unfold nextD
    exact if_neg (by rintro (h | h); exact h1 h; rw [h2] at h; cases h)
  rw [mem_onceJ, e]
  unfold rawN
  cases endD op <;> cases jmpD op <;> simp [mem_putJ]
  all_goals omega

theorem inC_iff {p : Int} : inC p = true ↔ 0 ≤ p ∧ p < 4096 := by unfold inC; simp
theorem IAt.new' (w : World) (p : Int) (op : Nat) (a b : Int) : IAt (w.alloc (.cells #[.int .i64 p, .int .u8 (op : Int), .int .i64 a, .int .i64 b] 68)) w.heap.size p op a b := by
  unfold IAt World.alloc
  simp
theorem IAt.drewN {W : World} {g : Nat} {p : Int} {op : Nat} {a b : Int} (h : IAt W g p op a b) (k : Nat) : IAt (W.drewN k) g p op a b := h
theorem belowD' {w w' : World} {B : Nat} (h : Below B w w') (q : Nat) : Below B w (w'.drewN q) := h.trans ⟨rfl, rfl, rfl, Nat.le_refl _, fun _ _ => rfl⟩
set_option maxHeartbeats 1000000 in
theorem behind_any (p : Int) (op : Nat) (a b : Int) (w : World) (hW : WidAt w) (ho : op < 256) (hp : 0 ≤ p ∧ p ≤ 4096) :
    Calls Tryd.prog 30 #[.agg #[.int .i64 p, .int .u8 (op : Int), .int .i64 a, .int .i64 b]] w fun e w' => e = .returned (.int .i64 (p + sizeD op)) ∧ Below w.heap.size w w' := by
  have hal := ((Below.refl w.heap.size w).alloc (Nat.le_refl _) (.cells #[.int .i64 p, .int .u8 (op : Int), .int .i64 a, .int .i64 b] 68))
  have HW := hide (hW.below hal)
  have HI := hide (IAt.new' w p op a b)
  have HB := hide hal
  have hs := sizeD_le op
  obtain ⟨s, hS⟩ : ∃ s, Hid (sizeD op = s) := ⟨_, hide rfl⟩
  rw [unhide hS] at hs ⊢
  clear hW hal
  go_enter Tryd.func30, Tryd.ntmps30
  go_wp2_with fail
  generalize (w.alloc (.cells #[.int .i64 p, .int .u8 (op : Int), .int .i64 a, .int .i64 b] 68)) = W at HW HI HB ⊢
  have c0 := (unhide HI).c0
  have c1 := (unhide HI).c.1
  have hC : Hid (∀ k, Calls Tryd.prog 37 #[.int .u8 (op : Int)] (W.drewN k) fun e w' => e = .returned (.int .i64 (s : Int)) ∧ ∃ k', w' = (W.drewN k).drewN k') := hide (fun k => by have := Size_any op (W.drewN k) ((unhide HW).drewN k) ho; rw [unhide hS] at this; exact this)
  go_quiet ((go_at_call 37; exact Calls.quiet_of (unhide hC _)))
  go_wp2
  go_ret
  exact ⟨rfl, belowD' (unhide HB) _⟩
/-- In W0 a box was laid behind w. -/
theorem OwnJ.weak {w : World} {b c : Nat} {v : Value} {l : List Int} (h : OwnJ w c v l) (hb : b ≤ c) : OwnJ w b v l := by
  refine ⟨h.1, ?_⟩
  rcases h.2 with h1 | ⟨g, cap, cur, hv, hbg, r⟩
  · exact Or.inl h1
  · exact Or.inr ⟨g, cap, cur, hv, Nat.le_trans hb hbg, r⟩

end Go.Proofs.YtgelbihdcfgjcaaDoor
