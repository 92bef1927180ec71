/-
  Contracts of the writer's Put and Byte, in one form: the error, the bytes then, and that nothing but the writer's own has turned. Conditions: lengths fit.
-/
import Derived.Test.YtggaecmjadkopabNum
namespace Go.Proofs.Ytggaecmjadkopab
open Go.RowKit

/-- What holds behind a writer's call: the error, the bytes, and that nothing but the writer's own has turned. -/
def WPost (w : World) (p : Nat) (v : Value) (code : Int) (l' : List UInt8) (e : Ending) (w' : World) : Prop :=
  e = .returned (.int .i64 code) ∧ ∃ v', IsWriter w' p v' l' ∧ Kept (WT p v) w w' ∧ (∀ k, v'.ownBlock = some k → v.ownBlock = some k ∨ w.heap.size ≤ k)

theorem WPost.same {w w' : World} {p : Nat} {v : Value} {l : List UInt8} {code : Int} (h : IsWriter w p v l) (hb : Below w.heap.size w w') : WPost w p v code l (.returned (.int .i64 code)) w' :=
  ⟨rfl, v, h.below hb, Kept.of_below hb _, fun _ hk => .inl hk⟩

/-- A number of s bytes. -/
def loN (s : Nat) : Int := if s = 4 then -2147483648 else 0
def hiN (s : Nat) : Int := if s = 1 then 255 else if s = 2 then 65535 else 2147483647
def wE (l : List UInt8) (n : Int) (s : Nat) : Int := if n < loN s ∨ hiN s < n then 5 else if 1048576 < l.length + s then 7 else 0
def wL (l : List UInt8) (n : Int) (s : Nat) : List UInt8 := if wE l n s = 0 then l ++ be n s else l
/-- Bytes. -/
def jE (l m : List UInt8) : Int := if 1048576 < l.length + m.length then 7 else 0
def jL (l m : List UInt8) : List UInt8 := if jE l m = 0 then l ++ m else l
theorem wnumber_u {w : World} {p : Nat} {v : Value} {l : List UInt8} (h : IsWriter w p v l) (n : Int) (s : Nat) (hs : s = 1 ∨ s = 2 ∨ s = 4) :
    Calls Try.prog 31 #[.pointer (some ⟨p, 0, none⟩), .int .i64 n, .int .i64 (s : Int), .int .i64 (loN s), .int .i64 (hiN s)] w (WPost w p v (wE l n s) (wL l n s)) := by
  by_cases hr : n < loN s ∨ hiN s < n
  · have e1 : wE l n s = 5 := by unfold wE; rw [if_pos hr]
    have e2 : wL l n s = l := by unfold wL; rw [e1]; rfl
    rw [e1, e2]
    refine (wnumber_range h n s _ _ hr).mono ?_
    rintro e w' ⟨rfl, rfl⟩
    exact WPost.same h (Below.refl _ _)
  · refine (wnumber_any h n _ _ s (by omega) (by omega) (by omega)).mono ?_
    rintro e w' ⟨ha, hb⟩
    by_cases hf : 1048576 < l.length + s
    · have e1 : wE l n s = 7 := by unfold wE; rw [if_neg hr, if_pos hf]
      have e2 : wL l n s = l := by unfold wL; rw [e1]; rfl
      rw [e1, e2]
      obtain ⟨rfl, _, h2⟩ := hb hf
      exact WPost.same h h2
    · have e1 : wE l n s = 0 := by unfold wE; rw [if_neg hr, if_neg hf]
      have e2 : wL l n s = l ++ be n s := by unfold wL; rw [e1]; rfl
      rw [e1, e2]
      exact ha (by omega)

theorem Put_u {w : World} {p : Nat} {v : Value} {l : List UInt8} (h : IsWriter w p v l) (b : Value) (m : List UInt8) (hb : SrcB w b m) (hm : m.length ≤ 140737488355328) :
    Calls Try.prog 14 #[.pointer (some ⟨p, 0, none⟩), b] w (WPost w p v (jE l m) (jL l m)) := by
  by_cases hf : 1048576 < l.length + m.length
  · have e1 : jE l m = 7 := by unfold jE; rw [if_pos hf]
    have e2 : jL l m = l := by unfold jL; rw [e1]; rfl
    rw [e1, e2]
    refine (Put_full h b m hb hm hf).mono ?_
    rintro e w' ⟨rfl, rfl⟩
    exact WPost.same h (Below.refl _ _)
  · have e1 : jE l m = 0 := by unfold jE; rw [if_neg hf]
    have e2 : jL l m = l ++ m := by unfold jL; rw [e1]; rfl
    rw [e1, e2]
    refine (Put_ok h b m hb (by omega)).mono ?_
    rintro e w' ⟨rfl, h2⟩
    exact ⟨rfl, h2⟩

theorem wByte_u {w : World} {p : Nat} {v : Value} {l : List UInt8} (h : IsWriter w p v l) (n : Int) :
    Calls Try.prog 18 #[.pointer (some ⟨p, 0, none⟩), .int .i64 n] w (WPost w p v (wE l n 1) (wL l n 1)) := by
  go_enter Try.func18, Try.ntmps18
  go_wp2_with fail
  refine (wnumber_u h n 1 (by omega)).mono ?_
  rintro e w' ⟨rfl, hP⟩
  go_wp2
  go_ret
  exact ⟨rfl, hP⟩
end Go.Proofs.Ytggaecmjadkopab
