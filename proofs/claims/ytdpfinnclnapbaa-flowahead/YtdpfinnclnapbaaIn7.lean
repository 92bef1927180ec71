/-
  What Decode answers, plainly; the contract of code.Decode. Conditions: the widths lie there, lengths fit.
-/
import Derived.Test.YtdpfinnclnapbaaIn3
namespace Go.Proofs.Ytdpfinnclnapbaa
open Go.RowKit

/-- The number of so many bytes; of four as two's complement. -/
def s32I (n : Nat) : Int := if n < 2147483648 then (n : Int) else (n : Int) - 4294967296
/-- The operands of what stands there, of whose byte it is. -/
def dA (op : Nat) (t : List UInt8) : Int := if op = 1 then s32I (beNI (t.take (wA op))) else (beNI (t.take (wA op)) : Int)
def dB (op : Nat) (t : List UInt8) : Int := (beNI ((t.drop (wA op)).take (wB op)) : Int)
/-- Decode's error: l the bytes from the address on. -/
def dE (l : List UInt8) : Int := match l with
  | [] => 2
  | x :: t => if x.toNat < 34 then (if l.length < sizeD x.toNat then 2 else if inD x.toNat (dA x.toNat t) (dB x.toNat t) then 0 else 5) else 40
def dV (at_ : Int) (l : List UInt8) : Array Value := match l with
  | [] => #[.int .i64 0, .int .u8 0, .int .i64 0, .int .i64 0]
  | x :: t => if dE l = 0 then #[.int .i64 at_, .int .u8 (x.toNat : Int), .int .i64 (dA x.toNat t), .int .i64 (dB x.toNat t)] else #[.int .i64 0, .int .u8 0, .int .i64 0, .int .i64 0]

theorem BAt.part {w : World} {b off : Nat} {x : UInt8} {t : List UInt8} (h : BAt w (some ⟨b, off, none⟩) (x :: t)) (k n : Nat) {l : List UInt8} (hl : (x :: t).drop k = l) : BAt w (some ⟨b, off + k, none⟩) (l.take n) := by
  intro i hi
  have hi' : i < l.length := by simp at hi; omega
  have hk : k + i < (x :: t).length := by rw [← hl, List.length_drop] at hi'; omega
  obtain ⟨b', off', e, hc⟩ := h (k + i) hk
  injection e with e
  injection e with e1 e2
  subst e1 e2
  refine ⟨b, off + k, rfl, ?_⟩
  rw [show off + k + i = off + (k + i) by omega, hc]
  unfold at8
  rw [← hl, List.getD_eq_getElem?_getD, List.getD_eq_getElem?_getD, List.getElem?_take_of_lt (by simp at hi; omega), List.getElem?_drop]

theorem wrap_s32 (va : Nat) (h : va < 4294967296) : wrap64 (wrap32 (va : Int)) = s32I va := by
  unfold s32I
  split
  all_goals
    simp only [wrap64, wrap32]
    omega

end Go.Proofs.Ytdpfinnclnapbaa
