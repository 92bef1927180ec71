/-
  Plain mathematics of the check sum: a round of it is linear over exclusive or, so four rounds are one look into a table of sixteen words. No Go in it.
-/
import Derived.Test.YtibgfdjopikafaaGreatDoorMem
import Derived.Laws.Bits64
namespace Go.Proofs.YtibgfdjopikafaaGreatDoor
open Go.RowKit
set_option maxRecDepth 20000

/-- One round: half the number; turned by the polynomial where it was odd. -/
def rnd (c : Nat) : Nat := if c % 2 = 1 then c / 2 ^^^ 3988292384 else c / 2
def rndN : Nat → Nat → Nat
  | 0, c => c
  | n + 1, c => rnd (rndN n c)

theorem rnd_lt {c : Nat} (h : c < 4294967296) : rnd c < 4294967296 := by
  unfold rnd
  split
  · exact Nat.xor_lt_two_pow (n := 32) (by omega) (by omega)
  · omega
theorem rndN_lt {c : Nat} (n : Nat) (h : c < 4294967296) : rndN n c < 4294967296 := by
  induction n with
  | zero => exact h
  | succ n ih => exact rnd_lt ih
theorem xor_lt {a b : Nat} (ha : a < 4294967296) (hb : b < 4294967296) : a ^^^ b < 4294967296 := Nat.xor_lt_two_pow (n := 32) (by omega) (by omega)
theorem rndN_add (m n c : Nat) : rndN m (rndN n c) = rndN (n + m) c := by
  induction m with
  | zero => rfl
  | succ m ih => show rnd (rndN m (rndN n c)) = rnd (rndN (n + m) c); rw [ih]

theorem xor_mod2 (a b : Nat) : (a ^^^ b) % 2 = (a % 2 + b % 2) % 2 := by
  have h := Nat.xor_mod_two_pow (a := a) (b := b) (n := 1)
  simp only [Nat.pow_one] at h
  rw [h]
  have ha : a % 2 = 0 ∨ a % 2 = 1 := by omega
  have hb : b % 2 = 0 ∨ b % 2 = 1 := by omega
  rcases ha with ha | ha <;> rcases hb with hb | hb <;> simp [ha, hb]
theorem xor_div2 (a b : Nat) : (a ^^^ b) / 2 = (a / 2) ^^^ (b / 2) := by
  have h := Nat.shiftRight_xor_distrib (a := a) (b := b) (i := 1)
  simpa [Nat.shiftRight_eq_div_pow] using h

theorem rnd_xor (a b : Nat) : rnd (a ^^^ b) = rnd a ^^^ rnd b := by
  unfold rnd
  rw [xor_mod2, xor_div2]
  have ha : a % 2 = 0 ∨ a % 2 = 1 := by omega
  have hb : b % 2 = 0 ∨ b % 2 = 1 := by omega
  generalize a / 2 = x
  generalize b / 2 = y
  generalize 3988292384 = T
  rcases ha with ha | ha <;> rcases hb with hb | hb <;> simp [ha, hb]
  · ac_rfl
  · ac_rfl
  · have : x ^^^ T ^^^ (y ^^^ T) = x ^^^ y ^^^ (T ^^^ T) := by ac_rfl
    rw [this, Nat.xor_self, Nat.xor_zero]
theorem rndN_xor (n a b : Nat) : rndN n (a ^^^ b) = rndN n a ^^^ rndN n b := by
  induction n with
  | zero => rfl
  | succ n ih => show rnd _ = rnd _ ^^^ rnd _; rw [ih, rnd_xor]

theorem rnd_even (x : Nat) : rnd (2 * x) = x := by
  unfold rnd
  rw [if_neg (by omega)]
  omega
theorem rndN4_shift (x : Nat) : rndN 4 (16 * x) = x := by
  show rnd (rnd (rnd (rnd (16 * x)))) = x
  rw [show 16 * x = 2 * (2 * (2 * (2 * x))) from by omega, rnd_even, rnd_even, rnd_even, rnd_even]

theorem split16 (c : Nat) : c = (16 * (c / 16)) ^^^ (c % 16) := by
  have h1 : c = 2 ^ 4 * (c / 16) + c % 16 := by omega
  have h2 : c % 16 < 2 ^ 4 := by omega
  have h3 := Nat.two_pow_add_eq_or_of_lt h2 (c / 16)
  have h4 : (2 ^ 4 * (c / 16)) &&& (c % 16) = 0 := by
    apply Nat.eq_of_testBit_eq
    intro i
    rw [Nat.testBit_and, Nat.zero_testBit, Nat.testBit_two_pow_mul]
    by_cases hi : i ≥ 4
    · have : (c % 16).testBit i = false := Nat.testBit_lt_two_pow (Nat.lt_of_lt_of_le h2 (Nat.pow_le_pow_right (by omega) hi))
      simp [this]
    · simp [hi]
  have h5 : (2 ^ 4 * (c / 16)) ^^^ (c % 16) = (2 ^ 4 * (c / 16)) ||| (c % 16) := by
    apply Nat.eq_of_testBit_eq
    intro i
    have := congrArg (fun n => n.testBit i) h4
    simp only [Nat.testBit_and, Nat.zero_testBit] at this
    rw [Nat.testBit_xor, Nat.testBit_or]
    revert this
    cases (2 ^ 4 * (c / 16)).testBit i <;> cases (c % 16).testBit i <;> simp
  have h6 : 16 * (c / 16) = 2 ^ 4 * (c / 16) := by omega
  rw [h6, h5, ← h3, ← h1]

theorem rndN4 (c : Nat) : rndN 4 c = (c / 16) ^^^ rndN 4 (c % 16) := by
  conv => lhs; rw [split16 c]
  rw [rndN_xor, rndN4_shift]

/-- What a byte does. -/
def eat (c : Nat) (x : UInt8) : Nat := rndN 8 (c ^^^ x.toNat)
theorem eat_lt {c : Nat} (x : UInt8) (h : c < 4294967296) : eat c x < 4294967296 := rndN_lt 8 (xor_lt h (by have := x.toNat_lt; omega))
theorem eat_two (c : Nat) (x : UInt8) : eat c x = rndN 4 (rndN 4 (c ^^^ x.toNat)) := (rndN_add 4 4 _).symm

/-- The sum's number behind k bytes. -/
def upTo (l : List UInt8) (k : Nat) : Nat := (l.take k).foldl eat 4294967295
theorem upTo_zero (l : List UInt8) : upTo l 0 = 4294967295 := rfl
theorem upTo_succ (l : List UInt8) (k : Nat) (h : k < l.length) : upTo l (k + 1) = eat (upTo l k) (l.getD k 0) := by
  unfold upTo
  rw [List.take_succ_eq_append_getElem h, List.foldl_append, List.getD_eq_getElem?_getD, List.getElem?_eq_getElem h]
  rfl
theorem upTo_lt (l : List UInt8) (k : Nat) : upTo l k < 4294967296 := by
  unfold upTo
  generalize l.take k = m
  suffices ∀ c, c < 4294967296 → m.foldl eat c < 4294967296 from this _ (by omega)
  induction m with
  | nil => intro c h; exact h
  | cons x m ih => intro c h; exact ih _ (eat_lt x h)

/-- The check sum. -/
def sumOf (l : List UInt8) : Nat := upTo l l.length ^^^ 4294967295
theorem sumOf_lt (l : List UInt8) : sumOf l < 4294967296 := xor_lt (upTo_lt l _) (by omega)

theorem bits_x32 (a b : Nat) (ha : a < 4294967296) (hb : b < 4294967296) : bits .xor .u32 (a : Int) (b : Int) = ((a ^^^ b : Nat) : Int) := by
  have hx : a ^^^ b < 2 ^ 32 := Nat.xor_lt_two_pow (by omega) (by omega)
  have h1 : (BitVec.ofInt 32 (a : Int)).toNat = a := by
    rw [BitVec.ofInt_natCast, BitVec.toNat_ofNat]; exact Nat.mod_eq_of_lt (by omega)
  have h2 : (BitVec.ofInt 32 (b : Int)).toNat = b := by
    rw [BitVec.ofInt_natCast, BitVec.toNat_ofNat]; exact Nat.mod_eq_of_lt (by omega)
  have hw : ∀ n : Int, IntKind.u32.wrap n = n % 4294967296 := fun n => by simp [IntKind.wrap, IntKind.bits, IntKind.signed]
  show IntKind.u32.wrap ((BitVec.ofInt 32 (a : Int) ^^^ BitVec.ofInt 32 (b : Int)).toNat : Int) = _
  rw [BitVec.toNat_xor, h1, h2, hw]
  omega
theorem bits_half (c : Nat) (h : c < 4294967296) (ho : c % 2 = 1) : bits .xor .u32 ((c : Int) / 2) 3988292384 = ((rnd c : Nat) : Int) := by
  have h1 : ((c : Int) / 2) = ((c / 2 : Nat) : Int) := by omega
  have h2 : rnd c = c / 2 ^^^ 3988292384 := by unfold rnd; rw [if_pos ho]
  rw [h1, h2]
  exact bits_x32 _ 3988292384 (by omega) (by omega)
theorem even_half (c : Nat) (ho : ¬ c % 2 = 1) : ((c : Int) / 2) = ((rnd c : Nat) : Int) := by
  have h2 : rnd c = c / 2 := by unfold rnd; rw [if_neg ho]
  rw [h2]; omega
theorem bits_byte (c : Nat) (l : List UInt8) (k : Nat) (h : c < 4294967296) : bits .xor .u32 (c : Int) (at8 l k) = ((c ^^^ (l.getD k 0).toNat : Nat) : Int) :=
  bits_x32 _ _ h (by have := (l.getD k 0).toNat_lt; omega)
theorem bits_end (c : Nat) (h : c < 4294967296) : bits .xor .u32 (c : Int) 4294967295 = ((c ^^^ 4294967295 : Nat) : Int) :=
  bits_x32 c 4294967295 h (by omega)
theorem bits_word (c : Nat) (h : c < 4294967296) : bits .xor .u32 ((c : Int) / 16) ((rndN 4 (c % 16) : Nat) : Int) = ((rndN 4 c : Nat) : Int) := by
  have h1 : ((c : Int) / 16) = ((c / 16 : Nat) : Int) := by omega
  rw [h1, rndN4 c]
  exact bits_x32 _ _ (by omega) (rndN_lt 4 (by omega))
end Go.Proofs.YtibgfdjopikafaaGreatDoor
