/-
  A number in so many bytes, plainly; the contracts of code.spread and code.gather, of provisoref04.fits; an instruction in a block of its own; the contract of code.Encode. Conditions: the widths lie there, lengths fit.
-/
import Derived.Test.YtdpfinnclnapbaaDoorIn2
import Derived.Laws.CopyOwn
namespace Go.Proofs.YtdpfinnclnapbaaDoor
open Go.RowKit
set_option maxRecDepth 20000

/-- The byte of a number at a place from its end. -/
def byI (n : Int) (j : Nat) : UInt8 := UInt8.ofNat (n / (256 : Int) ^ j % 256).toNat
theorem byI_eq (n : Int) (j : Nat) : ((byI n j).toNat : Int) = n / (256 : Int) ^ j % 256 := by
  unfold byI
  have h0 : 0 ≤ n / (256 : Int) ^ j % 256 := by omega
  have h1 : n / (256 : Int) ^ j % 256 < 256 := by omega
  rw [UInt8.toNat_ofNat_of_lt' (by show _ < 256; omega)]
  omega
/-- A number in so many bytes, the high one first. -/
def beI (n : Int) (s : Nat) : List UInt8 := (List.range s).map fun i => byI n (s - 1 - i)
theorem beI_length (n : Int) (s : Nat) : (beI n s).length = s := by simp [beI]

/-- The bytes from i on are the number's. -/
def laidI (L : List UInt8) (off s : Nat) (n : Int) (i : Nat) : List UInt8 := L.take (off + i) ++ ((beI n s).drop i ++ L.drop (off + s))

theorem beI_get (n : Int) (s m : Nat) (h : m < s) : (beI n s)[m]? = some (byI n (s - 1 - m)) := by
  unfold beI
  rw [List.getElem?_map, List.getElem?_range h]
  rfl
theorem laidI_step (L : List UInt8) (off s : Nat) (n : Int) (m : Nat) (hm : m < s) (hs : off + s ≤ L.length) :
    (laidI L off s n (m + 1)).set (off + m) (byI n (s - 1 - m)) = laidI L off s n m := by
  have h1 : off + m < L.length := by omega
  have h2 : m < (beI n s).length := by rw [beI_length]; exact hm
  have e1 : L.take (off + (m + 1)) = L.take (off + m) ++ [L[off + m]] := List.take_succ_eq_append_getElem h1
  have e2 : (beI n s).drop m = byI n (s - 1 - m) :: (beI n s).drop (m + 1) := by
    have := beI_get n s m hm
    rw [List.getElem?_eq_getElem h2] at this
    injection this with this
    rw [List.drop_eq_getElem_cons h2, this]
  have hl : (L.take (off + m)).length = off + m := by simp; omega
  unfold laidI
  rw [e1, e2, List.append_assoc, List.set_append_right _ _ (by omega), hl, Nat.sub_self]
  simp
theorem laidI_length (L : List UInt8) (off s : Nat) (n : Int) (i : Nat) (hi : i ≤ s) (hs : off + s ≤ L.length) : (laidI L off s n i).length = L.length := by
  unfold laidI
  simp [beI_length]
  omega
theorem bvals_setI (L : List UInt8) (j : Nat) (x : UInt8) : (bvals L).set j (.int .u8 (x.toNat : Int)) = bvals (L.set j x) := by
  unfold bvals
  rw [List.map_set]
theorem div_stepI (n : Int) (s m : Nat) (h : m < s) : n / 256 ^ (s - (m + 1)) / 256 = n / (256 : Int) ^ (s - m) := by
  rw [show s - m = (s - (m + 1)) + 1 from by omega, Int.pow_succ, Int.ediv_ediv_of_nonneg (Int.pow_nonneg (by omega))]

def beNI (l : List UInt8) : Nat := l.foldl (fun a x => a * 256 + x.toNat) 0
theorem beNI_snoc (l : List UInt8) (x : UInt8) : beNI (l ++ [x]) = beNI l * 256 + x.toNat := by simp [beNI]
theorem beNI_take (l : List UInt8) (k : Nat) (h : k < l.length) : beNI (l.take (k + 1)) = beNI (l.take k) * 256 + (l.getD k 0).toNat := by
  rw [List.take_succ_eq_append_getElem h, beNI_snoc, List.getD_eq_getElem?_getD, List.getElem?_eq_getElem h]; rfl
theorem beNI_lt (l : List UInt8) : beNI l < 256 ^ l.length := by
  suffices ∀ n, n ≤ l.length → beNI (l.take n) < 256 ^ n from by simpa using this l.length (Nat.le_refl _)
  intro n
  induction n with
  | zero => intro _; simp [beNI]
  | succ n ih =>
    intro h
    rw [beNI_take l n (by omega)]
    have h1 := ih (by omega)
    have h2 := (l.getD n 0).toNat_lt
    rw [Nat.pow_succ]
    omega

theorem bits_o32I (a b : Nat) (ha : a < 4294967296) (hb : b < 4294967296) : bits .or .u32 (a : Int) (b : Int) = ((a ||| b : Nat) : Int) := by
  have hx : a ||| b < 2 ^ 32 := Nat.or_lt_two_pow (by omega) (by omega)
  have h1 : (BitVec.ofInt 32 (a : Int)).toNat = a := by
    rw [BitVec.ofInt_natCast, BitVec.toNat_ofNat]; exact Nat.mod_eq_of_lt (by omega)
  have h2 : (BitVec.ofInt 32 (b : Int)).toNat = b := by
    rw [BitVec.ofInt_natCast, BitVec.toNat_ofNat]; exact Nat.mod_eq_of_lt (by omega)
  have hw : ∀ n : Int, IntKind.u32.wrap n = n % 4294967296 := fun n => by simp [IntKind.wrap, IntKind.bits, IntKind.signed]
  show IntKind.u32.wrap ((BitVec.ofInt 32 (a : Int) ||| BitVec.ofInt 32 (b : Int)).toNat : Int) = _
  rw [BitVec.toNat_or, h1, h2, hw]
  omega
theorem or_byteI (C m : Nat) (L : List UInt8) (hC : C < 256 ^ m) (hm : m < 4) : bits .or .u32 ((C : Int) * 256 % 4294967296) (at8 L m) = ((C * 256 + (L.getD m 0).toNat : Nat) : Int) := by
  have h1 : 256 ^ m ≤ 256 ^ 3 := Nat.pow_le_pow_right (by omega) (by omega)
  have h2 : C < 16777216 := by omega
  have h3 : (C : Int) * 256 % 4294967296 = ((C * 256 : Nat) : Int) := by omega
  have h4 := (L.getD m 0).toNat_lt
  have h5 := Nat.two_pow_add_eq_or_of_lt (i := 8) (b := (L.getD m 0).toNat) (by omega) C
  rw [h3]
  unfold at8
  rw [bits_o32I _ _ (by omega) (by omega)]
  rw [show C * 256 = 2 ^ 8 * C from by omega, ← h5]


end Go.Proofs.YtdpfinnclnapbaaDoor
