/-
  What was written, as bytes, and that reading them gives it back. No Go in it.
-/
import Derived.Test.YtggaecmjadkopaaWOps
import Derived.Test.YtggaecmjadkopaaRName
namespace Go.Proofs.Ytggaecmjadkopaa
open Go.RowKit

/-- What a writer was told. -/
structure WD where
  op : Nat
  n : Int
  nm : ByteArray
  so : Option Addr
  sc : Nat
  bs : List UInt8

def WD.cells (x : WD) : List Value := [.int .i64 (x.op : Int), .int .i64 x.n, .string x.nm, .slice x.so x.bs.length x.sc]
def WD.enc (x : WD) : List UInt8 := if x.op = 0 then be x.n 1 else if x.op = 1 then be x.n 2 else if x.op = 2 then be x.n 4 else if x.op = 3 then x.bs else nb x.nm
/-- What the writer takes. -/
def WD.ok (x : WD) : Prop := (x.op = 0 → loN 1 ≤ x.n ∧ x.n ≤ hiN 1) ∧ (x.op = 1 → loN 2 ≤ x.n ∧ x.n ≤ hiN 2) ∧ (x.op = 2 → loN 4 ≤ x.n ∧ x.n ≤ hiN 4) ∧ (x.op = 4 → nameB x.nm = true) ∧ x.op < 5

theorem be1 (n : Int) : be n 1 = [byteOf n 0] := rfl
theorem be2 (n : Int) : be n 2 = [byteOf n 1, byteOf n 0] := rfl
theorem be4 (n : Int) : be n 4 = [byteOf n 3, byteOf n 2, byteOf n 1, byteOf n 0] := rfl

theorem beN_be1 {n : Int} (h : 0 ≤ n ∧ n ≤ 255) : ((beN (be n 1) : Nat) : Int) = n := by
  rw [be1]
  have h0 := byteOf_eq n 0
  simp only [Int.pow_zero, Int.ediv_one] at h0
  simp only [beN, List.foldl_cons, List.foldl_nil]
  omega
theorem beN_be2 {n : Int} (h : 0 ≤ n ∧ n ≤ 65535) : ((beN (be n 2) : Nat) : Int) = n := by
  rw [be2]
  have h0 := byteOf_eq n 0
  have h1 := byteOf_eq n 1
  simp only [Int.pow_zero, Int.ediv_one] at h0
  rw [show (256 : Int) ^ 1 = 256 from rfl] at h1
  simp only [beN, List.foldl_cons, List.foldl_nil]
  omega
theorem beN_be4 {n : Int} (h : -2147483648 ≤ n ∧ n ≤ 2147483647) : s32 (beN (be n 4)) = n := by
  rw [be4]
  have h0 := byteOf_eq n 0
  have h1 := byteOf_eq n 1
  have h2 := byteOf_eq n 2
  have h3 := byteOf_eq n 3
  simp only [Int.pow_zero, Int.ediv_one] at h0
  rw [show (256 : Int) ^ 1 = 256 from rfl] at h1
  rw [show (256 : Int) ^ 2 = 65536 from rfl] at h2
  rw [show (256 : Int) ^ 3 = 16777216 from rfl] at h3
  simp only [beN, List.foldl_cons, List.foldl_nil]
  unfold s32
  split <;> omega

theorem take_of_drop {l m rest : List UInt8} {k : Nat} (h : l.drop k = m ++ rest) : (l.drop k).take m.length = m := by rw [h]; simp
theorem len_of_drop {l m rest : List UInt8} {k : Nat} (h : l.drop k = m ++ rest) : m.length ≤ l.length - k := by
  have := congrArg List.length h
  simp at this
  omega

theorem num_back {l rest : List UInt8} {k s : Nat} {n : Int} (hs : s = 1 ∨ s = 2 ∨ s = 4) (h1 : loN s ≤ n) (h2 : n ≤ hiN s) (h : l.drop k = be n s ++ rest) : numV l k s = n ∧ numE l k s = 0 ∧ numK l k s = k + s := by
  have hl := len_of_drop h
  have ht := take_of_drop h
  rw [be_length] at hl ht
  have hc : ¬ l.length - k < s := by omega
  simp only [numV, numE, numK, if_neg hc, ht, and_true]
  rcases hs with rfl | rfl | rfl
  · rw [if_neg (by omega)]
    exact beN_be1 ⟨by simpa [loN] using h1, by simpa [hiN] using h2⟩
  · rw [if_neg (by omega)]
    exact beN_be2 ⟨by simpa [loN] using h1, by simpa [hiN] using h2⟩
  · rw [if_pos rfl]
    exact beN_be4 ⟨by simpa [loN] using h1, by simpa [hiN] using h2⟩

theorem take_back {l m rest : List UInt8} {k : Nat} (h : l.drop k = m ++ rest) : takeL l k m.length = m ∧ takeE l k m.length = 0 ∧ takeK l k m.length = k + m.length := by
  have hl := len_of_drop h
  have ht := take_of_drop h
  unfold takeL takeE takeK
  rw [if_neg (by omega), if_neg (by omega), if_neg (by omega), if_neg (by omega), if_neg (by omega), if_neg (by omega)]
  exact ⟨by simpa using ht, rfl, by simp⟩

theorem nb_length (s : ByteArray) : (nb s).length = s.size + 1 := by simp [nb]

theorem name_back {l rest : List UInt8} {k : Nat} {s : ByteArray} (hn : nameB s = true) (h : l.drop k = nb s ++ rest) : nmL l k = s.data.toList ∧ nmE l k = 0 ∧ nmK l k = k + (nb s).length := by
  obtain ⟨s1, s2⟩ := name_size hn
  have hl := len_of_drop h
  rw [nb_length] at hl
  have hN : nmN l k = s.size := by
    unfold nmN
    have : l[k]? = some (UInt8.ofNat s.size) := by
      have := congrArg (fun m => m[0]?) h
      simpa [nb] using this
    rw [List.getD_eq_getElem?_getD, this]
    simp
    omega
  have hS : nmS l k = s.data.toList := by
    unfold nmS
    rw [hN]
    have e : l.drop (k + 1) = s.data.toList ++ rest := by
      have := congrArg (List.drop 1) h
      rw [List.drop_drop] at this
      simpa [nb, Nat.add_comm] using this
    rw [e]
    have : s.size = s.data.toList.length := by simp
    rw [this]
    simp
  have hE : nmE l k = 0 := by
    unfold nmE
    rw [if_neg (by omega), if_neg (by omega), if_neg (by omega), hS]
    rw [if_pos]
    exact hn
  refine ⟨by unfold nmL; rw [if_pos hE, hS], hE, ?_⟩
  unfold nmK
  rw [if_pos hE, nb_length, hN]
  omega
end Go.Proofs.Ytggaecmjadkopaa
