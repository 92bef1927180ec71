/-
  A reader's next along what Told tells: the entry that comes, or the fault. Conditions: the reader is one that Open made, its bytes lie there.
-/
import Derived.Test.YtednnfmomhallaaCrd
namespace Go.Proofs.Ytednnfmomhallaa
open Go.RowKit

theorem next_step {gr : Nat} {ao : Option Addr} {c : Nat} {L : List UInt8} {lo n k p q : Nat} {ahead er : Int} {rest : List (En × Nat)} (w : World) (hR : RAt w gr (.slice ao L.length c) lo n (p : Int) (k : Int) ahead) (hb : BAt w ao L) (hl : L.length ≤ 562949953421312) (hlo : lo ≤ 16) (hp : p ≤ L.length) (hk : k ≤ n) (hn : n ≤ 4096) (hT : tolD L lo (n - k) p ahead = (rest, q, er)) :
    Calls Try.prog 40 #[.pointer (some ⟨gr, 0, none⟩)] w fun e w' => w.grownBy w' (some gr) ∧
      ((∃ y m rest', rest = (y, m) :: rest' ∧ FrOk y.fr ∧ m ≤ L.length ∧ k + 1 ≤ n ∧ e = .returned (.tuple #[.agg (enA y), .bool true, ftV 0 0]) ∧ RAt w' gr (.slice ao L.length c) lo n (m : Int) ((k + 1 : Nat) : Int) y.at_ ∧ tolD L lo (n - (k + 1)) m y.at_ = (rest', q, er)) ∨
       (rest = [] ∧ e = .returned (.tuple #[.agg (enA enZ), .bool false, ftV q er]) ∧ RAt w' gr (.slice ao L.length c) lo n (p : Int) (k : Int) ahead)) := by
  refine (next_any p w hR hb hl hlo hp ⟨by omega, by omega⟩).mono ?_
  rintro e w' ⟨hG, h⟩
  refine ⟨hG, ?_⟩
  rcases h with ⟨h1, hr, h3⟩ | ⟨h1, h2, hr, rfl⟩ | ⟨h1, h2, h3, h4, h5, rfl⟩
  · have hkn : n - k = 0 := by omega
    rw [hkn, tol_end] at hT
    refine .inr ⟨(congrArg Prod.fst hT).symm, ?_, hr⟩
    have h2 := congrArg Prod.snd hT
    rcases h3 with ⟨h4, rfl⟩ | ⟨h4, rfl⟩
    · simp only [if_pos h4] at h2
      injection h2 with h5 h6
      rw [← h5, ← h6]
    · simp only [if_neg (show ¬ p < L.length by omega)] at h2
      injection h2 with h5 h6
      rw [← h5, ← h6]
      rfl
  · have e1 : n - k = (n - (k + 1)) + 1 := by omega
    rw [e1, tol_bad h2] at hT
    refine .inr ⟨(congrArg Prod.fst hT).symm, ?_, hr⟩
    have h3 := congrArg Prod.snd hT
    simp only at h3
    rw [h3]
  · have e1 : n - k = (n - (k + 1)) + 1 := by omega
    rw [e1, tol_good h2] at hT
    refine .inl ⟨oneX L lo p, oneN L lo p, _, (congrArg Prod.fst hT).symm, h3, h4, by omega, rfl, h5, ?_⟩
    have h6 := congrArg Prod.snd hT
    simp only at h6
    rw [← h6]
/-- Where a reader stands behind a call of next, A1 having come ahead. -/
def Nx2 (ao : Option Addr) (c : Nat) (L : List UInt8) (lo n gr : Nat) (A : List (En × Nat)) (q : Nat) (er : Int) (A1 : List (En × Nat)) (b : Bool) (y : En) (fx fe : Int) (W : World) : Prop :=
  (b = true ∧ fx = 0 ∧ fe = 0 ∧ ∃ m rest, A = A1 ++ (y, m) :: rest ∧ m ≤ L.length ∧ A1.length + 1 ≤ n ∧ RAt W gr (.slice ao L.length c) lo n (m : Int) ((A1.length + 1 : Nat) : Int) y.at_ ∧ tolD L lo (n - (A1.length + 1)) m y.at_ = (rest, q, er)) ∨
  (b = false ∧ y = enZ ∧ fx = (q : Int) ∧ fe = er ∧ A = A1 ∧ ∃ p ahead : Int, RAt W gr (.slice ao L.length c) lo n p (A1.length : Int) ahead)
theorem next_nx {gr : Nat} {ao : Option Addr} {c : Nat} {L : List UInt8} {lo n p q : Nat} {ahead er : Int} {A A1 rest : List (En × Nat)} (w : World) (hR : RAt w gr (.slice ao L.length c) lo n (p : Int) (A1.length : Int) ahead) (hb : BAt w ao L) (hl : L.length ≤ 562949953421312) (hlo : lo ≤ 16) (hp : p ≤ L.length) (hk : A1.length ≤ n) (hn : n ≤ 4096) (hT : tolD L lo (n - A1.length) p ahead = (rest, q, er)) (hA : A = A1 ++ rest) :
    Calls Try.prog 40 #[.pointer (some ⟨gr, 0, none⟩)] w fun e w' => w.grownBy w' (some gr) ∧
      ∃ b y fx fe, FrOk y.fr ∧ e = .returned (.tuple #[.agg (enA y), .bool b, ftV fx fe]) ∧ Nx2 ao c L lo n gr A q er A1 b y fx fe w' := by
  refine (next_step w hR hb hl hlo hp hk hn hT).mono ?_
  rintro e w' ⟨hG, ⟨y, m, rest', h1, h2, h3, h4, rfl, h5, h6⟩ | ⟨h1, rfl, h2⟩⟩
  · exact ⟨hG, true, y, 0, 0, h2, rfl, .inl ⟨rfl, rfl, rfl, m, rest', by rw [hA, h1], h3, h4, h5, h6⟩⟩
  · exact ⟨hG, false, enZ, q, er, enZ_ok, rfl, .inr ⟨rfl, rfl, rfl, rfl, by rw [hA, h1]; simp, p, ahead, h2⟩⟩
theorem Nx2.move {ao : Option Addr} {c : Nat} {L : List UInt8} {lo n gr : Nat} {A : List (En × Nat)} {q : Nat} {er : Int} {A1 : List (En × Nat)} {b : Bool} {y : En} {fx fe : Int} {W W' : World} (h : Nx2 ao c L lo n gr A q er A1 b y fx fe W) (hw : W'.heap[gr]? = W.heap[gr]?) : Nx2 ao c L lo n gr A q er A1 b y fx fe W' := by
  rcases h with ⟨h1, h2, h3, m, rest, h4, h5, h6, h7, h8⟩ | ⟨h1, h2, h3, h4, h5, p, ahead, h6⟩
  · exact .inl ⟨h1, h2, h3, m, rest, h4, h5, h6, hw.trans h7, h8⟩
  · exact .inr ⟨h1, h2, h3, h4, h5, p, ahead, hw.trans h6⟩
end Go.Proofs.Ytednnfmomhallaa
