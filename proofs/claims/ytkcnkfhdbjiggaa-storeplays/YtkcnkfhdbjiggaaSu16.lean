/-
  Plain: a record laid behind an image is read again as what was put or dropped; the least image is no longer than any.
-/
import Derived.Test.YtkcnkfhdbjiggaaSu10
namespace Go.Proofs.Ytkcnkfhdbjiggaa
open Go.RowKit
set_option maxRecDepth 20000

theorem take_appS {l r : List UInt8} {k n : Nat} (h : k + n ≤ l.length) : ((l ++ r).drop k).take n = (l.drop k).take n := by
  rw [List.drop_append_of_le_length (by omega), List.take_append_of_le_length (by rw [List.length_drop]; omega)]
theorem getD_appS {l r : List UInt8} {k : Nat} (h : k < l.length) : (l ++ r).getD k 0 = l.getD k 0 := by
  simp [List.getD_eq_getElem?_getD, List.getElem?_append_left h]
theorem num_appS {l : List UInt8} (r : List UInt8) {k n : Nat} (h : ¬ l.length - k < n) (hn : 0 < n) : numE (l ++ r) k n = 0 ∧ numV (l ++ r) k n = numV l k n ∧ numK (l ++ r) k n = numK l k n := by
  have h2 : ¬ (l ++ r).length - k < n := by rw [List.length_append]; omega
  refine ⟨by unfold numE; rw [if_neg h2], ?_, by unfold numK; rw [if_neg h2, if_neg h]⟩
  unfold numV
  rw [if_neg h2, if_neg h, take_appS (by omega)]
theorem nm_appS {l : List UInt8} (r : List UInt8) {k : Nat} (h : nmE l k = 0) : nmE (l ++ r) k = 0 ∧ nmK (l ++ r) k = nmK l k ∧ nmA (l ++ r) k = nmA l k := by
  have h1 : ¬ l.length - k < 1 := fun h1 => by unfold nmE at h; rw [if_pos h1] at h; cases h
  have h2 : ¬ (nmN l k = 0 ∨ 24 < nmN l k) := fun h2 => by unfold nmE at h; rw [if_neg h1, if_pos h2] at h; cases h
  have h3 : ¬ l.length - (k + 1) < nmN l k := fun h3 => by unfold nmE at h; rw [if_neg h1, if_neg h2, if_pos h3] at h; cases h
  have h4 : nameB ⟨(nmS l k).toArray⟩ = true := by
    cases h4 : nameB ⟨(nmS l k).toArray⟩ with
    | true => rfl
    | false => unfold nmE at h; rw [if_neg h1, if_neg h2, if_neg h3, h4] at h; cases h
  have n1 : nmN (l ++ r) k = nmN l k := by unfold nmN; rw [getD_appS (by omega)]
  have n2 : nmS (l ++ r) k = nmS l k := by unfold nmS; rw [n1, take_appS (by omega)]
  have e1 : nmE (l ++ r) k = 0 := by
    unfold nmE
    rw [n1, n2, if_neg (by rw [List.length_append]; omega), if_neg h2, if_neg (by rw [List.length_append]; omega), h4]
    rfl
  refine ⟨e1, ?_, ?_⟩
  · unfold nmK; rw [e1, h, n1]
  · unfold nmA nmL; rw [e1, h, n2]
theorem kept_appS {l : List UInt8} (r : List UInt8) {k : Nat} {K : List Ke} {s : ByteArray} {p : Nat × List Ke} (h : keptD l k K s = some p) : keptD (l ++ r) k K s = some p := by
  unfold keptD at h
  split at h
  · cases h
  · rename_i hc
    simp only [not_or, Decidable.not_not] at hc
    obtain ⟨c1, c2, c3, c4⟩ := hc
    have q1 : ¬ l.length - k < 2 := fun q => by unfold numE at c1; rw [if_pos q] at c1; cases c1
    obtain ⟨e1, e2, e3⟩ := num_appS r q1 (by omega)
    have t0 : ¬ numV l k 2 < 0 := by have := (num2 l k).1; omega
    have t1 : ¬ ((l.length - numK l k 2 : Nat) : Int) < numV l k 2 := fun q => by unfold takeE at c4; rw [if_neg t0, if_pos q] at c4; cases c4
    have t2 : ¬ (((l ++ r).length - numK l k 2 : Nat) : Int) < numV l k 2 := by rw [List.length_append]; omega
    have t3 : takeE (l ++ r) (numK l k 2) (numV l k 2) = 0 := by unfold takeE; rw [if_neg t0, if_neg t2]
    have t4 : takeK (l ++ r) (numK l k 2) (numV l k 2) = takeK l (numK l k 2) (numV l k 2) := by unfold takeK; rw [if_neg t0, if_neg t2, if_neg t0, if_neg t1]
    unfold keptD
    rw [e1, e2, e3, t3, t4, if_neg (by simp only [not_or, Decidable.not_not]; exact ⟨trivial, c2, c3, trivial⟩)]
    exact h
theorem step_appS {l : List UInt8} (r : List UInt8) {k : Nat} {K : List Ke} {p : Nat × List Ke} (hk : k < l.length) (h : stepS l k K = some p) : stepS (l ++ r) k K = some p := by
  obtain ⟨-, e2, e3⟩ := num_appS (l := l) r (k := k) (n := 1) (by omega) (by omega)
  unfold stepS at h ⊢
  rw [e2, e3]
  split at h
  · cases h
  · rename_i hn
    simp only [Decidable.not_not] at hn
    obtain ⟨f1, f2, f3⟩ := nm_appS r hn
    rw [f1, f2, f3, if_neg (by simp)]
    split at h
    · rename_i h1
      rw [if_pos h1]
      exact kept_appS r h
    · rename_i h1
      rw [if_neg h1]
      exact h
theorem open_appS {l : List UInt8} (r : List UInt8) {K : List Ke} : ∀ (n k : Nat) (K0 : List Ke), k ≤ l.length → OkK K0 → EnK k K0 → openD l n k K0 = some (l.length, K) → Rest (l ++ r) k K0 → Rest (l ++ r) l.length K := by
  intro n
  induction n with
  | zero => intro k K0 _ _ _ h _; cases h
  | succ n ih =>
    intro k K0 hk hok hen h hr
    unfold openD at h
    split at h
    · rename_i hc
      cases hs : stepS l k K0 with
      | none => rw [hs] at h; cases h
      | some p =>
        rw [hs] at h
        obtain ⟨k', K'⟩ := p
        obtain ⟨h1, h2, h3⟩ := step_ok hc.1 hs hok hen
        have hle : k' ≤ l.length := by
          rcases Nat.lt_or_ge l.length k' with hh | hh
          · exfalso
            cases n with
            | zero => cases h
            | succ n =>
              change openD l (n + 1) k' K' = _ at h
              unfold openD at h
              rw [if_neg (by omega)] at h
              injection h with h
              injection h with h _
              omega
          · exact hh
        exact ih k' K' hle h2 h3 h (hr.step (by rw [List.length_append]; omega) (by rw [getD_appS hc.1]; exact hc.2) (step_appS r hc.1 hs) h1)
    · injection h with h
      injection h with h1 h2
      rw [← h1, ← h2]
      exact hr
theorem OkK.nilS : OkK [] := ⟨List.Pairwise.nil, by simp⟩
theorem open_restS {l : List UInt8} (r : List UInt8) {K : List Ke} (h : openS l = some (l.length, K)) (hb : ¬ 1048576 < (l ++ r).length) : Rest (l ++ r) l.length K := by
  unfold openS at h
  split at h
  · cases h
  · exact open_appS r _ 0 [] (by omega) OkK.nilS (fun e he => by cases he) h (Rest.start hb)
theorem num_midS (A B C : List UInt8) (n : Nat) (hn : B.length = n) (h4 : n ≠ 4) (h0 : 0 < n) : numE (A ++ B ++ C) A.length n = 0 ∧ numV (A ++ B ++ C) A.length n = (beN B : Int) ∧ numK (A ++ B ++ C) A.length n = A.length + n := by
  have h2 : ¬ (A ++ B ++ C).length - A.length < n := by simp only [List.length_append]; omega
  refine ⟨by unfold numE; rw [if_neg h2], ?_, by unfold numK; rw [if_neg h2]⟩
  unfold numV
  rw [if_neg h2, if_neg h4, List.append_assoc, List.drop_left, ← hn, List.take_left]
theorem nm_midS (A C : List UInt8) (s : ByteArray) (h : nameB s = true) : nmE (A ++ nb s ++ C) A.length = 0 ∧ nmK (A ++ nb s ++ C) A.length = A.length + 1 + s.size ∧ nmA (A ++ nb s ++ C) A.length = s := by
  obtain ⟨z1, z2⟩ := name_24 h
  have n1 : nmN (A ++ nb s ++ C) A.length = s.size := by
    unfold nmN nb
    rw [List.append_assoc, List.getD_eq_getElem?_getD, List.getElem?_append_right (Nat.le_refl _), Nat.sub_self]
    show (UInt8.ofNat s.size).toNat = s.size
    rw [UInt8.toNat_ofNat_of_lt' (by show _ < 256; omega)]
  have hsz : s.data.toList.length = s.size := rfl
  have n2 : nmS (A ++ nb s ++ C) A.length = s.data.toList := by
    unfold nmS
    rw [n1, List.append_assoc, ← List.drop_drop, List.drop_left]
    show ((s.data.toList ++ C).drop 0).take s.size = _
    rw [List.drop_zero, ← hsz, List.take_left]
  have n3 : (⟨(nmS (A ++ nb s ++ C) A.length).toArray⟩ : ByteArray) = s := by rw [n2]
  have hl : (nb s).length = s.size + 1 := nb_len s
  have e1 : nmE (A ++ nb s ++ C) A.length = 0 := by
    unfold nmE
    rw [n3, n1, if_neg (by simp only [List.length_append]; omega), if_neg (by omega), if_neg (by simp only [List.length_append]; omega), h]
    rfl
  refine ⟨e1, ?_, ?_⟩
  · unfold nmK; rw [e1, n1]; rfl
  · unfold nmA nmL; rw [e1]; exact n3
theorem be2S {n : Nat} (h : n ≤ 65535) : beN (be (n : Int) 2) = n := by
  have h1 := byteOf_eq (n : Int) 1
  have h0 := byteOf_eq (n : Int) 0
  have e : be (n : Int) 2 = [byteOf (n : Int) 1, byteOf (n : Int) 0] := rfl
  rw [e]
  show (0 * 256 + (byteOf (n : Int) 1).toNat) * 256 + (byteOf (n : Int) 0).toNat = n
  have e1 : (n : Int) / (256 : Int) ^ 1 = (n : Int) / 256 := by simp
  have e0 : (n : Int) / (256 : Int) ^ 0 = (n : Int) := by simp
  rw [e1] at h1
  rw [e0] at h0
  omega
theorem step_putS {I : List UInt8} {K : List Ke} {s : ByteArray} {m : List UInt8} (hs : nameB s = true) (hm : m.length ≤ 4096) (hf : (hasN (kNm K) s || decide (K.length < 16)) = true) : stepS (I ++ recK s m) I.length K = some ((I ++ recK s m).length, putK I K s m) := by
  have hl := recK_len s m
  have e1 : I ++ recK s m = I ++ [1] ++ (nb s ++ (be (m.length : Int) 2 ++ m)) := by unfold recK; simp
  have e2 : I ++ recK s m = (I ++ [1]) ++ nb s ++ (be (m.length : Int) 2 ++ m) := by unfold recK; simp
  have e3 : I ++ recK s m = (I ++ [1] ++ nb s) ++ be (m.length : Int) 2 ++ m := by unfold recK; simp
  obtain ⟨-, a2, a3⟩ := num_midS I [1] (nb s ++ (be (m.length : Int) 2 ++ m)) 1 rfl (by omega) (by omega)
  obtain ⟨b1, b2, b3⟩ := nm_midS (I ++ [1]) (be (m.length : Int) 2 ++ m) s hs
  obtain ⟨c1, c2, c3⟩ := num_midS (I ++ [1] ++ nb s) (be (m.length : Int) 2) m 2 (be_length _ _) (by omega) (by omega)
  rw [← e1] at a2 a3
  rw [← e2] at b1 b2 b3
  rw [← e3] at c1 c2 c3
  rw [be2S (by omega)] at c2
  have l1 : (I ++ [1]).length = I.length + 1 := by simp
  have l2 : (I ++ [1] ++ nb s).length = I.length + 2 + s.size := by simp only [List.length_append, nb_len]; simp; omega
  rw [l1] at b1 b2 b3
  rw [l2] at c1 c2 c3
  have g1 : (beN [1] : Int) = 1 := rfl
  rw [g1] at a2
  unfold stepS
  rw [a3, b1, b2, b3, a2, if_neg (by simp), if_pos rfl]
  have hk : I.length + 1 + 1 + s.size = I.length + 2 + s.size := by omega
  rw [hk]
  unfold keptD
  have t0 : ¬ ((m.length : Nat) : Int) < 0 := by omega
  have hll : (I ++ recK s m).length = I.length + (s.size + 4 + m.length) := by rw [List.length_append, hl]
  have t1 : ¬ (((I ++ recK s m).length - (I.length + 2 + s.size + 2) : Nat) : Int) < ((m.length : Nat) : Int) := by omega
  have t2 : takeE (I ++ recK s m) (I.length + 2 + s.size + 2) ((m.length : Nat) : Int) = 0 := by unfold takeE; rw [if_neg t0, if_neg t1]
  have t3 : takeK (I ++ recK s m) (I.length + 2 + s.size + 2) ((m.length : Nat) : Int) = (I ++ recK s m).length := by unfold takeK; rw [if_neg t0, if_neg t1]; omega
  rw [c1, c2, c3, t2, t3, if_neg (by rw [hf]; simp; omega)]
  unfold putK
  have q1 : I.length + 2 + s.size + 2 = I.length + (recK s m).length - m.length := by omega
  have q2 : I.length + 2 + s.size + 2 + ((m.length : Nat) : Int).toNat = I.length + (recK s m).length := by omega
  rw [q2, q1]
theorem step_dropS {I : List UInt8} {K : List Ke} {s : ByteArray} (hs : nameB s = true) (hf : hasN (kNm K) s = true) : stepS (I ++ recD s) I.length K = some ((I ++ recD s).length, dropK K s) := by
  have hl := recD_len s
  have e1 : I ++ recD s = I ++ [2] ++ nb s := by unfold recD; simp
  have e2 : I ++ recD s = (I ++ [2]) ++ nb s ++ [] := by unfold recD; simp
  obtain ⟨-, a2, a3⟩ := num_midS I [2] (nb s) 1 rfl (by omega) (by omega)
  obtain ⟨b1, b2, b3⟩ := nm_midS (I ++ [2]) [] s hs
  rw [← e1] at a2 a3
  rw [← e2] at b1 b2 b3
  have l1 : (I ++ [2]).length = I.length + 1 := by simp
  rw [l1] at b1 b2 b3
  have g1 : (beN [2] : Int) = 2 := rfl
  rw [g1] at a2
  unfold stepS
  rw [a3, b1, b2, b3, a2, if_neg (by simp), if_neg (by omega), if_pos rfl, if_pos hf]
  unfold dropK
  rw [hf]
  have hll : (I ++ recD s).length = I.length + (s.size + 2) := by rw [List.length_append, hl]
  have : I.length + 1 + 1 + s.size = (I ++ recD s).length := by omega
  rw [this]
def wtK (K : List Ke) : Nat := (K.map fun e => e.nm.size + 4 + (e.to - e.fr)).sum
/-- An image that is read as just what is kept, and is no shorter than the least one. -/
structure ImK (I : List UInt8) (K : List Ke) : Prop where
  op : openS I = some (I.length, K)
  wt : wtK K ≤ I.length
theorem ImK.zero : ImK [] [] := ⟨rfl, by simp [wtK]⟩
theorem wt_app (A B : List Ke) : wtK (A ++ B) = wtK A + wtK B := by simp [wtK]
theorem wt_cut (k : Nat) (b : Bool) (K : List Ke) : wtK (cutN k b K) ≤ wtK K := by
  unfold cutN
  have h1 : wtK K = wtK (K.take k) + wtK (K.drop k) := by rw [← wt_app, List.take_append_drop]
  rw [wt_app, h1]
  have h2 : wtK (K.drop k) = wtK ((K.drop k).take (if b then 1 else 0)) + wtK (K.drop (k + if b then 1 else 0)) := by
    rw [← List.drop_drop, ← wt_app, List.take_append_drop]
  omega
theorem wt_put (k : Nat) (b : Bool) (K : List Ke) (x : Ke) : wtK (putN k b K x) ≤ wtK K + (x.nm.size + 4 + (x.to - x.fr)) := by
  have h := wt_cut k b K
  unfold putN
  unfold cutN at h
  rw [wt_app] at h
  have : wtK (K.take k ++ x :: K.drop (k + if b then 1 else 0)) = wtK (K.take k) + ((x.nm.size + 4 + (x.to - x.fr)) + wtK (K.drop (k + if b then 1 else 0))) := by simp [wtK]
  omega
theorem putE_ok {I : List UInt8} {K : List Ke} {s : ByteArray} {m : List UInt8} (h : putE I K s m = 0) : nameB s = true ∧ m.length ≤ 4096 ∧ (hasN (kNm K) s || decide (K.length < 16)) = true ∧ ¬ 1048576 < I.length + (recK s m).length + 1 := by
  unfold putE at h
  split at h
  · cases h
  · split at h
    · cases h
    · split at h
      · cases h
      · split at h
        · cases h
        · rename_i h1 h2 h3 h4
          exact ⟨by simpa using h1, by omega, by cases hq : (hasN (kNm K) s || decide (K.length < 16)) with
            | true => rfl
            | false => exact absurd hq h3, h4⟩
theorem dropE_ok {I : List UInt8} {K : List Ke} {s : ByteArray} (h : dropE I K s = 0) : nameB s = true ∧ hasN (kNm K) s = true ∧ ¬ 1048576 < I.length + (recD s).length + 1 := by
  unfold dropE at h
  split at h
  · cases h
  · split at h
    · cases h
    · split at h
      · cases h
      · rename_i h1 h2 h3
        exact ⟨by simpa using h1, by simpa using h2, h3⟩
theorem ImK.put {I : List UInt8} {K : List Ke} {s : ByteArray} {m : List UInt8} (h : ImK I K) (hc : putE I K s m = 0) (_hen : EnK I.length K) : ImK (I ++ recK s m) (putK I K s m) := by
  obtain ⟨h1, h2, h3, h4⟩ := putE_ok hc
  have hl := recK_len s m
  have hr := open_restS (recK s m) h.op (by rw [List.length_append]; omega)
  have hlt : I.length < (I ++ recK s m).length := by rw [List.length_append]; omega
  have hr2 := hr.step hlt (by unfold recK; simp [List.getD_eq_getElem?_getD]) (step_putS h1 h2 h3) hlt
  refine ⟨hr2.done (by omega) (Nat.le_refl _), ?_⟩
  have := wt_put (posN (kNm K) s) (hasN (kNm K) s) K ⟨s, I.length + (recK s m).length - m.length, I.length + (recK s m).length⟩
  have h9 := h.wt
  unfold putK
  rw [List.length_append]
  dsimp only at this
  omega
theorem ImK.drop {I : List UInt8} {K : List Ke} {s : ByteArray} (h : ImK I K) (hc : dropE I K s = 0) : ImK (I ++ recD s) (dropK K s) := by
  obtain ⟨h1, h2, h4⟩ := dropE_ok hc
  have hl := recD_len s
  have hr := open_restS (recD s) h.op (by rw [List.length_append]; omega)
  have hlt : I.length < (I ++ recD s).length := by rw [List.length_append]; omega
  have hr2 := hr.step hlt (by unfold recD; simp [List.getD_eq_getElem?_getD]) (step_dropS h1 h2) hlt
  refine ⟨hr2.done (by omega) (Nat.le_refl _), ?_⟩
  have := wt_cut (posN (kNm K) s) (hasN (kNm K) s) K
  have h9 := h.wt
  unfold dropK
  rw [List.length_append]
  omega
end Go.Proofs.Ytkcnkfhdbjiggaa
