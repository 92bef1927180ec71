/-
  Texts of contracts and plain lemmas, one behind another; each says at its head what it holds.
-/
import Derived.Test.YtkcnkfhdbjiggaaSu10
import Derived.Test.YtkcnkfhdbjiggaaSu12
import Derived.Test.YtkcnkfhdbjiggaaSu13
/-
  Plain: a record laid behind an image is read again as what was put or dropped; the least image is no longer than any.
-/
namespace Go.Proofs.Ytkcnkfhdbjiggaa
open Go.RowKit
set_option maxRecDepth 20000

theorem take_appS {l r : List UInt8} {k n : Nat} (h : k + n ≤ l.length) : ((l ++ r).drop k).take n = (l.drop k).take n := by
  rw [List.drop_append_of_le_length (by omega), List.take_append_of_le_length (by rw [List.length_drop]; omega)]
theorem getD_appS {l r : List UInt8} {k : Nat} (h : k < l.length) : (l ++ r).getD k 0 = l.getD k 0 := by
  simp [List.getD_eq_getElem?_getD, List.getElem?_append_left h]
theorem num_appS {l : List UInt8} (r : List UInt8) {k n : Nat} (h : ¬ l.length - k < n) (hn : 0 < n) : numE (l ++ r) k n = 0 ∧ numV (l ++ r) k n = numV l k n ∧ numK (l ++ r) k n = numK l k n := by
  have h2 : ¬ (l ++ r).length - k < n := by rw [List.length_append]; omega
  refine ⟨by unfold numE; rw [if_neg h2], ?_, by unfold numK; rw [if_neg h2, if_neg h]⟩
  unfold numV
  rw [if_neg h2, if_neg h, take_appS (by omega)]
theorem nm_appS {l : List UInt8} (r : List UInt8) {k : Nat} (h : nmE l k = 0) : nmE (l ++ r) k = 0 ∧ nmK (l ++ r) k = nmK l k ∧ nmA (l ++ r) k = nmA l k := by
  have h1 : ¬ l.length - k < 1 := fun h1 => by unfold nmE at h; rw [if_pos h1] at h; cases h
  have h2 : ¬ (nmN l k = 0 ∨ 24 < nmN l k) := fun h2 => by unfold nmE at h; rw [if_neg h1, if_pos h2] at h; cases h
  have h3 : ¬ l.length - (k + 1) < nmN l k := fun h3 => by unfold nmE at h; rw [if_neg h1, if_neg h2, if_pos h3] at h; cases h
  have h4 : nameB ⟨(nmS l k).toArray⟩ = true := by
    cases h4 : nameB ⟨(nmS l k).toArray⟩ with
    | true => rfl
    | false => unfold nmE at h; rw [if_neg h1, if_neg h2, if_neg h3, h4] at h; cases h
  have n1 : nmN (l ++ r) k = nmN l k := by unfold nmN; rw [getD_appS (by omega)]
  have n2 : nmS (l ++ r) k = nmS l k := by unfold nmS; rw [n1, take_appS (by omega)]
  have e1 : nmE (l ++ r) k = 0 := by
    unfold nmE
    rw [n1, n2, if_neg (by rw [List.length_append]; omega), if_neg h2, if_neg (by rw [List.length_append]; omega), h4]
    rfl
  refine ⟨e1, ?_, ?_⟩
  · unfold nmK; rw [e1, h, n1]
  · unfold nmA nmL; rw [e1, h, n2]
theorem kept_appS {l : List UInt8} (r : List UInt8) {k : Nat} {K : List Ke} {s : ByteArray} {p : Nat × List Ke} (h : keptD l k K s = some p) : keptD (l ++ r) k K s = some p := by
  unfold keptD at h
  split at h
  · cases h
  · rename_i hc
    simp only [not_or, Decidable.not_not] at hc
    obtain ⟨c1, c2, c3, c4⟩ := hc
    have q1 : ¬ l.length - k < 2 := fun q => by unfold numE at c1; rw [if_pos q] at c1; cases c1
    obtain ⟨e1, e2, e3⟩ := num_appS r q1 (by omega)
    have t0 : ¬ numV l k 2 < 0 := by have := (num2 l k).1; omega
    have t1 : ¬ ((l.length - numK l k 2 : Nat) : Int) < numV l k 2 := fun q => by unfold takeE at c4; rw [if_neg t0, if_pos q] at c4; cases c4
    have t2 : ¬ (((l ++ r).length - numK l k 2 : Nat) : Int) < numV l k 2 := by rw [List.length_append]; omega
    have t3 : takeE (l ++ r) (numK l k 2) (numV l k 2) = 0 := by unfold takeE; rw [if_neg t0, if_neg t2]
    have t4 : takeK (l ++ r) (numK l k 2) (numV l k 2) = takeK l (numK l k 2) (numV l k 2) := by unfold takeK; rw [if_neg t0, if_neg t2, if_neg t0, if_neg t1]
    unfold keptD
    rw [e1, e2, e3, t3, t4, if_neg (by simp only [not_or, Decidable.not_not]; exact ⟨trivial, c2, c3, trivial⟩)]
    exact h
theorem step_appS {l : List UInt8} (r : List UInt8) {k : Nat} {K : List Ke} {p : Nat × List Ke} (hk : k < l.length) (h : stepS l k K = some p) : stepS (l ++ r) k K = some p := by
  obtain ⟨-, e2, e3⟩ := num_appS (l := l) r (k := k) (n := 1) (by omega) (by omega)
  unfold stepS at h ⊢
  rw [e2, e3]
  split at h
  · cases h
  · rename_i hn
    simp only [Decidable.not_not] at hn
    obtain ⟨f1, f2, f3⟩ := nm_appS r hn
    rw [f1, f2, f3, if_neg (by simp)]
    split at h
    · rename_i h1
      rw [if_pos h1]
      exact kept_appS r h
    · rename_i h1
      rw [if_neg h1]
      exact h
theorem open_appS {l : List UInt8} (r : List UInt8) {K : List Ke} : ∀ (n k : Nat) (K0 : List Ke), k ≤ l.length → OkK K0 → EnK k K0 → openD l n k K0 = some (l.length, K) → Rest (l ++ r) k K0 → Rest (l ++ r) l.length K := by
  intro n
  induction n with
  | zero => intro k K0 _ _ _ h _; cases h
  | succ n ih =>
    intro k K0 hk hok hen h hr
    unfold openD at h
    split at h
    · rename_i hc
      cases hs : stepS l k K0 with
      | none => rw [hs] at h; cases h
      | some p =>
        rw [hs] at h
        obtain ⟨k', K'⟩ := p
        obtain ⟨h1, h2, h3⟩ := step_ok hc.1 hs hok hen
        have hle : k' ≤ l.length := by
          rcases Nat.lt_or_ge l.length k' with hh | hh
          · exfalso
            cases n with
            | zero => cases h
            | succ n =>
              change openD l (n + 1) k' K' = _ at h
              unfold openD at h
              rw [if_neg (by omega)] at h
              injection h with h
              injection h with h _
              omega
          · exact hh
        exact ih k' K' hle h2 h3 h (hr.step (by rw [List.length_append]; omega) (by rw [getD_appS hc.1]; exact hc.2) (step_appS r hc.1 hs) h1)
    · injection h with h
      injection h with h1 h2
      rw [← h1, ← h2]
      exact hr
theorem OkK.nilS : OkK [] := ⟨List.Pairwise.nil, by simp⟩
theorem open_restS {l : List UInt8} (r : List UInt8) {K : List Ke} (h : openS l = some (l.length, K)) (hb : ¬ 1048576 < (l ++ r).length) : Rest (l ++ r) l.length K := by
  unfold openS at h
  split at h
  · cases h
  · exact open_appS r _ 0 [] (by omega) OkK.nilS (fun e he => by cases he) h (Rest.start hb)
theorem num_midS (A B C : List UInt8) (n : Nat) (hn : B.length = n) (h4 : n ≠ 4) (h0 : 0 < n) : numE (A ++ B ++ C) A.length n = 0 ∧ numV (A ++ B ++ C) A.length n = (beN B : Int) ∧ numK (A ++ B ++ C) A.length n = A.length + n := by
  have h2 : ¬ (A ++ B ++ C).length - A.length < n := by simp only [List.length_append]; omega
  refine ⟨by unfold numE; rw [if_neg h2], ?_, by unfold numK; rw [if_neg h2]⟩
  unfold numV
  rw [if_neg h2, if_neg h4, List.append_assoc, List.drop_left, ← hn, List.take_left]
theorem nm_midS (A C : List UInt8) (s : ByteArray) (h : nameB s = true) : nmE (A ++ nb s ++ C) A.length = 0 ∧ nmK (A ++ nb s ++ C) A.length = A.length + 1 + s.size ∧ nmA (A ++ nb s ++ C) A.length = s := by
  obtain ⟨z1, z2⟩ := name_24 h
  have n1 : nmN (A ++ nb s ++ C) A.length = s.size := by
    unfold nmN nb
    rw [List.append_assoc, List.getD_eq_getElem?_getD, List.getElem?_append_right (Nat.le_refl _), Nat.sub_self]
    show (UInt8.ofNat s.size).toNat = s.size
    rw [UInt8.toNat_ofNat_of_lt' (by show _ < 256; omega)]
  have hsz : s.data.toList.length = s.size := rfl
  have n2 : nmS (A ++ nb s ++ C) A.length = s.data.toList := by
    unfold nmS
    rw [n1, List.append_assoc, ← List.drop_drop, List.drop_left]
    show ((s.data.toList ++ C).drop 0).take s.size = _
    rw [List.drop_zero, ← hsz, List.take_left]
  have n3 : (⟨(nmS (A ++ nb s ++ C) A.length).toArray⟩ : ByteArray) = s := by rw [n2]
  have hl : (nb s).length = s.size + 1 := nb_len s
  have e1 : nmE (A ++ nb s ++ C) A.length = 0 := by
    unfold nmE
    rw [n3, n1, if_neg (by simp only [List.length_append]; omega), if_neg (by omega), if_neg (by simp only [List.length_append]; omega), h]
    rfl
  refine ⟨e1, ?_, ?_⟩
  · unfold nmK; rw [e1, n1]; rfl
  · unfold nmA nmL; rw [e1]; exact n3
theorem be2S {n : Nat} (h : n ≤ 65535) : beN (be (n : Int) 2) = n := by
  have h1 := byteOf_eq (n : Int) 1
  have h0 := byteOf_eq (n : Int) 0
  have e : be (n : Int) 2 = [byteOf (n : Int) 1, byteOf (n : Int) 0] := rfl
  rw [e]
  show (0 * 256 + (byteOf (n : Int) 1).toNat) * 256 + (byteOf (n : Int) 0).toNat = n
  have e1 : (n : Int) / (256 : Int) ^ 1 = (n : Int) / 256 := by simp
  have e0 : (n : Int) / (256 : Int) ^ 0 = (n : Int) := by simp
  rw [e1] at h1
  rw [e0] at h0
  omega
theorem step_putS {I : List UInt8} {K : List Ke} {s : ByteArray} {m : List UInt8} (hs : nameB s = true) (hm : m.length ≤ 4096) (hf : (hasN (kNm K) s || decide (K.length < 16)) = true) : stepS (I ++ recK s m) I.length K = some ((I ++ recK s m).length, putK I K s m) := by
  have hl := recK_len s m
  have e1 : I ++ recK s m = I ++ [1] ++ (nb s ++ (be (m.length : Int) 2 ++ m)) := by unfold recK; simp
  have e2 : I ++ recK s m = (I ++ [1]) ++ nb s ++ (be (m.length : Int) 2 ++ m) := by unfold recK; simp
  have e3 : I ++ recK s m = (I ++ [1] ++ nb s) ++ be (m.length : Int) 2 ++ m := by unfold recK; simp
  obtain ⟨-, a2, a3⟩ := num_midS I [1] (nb s ++ (be (m.length : Int) 2 ++ m)) 1 rfl (by omega) (by omega)
  obtain ⟨b1, b2, b3⟩ := nm_midS (I ++ [1]) (be (m.length : Int) 2 ++ m) s hs
  obtain ⟨c1, c2, c3⟩ := num_midS (I ++ [1] ++ nb s) (be (m.length : Int) 2) m 2 (be_length _ _) (by omega) (by omega)
  rw [← e1] at a2 a3
  rw [← e2] at b1 b2 b3
  rw [← e3] at c1 c2 c3
  rw [be2S (by omega)] at c2
  have l1 : (I ++ [1]).length = I.length + 1 := by simp
  have l2 : (I ++ [1] ++ nb s).length = I.length + 2 + s.size := by simp only [List.length_append, nb_len]; simp; omega
  rw [l1] at b1 b2 b3
  rw [l2] at c1 c2 c3
  have g1 : (beN [1] : Int) = 1 := rfl
  rw [g1] at a2
  unfold stepS
  rw [a3, b1, b2, b3, a2, if_neg (by simp), if_pos rfl]
  have hk : I.length + 1 + 1 + s.size = I.length + 2 + s.size := by omega
  rw [hk]
  unfold keptD
  have t0 : ¬ ((m.length : Nat) : Int) < 0 := by omega
  have hll : (I ++ recK s m).length = I.length + (s.size + 4 + m.length) := by rw [List.length_append, hl]
  have t1 : ¬ (((I ++ recK s m).length - (I.length + 2 + s.size + 2) : Nat) : Int) < ((m.length : Nat) : Int) := by omega
  have t2 : takeE (I ++ recK s m) (I.length + 2 + s.size + 2) ((m.length : Nat) : Int) = 0 := by unfold takeE; rw [if_neg t0, if_neg t1]
  have t3 : takeK (I ++ recK s m) (I.length + 2 + s.size + 2) ((m.length : Nat) : Int) = (I ++ recK s m).length := by unfold takeK; rw [if_neg t0, if_neg t1]; omega
  rw [c1, c2, c3, t2, t3, if_neg (by rw [hf]; simp; omega)]
  unfold putK
  have q1 : I.length + 2 + s.size + 2 = I.length + (recK s m).length - m.length := by omega
  have q2 : I.length + 2 + s.size + 2 + ((m.length : Nat) : Int).toNat = I.length + (recK s m).length := by omega
  rw [q2, q1]
theorem step_dropS {I : List UInt8} {K : List Ke} {s : ByteArray} (hs : nameB s = true) (hf : hasN (kNm K) s = true) : stepS (I ++ recD s) I.length K = some ((I ++ recD s).length, dropK K s) := by
  have hl := recD_len s
  have e1 : I ++ recD s = I ++ [2] ++ nb s := by unfold recD; simp
  have e2 : I ++ recD s = (I ++ [2]) ++ nb s ++ [] := by unfold recD; simp
  obtain ⟨-, a2, a3⟩ := num_midS I [2] (nb s) 1 rfl (by omega) (by omega)
  obtain ⟨b1, b2, b3⟩ := nm_midS (I ++ [2]) [] s hs
  rw [← e1] at a2 a3
  rw [← e2] at b1 b2 b3
  have l1 : (I ++ [2]).length = I.length + 1 := by simp
  rw [l1] at b1 b2 b3
  have g1 : (beN [2] : Int) = 2 := rfl
  rw [g1] at a2
  unfold stepS
  rw [a3, b1, b2, b3, a2, if_neg (by simp), if_neg (by omega), if_pos rfl, if_pos hf]
  unfold dropK
  rw [hf]
  have hll : (I ++ recD s).length = I.length + (s.size + 2) := by rw [List.length_append, hl]
  have : I.length + 1 + 1 + s.size = (I ++ recD s).length := by omega
  rw [this]
def wtK (K : List Ke) : Nat := (K.map fun e => e.nm.size + 4 + (e.to - e.fr)).sum
/-- An image that is read as just what is kept, and is no shorter than the least one. -/
structure ImK (I : List UInt8) (K : List Ke) : Prop where
  op : openS I = some (I.length, K)
  wt : wtK K ≤ I.length
theorem ImK.zero : ImK [] [] := ⟨rfl, by simp [wtK]⟩
theorem wt_app (A B : List Ke) : wtK (A ++ B) = wtK A + wtK B := by simp [wtK]
theorem wt_cut (k : Nat) (b : Bool) (K : List Ke) : wtK (cutN k b K) ≤ wtK K := by
  unfold cutN
  have h1 : wtK K = wtK (K.take k) + wtK (K.drop k) := by rw [← wt_app, List.take_append_drop]
  rw [wt_app, h1]
  have h2 : wtK (K.drop k) = wtK ((K.drop k).take (if b then 1 else 0)) + wtK (K.drop (k + if b then 1 else 0)) := by
    rw [← List.drop_drop, ← wt_app, List.take_append_drop]
  omega
theorem wt_put (k : Nat) (b : Bool) (K : List Ke) (x : Ke) : wtK (putN k b K x) ≤ wtK K + (x.nm.size + 4 + (x.to - x.fr)) := by
  have h := wt_cut k b K
  unfold putN
  unfold cutN at h
  rw [wt_app] at h
  have : wtK (K.take k ++ x :: K.drop (k + if b then 1 else 0)) = wtK (K.take k) + ((x.nm.size + 4 + (x.to - x.fr)) + wtK (K.drop (k + if b then 1 else 0))) := by simp [wtK]
  omega
theorem putE_ok {I : List UInt8} {K : List Ke} {s : ByteArray} {m : List UInt8} (h : putE I K s m = 0) : nameB s = true ∧ m.length ≤ 4096 ∧ (hasN (kNm K) s || decide (K.length < 16)) = true ∧ ¬ 1048576 < I.length + (recK s m).length + 1 := by
  unfold putE at h
  split at h
  · cases h
  · split at h
    · cases h
    · split at h
      · cases h
      · split at h
        · cases h
        · rename_i h1 h2 h3 h4
          exact ⟨by simpa using h1, by omega, by cases hq : (hasN (kNm K) s || decide (K.length < 16)) with
            | true => rfl
            | false => exact absurd hq h3, h4⟩
theorem dropE_ok {I : List UInt8} {K : List Ke} {s : ByteArray} (h : dropE I K s = 0) : nameB s = true ∧ hasN (kNm K) s = true ∧ ¬ 1048576 < I.length + (recD s).length + 1 := by
  unfold dropE at h
  split at h
  · cases h
  · split at h
    · cases h
    · split at h
      · cases h
      · rename_i h1 h2 h3
        exact ⟨by simpa using h1, by simpa using h2, h3⟩
theorem ImK.put {I : List UInt8} {K : List Ke} {s : ByteArray} {m : List UInt8} (h : ImK I K) (hc : putE I K s m = 0) (_hen : EnK I.length K) : ImK (I ++ recK s m) (putK I K s m) := by
  obtain ⟨h1, h2, h3, h4⟩ := putE_ok hc
  have hl := recK_len s m
  have hr := open_restS (recK s m) h.op (by rw [List.length_append]; omega)
  have hlt : I.length < (I ++ recK s m).length := by rw [List.length_append]; omega
  have hr2 := hr.step hlt (by unfold recK; simp [List.getD_eq_getElem?_getD]) (step_putS h1 h2 h3) hlt
  refine ⟨hr2.done (by omega) (Nat.le_refl _), ?_⟩
  have := wt_put (posN (kNm K) s) (hasN (kNm K) s) K ⟨s, I.length + (recK s m).length - m.length, I.length + (recK s m).length⟩
  have h9 := h.wt
  unfold putK
  rw [List.length_append]
  dsimp only at this
  omega
theorem ImK.drop {I : List UInt8} {K : List Ke} {s : ByteArray} (h : ImK I K) (hc : dropE I K s = 0) : ImK (I ++ recD s) (dropK K s) := by
  obtain ⟨h1, h2, h4⟩ := dropE_ok hc
  have hl := recD_len s
  have hr := open_restS (recD s) h.op (by rw [List.length_append]; omega)
  have hlt : I.length < (I ++ recD s).length := by rw [List.length_append]; omega
  have hr2 := hr.step hlt (by unfold recD; simp [List.getD_eq_getElem?_getD]) (step_dropS h1 h2) hlt
  refine ⟨hr2.done (by omega) (Nat.le_refl _), ?_⟩
  have := wt_cut (posN (kNm K) s) (hasN (kNm K) s) K
  have h9 := h.wt
  unfold dropK
  rw [List.length_append]
  omega
end Go.Proofs.Ytkcnkfhdbjiggaa

/-
  (*Store).Pack: the same under the same names, in the least image.
-/
namespace Go.Proofs.Ytkcnkfhdbjiggaa
open Go.RowKit
set_option maxRecDepth 20000

def pkV (I : List UInt8) (K : List Ke) : List (ByteArray × List UInt8) := K.map fun e => (e.nm, seg I e.fr e.to)
def pkI (V : List (ByteArray × List UInt8)) : List UInt8 := V.flatMap fun p => recK p.1 p.2
/-- A store's image and entries that keep what the first ones of another do. -/
structure PkS (I : List UInt8) (P : List Ke) (I' : List UInt8) (K' : List Ke) : Prop where
  sm : pkV I' K' = pkV I P
  ok : OkK K'
  en : EnK I'.length K'
  im : ImK I' K'
  ln : I'.length = wtK P
  eq : I' = pkI (pkV I P)
theorem pkV_nm (I : List UInt8) (K : List Ke) : (pkV I K).map Prod.fst = kNm K := by
  unfold pkV kNm
  rw [List.map_map]
  rfl
theorem PkS.nm {I : List UInt8} {P : List Ke} {I' : List UInt8} {K' : List Ke} (h : PkS I P I' K') : kNm K' = kNm P := by
  rw [← pkV_nm I' K', h.sm, pkV_nm]
theorem PkS.same {I : List UInt8} {P : List Ke} {I' : List UInt8} {K' : List Ke} (h : PkS I P I' K') {L : List Rk} (hs : SameL I P L) : SameL I' K' L := by
  have := h.sm
  unfold SameL at hs ⊢
  unfold pkV at this
  rw [hs, this]
theorem PkS.zero (I : List UInt8) : PkS I [] [] [] := ⟨rfl, OkK.nilS, fun e he => (by cases he), ImK.zero, rfl, rfl⟩
theorem pos_end {N : List ByteArray} {s : ByteArray} (h : ∀ x ∈ N, ltS x s = true) : posN N s = N.length ∧ hasN N s = false := by
  have h1 : posN N s = N.length := pos_uniq (Nat.le_refl _) (fun i x _ hx => h x (List.mem_of_getElem? hx)) (fun x hx => by rw [List.getElem?_eq_none (Nat.le_refl _)] at hx; cases hx)
  refine ⟨h1, ?_⟩
  unfold hasN
  rw [h1, List.getElem?_eq_none (Nat.le_refl _)]
  rfl
theorem wt_le {n : Nat} {K : List Ke} (h : EnK n K) : wtK K ≤ K.length * 4124 := by
  induction K with
  | nil => simp [wtK]
  | cons x r ih =>
    have h1 := ih (fun e he => h e (List.mem_cons_of_mem _ he))
    have h2 := h x (List.mem_cons_self)
    have h3 := (name_24 h2.2.2.2).2
    have : wtK (x :: r) = (x.nm.size + 4 + (x.to - x.fr)) + wtK r := by simp [wtK]
    rw [this, List.length_cons]
    omega
theorem EnK.take {n : Nat} {K : List Ke} (h : EnK n K) (k : Nat) : EnK n (K.take k) := fun e he => h e (List.mem_of_mem_take he)
theorem PkS.step {I : List UInt8} {K : List Ke} {k : Nat} {I' : List UInt8} {K' : List Ke} (h : PkS I (K.take k) I' K') (hok : OkK K) (hen : EnK I.length K) {e : Ke} (hx : K[k]? = some e) :
    putE I' K' e.nm (seg I e.fr e.to) = 0 ∧ PkS I (K.take (k + 1)) (I' ++ recK e.nm (seg I e.fr e.to)) (putK I' K' e.nm (seg I e.fr e.to)) := by
  have hlt : k < K.length := by
    rcases Nat.lt_or_ge k K.length with hh | hh
    · exact hh
    · rw [List.getElem?_eq_none hh] at hx; cases hx
  have hen1 := hen e (List.mem_of_getElem? hx)
  obtain ⟨n1, n2⟩ := name_24 hen1.2.2.2
  have hsl := seg_len (I := I) hen1.1 hen1.2.1
  have hm : (seg I e.fr e.to).length ≤ 4096 := by rw [hsl]; omega
  have hlen : K'.length = k := by
    rw [← kNm_len, h.nm, kNm_len, List.length_take]
    omega
  have h16 := hok.few
  have hbig : I'.length ≤ 16 * 4124 := by
    have := wt_le (hen.take k)
    rw [h.ln]
    rw [List.length_take] at this
    omega
  have hall : ∀ x ∈ kNm K', ltS x e.nm = true := by
    intro x hxm
    rw [h.nm] at hxm
    unfold kNm at hxm
    rw [List.map_take] at hxm
    obtain ⟨i, hi⟩ := List.getElem?_of_mem hxm
    rw [List.getElem?_take] at hi
    split at hi
    · rename_i hik
      have hasc := hok.asc
      unfold Asc at hasc
      rw [List.pairwise_iff_getElem] at hasc
      have e2 : (kNm K)[k]? = some e.nm := by unfold kNm; rw [List.getElem?_map, hx]; rfl
      have hi' : (kNm K)[i]? = some x := hi
      obtain ⟨a1, a2⟩ := List.getElem?_eq_some_iff.1 hi'
      obtain ⟨b1, b2⟩ := List.getElem?_eq_some_iff.1 e2
      have := hasc i k a1 b1 hik
      rw [a2, b2] at this
      exact this
    · cases hi
  obtain ⟨p1, p2⟩ := pos_end hall
  rw [kNm_len] at p1
  have hl := recK_len e.nm (seg I e.fr e.to)
  have hfu : (hasN (kNm K') e.nm || decide (K'.length < 16)) = true := by rw [p2]; simp; omega
  have hc : putE I' K' e.nm (seg I e.fr e.to) = 0 := by
    unfold putE
    rw [hen1.2.2.2, hfu, if_neg (by simp), if_neg (by omega), if_neg (by simp), if_neg (by omega)]
  have hput : putK I' K' e.nm (seg I e.fr e.to) = K' ++ [⟨e.nm, I'.length + (recK e.nm (seg I e.fr e.to)).length - (seg I e.fr e.to).length, I'.length + (recK e.nm (seg I e.fr e.to)).length⟩] := by
    unfold putK putN
    rw [p1, p2]
    simp
  have htk : K.take (k + 1) = K.take k ++ [e] := snoc_take hx
  refine ⟨hc, ?_, ?_, ?_, h.im.put hc h.en, ?_, ?_⟩
  · rw [hput, htk]
    have hs := h.sm
    unfold pkV at hs ⊢
    rw [List.map_append, List.map_append, ← hs]
    congr 1
    · refine List.map_congr_left (fun y hy => ?_)
      rw [seg_app (h.en y hy).2.1]
    · show [(e.nm, seg _ _ _)] = [(e.nm, _)]
      have : recK e.nm (seg I e.fr e.to) = ([1] ++ nb e.nm ++ be ((seg I e.fr e.to).length : Int) 2) ++ seg I e.fr e.to := rfl
      rw [this, seg_end]
  · unfold putK
    exact h.ok.put ⟨e.nm, I'.length + (recK e.nm (seg I e.fr e.to)).length - (seg I e.fr e.to).length, I'.length + (recK e.nm (seg I e.fr e.to)).length⟩ hfu
  · intro y hy
    rw [hput] at hy
    rw [List.length_append]
    rcases List.mem_append.1 hy with hy | hy
    · have := h.en y hy
      exact ⟨this.1, by omega, this.2.2⟩
    · rcases List.mem_singleton.1 hy with rfl
      refine ⟨?_, ?_, ?_, hen1.2.2.2⟩
      · dsimp only; omega
      · dsimp only; omega
      · dsimp only; omega
  · rw [htk, wt_app, List.length_append, h.ln]
    have : wtK [e] = e.nm.size + 4 + (e.to - e.fr) := by simp [wtK]
    omega
  · rw [htk]
    conv => lhs; rw [h.eq]
    unfold pkV pkI
    rw [List.map_append, List.flatMap_append]
    simp
def BOfN (w : World) (m : List UInt8) (e : Ending) (w' : World) : Prop := ∃ ao c, e = .returned (.slice ao m.length c) ∧ BAt w' ao m ∧ (ao = none → m = [] ∧ c = 0) ∧ Below w.heap.size w w'
set_option maxHeartbeats 1000000 in
theorem bytesOf_anyN {w : World} {B g : Nat} {iv kv : Value} {I : List UInt8} {K : List Ke} (H : IsSt w B g iv kv I K) (hI : I.length ≤ 1048576) (s : ByteArray) (a b : Nat) (hab : a ≤ b) (hb : b ≤ I.length) :
    Calls Try.prog 35 #[.pointer (some ⟨g, 0, none⟩), .agg #[.string s, .int .i64 (a : Int), .int .i64 (b : Int)]] w (BOfN w (seg I a b)) := by
  have hal : Below w.heap.size w (w.alloc (.cells #[.string s, .int .i64 (a : Int), .int .i64 (b : Int)] 83)) := (Below.refl _ _).alloc (Nat.le_refl _) _
  have hnew := heap_alloc_new w (.cells #[.string s, .int .i64 (a : Int), .int .i64 (b : Int)] 83)
  have n1 : (w.alloc (.cells #[.string s, .int .i64 (a : Int), .int .i64 (b : Int)] 83)).cell? ⟨w.heap.size, 1, none⟩ = some (.int .i64 (a : Int)) := by rw [cell_of_row _ _ _ _ _ _ hnew]; rfl
  have n2 : (w.alloc (.cells #[.string s, .int .i64 (a : Int), .int .i64 (b : Int)] 83)).cell? ⟨w.heap.size, 2, none⟩ = some (.int .i64 (b : Int)) := by rw [cell_of_row _ _ _ _ _ _ hnew]; rfl
  have c0 := (H.below hal).c0
  have HI := hide ((H.below hal).img)
  have HA := hide hal
  have mixed := mixedS
  have hsl := seg_len hab hb
  have i1 : ((a : Nat) : Int) ≤ ((b : Nat) : Int) := by omega
  clear H hal hnew
  go_enter Try.func35, Try.ntmps35
  go_wp2_with fail
  generalize (w.alloc (.cells #[.string s, .int .i64 (a : Int), .int .i64 (b : Int)] 83)) = W at *
  rcases (unhide HI).shape with ⟨hv, hI0⟩ | ⟨ib, ic, hv, _, _, hn, hm, hbt⟩
  · subst hv hI0
    have b0 : b = 0 := by simpa using hb
    have a0 : a = 0 := by omega
    subst b0 a0
    go_quiet (fail)
    go_wp2
    go_ret
    exact ⟨none, 0, by simp [seg], fun i hi => by simp [seg] at hi, fun _ => ⟨by simp [seg], rfl⟩, (unhide HA).trans ⟨rfl, rfl, rfl, Nat.le_refl _, fun _ _ => rfl⟩⟩
  · subst hv
    have HBT := hide hbt
    clear hbt
    have i2 : ((b : Nat) : Int) ≤ ((ic : Nat) : Int) := by omega
    have i3 : b ≤ ic := by omega
    have hm2 : ic ≤ 9223372036854775807 := by unfold maxLen at hm; omega
    by_cases hq : ic = a
    · subst hq
      have b0 : b = ic := by omega
      subst b0
      go_quiet (fail)
      go_wp2
      go_ret
      exact ⟨_, _, by rw [hsl, Nat.sub_self]; rfl, (fun i hi => by rw [hsl] at hi; omega), (fun e => by cases e), (unhide HA).trans ⟨rfl, rfl, rfl, Nat.le_refl _, fun _ _ => rfl⟩⟩
    · go_quiet (fail)
      go_wp2
      go_ret
      exact ⟨_, _, by rw [hsl]; rfl, (BAt.segS (unhide HBT) hb hab), (fun e => by cases e), (unhide HA).trans ⟨rfl, rfl, rfl, Nat.le_refl _, fun _ _ => rfl⟩⟩
def PackPost (w : World) (I : List UInt8) (K : List Ke) (e : Ending) (w' : World) : Prop := ∃ g iv kv I' K', e = .returned (.pointer (some ⟨g, 0, none⟩)) ∧ IsSt w' w.heap.size g iv kv I' K' ∧ PkS I K I' K' ∧ Below w.heap.size w w'
theorem PkS.big {I : List UInt8} {K : List Ke} {k : Nat} {I' : List UInt8} {K' : List Ke} (h : PkS I (K.take k) I' K') : I'.length ≤ 1048576 := by
  have h1 := h.im.op
  unfold openS at h1
  split at h1
  · cases h1
  · omega
theorem PutS_ok {w : World} {B g : Nat} {iv kv : Value} {I : List UInt8} {K : List Ke} (s : ByteArray) (ao : Option Addr) (c : Nat) (m : List UInt8) (H : IsSt w B g iv kv I K) (hI : I.length ≤ 1048576) (hok : OkK K) (h0 : putE I K s m = 0) (hb : BAt w ao m) (hn : ao = none → m = [] ∧ c = 0) :
    Calls Try.prog 22 #[.pointer (some ⟨g, 0, none⟩), .string s, .slice ao m.length c] w fun e w' => ∃ v iv' kv', e = .returned (.tuple #[v, .int .i64 0]) ∧ IsSt w' B g iv' kv' (I ++ recK s m) (putK I K s m) ∧ Kept (SA g iv kv) w w' := by
  obtain ⟨h1, h2, -, -⟩ := putE_ok h0
  refine (PutS_any s ao c m H hI hok (name_le h1) hb hn (by omega)).mono ?_
  rintro e w' (⟨cc, hcc, -, hcn, -, -⟩ | ⟨-, v, iv', kv', rfl, hst, -, hk, -⟩)
  · exact absurd (hcc.symm.trans h0) hcn
  · exact ⟨v, iv', kv', rfl, hst, hk⟩
theorem Bx.keepSK {w w1 : World} {B g b : Nat} {iv kv : Value} {I : List UInt8} {K : List Ke} {t : TypeId} {cs : Array Value} (hb : Bx w b t cs) (h : IsSt w B g iv kv I K) (hk : Kept (SA g iv kv) w w1) (h1 : t ≠ 71) (h2 : t ≠ 5) (h3 : kv.ownBlock ≠ some b) : Bx w1 b t cs := by
  unfold Bx at hb ⊢
  rw [hk.block b (Bx.lt hb) (fun hS => ?_)]
  · exact hb
  · rcases hS with hS | hS | hS
    · exact ty_ne hb h.row h1 hS
    · obtain ⟨cur2, hc⟩ := h.ity _ hS
      exact ty_ne hb hc h2 rfl
    · exact h3 hS
set_option maxRecDepth 20000 in
set_option maxHeartbeats 2000000 in
theorem PackS_any {w : World} {B g : Nat} {iv kv : Value} {I : List UInt8} {K : List Ke} (H : IsSt w B g iv kv I K) (hI : I.length ≤ 1048576) (hok : OkK K) (hen : EnK I.length K) :
    Calls Try.prog 13 #[.pointer (some ⟨g, 0, none⟩)] w (PackPost w I K) := by
  obtain ⟨ka, kc, hkv, hkn, hkc⟩ := H.kep.at
  subst hkv
  have HH := hide H
  have HOK := hide hok
  have HEN := hide hen
  have hK16 : K.length ≤ 16 := hok.few
  have HKC := hide hkc
  have HM := hide (isMadeS_yes H)
  clear H hok hen hkn hkc
  have mixed := mixedS
  go_enter Try.func13, Try.ntmps13
  go_upto_region 3 with (go_at_call 31; with_reducible refine (unhide HM).mono ?_; rintro e W ⟨rfl, rfl⟩)
  go_wp2_with fail
  refine (NewS_any W).mono ?_
  rintro e W1 ⟨rfl, hst1, hb1⟩
  have HS1 := hide ((unhide HH).below hb1)
  have HT1 := hide hst1
  have HB1 := hide hb1
  have c1 := (unhide HS1).c1
  clear hst1 hb1
  go_wp2_with fail
  go_loopw [15] (fun i wr => ∃ (k : Nat) (ip kp : Value) (I' : List UInt8) (K' : List Ke), k ≤ K.length ∧ i = .int .i64 k ∧ Hid (IsSt wr W.heap.size W.heap.size ip kp I' K') ∧ Hid (PkS I (K.take k) I' K') ∧ Hid (Below W.heap.size W wr)) (fun i _ => K.length - (intOf i).toNat)
  case atStart => exact ⟨0, _, _, _, _, by omega, rfl, HT1, hide (PkS.zero I), HB1⟩
  case round =>
    clear HT1 HB1 c1 HS1
    obtain ⟨k, ip, kp, I', K', hk, rfl, HTr, HPr, HBr⟩ := hrel
    by_cases hlt : k < K.length
    · have i1 : ((k : Nat) : Int) < ((K.length : Nat) : Int) := by omega
      have hx := List.getElem?_eq_getElem hlt
      obtain ⟨x, hxe⟩ : ∃ x, x = K[k] := ⟨_, rfl⟩
      rw [← hxe] at hx
      have HS0 := hide ((unhide HH).below (unhide HBr))
      obtain ⟨ao2, cap2, hv2, -, hc2⟩ := (unhide HS0).kep.at
      injection hv2 with hv2 hl2 hcp2
      clear hl2
      subst hcp2
      obtain ⟨b, hb, q0, q1, q2⟩ := hc2 k x hx
      rw [hb] at hv2
      subst hv2
      clear hc2 hb
      have hen1 := unhide HEN x (List.mem_of_getElem? hx)
      have HXE := hide hx
      clear hxe hx
      obtain ⟨nm, fr, to_⟩ := x
      dsimp only at q0 q1 q2 hen1
      go_upto_region 7 with fail
      have hal : Below wr.heap.size wr (wr.alloc (.cells #[.string nm, .int .i64 (fr : Int), .int .i64 (to_ : Int)] 83)) := (Below.refl _ _).alloc (Nat.le_refl _) _
      have HX1 : Hid (Bx (wr.alloc (.cells #[.string nm, .int .i64 (fr : Int), .int .i64 (to_ : Int)] 83)).drew wr.heap.size 83 #[.string nm, .int .i64 (fr : Int), .int .i64 (to_ : Int)]) := hide (heap_alloc_new wr _)
      have HB1 : Hid (Below W.heap.size W (wr.alloc (.cells #[.string nm, .int .i64 (fr : Int), .int .i64 (to_ : Int)] 83)).drew) := hide ((unhide HBr).trans (hal.drew.mono (unhide HBr).size))
      have HS1 := hide ((unhide HS0).below hal.drew)
      have HT1 := hide ((unhide HTr).below hal.drew)
      have HNE : Hid (∀ q, kp.ownBlock = some q → q < wr.heap.size) := hide (fun q e => (World.ownsRow.lt (unhide HTr).kep q e).2)
      clear hal q0 q1 q2 HS0 HTr
      refine wp_region_held_drew (S := fun w' => Bx w' wr.heap.size 83 #[.string nm, .int .i64 (fr : Int), .int .i64 (to_ : Int)]) mixed (unhide HX1) (fun hS => ?_)
      generalize (wr.alloc (.cells #[.string nm, .int .i64 (fr : Int), .int .i64 (to_ : Int)] 83)).drew = Wd at hS HX1 HB1 HS1 HT1 ⊢
      generalize wr.heap.size = bx at hS HX1 HNE ⊢
      refine wpAnyH_take (i := 4) (v := .agg #[.string nm, .int .i64 (fr : Int), .int .i64 (to_ : Int)]) rfl (by kernel_rfl) (by kernel_rfl) (by kernel_rfl) (fun _ _ _ h => h) (Or.inl ⟨by rfl, fun W h => by have h0 := h.c 0 rfl; have h1 := h.c 1 rfl; have h2 := h.c 2 rfl; go_simp⟩) hS ?_
      go_simp
      refine wpAnyH_take (i := 1) (v := .pointer (some ⟨bx, 0, none⟩)) rfl (by kernel_rfl) (by kernel_rfl) (by kernel_rfl) (fun _ _ _ h => h) (Or.inl ⟨by rfl, fun W _ => by go_simp⟩) hS ?_
      go_simp
      refine wpAnyH_take (i := 2) (v := .string nm) rfl (by kernel_rfl) (by kernel_rfl) (by kernel_rfl) (fun _ _ _ h => h) (Or.inl ⟨by rfl, fun W h => by have h0 := h.c 0 rfl; go_simp⟩) hS ?_
      go_simp
      refine wpAnyH_take (i := 0) (v := .pointer (some ⟨W.heap.size, 0, none⟩)) rfl (by kernel_rfl) (by kernel_rfl) (by kernel_rfl) (fun _ _ _ h => h) (Or.inl ⟨by rfl, fun W _ => by go_simp⟩) hS ?_
      go_simp
      refine wpAnyH_take (i := 3) (v := .pointer (some ⟨g, 0, none⟩)) rfl (by kernel_rfl) (by kernel_rfl) (by kernel_rfl) (fun _ _ _ h => h) (Or.inl ⟨by rfl, fun W _ => by go_simp⟩) hS ?_
      go_simp
      have HC := hide (bytesOf_anyN (unhide HS1) hI nm fr to_ hen1.1 hen1.2.1)
      refine wpAnyH_ready (rs := [5]) (by kernel_rfl) (by simp) ?_
      refine AllReadyH.cons rfl (fun KK hK => ?_) AllReadyH.nil
      go_simp
      go_wp2_with (go_at_call 35; (with_reducible refine (unhide HC).mono ?_); rintro e W2 ⟨a2, c2, rfl, hB2, hn2, hb2⟩)
      have HT2 := hide ((unhide HT1).below hb2)
      have HX2 := hide ((unhide HX1).below hb2)
      have HB2 := hide ((unhide HB1).trans (hb2.mono (unhide HB1).size))
      obtain ⟨hc0, hps⟩ := (unhide HPr).step (unhide HOK) (unhide HEN) (unhide HXE)
      have HPS := hide hps
      have HPt := hide (PutS_ok nm a2 c2 (seg I fr to_) (unhide HT2) (unhide HPr).big (unhide HPr).ok hc0 hB2 hn2)
      refine hK.out _ _ (unhide HX2) (fun hS2 => ?_)
      clear hK KK hS hb2 HT1 HX1 HB1 HS1
      refine wpAnyH_ready (rs := [6]) (by kernel_rfl) (by simp) ?_
      refine AllReadyH.cons rfl (fun KK hK => ?_) AllReadyH.nil
      go_simp
      go_wp2_with (go_at_call 22; (with_reducible refine (unhide HPt).mono ?_); rintro e W4 ⟨v4, iv4, kv4, rfl, hst, hk4⟩)
      have HT4 := hide hst
      have HB4 := hide ((unhide HB2).trans (below_SA (unhide HT2) hk4))
      have HX4 := hide ((unhide HX2).keepSK (unhide HT2) hk4 (by decide) (by decide) (fun e => Nat.lt_irrefl _ (unhide HNE _ e)))
      refine hK.out _ _ (unhide HX4) (fun hS4 => ?_)
      clear hK KK hS2 hst hk4 HT2 HB2 HPt
      refine wpAnyH_done (by kernel_rfl) ?_ _
      go_wp2
      go_roundw
      case rel => exact ⟨k + 1, iv4, kv4, _, _, by omega, by go_num, HT4, HPS, HB4⟩
      case measure => simp [intOf]; omega
    · have i1 : ¬ ((k : Nat) : Int) < ((K.length : Nat) : Int) := by omega
      have hkk : k = K.length := by omega
      have hps := unhide HPr
      rw [hkk, List.take_length] at hps
      have HPS := hide hps
      clear hps hkk HPr
      go_wp2
      go_ret
      exact ⟨_, _, _, _, _, rfl, unhide HTr, unhide HPS, unhide HBr⟩
end Go.Proofs.Ytkcnkfhdbjiggaa

/-
  What the laws of store share: an image read again, Get and Open by what is kept alone, names held against names.
-/
namespace Go.Proofs.Ytkcnkfhdbjiggaa
open Go.RowKit
set_option maxRecDepth 20000

theorem Tw.zero {w : World} {B g : Nat} (h : IsSt w B g (.slice none 0 0) (.slice none 0 0) [] []) : Tw w B g (.slice none 0 0) (.slice none 0 0) (.slice none 0 0) (.slice none 0 0) [] [] [] where
  st := h
  xo := ⟨rfl, Or.inl ⟨rfl, rfl⟩⟩
  lo := ⟨rfl, Or.inl ⟨rfl, rfl⟩⟩
  rk := fun x hx => (by cases hx)
  sm := rfl
  ok := ⟨List.Pairwise.nil, by simp⟩
  en := fun x hx => (by cases hx)
  big := by simp
  s1 := fun q e => (by cases e)
  s2 := fun q e => (by cases e)
theorem Tw.keepT {w w1 : World} {B g b : Nat} {iv kv xi lv : Value} {I : List UInt8} {K : List Ke} {L : List Rk} {cs : Array Value} (h : Tw w B g iv kv xi lv I K L) (hb : Bx w b 31 cs) (hk : Kept (fun q => q = b) w w1) : Tw w1 B g iv kv xi lv I K L := by
  refine ⟨h.st.keep hk (fun (e : g = b) => ty_ne h.st.row hb (by decide) e) (fun q e (e2 : q = b) => ?_) (fun q e (e2 : q = b) => ?_), h.xo.keepBx hb hk (by decide), h.lo.keep hk (fun q e (e2 : q = b) => ?_), fun x hx => (h.rk x hx).keepBx hb hk (by decide), h.sm, h.ok, h.en, h.big, h.s1, h.s2⟩
  · obtain ⟨cur, hh⟩ := h.st.ity _ e
    exact ty_ne hh hb (by decide) e2
  · obtain ⟨cur, hh⟩ := h.st.kty _ e
    exact ty_ne hh hb (by decide) e2
  · obtain ⟨cur, hh⟩ := own_tyR h.lo e
    exact ty_ne hh hb (by decide) e2
theorem u64rem2 (n : Int) : wrap64 ((IntKind.u64.wrap n).tmod 2) = 0 ∨ wrap64 ((IntKind.u64.wrap n).tmod 2) = 1 := by
  have h0 : 0 ≤ IntKind.u64.wrap n := by simp [IntKind.wrap, IntKind.bits, IntKind.signed]; omega
  rw [Int.tmod_eq_emod_of_nonneg h0]
  rcases Int.emod_two_eq (IntKind.u64.wrap n) with h | h
  · left; rw [h]; first | rfl | simp [wrap64] | (unfold wrap64; decide)
  · right; rw [h]; first | rfl | simp [wrap64] | (unfold wrap64; decide)
theorem OwnB.nilN {w : World} {B : Nat} {ao : Option Addr} {n c : Nat} {l : List UInt8} (h : OwnB w B (.slice ao n c) l) : ao = none → l = [] ∧ c = 0 := fun e => by
  rcases h.2 with ⟨h1, h2⟩ | ⟨g, cap, cur, hv, _⟩
  · injection h1 with _ _ h1
    exact ⟨List.eq_nil_of_length_eq_zero h2, h1⟩
  · injection hv with hv _ _
    rw [e] at hv
    cases hv
theorem ImK.done {w w' : World} {B g : Nat} {iv kv : Value} {code : Int} {I R : List UInt8} {K K2 : List Ke} {e : Ending} (h : ImK I K) (h2 : code = 0 → ImK (I ++ R) K2) (hd : DoPost w B g iv kv I K code R K2 e w') :
    Kept (SA g iv kv) w w' ∧ ∃ xi' lv' v iv' kv' I' K' L', e = .returned (.tuple #[.agg #[xi', lv'], v, .bool true]) ∧ Tw w' B g iv' kv' xi' lv' I' K' L' ∧ ImK I' K' := by
  obtain ⟨hk, xi', lv', v, iv', kv', I', K', L', he, ht, hc⟩ := hd
  refine ⟨hk, xi', lv', v, iv', kv', I', K', L', he, ht, ?_⟩
  rcases hc with ⟨-, rfl, rfl, -⟩ | ⟨hc, rfl, rfl, -⟩
  · exact h
  · exact h2 hc
theorem OpenS_im {I : List UInt8} {K : List Ke} (him : ImK I K) (ao : Option Addr) (c : Nat) (w : World) (hl : BAt w ao I) (hn : ao = none → I = []) (hb : I.length ≤ 1048576) (hlc : I.length ≤ c) :
    Calls Try.prog 15 #[.slice ao I.length c] w fun e w' => ∃ g iv kv, e = .returned (.tuple #[.pointer (some ⟨g, 0, none⟩), .int .i64 0]) ∧ IsSt w' w.heap.size g iv kv I K ∧ Below w.heap.size w w' := by
  refine (OpenS_any ao c I w hl hn (by omega) hlc).mono ?_
  rintro e w' ⟨hb', ⟨-, h0⟩ | ⟨g, iv, kv, k, K', he, h0, hst, -, -, -⟩⟩
  · rw [him.op] at h0; cases h0
  · rw [him.op] at h0
    injection h0 with h0
    injection h0 with h1 h2
    subst h1 h2
    rw [List.take_length] at hst
    exact ⟨g, iv, kv, he, hst, hb'⟩
def getE (V : List (ByteArray × List UInt8)) (s : ByteArray) : Int := if nameB s = false then 6 else if hasN (V.map Prod.fst) s = false then 211 else 0
def getB (V : List (ByteArray × List UInt8)) (s : ByteArray) : List UInt8 := if nameB s = false then [] else if hasN (V.map Prod.fst) s = false then [] else ((V[posN (V.map Prod.fst) s]?).map Prod.snd).getD []
theorem GetS_pk {w : World} {B g : Nat} {iv kv : Value} {I : List UInt8} {K : List Ke} (H : IsSt w B g iv kv I K) (hI : I.length ≤ 1048576) (hok : OkK K) (he : EnK I.length K) (s : ByteArray) (hs : s.size ≤ maxLen) :
    Calls Try.prog 10 #[.pointer (some ⟨g, 0, none⟩), .string s] w fun e w' => ∃ v, e = .returned (.tuple #[v, .int .i64 (getE (pkV I K) s)]) ∧ OwnB w' w.heap.size v (getB (pkV I K) s) ∧ Below w.heap.size w w' := by
  refine (GetS_any H hI hok he s hs).mono ?_
  rintro e w' ⟨hb, ⟨rfl, h1⟩ | ⟨rfl, h1, h2⟩ | ⟨v, x, rfl, h1, h2, h3, h4⟩⟩
  · refine ⟨_, by unfold getE; rw [if_pos h1], ?_, hb⟩
    unfold getB
    rw [if_pos h1]
    exact ⟨rfl, Or.inl ⟨rfl, rfl⟩⟩
  · rw [← pkV_nm I K] at h2
    refine ⟨_, by unfold getE; rw [if_neg (by rw [h1]; simp), if_pos h2], ?_, hb⟩
    unfold getB
    rw [if_neg (by rw [h1]; simp), if_pos h2]
    exact ⟨rfl, Or.inl ⟨rfl, rfl⟩⟩
  · rw [← pkV_nm I K] at h2 h3
    refine ⟨v, by unfold getE; rw [if_neg (by rw [h1]; simp), if_neg (by rw [h2]; simp)], ?_, hb⟩
    unfold getB
    rw [if_neg (by rw [h1]; simp), if_neg (by rw [h2]; simp)]
    have : (pkV I K)[posN ((pkV I K).map Prod.fst) s]? = some (x.nm, seg I x.fr x.to) := by
      conv => lhs; unfold pkV
      rw [List.getElem?_map]
      unfold pkV at h3
      rw [h3]
      rfl
    rw [this]
    exact h4
theorem getB_len {I : List UInt8} {K : List Ke} (he : EnK I.length K) (s : ByteArray) : (getB (pkV I K) s).length ≤ 4096 := by
  unfold getB
  split
  · simp
  · split
    · simp
    · cases h : (pkV I K)[posN ((pkV I K).map Prod.fst) s]? with
      | none => simp
      | some y =>
        unfold pkV at h
        rw [List.getElem?_map] at h
        cases h2 : K[posN ((pkV I K).map Prod.fst) s]? with
        | none => unfold pkV at h2; rw [h2] at h; cases h
        | some z =>
          unfold pkV at h2
          rw [h2] at h
          injection h with h
          have h3 := he z (List.mem_of_getElem? h2)
          have h4 := seg_len (I := I) h3.1 h3.2.1
          show (y.2).length ≤ 4096
          rw [← h]
          show (seg I z.fr z.to).length ≤ 4096
          omega
set_option maxHeartbeats 1000000 in
theorem EqualT_same {B B' : Nat} {ao bo : Option Addr} {c c' n n' : Nat} {N : List ByteArray} {w : World} (hl : OwnT w B (.slice ao n c) N) (hm : OwnT w B' (.slice bo n' c') N) (h1 : N.length ≤ 4096) :
    Calls Try.prog 20 #[.slice ao n c, .slice bo n' c'] w fun e w' => e = .returned (.bool true) ∧ ∃ k, w' = w.drewN k := by
  obtain ⟨a2, d2, hv, -, hc⟩ := hl.at
  obtain ⟨b2, e2, hv', -, hc'⟩ := hm.at
  injection hv with q1 q2 q3
  injection hv' with r1 r2 r3
  subst q1 q2 q3 r1 r2 r3
  have hb : (((N.length : Nat) : Int) != ((N.length : Nat) : Int)) = false := bne_f rfl
  have HC := hide hc
  have HC' := hide hc'
  clear hl hm hc hc'
  go_enter Try.func20, Try.ntmps20
  go_wp2
  go_loopw [13] (fun i wr => ∃ k : Nat, k ≤ N.length ∧ i = .int .i64 k ∧ ∃ q, wr = w.drewN q) (fun i _ => N.length - (intOf i).toNat)
  case atStart => exact ⟨0, by omega, rfl, 0, rfl⟩
  case round =>
    obtain ⟨k, hk, rfl, q, rfl⟩ := hrel
    by_cases hlt : k < N.length
    · obtain ⟨b, rfl, c1⟩ := unhide HC k _ (List.getElem?_eq_getElem hlt)
      obtain ⟨b', rfl, c2⟩ := unhide HC' k _ (List.getElem?_eq_getElem hlt)
      generalize N[k] = x at c1 c2
      have i1 : ((k : Nat) : Int) < ((N.length : Nat) : Int) := by omega
      have hq : (x.toList == x.toList) = true := beq_self_eq_true _
      go_wp2
      go_quiet (fail)
      go_wp2
      go_roundw
      case rel => exact ⟨k + 1, by omega, by go_num, _, rfl⟩
      case measure => simp [intOf]; omega
    · go_wp2
      go_ret
      exact ⟨rfl, _, rfl⟩
end Go.Proofs.Ytkcnkfhdbjiggaa
