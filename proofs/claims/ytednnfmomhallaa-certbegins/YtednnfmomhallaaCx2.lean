/-
  The whole of a certificate's bytes, there and back. No Go in it.
-/
import Derived.Test.YtednnfmomhallaaCx1
import Derived.Test.YtednnfmomhallaaCf2
namespace Go.Proofs.Ytednnfmomhallaa
open Go.RowKit

/-- The entries that were written are read, one behind the other; what stands behind them is too much. -/
theorem tol_back {lo : Nat} (hlo : lo ≤ 16) : ∀ (es : List En) (pre tail : List UInt8) (i : Nat) (ahead : Int), EsOk es → (ckL lo es i ahead).2 = 0 →
    enS (tolD (pre ++ (es.flatMap encE ++ tail)) lo es.length pre.length ahead).1 = es ∧
    (tolD (pre ++ (es.flatMap encE ++ tail)) lo es.length pre.length ahead).2 = if 0 < tail.length then (pre.length + (es.flatMap encE).length, 3) else (0, 0)
  | [], pre, tail, i, ahead, _, _ => by
    refine ⟨rfl, ?_⟩
    show (if pre.length < (pre ++ ([] ++ tail)).length then (pre.length, (3 : Int)) else (0, 0)) = _
    by_cases h : 0 < tail.length
    · rw [if_pos (by rw [List.nil_append, List.length_append]; omega), if_pos h]; rfl
    · rw [if_neg (by rw [List.nil_append, List.length_append]; omega), if_neg h]
  | x :: es, pre, tail, i, ahead, ho, h => by
    unfold ckL at h
    by_cases h1 : aftD x.at_ ahead = 0
    · rw [if_neg (by simpa using h1)] at h
      by_cases h2 : bodD lo x = 0
      · rw [if_neg (by simpa using h2)] at h
        have eL : pre ++ ((x :: es).flatMap encE ++ tail) = pre ++ (encE x ++ (es.flatMap encE ++ tail)) := by rw [List.flatMap_cons, List.append_assoc]
        obtain ⟨o1, o2, o3⟩ := one_back pre (es.flatMap encE ++ tail) hlo (ho x (by simp)) h1 h2
        rw [eL, List.length_cons, tol_good o1, o2, o3]
        have ih := tol_back hlo es (pre ++ encE x) tail (i + 1) x.at_ (fun y hy => ho y (List.mem_cons_of_mem _ hy)) h
        rw [List.append_assoc, List.length_append] at ih
        refine ⟨?_, ?_⟩
        · show x :: enS _ = _
          rw [ih.1]
        · rw [show ∀ (a : List (En × Nat)) (b : Nat × Int), (a, b).2 = b from fun _ _ => rfl, ih.2]
          by_cases ht : 0 < tail.length
          · rw [if_pos ht, if_pos ht, List.flatMap_cons, List.length_append]
            congr 1
            omega
          · rw [if_neg ht, if_neg ht]
      · rw [if_pos h2] at h
        exact absurd h h2
    · rw [if_pos h1] at h
      exact absurd h h1

theorem head_back {lo n : Int} (rest : List UInt8) (h0 : 0 ≤ lo) (h16 : lo ≤ 16) (hn0 : 0 ≤ n) (hn : n ≤ 4096) :
    hdE ([112, 118, 1] ++ (be lo 1 ++ (be n 2 ++ rest))) = (0, 0) ∧ at8 ([112, 118, 1] ++ (be lo 1 ++ (be n 2 ++ rest))) 3 = lo ∧ wdD ([112, 118, 1] ++ (be lo 1 ++ (be n 2 ++ rest))) 4 = n := by
  have e : [112, 118, 1] ++ (be lo 1 ++ (be n 2 ++ rest)) = 112 :: 118 :: 1 :: byteOf lo 0 :: byteOf n 1 :: byteOf n 0 :: rest := rfl
  rw [e]
  have a3 : at8 (112 :: 118 :: 1 :: byteOf lo 0 :: byteOf n 1 :: byteOf n 0 :: rest) 3 = lo := byte_back h0 (by omega)
  have w4 : wdD (112 :: 118 :: 1 :: byteOf lo 0 :: byteOf n 1 :: byteOf n 0 :: rest) 4 = n := word_back hn0 (by omega)
  refine ⟨?_, a3, w4⟩
  unfold hdE
  rw [mkE_step (by simp) rfl, mkE_step (by simp) rfl, mkE_step (by simp) rfl, mkE_zero, a3, w4, if_neg (by simp), if_neg (by omega), if_neg (by omega)]

/-- Decode of what Encode writes, with something behind. -/
theorem cd_back {lo : Nat} {es : List En} (ho : EsOk es) (hc : (ckC lo es).2 = 0) (tail : List UInt8) :
    at8 (encC lo es ++ tail) 3 = (lo : Int) ∧ wdD (encC lo es ++ tail) 4 = (es.length : Int) ∧
    cdE (encC lo es ++ tail) lo es.length = (if 0 < tail.length then ((encC lo es).length, 3) else (0, 0)) ∧
    (tail = [] → cdS (encC lo es ++ tail) lo es.length = es ∧ cdL (encC lo es ++ tail) lo es.length = (lo : Int)) := by
  obtain ⟨⟨h0, h16⟩, hn, hk⟩ := ckC_good hc
  obtain ⟨d1, d2, d3⟩ := head_back (n := (es.length : Int)) (es.flatMap encE ++ tail) h0 h16 (by omega) (by omega)
  have eL : encC lo es ++ tail = [112, 118, 1] ++ (be lo 1 ++ (be (es.length : Int) 2 ++ (es.flatMap encE ++ tail))) := by unfold encC; simp [List.append_assoc]
  have eL2 : encC lo es ++ tail = ([112, 118, 1] ++ (be lo 1 ++ be (es.length : Int) 2)) ++ (es.flatMap encE ++ tail) := by rw [eL]; simp [List.append_assoc]
  rw [← eL] at d1 d2 d3
  have t := tol_back (lo := lo) (by omega) es ([112, 118, 1] ++ (be lo 1 ++ be (es.length : Int) 2)) tail 0 (-1) ho hk
  rw [← eL2, show ([112, 118, 1] ++ (be (lo : Int) 1 ++ be (es.length : Int) 2) : List UInt8).length = 6 by simp [be_length]] at t
  have l6 : (encC lo es).length = 6 + (es.flatMap encE).length := by unfold encC; simp [be_length]; omega
  have hE : cdE (encC lo es ++ tail) lo es.length = (if 0 < tail.length then ((encC lo es).length, 3) else (0, 0)) := by
    unfold cdE
    rw [if_neg (by rw [d1]; simp), t.2, l6]
    by_cases ht : 0 < tail.length
    · rw [if_pos ht, if_pos (by simp)]
    · rw [if_neg ht, if_neg (by simp)]
  refine ⟨d2, d3, hE, fun ht => ?_⟩
  have hE0 : cdE (encC lo es ++ tail) lo es.length = (0, 0) := by rw [hE, ht]; rfl
  refine ⟨?_, ?_⟩
  · unfold cdS
    rw [hE0, if_pos rfl]
    exact t.1
  · unfold cdL
    rw [hE0, if_pos rfl]

/-! ### The other way: Encode of what Decode takes -/
theorem take2 {L : List UInt8} {p : Nat} (h : p + 2 ≤ L.length) : L.drop p = byteOf (wdD L p) 1 :: byteOf (wdD L p) 0 :: L.drop (p + 2) := by
  obtain ⟨a, ha, ea⟩ := split_at (L := L) (p := p) (by omega)
  obtain ⟨b, hb, eb⟩ := split_at (L := L) (p := p + 1) (by omega)
  have w : wdD L p = (a.toNat : Int) * 256 + (b.toNat : Int) := by unfold wdD; rw [ea, eb]
  have hd : ∀ {q : Nat} {c : UInt8}, q < L.length → L = L.take q ++ c :: L.drop (q + 1) → L.drop q = c :: L.drop (q + 1) := fun {q c} hq hc => by
    conv => lhs; rw [hc]
    exact List.drop_left' (by simp; omega)
  rw [hd (by omega) ha, hd (by omega) hb, w, byte_hi, byte_lo]
theorem take1 {L : List UInt8} {p : Nat} (h : p < L.length) : L.drop p = byteOf (at8 L p) 0 :: L.drop (p + 1) := by
  obtain ⟨a, ha, ea⟩ := split_at h
  rw [ea, byte_u8]
  conv => lhs; rw [ha]
  exact List.drop_left' (by simp; omega)
theorem one_form {L : List UInt8} {lo p : Nat} {ahead : Int} (hlo : lo ≤ 16) (h : (oneE L lo p ahead).2 = 0) :
    encE (oneX L lo p) ++ L.drop (oneN L lo p) = L.drop p ∧ bodD lo (oneX L lo p) = 0 ∧ aftD (oneX L lo p).at_ ahead = 0 := by
  have hok := (one_ok h hlo).1
  unfold oneE at h
  split at h
  · simp at h
  split at h
  · rename_i h1; exact absurd h h1
  split at h
  · simp at h
  rename_i h1 h2 h3
  have ha : aftD (wdD L p) ahead = 0 := by simpa using h2
  split at h
  · rename_i h4
    unfold oneX oneN
    rw [if_pos h4, if_pos h4, encE_dead rfl]
    refine ⟨?_, ?_, ha⟩
    · simp only
      rw [take2 (L := L) (p := p) (by omega), take1 (L := L) (p := p + 2) (by omega), h4]
      rfl
    · unfold bodD
      simp only
      rw [if_pos trivial, if_pos (frEq_iff.2 rfl)]
  · rename_i h4
    split at h
    · rename_i h5
      unfold frE at h
      split at h
      · simp at h
      split at h
      · simp at h
      rename_i h6 h7
      have hg : at8 L (p + 3) = ((L.getD (p + 3) 0).toNat : Int) := rfl
      have hq := slt_ok _ _ h (by omega)
      have hcd := slt_codes _ _ h
      unfold oneX at hok
      rw [if_neg h4] at hok
      simp only at hok
      have hfl : (frX L lo (p + 3)).sl.length = 24 := hok.len
      unfold oneX oneN
      rw [if_neg h4, if_neg h4, encE_live rfl]
      unfold frX frN at *
      simp only at hfl ⊢
      generalize hh : (L.getD (p + 3) 0).toNat = he at hg h hq hcd hfl ⊢
      rw [hg]
      have en : ((lo : Int) + (he : Int)).toNat = lo + he := by omega
      have htk : (sltD L (p + 3 + 1) (lo + he)).take (lo + he) = ((L.drop (p + 3 + 1)).take (lo + he)).map UInt8.toNat := by
        unfold sltD
        exact List.take_left' (by simp; omega)
      have hdr : (sltD L (p + 3 + 1) (lo + he)).drop (lo + he) = List.replicate (24 - (lo + he)) 0 := by
        unfold sltD
        exact List.drop_left' (by simp; omega)
      refine ⟨?_, ?_, ha⟩
      · rw [en, htk, map_forth]
        rw [take2 (L := L) (p := p) (by omega), take1 (L := L) (p := p + 2) (by omega), h5, take1 (L := L) (p := p + 3) (by omega), hg]
        simp only [List.cons_append]
        have hd2 : L.drop (p + 3 + 1 + (lo + he)) = (L.drop (p + 3 + 1)).drop (lo + he) := by rw [List.drop_drop]
        rw [hd2, List.take_append_drop]
        rfl
      · unfold bodD
        simp only
        rw [if_neg (by simp), if_neg (by omega), en, htk, hdr, if_neg, if_neg]
        · simp only [Bool.not_eq_false]
          rw [List.all_eq_true]
          intro t ht
          obtain ⟨b, hb, rfl⟩ := List.mem_map.1 ht
          exact hcd b hb
        · simp
    · simp at h
theorem tol_form {L : List UInt8} {lo : Nat} (hlo : lo ≤ 16) : ∀ (n p i : Nat) (ahead : Int), p ≤ L.length → (tolD L lo n p ahead).2.2 = 0 →
    (enS (tolD L lo n p ahead).1).flatMap encE = L.drop p ∧ (ckL lo (enS (tolD L lo n p ahead).1) i ahead).2 = 0 ∧ (tolD L lo n p ahead).1.length = n
  | 0, p, i, ahead, hp, h => by
    rw [tol_end] at h ⊢
    refine ⟨?_, rfl, rfl⟩
    simp only at h
    split at h
    · simp at h
    · rw [List.drop_eq_nil_of_le (by omega)]; rfl
  | n + 1, p, i, ahead, hp, h => by
    by_cases he : (oneE L lo p ahead).2 = 0
    · rw [tol_good he] at h ⊢
      obtain ⟨f1, f2, f3⟩ := one_form hlo he
      have hN := (one_ok he hlo).2
      obtain ⟨i1, i2, i3⟩ := tol_form hlo n (oneN L lo p) (i + 1) (oneX L lo p).at_ hN h
      refine ⟨?_, ?_, by simp only [List.length_cons]; omega⟩
      · show (oneX L lo p :: enS _).flatMap encE = _
        rw [List.flatMap_cons, i1, f1]
      · show (ckL lo (oneX L lo p :: enS _) i ahead).2 = 0
        unfold ckL
        rw [if_neg (by simpa using f3), if_neg (by simpa using f2)]
        exact i2
    · rw [tol_bad he] at h
      exact absurd h he
theorem mk_form {L : List UInt8} (h : (hdE L).2 = 0) : 6 ≤ L.length ∧ at8 L 0 = 112 ∧ at8 L 1 = 118 ∧ at8 L 2 = 1 := by
  have h6 := (mkE_good 3 0 h).1
  have key : ∀ k i, i < L.length → (mkE L (k + 1) i).2 = 0 → at8 L i = mkD i ∧ (mkE L k (i + 1)).2 = 0 := fun k i hi hk => by
    by_cases e : at8 L i = mkD i
    · rw [mkE_step (by omega) e] at hk
      exact ⟨e, hk⟩
    · rw [mkE_bad (by omega) e] at hk
      simp at hk
  obtain ⟨a, h1⟩ := key 2 0 (by omega) h
  obtain ⟨b, h2⟩ := key 1 1 (by omega) h1
  obtain ⟨c, _⟩ := key 0 2 (by omega) h2
  exact ⟨h6, a, b, c⟩
theorem cd_form {L : List UInt8} {lo n : Nat} (hlo : at8 L 3 = lo) (hn : wdD L 4 = n) (h : (cdE L lo n).2 = 0) : (ckC (cdL L lo n) (cdS L lo n)).2 = 0 ∧ encC (cdL L lo n) (cdS L lo n) = L := by
  have hh := cd_head h
  obtain ⟨h6, h16, h4k⟩ := mkE_good 3 0 hh
  obtain ⟨_, m0, m1, m2⟩ := mk_form hh
  have hT : (tolD L lo n 6 (-1)).2.2 = 0 := by
    unfold cdE at h
    rw [if_neg (by omega)] at h
    split at h
    · rename_i h1; exact absurd h h1
    · rename_i h1; simpa using h1
  obtain ⟨t1, t2, t3⟩ := tol_form (L := L) (lo := lo) (by omega) n 6 0 (-1) (by omega) hT
  have hS : cdS L lo n = enS (tolD L lo n 6 (-1)).1 := by unfold cdS; rw [if_pos h]
  have hLl : cdL L lo n = (lo : Int) := by unfold cdL; rw [if_pos h]
  have hlen : (cdS L lo n).length = n := by rw [hS]; unfold enS; rw [List.length_map, t3]
  rw [hLl]
  refine ⟨?_, ?_⟩
  · unfold ckC
    rw [if_neg (by omega), if_neg (by omega), hS]
    exact t2
  · unfold encC
    rw [hlen, hS, t1, be1_eq, be2_eq, ← hn, ← hlo]
    conv => rhs; rw [← List.drop_zero (l := L), take1 (L := L) (p := 0) (by omega), take1 (L := L) (p := 0 + 1) (by omega), take1 (L := L) (p := 0 + 1 + 1) (by omega), take1 (L := L) (p := 0 + 1 + 1 + 1) (by omega), take2 (L := L) (p := 0 + 1 + 1 + 1 + 1) (by omega)]
    rw [m0, show at8 L (0 + 1) = 118 from m1, show at8 L (0 + 1 + 1) = 1 from m2]
    rfl
theorem tol_okay {L : List UInt8} {lo : Nat} (hlo : lo ≤ 16) : ∀ (n p : Nat) (ahead : Int), ∀ a ∈ (tolD L lo n p ahead).1, FrOk a.1.fr
  | 0, p, ahead => by rw [tol_end]; exact fun a ha => by cases ha
  | n + 1, p, ahead => by
    by_cases he : (oneE L lo p ahead).2 = 0
    · rw [tol_good he]
      intro a ha
      rcases List.mem_cons.1 ha with rfl | ha
      · exact (one_ok he hlo).1
      · exact tol_okay hlo n _ _ a ha
    · rw [tol_bad he]
      exact fun a ha => by cases ha
theorem cdS_okay {L : List UInt8} {lo n : Nat} (hlo : at8 L 3 = lo) : EsOk (cdS L lo n) := by
  unfold cdS
  split
  · rename_i h
    have h1 := (mkE_good 3 0 (cd_head h)).2.1
    intro x hx
    obtain ⟨a, ha, rfl⟩ := List.mem_map.1 hx
    exact tol_okay (by omega) _ _ _ a ha
  · exact fun x hx => by cases hx
end Go.Proofs.Ytednnfmomhallaa
