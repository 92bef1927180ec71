/-
  There and back between entries and bytes: what Decode finds in what Encode writes, and what Encode writes of what Decode finds. No Go in it.
-/
import Derived.Test.YtednnfmomhallaaCy2
namespace Go.Proofs.Ytednnfmomhallaa
open Go.RowKit

theorem be1_eq (n : Int) : be n 1 = [byteOf n 0] := rfl
theorem be2_eq (n : Int) : be n 2 = [byteOf n 1, byteOf n 0] := rfl
theorem byte_u8 (a : UInt8) : byteOf (a.toNat : Int) 0 = a := by
  have h := byteOf_eq (a.toNat : Int) 0
  have hb := a.toNat_lt
  apply UInt8.toNat_inj.1
  simp at h
  omega
theorem byte_hi (a b : UInt8) : byteOf ((a.toNat : Int) * 256 + (b.toNat : Int)) 1 = a := by
  have h := byteOf_eq ((a.toNat : Int) * 256 + (b.toNat : Int)) 1
  have ha := a.toNat_lt
  have hb := b.toNat_lt
  apply UInt8.toNat_inj.1
  simp at h
  omega
theorem byte_lo (a b : UInt8) : byteOf ((a.toNat : Int) * 256 + (b.toNat : Int)) 0 = b := by
  have h := byteOf_eq ((a.toNat : Int) * 256 + (b.toNat : Int)) 0
  have ha := a.toNat_lt
  have hb := b.toNat_lt
  apply UInt8.toNat_inj.1
  simp at h
  omega
theorem byte_back {n : Int} (h0 : 0 ≤ n) (h1 : n ≤ 255) : ((byteOf n 0).toNat : Int) = n := by
  have h := byteOf_eq n 0
  simp at h
  omega
theorem word_back {n : Int} (h0 : 0 ≤ n) (h1 : n ≤ 65535) : ((byteOf n 1).toNat : Int) * 256 + ((byteOf n 0).toNat : Int) = n := by
  have h := byteOf_eq n 0
  have h' := byteOf_eq n 1
  simp at h h'
  omega
theorem flat_ofNat {sl : List Nat} : (sl.flatMap fun (t : Nat) => be (t : Int) 1) = sl.map fun (t : Nat) => byteOf (t : Int) 0 := by
  induction sl with
  | nil => rfl
  | cons t sl ih => rw [List.flatMap_cons, ih, List.map_cons]; rfl
theorem map_back {sl : List Nat} (h : ∀ t ∈ sl, t < 256) : (sl.map fun (t : Nat) => byteOf (t : Int) 0).map UInt8.toNat = sl := by
  rw [List.map_map]
  conv => rhs; rw [← List.map_id sl]
  apply List.map_congr_left
  intro t ht
  have := byte_back (n := (t : Int)) (by omega) (by have := h t ht; omega)
  simp only [Function.comp, id]
  omega
theorem map_forth (bs : List UInt8) : ((bs.map UInt8.toNat).map fun (t : Nat) => byteOf (t : Int) 0) = bs := by
  rw [List.map_map]
  conv => rhs; rw [← List.map_id bs]
  apply List.map_congr_left
  intro t _
  exact byte_u8 t

theorem at8_app (pre : List UInt8) (a : UInt8) (rest : List UInt8) : at8 (pre ++ a :: rest) pre.length = (a.toNat : Int) := by
  unfold at8
  rw [List.getD_eq_getElem?_getD, List.getElem?_append_right (Nat.le_refl _), Nat.sub_self]
  rfl
theorem at8_app' {L pre rest : List UInt8} {a : UInt8} {q : Nat} (h : L = pre ++ a :: rest) (hq : q = pre.length) : at8 L q = (a.toNat : Int) := by
  subst h hq
  exact at8_app pre a rest
theorem split_at {L : List UInt8} {p : Nat} (h : p < L.length) : ∃ a, L = L.take p ++ a :: L.drop (p + 1) ∧ at8 L p = (a.toNat : Int) := by
  refine ⟨L[p], ?_, ?_⟩
  · rw [← List.drop_eq_getElem_cons h, List.take_append_drop]
  · unfold at8
    rw [List.getD_eq_getElem?_getD, List.getElem?_eq_getElem h]
    rfl

theorem slt_app {n : Nat} : ∀ (bs pre rest : List UInt8), (∀ b ∈ bs, isCd (b.toNat : Int) = true) → sltE (pre ++ (bs ++ rest)) (bs.length + n) pre.length = sltE (pre ++ (bs ++ rest)) n (pre.length + bs.length)
  | [], pre, rest, _ => by simp
  | b :: bs, pre, rest, h => by
    have e : sltE (pre ++ (b :: bs ++ rest)) ((b :: bs).length + n) pre.length = if (pre ++ (b :: bs ++ rest)).length ≤ pre.length then ((pre ++ (b :: bs ++ rest)).length, 2) else if isCd (at8 (pre ++ (b :: bs ++ rest)) pre.length) = false then (pre.length, 62) else sltE (pre ++ (b :: bs ++ rest)) (bs.length + n) (pre.length + 1) := by
      rw [show (b :: bs).length + n = (bs.length + n) + 1 by simp; omega]
      rfl
    have hat : at8 (pre ++ (b :: bs ++ rest)) pre.length = (b.toNat : Int) := by simpa using at8_app pre b (bs ++ rest)
    rw [e, if_neg (by simp), hat, if_neg (by rw [h b (by simp)]; simp)]
    have ih := slt_app (n := n) bs (pre ++ [b]) rest (fun c hc => h c (List.mem_cons_of_mem _ hc))
    have e2 : pre ++ [b] ++ (bs ++ rest) = pre ++ (b :: bs ++ rest) := by simp
    rw [e2] at ih
    rw [show (pre ++ [b]).length = pre.length + 1 by simp] at ih
    rw [ih, List.length_cons]
    congr 1
    omega
theorem slt_codes {L : List UInt8} : ∀ n q, (sltE L n q).2 = 0 → ∀ b ∈ (L.drop q).take n, isCd (b.toNat : Int) = true
  | 0, q, _, b, hb => by simp at hb
  | n + 1, q, h, b, hb => by
    have e : sltE L (n + 1) q = if L.length ≤ q then (L.length, 2) else if isCd (at8 L q) = false then (q, 62) else sltE L n (q + 1) := rfl
    rw [e] at h
    split at h
    · simp at h
    · split at h
      · simp at h
      · rename_i h1 h2
        obtain ⟨a, ha, hat⟩ := split_at (L := L) (p := q) (by omega)
        have hd : L.drop q = a :: L.drop (q + 1) := by
          conv => lhs; rw [ha]
          rw [List.drop_append_of_le_length (by simp; omega)]
          simp
        rw [hd, List.take_succ_cons] at hb
        rcases List.mem_cons.1 hb with rfl | hb
        · rw [hat] at h2
          simpa using h2
        · exact slt_codes n (q + 1) h b hb

/-- An entry's bytes, spelt out. -/
theorem encE_dead {x : En} (h : x.dead = true) : encE x = [byteOf x.at_ 1, byteOf x.at_ 0, 0] := by
  unfold encE
  rw [if_pos h]
  rfl
theorem encE_live {x : En} (h : x.dead = false) : encE x = byteOf x.at_ 1 :: byteOf x.at_ 0 :: 1 :: byteOf x.fr.he 0 :: (x.fr.sl.take (x.fr.lo + x.fr.he).toNat).map fun (t : Nat) => byteOf (t : Int) 0 := by
  unfold encE
  rw [if_neg (by rw [h]; simp), flat_ofNat]
  rfl

/-- What is read where an entry was written. -/
theorem one_back {lo : Nat} {x : En} {ahead : Int} (pre rest : List UInt8) (hlo : lo ≤ 16) (ho : FrOk x.fr) (ha : aftD x.at_ ahead = 0) (hb : bodD lo x = 0) :
    (oneE (pre ++ (encE x ++ rest)) lo pre.length ahead).2 = 0 ∧ oneX (pre ++ (encE x ++ rest)) lo pre.length = x ∧ oneN (pre ++ (encE x ++ rest)) lo pre.length = pre.length + (encE x).length := by
  obtain ⟨h0, h1, _⟩ := aft_good ha
  have hw := word_back h0 (show x.at_ ≤ 65535 by omega)
  obtain ⟨dat, dd, df⟩ := x
  simp only at h0 h1 hw ha
  cases dd with
  | true =>
    obtain rfl : df = frZ := by
      unfold bodD at hb
      simp only at hb
      rw [if_pos trivial] at hb
      split at hb
      · rename_i h; exact frEq_iff.1 h
      · simp at hb
    rw [encE_dead rfl]
    simp only
    generalize hL : pre ++ ([byteOf dat 1, byteOf dat 0, 0] ++ rest) = L
    have l1 : L.length = pre.length + 3 + rest.length := by rw [← hL]; simp; omega
    have a0 : at8 L pre.length = ((byteOf dat 1).toNat : Int) := at8_app' hL.symm rfl
    have a1 : at8 L (pre.length + 1) = ((byteOf dat 0).toNat : Int) := at8_app' (pre := pre ++ [byteOf dat 1]) (rest := 0 :: rest) (by rw [← hL]; simp) (by simp)
    have a2 : at8 L (pre.length + 2) = 0 := at8_app' (pre := pre ++ [byteOf dat 1, byteOf dat 0]) (a := 0) (rest := rest) (by rw [← hL]; simp) (by simp)
    have w0 : wdD L pre.length = dat := by unfold wdD; rw [a0, a1]; exact hw
    refine ⟨?_, ?_, ?_⟩
    · unfold oneE
      rw [if_neg (by omega), w0, if_neg (by simpa using ha), if_neg (by omega), if_pos a2]
    · unfold oneX
      rw [if_pos a2, w0]
    · unfold oneN
      rw [if_pos a2]
      rfl
  | false =>
    obtain ⟨e1, e2, e3, e4, e5⟩ := bod_good hb rfl
    simp only at e1 e2 e3 e4 e5
    obtain ⟨flo, fhe, fsl⟩ := df
    simp only at e1 e2 e3 e4 e5
    subst e1
    obtain ⟨he, rfl⟩ : ∃ he : Nat, fhe = (he : Int) := ⟨fhe.toNat, by omega⟩
    have en : ((lo : Int) + (he : Int)).toNat = lo + he := by omega
    rw [en] at e4 e5
    have hlen : fsl.length = 24 := ho.len
    have hbyte : ∀ t ∈ fsl, t < 256 := ho.byte
    rw [encE_live rfl]
    simp only
    rw [en]
    have hbl : ((fsl.take (lo + he)).map fun (t : Nat) => byteOf (t : Int) 0).length = lo + he := by simp; omega
    have hbc : ∀ b ∈ (fsl.take (lo + he)).map fun (t : Nat) => byteOf (t : Int) 0, isCd (b.toNat : Int) = true := by
      intro b hb'
      obtain ⟨t, ht, rfl⟩ := List.mem_map.1 hb'
      rw [byte_back (by omega) (by have := hbyte t (List.mem_of_mem_take ht); omega)]
      exact List.all_eq_true.1 e5 t ht
    have hbm := map_back (sl := fsl.take (lo + he)) (fun t ht => hbyte t (List.mem_of_mem_take ht))
    generalize ((fsl.take (lo + he)).map fun (t : Nat) => byteOf (t : Int) 0) = bs at hbl hbc hbm
    have hhe := byte_back (n := (he : Int)) (by omega) (by omega)
    generalize hL : pre ++ (byteOf dat 1 :: byteOf dat 0 :: 1 :: byteOf (he : Int) 0 :: bs ++ rest) = L
    have l1 : L.length = pre.length + 4 + (lo + he) + rest.length := by rw [← hL]; simp [hbl]; omega
    have a0 : at8 L pre.length = ((byteOf dat 1).toNat : Int) := at8_app' hL.symm rfl
    have a1 : at8 L (pre.length + 1) = ((byteOf dat 0).toNat : Int) := at8_app' (pre := pre ++ [byteOf dat 1]) (rest := 1 :: byteOf (he : Int) 0 :: bs ++ rest) (by rw [← hL]; simp) (by simp)
    have a2 : at8 L (pre.length + 2) = 1 := at8_app' (pre := pre ++ [byteOf dat 1, byteOf dat 0]) (a := 1) (rest := byteOf (he : Int) 0 :: bs ++ rest) (by rw [← hL]; simp) (by simp)
    have a3 : at8 L (pre.length + 3) = (he : Int) := (at8_app' (pre := pre ++ [byteOf dat 1, byteOf dat 0, 1]) (rest := bs ++ rest) (by rw [← hL]; simp) (by simp)).trans hhe
    have g3 : (L.getD (pre.length + 3) 0).toNat = he := by have : at8 L (pre.length + 3) = ((L.getD (pre.length + 3) 0).toNat : Int) := rfl; omega
    have w0 : wdD L pre.length = dat := by unfold wdD; rw [a0, a1]; exact hw
    have eL : L = (pre ++ [byteOf dat 1, byteOf dat 0, 1, byteOf (he : Int) 0]) ++ (bs ++ rest) := by rw [← hL]; simp
    have hne : ¬ at8 L (pre.length + 2) = 0 := by rw [a2]; omega
    refine ⟨?_, ?_, ?_⟩
    · unfold oneE
      rw [if_neg (by omega), w0, if_neg (by simpa using ha), if_neg (by omega), if_neg hne, if_pos a2]
      unfold frE
      rw [if_neg (by omega), a3, if_neg (by omega), g3]
      have := slt_app (n := 0) bs (pre ++ [byteOf dat 1, byteOf dat 0, 1, byteOf (he : Int) 0]) rest hbc
      rw [← eL, hbl] at this
      rw [show pre.length + 3 + 1 = (pre ++ [byteOf dat 1, byteOf dat 0, 1, byteOf (he : Int) 0]).length by simp]
      rw [Nat.add_zero] at this
      rw [this]
      rfl
    · unfold oneX
      rw [if_neg hne, w0]
      unfold frX
      rw [a3, g3]
      have hs : sltD L (pre.length + 3 + 1) (lo + he) = fsl := by
        unfold sltD
        have hdr : L.drop (pre.length + 3 + 1) = bs ++ rest := by
          rw [eL]
          exact List.drop_left' (by simp)
        rw [hdr, List.take_left' hbl, hbm]
        have hz : fsl.drop (lo + he) = List.replicate (24 - (lo + he)) 0 := by
          rw [List.eq_replicate_iff]
          refine ⟨by simp [hlen], fun t ht => ?_⟩
          have := List.all_eq_true.1 e4 t ht
          simpa using this
        rw [← hz, List.take_append_drop]
      rw [hs]
    · unfold oneN
      rw [if_neg hne]
      unfold frN
      rw [g3]
      simp only [List.length_cons, hbl]
      omega
end Go.Proofs.Ytednnfmomhallaa
