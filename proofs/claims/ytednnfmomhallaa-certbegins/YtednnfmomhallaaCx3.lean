/-
  Of a certificate's bytes no beginning is one. No Go in it.
-/
import Derived.Test.YtednnfmomhallaaCx2
namespace Go.Proofs.Ytednnfmomhallaa
open Go.RowKit

theorem slt_part {n : Nat} (bs pre : List UInt8) (h : ∀ b ∈ bs, isCd (b.toNat : Int) = true) (hn : bs.length < n) : sltE (pre ++ bs) n pre.length = ((pre ++ bs).length, 2) := by
  obtain ⟨m, rfl⟩ : ∃ m, n = bs.length + (m + 1) := ⟨n - bs.length - 1, by omega⟩
  have := slt_app (n := m + 1) bs pre [] h
  rw [List.append_nil] at this
  rw [this]
  show (if (pre ++ bs).length ≤ pre.length + bs.length then ((pre ++ bs).length, (2 : Int)) else _) = _
  rw [if_pos (by rw [List.length_append]; omega)]

theorem one_part {lo : Nat} {x : En} {ahead : Int} (pre : List UInt8) (m : Nat) (hm : m < (encE x).length) (hlo : lo ≤ 16) (ho : FrOk x.fr) (ha : aftD x.at_ ahead = 0) (hb : bodD lo x = 0) :
    oneE (pre ++ (encE x).take m) lo pre.length ahead = ((pre ++ (encE x).take m).length, 2) := by
  obtain ⟨h0, h1, _⟩ := aft_good ha
  have hw := word_back h0 (show x.at_ ≤ 65535 by omega)
  have hl : (pre ++ (encE x).take m).length = pre.length + m := by rw [List.length_append, List.length_take]; omega
  by_cases h2 : m < 2
  · unfold oneE
    rw [if_pos (by omega)]
  · have hsp : ∃ r, encE x = byteOf x.at_ 1 :: byteOf x.at_ 0 :: r := by
      cases hd : x.dead
      · exact ⟨_, encE_live hd⟩
      · exact ⟨_, encE_dead hd⟩
    obtain ⟨r, hr⟩ := hsp
    obtain ⟨m', rfl⟩ : ∃ m', m = m' + 2 := ⟨m - 2, by omega⟩
    have htk : (encE x).take (m' + 2) = byteOf x.at_ 1 :: byteOf x.at_ 0 :: r.take m' := by rw [hr]; rfl
    generalize hL : pre ++ (encE x).take (m' + 2) = L at hl ⊢
    rw [htk] at hL
    have a0 : at8 L pre.length = ((byteOf x.at_ 1).toNat : Int) := at8_app' hL.symm rfl
    have a1 : at8 L (pre.length + 1) = ((byteOf x.at_ 0).toNat : Int) := at8_app' (pre := pre ++ [byteOf x.at_ 1]) (rest := r.take m') (by rw [← hL]; simp) (by simp)
    have w0 : wdD L pre.length = x.at_ := by unfold wdD; rw [a0, a1]; exact hw
    by_cases h3 : m' = 0
    · unfold oneE
      rw [if_neg (by omega), w0, if_neg (by simpa using ha), if_pos (by omega)]
    · cases hd : x.dead
      · obtain ⟨e1, e2, e3, e4, e5⟩ := bod_good hb hd
        obtain ⟨he, hhe⟩ : ∃ he : Nat, x.fr.he = (he : Int) := ⟨x.fr.he.toNat, by omega⟩
        have en : ((lo : Int) + x.fr.he).toNat = lo + he := by omega
        have hlen := ho.len
        have hr2 : r = 1 :: byteOf (he : Int) 0 :: (x.fr.sl.take (lo + he)).map fun (t : Nat) => byteOf (t : Int) 0 := by
          have := encE_live hd
          rw [hr, e1, en, hhe] at this
          injection this with _ this
          injection this with _ this
        have hbl : ((x.fr.sl.take (lo + he)).map fun (t : Nat) => byteOf (t : Int) 0).length = lo + he := by simp; omega
        have hbc : ∀ b ∈ (x.fr.sl.take (lo + he)).map fun (t : Nat) => byteOf (t : Int) 0, isCd (b.toNat : Int) = true := by
          intro b hb'
          obtain ⟨t, ht, rfl⟩ := List.mem_map.1 hb'
          rw [byte_back (by omega) (by have := ho.byte t (List.mem_of_mem_take ht); omega)]
          rw [en] at e5
          exact List.all_eq_true.1 e5 t ht
        generalize ((x.fr.sl.take (lo + he)).map fun (t : Nat) => byteOf (t : Int) 0) = bs at hr2 hbl hbc
        obtain ⟨m'', rfl⟩ : ∃ m'', m' = m'' + 1 := ⟨m' - 1, by omega⟩
        subst hr2
        have a2 : at8 L (pre.length + 2) = 1 := at8_app' (pre := pre ++ [byteOf x.at_ 1, byteOf x.at_ 0]) (a := 1) (rest := (byteOf (he : Int) 0 :: bs).take m'') (by rw [← hL]; simp) (by simp)
        have hne : ¬ at8 L (pre.length + 2) = 0 := by rw [a2]; omega
        unfold oneE
        rw [if_neg (by omega), w0, if_neg (by simpa using ha), if_neg (by omega), if_neg hne, if_pos a2]
        unfold frE
        by_cases h4 : m'' = 0
        · rw [if_pos (by omega)]
        · obtain ⟨k, rfl⟩ : ∃ k, m'' = k + 1 := ⟨m'' - 1, by omega⟩
          have hhb := byte_back (n := (he : Int)) (by omega) (by omega)
          have a3 : at8 L (pre.length + 3) = (he : Int) := (at8_app' (pre := pre ++ [byteOf x.at_ 1, byteOf x.at_ 0, 1]) (rest := bs.take k) (by rw [← hL]; simp) (by simp)).trans hhb
          have g3 : (L.getD (pre.length + 3) 0).toNat = he := by have : at8 L (pre.length + 3) = ((L.getD (pre.length + 3) 0).toNat : Int) := rfl; omega
          have eL : L = (pre ++ [byteOf x.at_ 1, byteOf x.at_ 0, 1, byteOf (he : Int) 0]) ++ bs.take k := by rw [← hL]; simp
          have hk : k < lo + he := by
            rw [hr] at hm
            simp only [List.length_cons, hbl] at hm
            omega
          rw [if_neg (by omega), a3, if_neg (by omega), g3]
          have := slt_part (n := lo + he) (bs.take k) (pre ++ [byteOf x.at_ 1, byteOf x.at_ 0, 1, byteOf (he : Int) 0]) (fun b hb' => hbc b (List.mem_of_mem_take hb')) (by rw [List.length_take]; omega)
          rw [← eL, show (pre ++ [byteOf x.at_ 1, byteOf x.at_ 0, 1, byteOf (he : Int) 0]).length = pre.length + 3 + 1 by simp] at this
          exact this
      · have := encE_dead hd
        rw [this] at hm
        simp at hm
        omega
theorem tol_part {lo : Nat} (hlo : lo ≤ 16) : ∀ (es : List En) (pre : List UInt8) (m i : Nat) (ahead : Int), EsOk es → (ckL lo es i ahead).2 = 0 → m < (es.flatMap encE).length →
    (tolD (pre ++ (es.flatMap encE).take m) lo es.length pre.length ahead).2 = ((pre ++ (es.flatMap encE).take m).length, 2)
  | [], pre, m, i, ahead, _, _, hm => by simp at hm
  | x :: es, pre, m, i, ahead, ho, h, hm => by
    unfold ckL at h
    by_cases h1 : aftD x.at_ ahead = 0
    · rw [if_neg (by simpa using h1)] at h
      by_cases h2 : bodD lo x = 0
      · rw [if_neg (by simpa using h2)] at h
        rw [List.flatMap_cons] at hm ⊢
        by_cases hmx : m < (encE x).length
        · rw [List.take_append_of_le_length (by omega)]
          have o := one_part (lo := lo) (ahead := ahead) pre m hmx hlo (ho x (by simp)) h1 h2
          rw [List.length_cons, tol_bad (by rw [o]; simp)]
          exact o
        · obtain ⟨k, rfl⟩ : ∃ k, m = (encE x).length + k := ⟨m - (encE x).length, by omega⟩
          rw [List.take_length_add_append]
          obtain ⟨o1, o2, o3⟩ := one_back (lo := lo) (ahead := ahead) pre ((es.flatMap encE).take k) hlo (ho x (by simp)) h1 h2
          rw [List.length_cons, tol_good o1, o2, o3]
          have ih := tol_part hlo es (pre ++ encE x) k (i + 1) x.at_ (fun y hy => ho y (List.mem_cons_of_mem _ hy)) h (by rw [List.length_append] at hm; omega)
          rw [List.append_assoc, show (pre ++ encE x).length = pre.length + (encE x).length from List.length_append] at ih
          exact ih
      · rw [if_pos h2] at h
        exact absurd h h2
    · rw [if_pos h1] at h
      exact absurd h h1
theorem head_part {a b c : UInt8} (rest : List UInt8) (k : Nat) (hk : k < 6) : hdE ((112 :: 118 :: 1 :: a :: b :: c :: rest).take k) = (k, 2) := by
  match k, hk with
  | 0, _ => exact mkE_short rfl
  | 1, _ => unfold hdE; rw [mkE_step (by simp) rfl]; exact mkE_short rfl
  | 2, _ => unfold hdE; rw [mkE_step (by simp) rfl, mkE_step (by simp) rfl]; exact mkE_short rfl
  | 3, _ => unfold hdE; rw [mkE_step (by simp) rfl, mkE_step (by simp) rfl, mkE_step (by simp) rfl, mkE_zero, if_pos (by simp)]; rfl
  | 4, _ => unfold hdE; rw [mkE_step (by simp) rfl, mkE_step (by simp) rfl, mkE_step (by simp) rfl, mkE_zero, if_pos (by simp)]; rfl
  | 5, _ => unfold hdE; rw [mkE_step (by simp) rfl, mkE_step (by simp) rfl, mkE_step (by simp) rfl, mkE_zero, if_pos (by simp)]; rfl
/-- Decode of a beginning. -/
theorem cd_part {lo : Nat} {es : List En} (ho : EsOk es) (hc : (ckC lo es).2 = 0) {k : Nat} (hk : k < (encC lo es).length) {lo' n' : Nat} (hlo : at8 ((encC lo es).take k) 3 = (lo' : Int)) (hn : wdD ((encC lo es).take k) 4 = (n' : Int)) :
    cdE ((encC lo es).take k) lo' n' = (k, 2) := by
  obtain ⟨⟨h0, h16⟩, hn4, hkl⟩ := ckC_good hc
  have eL : encC lo es = 112 :: 118 :: 1 :: byteOf (lo : Int) 0 :: byteOf (es.length : Int) 1 :: byteOf (es.length : Int) 0 :: es.flatMap encE := rfl
  by_cases h6 : k < 6
  · have := head_part (a := byteOf (lo : Int) 0) (b := byteOf (es.length : Int) 1) (c := byteOf (es.length : Int) 0) (es.flatMap encE) k h6
    rw [← eL] at this
    unfold cdE
    rw [if_pos (by rw [this]; simp), this]
  · obtain ⟨m, rfl⟩ : ∃ m, k = m + 6 := ⟨k - 6, by omega⟩
    have et : (encC lo es).take (m + 6) = [112, 118, 1] ++ (be (lo : Int) 1 ++ (be (es.length : Int) 2 ++ (es.flatMap encE).take m)) := by rw [eL]; rfl
    have et2 : (encC lo es).take (m + 6) = ([112, 118, 1] ++ (be (lo : Int) 1 ++ be (es.length : Int) 2)) ++ (es.flatMap encE).take m := by rw [et]; simp [List.append_assoc]
    obtain ⟨d1, d2, d3⟩ := head_back (n := (es.length : Int)) ((es.flatMap encE).take m) h0 h16 (by omega) (by omega)
    rw [← et] at d1 d2 d3
    obtain rfl : lo' = lo := by omega
    obtain rfl : n' = es.length := by omega
    have hm : m < (es.flatMap encE).length := by
      rw [eL] at hk
      simp only [List.length_cons] at hk
      omega
    have t := tol_part (lo := lo') (by omega) es ([112, 118, 1] ++ (be (lo' : Int) 1 ++ be (es.length : Int) 2)) m 0 (-1) ho hkl hm
    rw [← et2, show ([112, 118, 1] ++ (be (lo' : Int) 1 ++ be (es.length : Int) 2) : List UInt8).length = 6 by simp [be_length]] at t
    unfold cdE
    rw [if_neg (by rw [d1]; simp), t, if_pos (by simp), List.length_take]
    congr 1
    omega
end Go.Proofs.Ytednnfmomhallaa
