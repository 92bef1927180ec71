/-
  The walk of the law TypesBack: it returns true for every table and every type, and writes nothing that was there. Conditions: the package's words lie there.
-/
import Derived.Test.YtggaecmjadkopacDoorWords
namespace Go.Proofs.YtggaecmjadkopacDoor
open Go.RowKit

theorem lawValid_any (ao : Option Addr) (n cap t : Nat) (w : World) (ht : t < 256) :
    Calls Tryd.prog 5 #[.slice ao n cap, .int .u8 (t : Int)] w fun e w' => e = .returned (.bool (validD n t)) ∧ w' = w := by
  by_cases h1 : t ≤ 5
  · have HR := hide (validD_lo (n := n) h1)
    have i1 : ((t : Nat) : Int) ≤ 5 := by omega
    go_enter Tryd.func5, Tryd.ntmps5
    go_wp2
    go_ret
    exact ⟨ret_bool (unhide HR).symm, rfl⟩
  · have i1 : ¬ ((t : Nat) : Int) ≤ 5 := by omega
    by_cases h2 : 16 ≤ t
    · have i2 : ((t : Nat) : Int) ≥ 16 := by omega
      have HR : Hid (validD n t = decide ((t : Int) - 16 < (n : Int))) := hide (by unfold validD; rw [decide_eq_decide]; omega)
      go_enter Tryd.func5, Tryd.ntmps5
      go_wp2
      go_ret
      refine ⟨ret_bool ?_, rfl⟩
      rw [unhide HR]
    · have i2 : ¬ ((t : Nat) : Int) ≥ 16 := by omega
      have HR := hide (validD_no (n := n) h1 (by omega))
      go_enter Tryd.func5, Tryd.ntmps5
      go_wp2
      go_ret
      exact ⟨ret_bool (unhide HR).symm, rfl⟩

def six : List ByteArray := [wordD 0, wordD 1, wordD 2, wordD 3, wordD 4, wordD 5]
theorem six_found : ∀ t, t ≤ 5 → findN six (wordD t) 0 = some t := by
  intro t ht
  rcases (show t = 0 ∨ t = 1 ∨ t = 2 ∨ t = 3 ∨ t = 4 ∨ t = 5 by omega) with rfl | rfl | rfl | rfl | rfl | rfl <;> kernel_rfl
theorem six_none {s : ByteArray} (h : isWordD s = false) : findN six s 0 = none := by
  unfold isWordD at h
  rw [List.any_eq_false] at h
  have h' : ∀ j, j < 6 → ((wordD j).toList == s.toList) = false := fun j hj => by simpa using h j (List.mem_range.2 hj)
  unfold six findN findN findN findN findN findN findN
  rw [h' 0 (by omega), h' 1 (by omega), h' 2 (by omega), h' 3 (by omega), h' 4 (by omega), h' 5 (by omega)]
  rfl
theorem findN_at : ∀ (l : List ByteArray) (i k : Nat) (x : ByteArray), l[i]? = some x → (∀ j, j < i → ∀ g, l[j]? = some g → (g.toList == x.toList) = false) → findN l x k = some (k + i)
  | [], i, k, x, h, _ => by simp at h
  | f :: l, 0, k, x, h, _ => by
    simp at h
    subst h
    unfold findN
    rw [if_pos (by simp)]
    rfl
  | f :: l, i + 1, k, x, h, hn => by
    unfold findN
    have h0 := hn 0 (by omega) f rfl
    rw [if_neg (by rw [h0]; simp)]
    have := findN_at l i (k + 1) x (by simpa using h) (fun j hj g hg => hn (j + 1) (by omega) g (by simpa using hg))
    rw [this]
    congr 1
    omega

theorem back_D {T : List Cl} (hm : madeD T = true) {t : Nat} (hv : validD T.length t = true) : parseD six T (printD T t) = (t, true) := by
  have v : t ≤ 5 ∨ (16 ≤ t ∧ t - 16 < T.length) := by unfold validD at hv; exact of_decide_eq_true hv
  unfold parseD printD
  rcases v with v | ⟨v1, v2⟩
  · rw [if_pos v, six_found t v]
  · rw [if_neg (by omega), if_pos v1]
    have hx := List.getElem?_eq_getElem v2
    rw [hx]
    simp only
    have hg := faultD_zero hx (madeD_all hm _ v2)
    rw [six_none hg.word]
    simp only
    have hf := findN_at (T.map Cl.nm) (t - 16) 0 T[t - 16].nm (by rw [List.getElem?_map, hx]; rfl) (fun j hj g hg' => by
      rw [List.getElem?_map] at hg'
      have hjT : j < T.length := by omega
      rw [List.getElem?_eq_getElem hjT] at hg'
      simp at hg'
      subst hg'
      have ho := hg.once
      unfold twiceD at ho
      rw [List.any_eq_false] at ho
      simpa using ho T[j] (by rw [List.mem_take_iff_getElem]; exact ⟨j, by omega, rfl⟩))
    rw [hf]
    simp
    omega

theorem print_some {T : List Cl} (hm : madeD T = true) {t : Nat} (hv : validD T.length t = true) : (printD T t).toList.isEmpty = false := by
  have v : t ≤ 5 ∨ (16 ≤ t ∧ t - 16 < T.length) := by unfold validD at hv; exact of_decide_eq_true hv
  unfold printD
  rw [ByteArray.toList_eq]
  rcases v with v | ⟨v1, v2⟩
  · rw [if_pos v]
    rcases (show t = 0 ∨ t = 1 ∨ t = 2 ∨ t = 3 ∨ t = 4 ∨ t = 5 by omega) with rfl | rfl | rfl | rfl | rfl | rfl <;> rfl
  · rw [if_neg (by omega), if_pos v1]
    have hx := List.getElem?_eq_getElem v2
    rw [hx]
    simp only
    have hg := faultD_zero hx (madeD_all hm _ v2)
    cases hb : (T[t - 16].nm.data.toList).isEmpty with
    | false => rfl
    | true =>
      exfalso
      have hs : T[t - 16].nm.size = 0 := by
        have := List.isEmpty_iff.1 hb
        have := congrArg List.length this
        simpa using this
      have := hg.name
      unfold nameB at this
      simp [hs] at this

set_option maxHeartbeats 2000000 in
theorem walkTypesBack {w : World} (hW : WordsAt w) (ao : Option Addr) (cap : Nat) (T : List Cl) (hT : TabAt w ao T) (hz : T.length * 48 ≤ 140737488351232) (t : Nat) (ht : t < 256) :
    Calls Tryd.prog 3 #[.slice ao T.length cap, .int .u8 (t : Int)] w fun e w' => e = .returned (.bool true) ∧ Below w.heap.size w w' := by
  have HW := hide hW
  have HT := hide hT
  have HZ := hide hz
  clear hT hz hW
  go_enter Tryd.func3, Tryd.ntmps3
  go_wp2_with fail
  refine (Made_any ao cap T _ (unhide HT) (unhide HZ)).mono ?_
  rintro e w1 ⟨rfl, hB⟩
  have HB := hide hB
  have HT1 := hide ((unhide HT).below hB)
  have HW1 := hide ((unhide HW).below hB)
  clear hB
  by_cases hm : madeD T = true
  · have HM := hide hm
    have h32 : T.length ≤ 32 := by
      by_cases h0 : T.length = 0
      · omega
      · have hx := List.getElem?_eq_getElem (show T.length - 1 < T.length by omega)
        have := (faultD_zero hx (madeD_all hm _ (by omega))).lt
        omega
    rw [hm]
    clear hm
    go_wp2_with fail
    refine (lawValid_any ao T.length cap t _ ht).mono ?_
    rintro e w2 ⟨rfl, rfl⟩
    by_cases hv : validD T.length t = true
    · have HB2 := hide (back_D (unhide HM) hv)
      have HS := hide (print_some (unhide HM) hv)
      rw [hv]
      clear hv
      go_wp2_with fail
      refine (Print_any ao cap T t _ (unhide HT1) (unhide HW1) ht).mono ?_
      rintro e w3 ⟨rfl, rfl⟩
      generalize printD T t = s at HB2 HS ⊢
      have hs := unhide HS
      have HP := hide (Parse_six (wordD 0) (wordD 1) (wordD 2) (wordD 3) (wordD 4) (wordD 5) ao cap T s w3 (unhide HT1) h32 (unhide HW1 0 (by omega)) (unhide HW1 1 (by omega)) (unhide HW1 2 (by omega)) (unhide HW1 3 (by omega)) (unhide HW1 4 (by omega)) (unhide HW1 5 (by omega)))
      have HB3 : Hid (parseD [wordD 0, wordD 1, wordD 2, wordD 3, wordD 4, wordD 5] T s = (t, true)) := HB2
      rw [unhide HB3] at HP
      go_wp2_with fail
      refine (unhide HP).mono ?_
      rintro e w4 ⟨rfl, rfl⟩
      have e1 : (((t : Nat) : Int) == ((t : Nat) : Int)) = true := by simp
      go_wp2
      go_ret
      exact ⟨by simp, unhide HB⟩
    · have hv' : validD T.length t = false := by simpa using hv
      rw [hv']
      clear hv hv'
      go_wp2
      go_ret
      exact ⟨rfl, unhide HB⟩
  · have hm' : madeD T = false := by simpa using hm
    rw [hm']
    clear hm hm'
    go_wp2
    go_ret
    exact ⟨rfl, unhide HB⟩
end Go.Proofs.YtggaecmjadkopacDoor
