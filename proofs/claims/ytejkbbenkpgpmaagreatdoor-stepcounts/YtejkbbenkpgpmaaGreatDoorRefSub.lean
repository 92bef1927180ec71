/-
  Contracts of provisoref02's IsRef, Sub, Rank, all, Merge and Print: what the plain functions say; nothing old is turned. Conditions: types are bytes; the table may be.
-/
import Derived.Test.YtejkbbenkpgpmaaGreatDoorStaysP
import Derived.Test.YtejkbbenkpgpmaaGreatDoorWords
namespace Go.Proofs.YtejkbbenkpgpmaaGreatDoor
open Go.RowKit
set_option maxRecDepth 20000

theorem refIsRef_any (t : Nat) (w : World) :
    Calls Tryz.prog 54 #[.int .u8 (t : Int)] w fun e w' => e = .returned (.bool (isRefD t)) ∧ w' = w := by
  by_cases h3 : t = 3
  · have HR : Hid (isRefD t = true) := hide (decide_eq_true (.inl h3))
    have b3 : (((t : Nat) : Int) == 3) = true := beq_t (by omega)
    clear h3
    go_enter Tryz.func54, Tryz.ntmps54
    go_wp2
    go_ret
    exact ⟨ret_bool (unhide HR).symm, rfl⟩
  · have b3 : (((t : Nat) : Int) == 3) = false := beq_f (by omega)
    by_cases h4 : t = 4
    · have HR : Hid (isRefD t = true) := hide (decide_eq_true (.inr (.inl h4)))
      have b4 : (((t : Nat) : Int) == 4) = true := beq_t (by omega)
      clear h3 h4
      go_enter Tryz.func54, Tryz.ntmps54
      go_wp2
      go_ret
      exact ⟨ret_bool (unhide HR).symm, rfl⟩
    · have b4 : (((t : Nat) : Int) == 4) = false := beq_f (by omega)
      by_cases h5 : t = 5
      · have HR : Hid (isRefD t = true) := hide (decide_eq_true (.inr (.inr (.inl h5))))
        have b5 : (((t : Nat) : Int) == 5) = true := beq_t (by omega)
        clear h3 h4 h5
        go_enter Tryz.func54, Tryz.ntmps54
        go_wp2
        go_ret
        exact ⟨ret_bool (unhide HR).symm, rfl⟩
      · have b5 : (((t : Nat) : Int) == 5) = false := beq_f (by omega)
        have HR : Hid (isRefD t = decide (((t : Nat) : Int) ≥ 16)) := hide (by unfold isRefD; rw [decide_eq_decide]; omega)
        clear h3 h4 h5
        go_enter Tryz.func54, Tryz.ntmps54
        go_wp2
        go_ret
        refine ⟨ret_bool ?_, rfl⟩
        rw [unhide HR]


theorem isRefD_t {t : Nat} (h : t = 3 ∨ t = 4 ∨ t = 5 ∨ 16 ≤ t) : isRefD t = true := decide_eq_true h
theorem isRefD_f {t : Nat} (h : ¬ (t = 3 ∨ t = 4 ∨ t = 5 ∨ 16 ≤ t)) : isRefD t = false := decide_eq_false h
theorem subD_f {T : List Cl} {a b : Nat} (h : ¬ Le T a b) : subD T a b = false := by
  cases hs : subD T a b with
  | false => rfl
  | true => exact absurd (subD_iff.1 hs) h
theorem validD_f {n t : Nat} (h : validD n t = false) : ¬ (t ≤ 5 ∨ (16 ≤ t ∧ t - 16 < n)) := fun h' => by rw [validD_iff.2 h'] at h; cases h

theorem contains_take {L : List Nat} {k y : Nat} (h : k < L.length) : (L.take (k + 1)).contains y = ((L.take k).contains y || (y == L[k])) := by
  rw [List.contains_eq_any_beq, List.contains_eq_any_beq, ← List.take_append_getElem h, List.any_append]
  simp

theorem made_32 {T : List Cl} (h : madeD T = true) : T.length ≤ 32 := by
  by_cases h0 : T.length = 0
  · omega
  · have hx := List.getElem?_eq_getElem (show T.length - 1 < T.length by omega)
    have := (faultD_zero hx (madeD_all h _ (by omega))).lt
    omega

set_option maxHeartbeats 4000000 in
theorem refSub_any (ao : Option Addr) (cap : Nat) (T : List Cl) (a b : Nat) (w : World) (hT : TabAt w ao T) (hz : T.length * 48 ≤ 140737488351232) (hm : madeD T = true) (ha : a < 256) (hb : b < 256) :
    Calls Tryz.prog 29 #[.slice ao T.length cap, .int .u8 (a : Int), .int .u8 (b : Int)] w fun e w' => e = .returned (.bool (subD T a b)) ∧ Below w.heap.size w w' := by
  obtain ⟨R, HR⟩ : ∃ R, Hid (subD T a b = R) := ⟨_, hide rfl⟩
  have HT := hide hT
  have HZ := hide hz
  have HM := hide hm
  rw [unhide HR]
  clear hT hz hm
  go_enter Tryz.func29, Tryz.ntmps29
  go_wp2_with fail
  refine (refValid_any ao cap T.length a _ ha).mono ?_
  rintro e w1 ⟨rfl, rfl⟩
  by_cases v1 : validD T.length a = true
  · have va := validD_iff.1 v1
    rw [v1]
    go_wp2_with fail
    refine (refValid_any ao cap T.length b _ hb).mono ?_
    rintro e w2 ⟨rfl, rfl⟩
    by_cases v2 : validD T.length b = true
    · have vb := validD_iff.1 v2
      rw [v2]
      by_cases e1 : a = b
      · have b1 : (((a : Nat) : Int) == ((b : Nat) : Int)) = true := beq_t (by omega)
        have HR2 : Hid (true = R) := hide (by rw [← unhide HR]; exact (subD_iff.2 ⟨va, vb, .inl e1⟩).symm)
        clear e1 va vb v1 v2
        go_wp2
        go_ret
        exact ⟨ret_bool (unhide HR2), Below.refl _ _⟩
      · have b1 : (((a : Nat) : Int) == ((b : Nat) : Int)) = false := beq_f (by omega)
        by_cases e2 : b = 0
        · have b2 : (((b : Nat) : Int) == 0) = true := beq_t (by omega)
          have HR2 : Hid (true = R) := hide (by rw [← unhide HR]; exact (subD_iff.2 ⟨va, vb, .inr (.inl e2)⟩).symm)
          clear e1 e2 va vb v1 v2
          go_wp2
          go_ret
          exact ⟨ret_bool (unhide HR2), Below.refl _ _⟩
        · have b2 : (((b : Nat) : Int) == 0) = false := beq_f (by omega)
          by_cases e3 : a = 3
          · have b3 : (((a : Nat) : Int) == 3) = true := beq_t (by omega)
            have b16 : ((a : Nat) : Int) < 16 := by omega
            by_cases rb : b = 3 ∨ b = 4 ∨ b = 5 ∨ 16 ≤ b
            · have HR2 : Hid (true = R) := hide (by rw [← unhide HR]; exact (subD_iff.2 ⟨va, vb, .inr (.inr (.inl ⟨e3, rb⟩))⟩).symm)
              have HI := hide (isRefD_t rb)
              clear e1 e2 e3 va vb v1 v2 rb
              go_wp2_with fail
              refine (refIsRef_any b _).mono ?_
              rintro e w3 ⟨rfl, rfl⟩
              rw [unhide HI]
              go_wp2
              go_ret
              exact ⟨ret_bool (unhide HR2), Below.refl _ _⟩
            · have HR2 : Hid (false = R) := hide (by rw [← unhide HR]; exact (subD_f (fun h => by obtain ⟨_, _, h⟩ := h; rcases h with h | h | ⟨_, h⟩ | ⟨h, _⟩ | ⟨h, _⟩ <;> omega)).symm)
              have HI := hide (isRefD_f rb)
              have HI2 : Hid (isRefD a = true) := hide (isRefD_t (.inl e3))
              have b5 : (((b : Nat) : Int) == 5) = false := beq_f (by omega)
              clear e1 e2 e3 va vb v1 v2 rb
              go_wp2_with fail
              refine (refIsRef_any b _).mono ?_
              rintro e w3 ⟨rfl, rfl⟩
              rw [unhide HI]
              go_wp2_with fail
              refine (refIsRef_any a _).mono ?_
              rintro e w4 ⟨rfl, rfl⟩
              rw [unhide HI2]
              go_wp2
              go_ret
              exact ⟨ret_bool (unhide HR2), Below.refl _ _⟩
          · have b3 : (((a : Nat) : Int) == 3) = false := beq_f (by omega)
            go_wp2_with fail
            refine (refIsRef_any a _).mono ?_
            rintro e w3 ⟨rfl, rfl⟩
            by_cases ra : a = 3 ∨ a = 4 ∨ a = 5 ∨ 16 ≤ a
            · have HI := hide (isRefD_t ra)
              rw [unhide HI]
              by_cases e5 : b = 5
              · have b5 : (((b : Nat) : Int) == 5) = true := beq_t (by omega)
                have HR2 : Hid (true = R) := hide (by rw [← unhide HR]; exact (subD_iff.2 ⟨va, vb, .inr (.inr (.inr (.inl ⟨e5, ra⟩)))⟩).symm)
                clear e1 e2 e3 va vb v1 v2 ra e5
                go_wp2
                go_ret
                exact ⟨ret_bool (unhide HR2), Below.refl _ _⟩
              · have b5 : (((b : Nat) : Int) == 5) = false := beq_f (by omega)
                by_cases a16 : a < 16
                · have b16 : ((a : Nat) : Int) < 16 := by omega
                  have HR2 : Hid (false = R) := hide (by rw [← unhide HR]; exact (subD_f (fun h => by obtain ⟨_, _, h⟩ := h; rcases h with h | h | ⟨h, _⟩ | ⟨h, _⟩ | ⟨h, _⟩ <;> omega)).symm)
                  clear e1 e2 e3 va vb v1 v2 ra e5
                  go_wp2
                  go_ret
                  exact ⟨ret_bool (unhide HR2), Below.refl _ _⟩
                · have b16 : ¬ ((a : Nat) : Int) < 16 := by omega
                  by_cases c16 : b < 16
                  · have d16 : ((b : Nat) : Int) < 16 := by omega
                    have HR2 : Hid (false = R) := hide (by rw [← unhide HR]; exact (subD_f (fun h => by obtain ⟨_, _, h⟩ := h; rcases h with h | h | ⟨h, _⟩ | ⟨h, _⟩ | ⟨_, h, _⟩ <;> omega)).symm)
                    clear e1 e2 e3 va vb v1 v2 ra e5
                    go_wp2
                    go_ret
                    exact ⟨ret_bool (unhide HR2), Below.refl _ _⟩
                  · have d16 : ¬ ((b : Nat) : Int) < 16 := by omega
                    have hxT : a - 16 < T.length := by omega
                    have HR2 : Hid ((lineB T T.length ((a : Int) - 16)).contains (b - 16) = R) := hide (by
                      have ea : (a : Int) - 16 = ((a - 16 : Nat) : Int) := by omega
                      rw [← unhide HR, ea]
                      cases hc : (lineB T T.length ((a - 16 : Nat) : Int)).contains (b - 16) with
                      | true => exact (subD_iff.2 ⟨va, vb, .inr (.inr (.inr (.inr ⟨by omega, by omega, by simpa using hc⟩)))⟩).symm
                      | false =>
                        refine (subD_f (fun h => ?_)).symm
                        obtain ⟨_, _, h⟩ := h
                        rcases h with h | h | ⟨h, _⟩ | ⟨h, _⟩ | ⟨_, _, h⟩
                        · omega
                        · omega
                        · omega
                        · omega
                        · have : (lineB T T.length ((a - 16 : Nat) : Int)).contains (b - 16) = true := by simpa using h
                          rw [hc] at this
                          cases this)
                    have HLs := hide (line_same (unhide HM) _ ((a : Int) - 16) (by omega) (Nat.le_refl _))
                    have HLn := hide (lineB_length T _ T.length ((a : Int) - 16) (Nat.le_refl _))
                    have hLI := Line_any ao cap T ((a : Int) - 16) w3 (unhide HT) (unhide HZ)
                    rw [unhide HLs] at hLI
                    have HLI := hide hLI
                    have h32 := made_32 (unhide HM)
                    have hy : b - 16 < 240 := by omega
                    have ey : (b : Int) - 16 = ((b - 16 : Nat) : Int) := by omega
                    generalize lineB T T.length ((a : Int) - 16) = L at HR2 HLI HLn
                    clear e1 e2 e3 va vb v1 v2 ra e5 hLI HI HR
                    go_wp2_with fail
                    with_reducible refine (unhide HLI).mono ?_
                    rintro e w4 ⟨lv, rfl, hL, hB⟩
                    obtain ⟨la, lc, rfl, hLc⟩ := hL.slice
                    have HLc := hide hLc
                    have HB := hide hB
                    have hLl : L.length ≤ 32 := by have := unhide HLn; omega
                    clear hL hLc hB
                    go_wp2
                    go_loopw [8] (fun i wr => (∃ k : Nat, k ≤ L.length ∧ i = .int .i64 (k : Int) ∧ Hid ((L.take k).contains (b - 16) = false)) ∧ wr = w4) (fun i _ => L.length - (intOf i).toNat)
                    case atStart => exact ⟨⟨0, by omega, rfl, hide rfl⟩, rfl⟩
                    case round =>
                      obtain ⟨⟨k, hk, rfl, HK⟩, rfl⟩ := hrel
                      by_cases hlt : k < L.length
                      · have j1 : ((k : Nat) : Int) < ((L.length : Nat) : Int) := by omega
                        obtain ⟨g, rfl, hcj⟩ := unhide HLc k _ (List.getElem?_eq_getElem hlt)
                        have HT2 : Hid ((L.take (k + 1)).contains (b - 16) = ((L.take k).contains (b - 16) || ((b - 16) == L[k]))) := hide (contains_take hlt)
                        have HIn : Hid (L[k] ∈ L) := hide (List.getElem_mem hlt)
                        generalize L[k] = z at hcj HT2 HIn
                        by_cases hzy : z = b - 16
                        · have f1 : (((z : Nat) : Int) == (b : Int) - 16) = true := beq_t (by omega)
                          have HE : Hid (true = R) := hide (by
                            have h1 := unhide HIn
                            rw [hzy] at h1
                            have h2 : L.contains (b - 16) = true := by simpa using h1
                            rw [← unhide HR2]
                            exact h2.symm)
                          clear hzy
                          go_wp2
                          go_ret
                          exact ⟨ret_bool (unhide HE), unhide HB⟩
                        · have f1 : (((z : Nat) : Int) == (b : Int) - 16) = false := beq_f (by omega)
                          have HK2 : Hid ((L.take (k + 1)).contains (b - 16) = false) := hide (by rw [unhide HT2, unhide HK]; simp; omega)
                          clear hzy
                          go_wp2
                          go_roundw
                          case rel => exact ⟨⟨k + 1, by omega, by go_num, HK2⟩, by trivial⟩
                          case measure => simp [intOf]; omega
                      · have j1 : ¬ ((k : Nat) : Int) < ((L.length : Nat) : Int) := by omega
                        have HE : Hid (false = R) := hide (by rw [← unhide HR2]; have := unhide HK; rw [List.take_of_length_le (by omega)] at this; exact this.symm)
                        go_wp2
                        go_ret
                        exact ⟨ret_bool (unhide HE), unhide HB⟩
            · have HI := hide (isRefD_f ra)
              rw [unhide HI]
              have b16 : ((a : Nat) : Int) < 16 := by omega
              have HR2 : Hid (false = R) := hide (by rw [← unhide HR]; exact (subD_f (fun h => by obtain ⟨_, _, h⟩ := h; rcases h with h | h | ⟨h, _⟩ | ⟨_, h⟩ | ⟨h, _⟩ <;> omega)).symm)
              clear e1 e2 e3 va vb v1 v2 ra
              go_wp2
              go_ret
              exact ⟨ret_bool (unhide HR2), Below.refl _ _⟩
    · have v2' : validD T.length b = false := by simpa using v2
      have HR2 : Hid (false = R) := hide (by rw [← unhide HR]; exact (subD_f (fun h => validD_f v2' h.2.1)).symm)
      rw [v2']
      clear v2 v2' v1 va
      go_wp2
      go_ret
      exact ⟨ret_bool (unhide HR2), Below.refl _ _⟩
  · have v1' : validD T.length a = false := by simpa using v1
    have HR2 : Hid (false = R) := hide (by rw [← unhide HR]; exact (subD_f (fun h => validD_f v1' h.1)).symm)
    rw [v1']
    clear v1 v1'
    go_wp2
    go_ret
    exact ⟨ret_bool (unhide HR2), Below.refl _ _⟩
end Go.Proofs.YtejkbbenkpgpmaaGreatDoor
