/-
  Contracts of a reader's Name and of provisoref01.Name: text, place and error as the same plain functions of the bytes and the place. Conditions: lengths fit.
-/
import Derived.Test.YtkiijdcpfbnacaaGreatDoorRef
import Derived.Test.YtkiijdcpfbnacaaGreatDoorWn
import Derived.Laws.IdiomStrings
namespace Go.Proofs.YtkiijdcpfbnacaaGreatDoor
open Go.RowKit
set_option maxRecDepth 20000

/-- How long the next name says it is. -/
def nmN (l : List UInt8) (k : Nat) : Nat := (l.getD k 0).toNat
/-- Its bytes. -/
def nmS (l : List UInt8) (k : Nat) : List UInt8 := (l.drop (k + 1)).take (nmN l k)
/-- Which way the next name goes: 0 it is one, else the error. -/
def nmE (l : List UInt8) (k : Nat) : Int :=
  if l.length - k < 1 then 2 else if nmN l k = 0 ∨ 24 < nmN l k then 6 else if l.length - (k + 1) < nmN l k then 2 else if nameB ⟨(nmS l k).toArray⟩ then 0 else 6
def nmL (l : List UInt8) (k : Nat) : List UInt8 := if nmE l k = 0 then nmS l k else []
def nmK (l : List UInt8) (k : Nat) : Nat := if nmE l k = 0 then k + 1 + nmN l k else k

theorem at8_nm (l : List UInt8) (k : Nat) : at8 l k = (nmN l k : Int) := rfl
theorem conv_str {w : World} {x : Addr} {m : List UInt8} (h : BAt w (some x) m) (c : Nat) : (convert 22 9 (.slice (some x) m.length c)).run Tryz.prog w = .ok (.string ⟨m.toArray⟩) w := by
  refine run_convert_bytes_back w 22 9 5 x c m Tryz.underlying22 Tryz.underlying5 Tryz.underlying9 (fun j hj => ?_)
  have := h.cells j (.int .u8 (m[j].toNat : Int)) (by unfold bvals; rw [List.getElem?_map, List.getElem?_eq_getElem hj]; rfl)
  exact this

/-- A copy of a reader, in a block of its own. -/
theorem IsReader.copy {w : World} {p g cap : Nat} {l : List UInt8} {k : Nat} (h : IsReader w p g cap l k) :
    IsReader (w.alloc (.cells #[.slice (some ⟨g, 0, none⟩) l.length cap, .int .i64 (k : Int), .bool true] 183)) w.heap.size g cap l k := by
  refine ⟨heap_alloc_new w _, h.bytes.below' ((Below.refl _ w).alloc (Nat.le_refl _) _), by simp; have := h.gl; omega, Nat.ne_of_gt h.gl, h.le, h.cap_, h.fit⟩

theorem below_copy {w w1 : World} {o : Obj} (hG : (w.alloc o).grownBy w1 (some w.heap.size)) : Below w.heap.size w w1 :=
  ((Below.refl _ w).alloc (Nat.le_refl _) _).grown hG (by simp) (fun k e => by cases e; exact Nat.le_refl _)

set_option maxHeartbeats 1000000 in
theorem Name_u {w : World} {p g cap : Nat} {l : List UInt8} {k : Nat} (h : IsReader w p g cap l k) :
    Calls Tryz.prog 106 #[.pointer (some ⟨p, 0, none⟩)] w fun e w' => e = .returned (.tuple #[.string ⟨(nmL l k).toArray⟩, .int .i64 (nmE l k)]) ∧ IsReader w' p g cap l (nmK l k) ∧ w.grownBy w' (some p) := by
  have hl := h.fit
  have hk := h.le
  have hpl := h.pl
  by_cases h1 : l.length - k < 1
  · have e1 : nmE l k = 2 := by unfold nmE; rw [if_pos h1]
    have e2 : nmL l k = [] := by unfold nmL; rw [e1]; rfl
    have e3 : nmK l k = k := by unfold nmK; rw [e1]; rfl
    rw [e1, e2, e3]
    have n1 : numE l k 1 = 2 := by unfold numE; rw [if_pos h1]
    have HN := hide n1
    clear n1 e1 e2 e3
    have c0 := h.c0
    have c1 := h.c1
    have c2 := h.c2
    have HM := hide (isMade_yes h)
    go_enter Tryz.func106, Tryz.ntmps106
    go_wp2_with (first | (go_at_call 92; refine (unhide HM).mono ?_; rintro e w' ⟨rfl, rfl⟩) | fail)
    refine (Byte_u h.copy).mono ?_
    rintro e w1 ⟨rfl, hR1, hG1⟩
    have hB1 := below_copy hG1
    rw [unhide HN]
    go_wp2
    go_ret2
    exact ⟨rfl, h.below hB1, grown_of_below hB1 _⟩
  have n1 : numE l k 1 = 0 := by unfold numE; rw [if_neg h1]
  have n2 : numV l k 1 = (nmN l k : Int) := by
    have hkl : k < l.length := by omega
    have e : (l.drop k).take 1 = [l[k]] := by rw [List.drop_eq_getElem_cons hkl]; rfl
    unfold numV nmN
    rw [if_neg h1, if_neg (by omega), e, List.getD_eq_getElem?_getD, List.getElem?_eq_getElem hkl]
    simp [beN]
  have n3 : numK l k 1 = k + 1 := by unfold numK; rw [if_neg h1]
  have hlt : nmN l k < 256 := (l.getD k 0).toNat_lt
  by_cases h2 : nmN l k = 0 ∨ 24 < nmN l k
  · have e1 : nmE l k = 6 := by unfold nmE; rw [if_neg h1, if_pos h2]
    have e2 : nmL l k = [] := by unfold nmL; rw [e1]; rfl
    have e3 : nmK l k = k := by unfold nmK; rw [e1]; rfl
    rw [e1, e2, e3]
    have HN := hide n1
    have HV := hide n2
    clear n1 n2 n3 e1 e2 e3
    generalize nmN l k = N at h2 hlt HV
    have hz : ((N : Int) == 0) = decide (N = 0) := by
      by_cases e : N = 0
      · subst e; rfl
      · rw [beq_f (by omega), decide_eq_false e]
    by_cases h4 : N = 0
    · subst h4
      have c0 := h.c0
      have c1 := h.c1
      have c2 := h.c2
      have HM := hide (isMade_yes h)
      go_enter Tryz.func106, Tryz.ntmps106
      go_wp2_with (first | (go_at_call 92; refine (unhide HM).mono ?_; rintro e w' ⟨rfl, rfl⟩) | fail)
      refine (Byte_u h.copy).mono ?_
      rintro e w1 ⟨rfl, hR1, hG1⟩
      have hB1 := below_copy hG1
      rw [unhide HN, unhide HV]
      go_wp2
      go_ret2
      exact ⟨rfl, h.below hB1, grown_of_below hB1 _⟩
    · have hz' : ((N : Int) == 0) = false := beq_f (by omega)
      have hg : (24 : Int) < (N : Int) := by omega
      clear hz
      have c0 := h.c0
      have c1 := h.c1
      have c2 := h.c2
      have HM := hide (isMade_yes h)
      go_enter Tryz.func106, Tryz.ntmps106
      go_wp2_with (first | (go_at_call 92; refine (unhide HM).mono ?_; rintro e w' ⟨rfl, rfl⟩) | fail)
      refine (Byte_u h.copy).mono ?_
      rintro e w1 ⟨rfl, hR1, hG1⟩
      have hB1 := below_copy hG1
      rw [unhide HN, unhide HV]
      go_wp2
      go_ret2
      exact ⟨rfl, h.below hB1, grown_of_below hB1 _⟩
  obtain ⟨N, hN⟩ : ∃ N, nmN l k = N := ⟨_, rfl⟩
  rw [hN] at n2 hlt h2
  have hz : ((N : Int) == 0) = false := beq_f (by omega)
  have hg : ¬ (24 : Int) < (N : Int) := by omega
  by_cases h3 : l.length - (k + 1) < N
  · have e1 : nmE l k = 2 := by unfold nmE; rw [hN, if_neg h1, if_neg h2, if_pos h3]
    have e2 : nmL l k = [] := by unfold nmL; rw [e1]; rfl
    have e3 : nmK l k = k := by unfold nmK; rw [e1]; rfl
    rw [e1, e2, e3]
    have HN := hide n1
    have HV := hide n2
    have HK := hide n3
    clear n1 n2 n3 e1 e2 e3 hN
    have c0 := h.c0
    have c1 := h.c1
    have c2 := h.c2
    have HM := hide (isMade_yes h)
    go_enter Tryz.func106, Tryz.ntmps106
    go_wp2_with (first | (go_at_call 92; refine (unhide HM).mono ?_; rintro e w' ⟨rfl, rfl⟩) | fail)
    refine (Byte_u h.copy).mono ?_
    rintro e w1 ⟨rfl, hR1, hG1⟩
    have hB1 := below_copy hG1
    rw [unhide HK] at hR1
    rw [unhide HN, unhide HV]
    go_wp2_with fail
    refine (next_short hR1 N (by omega)).mono ?_
    rintro e w2 ⟨rfl, j, rfl⟩
    go_wp2
    go_ret2
    exact ⟨rfl, (h.below hB1).drewN _, grown_trans (grown_of_below hB1 _) (grown_drewN _ _ _)⟩
  obtain ⟨Sx, hS⟩ : ∃ Sx, nmS l k = Sx := ⟨_, rfl⟩
  have hlen : Sx.length = N := by rw [← hS, ← hN]; unfold nmS; rw [hN]; simp; omega
  have t2 : (l.drop (k + 1)).take N = Sx := by rw [← hS, ← hN]; rfl
  cases hnb : nameB ⟨Sx.toArray⟩
  all_goals
    have e1 : nmE l k = (if nameB ⟨Sx.toArray⟩ then 0 else 6) := by unfold nmE; rw [hN, hS, if_neg h1, if_neg h2, if_neg h3]
    rw [hnb] at e1
    have q2 : nmL l k = (if nmE l k = 0 then Sx else []) := by unfold nmL; rw [hS]
    have q3 : nmK l k = (if nmE l k = 0 then k + 1 + N else k) := by unfold nmK; rw [hN]
    rw [e1] at q2 q3
    simp at e1 q2 q3
    rw [e1, q2, q3]
    have HB := hide hnb
    have HT2 := hide t2
    have HN := hide n1
    have HV := hide n2
    have HK := hide n3
    clear n1 n2 n3 e1 q2 q3 t2 hnb hN hS
    subst hlen
    have c0 := h.c0
    have c1 := h.c1
    have c2 := h.c2
    have HM := hide (isMade_yes h)
    go_enter Tryz.func106, Tryz.ntmps106
    go_wp2_with (first | (go_at_call 92; refine (unhide HM).mono ?_; rintro e w' ⟨rfl, rfl⟩) | fail)
    refine (Byte_u h.copy).mono ?_
    rintro e w1 ⟨rfl, hR1, hG1⟩
    have hB1 := below_copy hG1
    rw [unhide HK] at hR1
    rw [unhide HN, unhide HV]
    go_wp2_with fail
    refine (next_ok hR1 Sx.length (by omega)).mono ?_
    rintro e w2 ⟨ao, c, rfl, hb, hR2, hG2⟩
    rw [unhide HT2] at hb
    obtain ⟨b, off, rfl, _⟩ := hb.head (by omega)
    have hcv := conv_str hb c
    have hG12 := grown_trans hG1 hG2
    have hB2 := below_copy hG12
    have d1 := hR2.c1
    have hP2 := h.below hB2
    have e1 := hP2.f1
    have e2 := hP2.c1
    clear hb hG1 hG2 hB1 hR1 c0 c1 c2
    go_wp2_with fail
    refine (IsName_any _ _ (by show Sx.toArray.size ≤ _; unfold maxLen; simp; omega)).mono ?_
    rintro e w3 ⟨rfl, rfl⟩
    rw [unhide HB]
    go_wp2
    go_ret2
    first | exact ⟨rfl, hP2, grown_of_below hB2 _⟩ | exact ⟨rfl, hP2.go (by omega) _ rfl, grown_trans (grown_of_below hB2 _) (grown_setCell _ ⟨p, 1, none⟩ _)⟩
end Go.Proofs.YtkiijdcpfbnacaaGreatDoor
