/-
  Contracts of bytes.Clone and of the store's read and Open: the records one behind another, up to the end; or none.
-/
import Derived.Test.YtkiijdcpfbnacaaGreatDoorSr8
namespace Go.Proofs.YtkiijdcpfbnacaaGreatDoor
open Go.RowKit
set_option maxRecDepth 20000

set_option maxRecDepth 10000 in
set_option maxHeartbeats 400000 in
theorem bytesClone_any (ao : Option Addr) (c : Nat) (l : List UInt8) (w : World) (hl : BAt w ao l) (hn : ao = none → l = []) (hb : l.length ≤ 140737488355328) :
    Calls Tryz.prog 70 #[.slice ao l.length c] w fun e w' => ∃ v, e = .returned v ∧ OwnB w' w.heap.size v l ∧ Below w.heap.size w w' ∧ (v = .slice none 0 0 ↔ ao = none) := by
  have q22 : ∀ (w : World) (a : Option Addr) (n c n' c' : Nat), (binOp .eql 22 (.slice a n c) (.slice none n' c')).run Tryz.prog w = .ok (.bool a.isNone) w := fun w a n c n' c' => Lib.run_eql_slice_nil w _ _ a n c n' c' Tryz.underlying22
  obtain ⟨i0, hi, hz0, hz1, hz2⟩ := info_parts info8
  cases ao with
  | none =>
    have hl0 := hn rfl
    subst hl0
    go_enter Tryz.func70, Tryz.ntmps70
    go_wp2
    go_ret
    exact ⟨_, rfl, World.ownsRow_nil _ _ _ _, Below.refl _ _, by simp⟩
  | some x =>
    go_enter Tryz.func70, Tryz.ntmps70
    go_wp2_with (at_builtin; refine wpList_append_own _ rfl _ _ 22 rfl w.heap.size 5 i0 (.int .u8 0) 1 1 Tryz.underlying22 hi hz0 hz1 hz2 rfl (by decide) _ 0 [] rfl (World.ownsRow_made w #[] 0 (Nat.le_refl _) (by decide) rfl) x l.length c (bvals l) rfl ?c0 ?c1 ?c2 ?c3 ?c4 ?c5 ?_)
    case c0 => simp [bvals_length]
    case c1 =>
      intro j u hj
      have hjl : j < l.length := by
        have := (List.getElem?_eq_some_iff.1 hj).1
        rw [bvals_length] at this; exact this
      obtain ⟨b, off, e, hc⟩ := hl j hjl
      injection e with e
      subst e
      rw [bvals_get hjl] at hj
      injection hj with hj
      subst hj
      have hlt := World.block_lt_of_cell? w _ hc
      rw [Addr.add_lit]
      exact (((Below.refl w.heap.size w).alloc (Nat.le_refl _) _).cell (p := ⟨b, off + j, none⟩) hlt).trans hc
    case c2 => exact bvals_one l
    case c3 => unfold maxLen; omega
    case c4 => omega
    case c5 => simp
    · intro v' w1 hown hgrow hnil
      go_wp2
      go_ret
      refine ⟨_, rfl, ?_, ?_, by simpa using hnil⟩
      · exact hown
      · exact ((Below.refl w.heap.size w).alloc (Nat.le_refl _) _).trans (below_grown hgrow (by simp) (fun k e => by simp [Value.ownBlock] at e; omega))

/-! ### the records, plain -/
/-- Entries of the first k bytes. -/
def EnK (k : Nat) (K : List Ke) : Prop := ∀ e ∈ K, e.fr ≤ e.to ∧ e.to ≤ k ∧ e.to ≤ e.fr + 4096 ∧ nameB e.nm = true
theorem nm_ok {l : List UInt8} {k : Nat} (h : nmE l k = 0) : nameB (nmA l k) = true ∧ nmK l k = k + 1 + nmN l k ∧ k + 1 + nmN l k ≤ l.length := by
  have h0 := h
  unfold nmE at h
  split at h
  · omega
  · split at h
    · omega
    · split at h
      · omega
      · split at h
        · rename_i hb
          refine ⟨?_, by unfold nmK; rw [if_pos h0], by omega⟩
          unfold nmA nmL
          rw [if_pos h0]
          exact hb
        · omega
theorem kept_ok {l : List UInt8} {k : Nat} {K : List Ke} {s : ByteArray} {k' : Nat} {K' : List Ke} (h : keptD l k K s = some (k', K')) (hok : OkK K) (he : EnK k K) (hs : nameB s = true) : k ≤ k' ∧ OkK K' ∧ EnK k' K' := by
  unfold keptD at h
  split at h
  · cases h
  · rename_i hn
    rw [not_or, not_or, not_or] at hn
    obtain ⟨h1, h2, h3, h4⟩ := hn
    injection h with h
    injection h with h5 h6
    have h4' : takeE l (numK l k 2) (numV l k 2) = 0 := by simpa using h4
    have h1' : numE l k 2 = 0 := by simpa using h1
    have hv := num2 l k
    have hk3 : numK l k 2 = k + 2 := by
      unfold numE at h1'
      unfold numK
      split at h1'
      · omega
      · rw [if_neg (by assumption)]
    have hk4 : takeK l (numK l k 2) (numV l k 2) = numK l k 2 + (numV l k 2).toNat := by
      unfold takeE at h4'
      unfold takeK
      split at h4'
      · omega
      · rw [if_neg (by omega)]
        split at h4'
        · omega
        · rw [if_neg (by assumption)]
    subst h6
    refine ⟨by omega, hok.put ⟨s, _, _⟩ (eq_true_of_ne_false h3), fun e hm => ?_⟩
    rcases putN_mem hm with rfl | hm
    · exact ⟨by simp, by simp; omega, by simp; omega, hs⟩
    · obtain ⟨a, b, c, d⟩ := he e hm
      exact ⟨a, by omega, c, d⟩
theorem step_ok {l : List UInt8} {k : Nat} {K : List Ke} {k' : Nat} {K' : List Ke} (hl : k < l.length) (h : stepS l k K = some (k', K')) (hok : OkK K) (he : EnK k K) : k < k' ∧ OkK K' ∧ EnK k' K' := by
  have hk1 : numK l k 1 = k + 1 := by unfold numK; rw [if_neg (by omega)]
  unfold stepS at h
  rw [hk1] at h
  split at h
  · cases h
  · rename_i hn
    obtain ⟨n1, n2, n3⟩ := nm_ok (show nmE l (k + 1) = 0 by simpa using hn)
    split at h
    · have he' : EnK (nmK l (k + 1)) K := fun e hm => by
        obtain ⟨a, b, c, d⟩ := he e hm
        exact ⟨a, by omega, c, d⟩
      obtain ⟨a, b, c⟩ := kept_ok h hok he' n1
      exact ⟨by omega, b, c⟩
    · split at h
      · split at h
        · rename_i hh
          injection h with h
          injection h with h5 h6
          subst h6
          refine ⟨by omega, hok.cut _ hh, fun e hm => ?_⟩
          obtain ⟨a, b, c, d⟩ := he e (cutN_mem hm)
          exact ⟨a, by omega, c, d⟩
        · cases h
      · cases h
/-- All records from a place on. -/
def openD (l : List UInt8) : Nat → Nat → List Ke → Option (Nat × List Ke)
  | 0, _, _ => none
  | n + 1, k, K => if k < l.length ∧ l.getD k 0 ≠ 0 then (match stepS l k K with
      | none => none
      | some (k', K') => openD l n k' K') else some (k, K)
def openS (l : List UInt8) : Option (Nat × List Ke) := if 1048576 < l.length then none else openD l (l.length + 1) 0 []
/-- So far the records are those, and what is left says the same. -/
def Rest (l : List UInt8) (k : Nat) (K : List Ke) : Prop := ∃ m, l.length < m + k ∧ openD l m k K = openS l
theorem Rest.step {l : List UInt8} {k : Nat} {K : List Ke} {k' : Nat} {K' : List Ke} (h : Rest l k K) (hk : k < l.length) (h0 : l.getD k 0 ≠ 0) (hs : stepS l k K = some (k', K')) (hkk : k < k') : Rest l k' K' := by
  obtain ⟨m, hm, e⟩ := h
  cases m with
  | zero => omega
  | succ m =>
    refine ⟨m, by omega, ?_⟩
    rw [← e, openD, if_pos ⟨hk, h0⟩, hs]
theorem Rest.none {l : List UInt8} {k : Nat} {K : List Ke} (h : Rest l k K) (hk : k < l.length) (h0 : l.getD k 0 ≠ 0) (hs : stepS l k K = none) : openS l = none := by
  obtain ⟨m, hm, e⟩ := h
  cases m with
  | zero => omega
  | succ m => rw [← e, openD, if_pos ⟨hk, h0⟩, hs]
theorem Rest.done {l : List UInt8} {k : Nat} {K : List Ke} (h : Rest l k K) (hk : ¬ (k < l.length ∧ l.getD k 0 ≠ 0)) (hkl : k ≤ l.length) : openS l = some (k, K) := by
  obtain ⟨m, hm, e⟩ := h
  cases m with
  | zero => omega
  | succ m => rw [← e, openD, if_neg hk]
theorem Rest.start {l : List UInt8} (h : ¬ 1048576 < l.length) : Rest l 0 [] := ⟨l.length + 1, by omega, by unfold openS; rw [if_neg h]⟩

set_option maxHeartbeats 4000000 in
theorem readS_any {w : World} {B g : Nat} {kv : Value} {K : List Ke} {p gl cap : Nat} {l : List UInt8} {k : Nat} (H : SR w B g kv K p gl cap l k) (hok : OkK K) :
    Calls Tryz.prog 69 #[.pointer (some ⟨g, 0, none⟩), .pointer (some ⟨p, 0, none⟩)] w (RecPost w B g p gl cap l (stepS l k K)) := by
  have HBy := hide (Byte_u H.rd)
  have HH := hide H
  clear H
  unfold stepS
  generalize numK l k 1 = k1 at HBy ⊢
  generalize numV l k 1 = kd at HBy ⊢
  generalize numE l k 1 = te at HBy
  by_cases e1 : nmE l k1 = 0
  · have HE1 := hide e1
    rw [if_neg (by simp [e1])]
    clear e1
    by_cases e2 : kd = 1
    · subst e2
      rw [if_pos rfl]
      go_enter Tryz.func69, Tryz.ntmps69
      go_wp2_with fail
      refine (unhide HBy).mono ?_
      rintro e W ⟨rfl, hr, hg⟩
      have HB := hide ((unhide HH).rdB hg)
      have HS := hide ((unhide HH).read hr hg)
      clear hr hg HBy HH
      have HN := hide (Name_u (unhide HS).rd)
      rw [unhide HE1] at HN
      go_wp2_with fail
      refine (unhide HN).mono ?_
      rintro e W2 ⟨rfl, hr, hg⟩
      have HB2 := hide ((unhide HB).trans ((unhide HS).rdB hg))
      have HS2 := hide ((unhide HS).read hr hg)
      have HRk := hide (readKept_any (nmA l k1) (unhide HS2) hok)
      unfold nmA at HRk
      clear hr hg HN HS HB
      go_wp2_with fail
      refine (unhide HRk).mono ?_
      rintro e W3 ⟨hb, hc⟩
      have HB3 := hide ((unhide HB2).trans hb)
      clear hb HRk
      rcases hc with ⟨rfl, hn⟩ | ⟨k', K', kv', rfl, hn, hs⟩
      · have HNN := hide hn
        clear hn
        go_wp2
        go_ret
        exact ⟨unhide HB3, Or.inl ⟨rfl, unhide HNN⟩⟩
      · have HNN := hide hn
        have HSS := hide hs
        clear hn hs
        go_wp2
        go_ret
        exact ⟨unhide HB3, Or.inr ⟨k', K', kv', rfl, unhide HNN, unhide HSS⟩⟩
    · rw [if_neg e2]
      by_cases e3 : kd = 2
      · subst e3
        clear e2
        rw [if_pos rfl]
        cases hh : hasN (kNm K) (nmA l k1)
        · rw [if_neg (by simp)]
          go_enter Tryz.func69, Tryz.ntmps69
          go_wp2_with fail
          refine (unhide HBy).mono ?_
          rintro e W ⟨rfl, hr, hg⟩
          have HB := hide ((unhide HH).rdB hg)
          have HS := hide ((unhide HH).read hr hg)
          clear hr hg HBy HH
          have HN := hide (Name_u (unhide HS).rd)
          rw [unhide HE1] at HN
          go_wp2_with fail
          refine (unhide HN).mono ?_
          rintro e W2 ⟨rfl, hr, hg⟩
          have HB2 := hide ((unhide HB).trans ((unhide HS).rdB hg))
          have HS2 := hide ((unhide HS).read hr hg)
          have HRk := hide (lose_anyS (nmA l k1) (unhide HS2).st hok.asc (by have := hok.few; omega))
          rw [hh] at HRk
          unfold nmA at HRk
          clear hr hg HN HS HB hh
          go_wp2_with fail
          refine (unhide HRk).mono ?_
          rintro e W3 ⟨kv3, rfl, hst, hk⟩
          have HB3 := hide ((unhide HB2).trans ((unhide HS2).stB hk))
          have HS3 := hide ((unhide HS2).store hst hk)
          clear hst hk HRk
          go_wp2
          go_ret
          exact ⟨unhide HB3, Or.inl ⟨rfl, rfl⟩⟩
        · rw [if_pos rfl]
          go_enter Tryz.func69, Tryz.ntmps69
          go_wp2_with fail
          refine (unhide HBy).mono ?_
          rintro e W ⟨rfl, hr, hg⟩
          have HB := hide ((unhide HH).rdB hg)
          have HS := hide ((unhide HH).read hr hg)
          clear hr hg HBy HH
          have HN := hide (Name_u (unhide HS).rd)
          rw [unhide HE1] at HN
          go_wp2_with fail
          refine (unhide HN).mono ?_
          rintro e W2 ⟨rfl, hr, hg⟩
          have HB2 := hide ((unhide HB).trans ((unhide HS).rdB hg))
          have HS2 := hide ((unhide HS).read hr hg)
          have HRk := hide (lose_anyS (nmA l k1) (unhide HS2).st hok.asc (by have := hok.few; omega))
          rw [hh] at HRk
          unfold nmA at HRk
          clear hr hg HN HS HB hh
          go_wp2_with fail
          refine (unhide HRk).mono ?_
          rintro e W3 ⟨kv3, rfl, hst, hk⟩
          have HB3 := hide ((unhide HB2).trans ((unhide HS2).stB hk))
          have HS3 := hide ((unhide HS2).store hst hk)
          clear hst hk HRk
          go_wp2
          go_ret
          exact ⟨unhide HB3, Or.inr ⟨_, _, kv3, rfl, rfl, unhide HS3⟩⟩
      · rw [if_neg e3]
        have d2 : (kd == 1) = false := by simp [e2]
        have d3 : (kd == 2) = false := by simp [e3]
        go_enter Tryz.func69, Tryz.ntmps69
        go_wp2_with fail
        refine (unhide HBy).mono ?_
        rintro e W ⟨rfl, hr, hg⟩
        have HB := hide ((unhide HH).rdB hg)
        have HS := hide ((unhide HH).read hr hg)
        clear hr hg HBy HH
        have HN := hide (Name_u (unhide HS).rd)
        rw [unhide HE1] at HN
        go_wp2_with fail
        refine (unhide HN).mono ?_
        rintro e W2 ⟨rfl, hr, hg⟩
        have HB2 := hide ((unhide HB).trans ((unhide HS).rdB hg))
        clear hr hg HN HS HB
        go_wp2
        go_ret
        exact ⟨unhide HB2, Or.inl ⟨rfl, rfl⟩⟩
  · rw [if_pos e1]
    go_enter Tryz.func69, Tryz.ntmps69
    go_wp2_with fail
    refine (unhide HBy).mono ?_
    rintro e W ⟨rfl, hr, hg⟩
    have HB := hide ((unhide HH).rdB hg)
    have HS := hide ((unhide HH).read hr hg)
    clear hr hg HBy HH
    have HN := hide (Name_u (unhide HS).rd)
    generalize nmE l k1 = ne at HN e1
    go_wp2_with fail
    refine (unhide HN).mono ?_
    rintro e W2 ⟨rfl, hr, hg⟩
    have HB2 := hide ((unhide HB).trans ((unhide HS).rdB hg))
    clear hr hg HN HS HB
    go_wp2
    go_ret
    exact ⟨unhide HB2, Or.inl ⟨rfl, rfl⟩⟩
end Go.Proofs.YtkiijdcpfbnacaaGreatDoor
