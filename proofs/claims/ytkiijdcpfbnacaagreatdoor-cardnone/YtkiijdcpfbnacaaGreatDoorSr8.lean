/-
  A store and a reader beside one another; contracts of the store's readKept and read: what the next record says is done, or it is none.
-/
import Derived.Test.YtkiijdcpfbnacaaGreatDoorSr7
import Derived.Test.YtkiijdcpfbnacaaGreatDoorRName
import Derived.Test.YtkiijdcpfbnacaaGreatDoorTake
namespace Go.Proofs.YtkiijdcpfbnacaaGreatDoor
open Go.RowKit
set_option maxRecDepth 20000

/-- A store without an image, in block g, and a reader in block p over bytes in block gl. -/
structure SR (w : World) (B g : Nat) (kv : Value) (K : List Ke) (p gl cap : Nat) (l : List UInt8) (k : Nat) : Prop where
  st : IsSt w B g (.slice none 0 0) kv [] K
  rd : IsReader w p gl cap l k
  ty : ∃ cur, w.heap[gl]? = some (.cells cur 5 (0, 0))
  bp : B ≤ p
  bg : B ≤ gl
theorem ty_ne {w : World} {a b : Nat} {c d : Array Value} {s t : TypeId} (h1 : w.heap[a]? = some (.cells c s (0, 0))) (h2 : w.heap[b]? = some (.cells d t (0, 0))) (hst : s ≠ t) : a ≠ b := fun e => by
  subst e
  rw [h1] at h2
  injection h2 with h2
  injection h2 with _ h2 _
  exact hst h2
theorem SR.pg {w : World} {B g : Nat} {kv : Value} {K : List Ke} {p gl cap : Nat} {l : List UInt8} {k : Nat} (h : SR w B g kv K p gl cap l k) : p ≠ g ∧ gl ≠ g ∧ kv.ownBlock ≠ some p ∧ kv.ownBlock ≠ some gl := by
  obtain ⟨cur, hc⟩ := h.ty
  refine ⟨ty_ne h.rd.row h.st.row (by decide), ty_ne hc h.st.row (by decide), fun e => ?_, fun e => ?_⟩
  · obtain ⟨c2, h2⟩ := h.st.kty _ e
    exact ty_ne h.rd.row h2 (by decide) rfl
  · obtain ⟨c2, h2⟩ := h.st.kty _ e
    exact ty_ne hc h2 (by decide) rfl
theorem SR.below {w w' : World} {B g : Nat} {kv : Value} {K : List Ke} {p gl cap : Nat} {l : List UInt8} {k : Nat} (h : SR w B g kv K p gl cap l k) (hb : Below w.heap.size w w') : SR w' B g kv K p gl cap l k := by
  obtain ⟨cur, hc⟩ := h.ty
  exact ⟨h.st.below hb, h.rd.below hb, ⟨cur, by rw [hb.block gl h.rd.gl]; exact hc⟩, h.bp, h.bg⟩
theorem SR.read {w w' : World} {B g : Nat} {kv : Value} {K : List Ke} {p gl cap : Nat} {l : List UInt8} {k k' : Nat} (h : SR w B g kv K p gl cap l k) (hr : IsReader w' p gl cap l k') (hg : w.grownBy w' (some p)) : SR w' B g kv K p gl cap l k' := by
  obtain ⟨cur, hc⟩ := h.ty
  obtain ⟨h1, h2, h3, h4⟩ := h.pg
  refine ⟨h.st.keep (Kept.of_grown hg) (fun e => by injection e with e; exact h1 e.symm) (fun k e => by cases e) (fun k e e2 => by injection e2 with e2; subst e2; exact h3 e), hr, ⟨cur, ?_⟩, h.bp, h.bg⟩
  rw [hg.block gl h.rd.gl (fun e => by injection e with e; exact h.rd.ne e.symm)]
  exact hc
theorem SR.store {w w' : World} {B g : Nat} {kv kv' : Value} {K K' : List Ke} {p gl cap : Nat} {l : List UInt8} {k : Nat} (h : SR w B g kv K p gl cap l k) (hs : IsSt w' B g (.slice none 0 0) kv' [] K') (hk : Kept (ST g kv) w w') : SR w' B g kv' K' p gl cap l k := by
  obtain ⟨cur, hc⟩ := h.ty
  obtain ⟨h1, h2, h3, h4⟩ := h.pg
  have np : ¬ ST g kv p := fun e => e.elim h1 h3
  have ng : ¬ ST g kv gl := fun e => e.elim h2 h4
  refine ⟨hs, ⟨?_, h.rd.bytes.keep hk (fun b off e _ => ?_), Nat.lt_of_lt_of_le h.rd.gl hk.size, h.rd.ne, h.rd.le, h.rd.cap_, h.rd.fit⟩, ⟨cur, ?_⟩, h.bp, h.bg⟩
  · rw [hk.block p h.rd.pl np]; exact h.rd.row
  · injection e with e
    injection e with e
    subst e
    exact ng
  · rw [hk.block gl h.rd.gl ng]; exact hc
theorem SR.stB {w w' : World} {B g : Nat} {kv : Value} {K : List Ke} {p gl cap : Nat} {l : List UInt8} {k : Nat} (h : SR w B g kv K p gl cap l k) (hk : Kept (ST g kv) w w') : Below B w w' :=
  ⟨hk.os, hk.tape, hk.output, hk.size, fun k hkB => hk.block k (by have := h.st.low; have := h.st.gl; omega) (fun e => by
    rcases e with e | e
    · have := h.st.low; omega
    · have := (World.ownsRow.lt h.st.kep _ e).1; omega)⟩
theorem SR.rdB {w w' : World} {B g : Nat} {kv : Value} {K : List Ke} {p gl cap : Nat} {l : List UInt8} {k : Nat} (h : SR w B g kv K p gl cap l k) (hg : w.grownBy w' (some p)) : Below B w w' :=
  ⟨hg.os, hg.tape, hg.output, hg.size, fun k hkB => hg.block k (by have := h.st.low; have := h.st.gl; omega) (fun e => by injection e with e; have := h.bp; omega)⟩
theorem SR.Bw {w : World} {B g : Nat} {kv : Value} {K : List Ke} {p gl cap : Nat} {l : List UInt8} {k : Nat} (h : SR w B g kv K p gl cap l k) : B ≤ w.heap.size := by have := h.st.low; have := h.st.gl; omega
/-- What stands in a store's entries. -/
structure OkK (K : List Ke) : Prop where
  asc : Asc (kNm K)
  few : K.length ≤ 16
theorem OkK.put {K : List Ke} (h : OkK K) (x : Ke) (hm : (hasN (kNm K) x.nm || decide (K.length < 16)) = true) : OkK (putN (posN (kNm K) x.nm) (hasN (kNm K) x.nm) K x) := by
  refine ⟨?_, ?_⟩
  · unfold kNm
    rw [putN_map]
    exact asc_put h.asc x.nm
  · have hp := pos_le (kNm K) x.nm
    rw [kNm_len] at hp
    rw [putN_len x hp (fun e => by have := has_lt e; rwa [kNm_len] at this)]
    have := h.few
    cases hh : hasN (kNm K) x.nm
    · rw [hh] at hm
      simp at hm
      simp; omega
    · simp; omega
theorem OkK.cut {K : List Ke} (h : OkK K) (s : ByteArray) (hh : hasN (kNm K) s = true) : OkK (cutN (posN (kNm K) s) true K) := by
  have hp := has_lt hh
  rw [kNm_len] at hp
  refine ⟨?_, ?_⟩
  · unfold kNm
    rw [cutN_map]
    exact asc_cut h.asc _ _
  · have := cutN_len hp
    have := h.few
    omega
def nmA (l : List UInt8) (k : Nat) : ByteArray := ⟨(nmL l k).toArray⟩
/-- A record that keeps bytes, behind its name. -/
def keptD (l : List UInt8) (k : Nat) (K : List Ke) (s : ByteArray) : Option (Nat × List Ke) :=
  if numE l k 2 ≠ 0 ∨ 4096 < numV l k 2 ∨ (hasN (kNm K) s || decide (K.length < 16)) = false ∨ takeE l (numK l k 2) (numV l k 2) ≠ 0 then none
  else some (takeK l (numK l k 2) (numV l k 2), putN (posN (kNm K) s) (hasN (kNm K) s) K ⟨s, numK l k 2, numK l k 2 + (numV l k 2).toNat⟩)
def stepS (l : List UInt8) (k : Nat) (K : List Ke) : Option (Nat × List Ke) :=
  if nmE l (numK l k 1) ≠ 0 then none
  else if numV l k 1 = 1 then keptD l (nmK l (numK l k 1)) K (nmA l (numK l k 1))
  else if numV l k 1 = 2 then (if hasN (kNm K) (nmA l (numK l k 1)) = true then some (nmK l (numK l k 1), cutN (posN (kNm K) (nmA l (numK l k 1))) true K) else none)
  else none
def RecPost (w : World) (B g p gl cap : Nat) (l : List UInt8) (r : Option (Nat × List Ke)) (e : Ending) (w' : World) : Prop :=
  Below B w w' ∧ ((e = .returned (.bool false) ∧ r = none) ∨ ∃ k' K' kv', e = .returned (.bool true) ∧ r = some (k', K') ∧ SR w' B g kv' K' p gl cap l k')
theorem num2 (l : List UInt8) (k : Nat) : 0 ≤ numV l k 2 ∧ numV l k 2 < 65536 := by
  unfold numV
  by_cases h : l.length - k < 2
  · simp [h]
  · rw [if_neg h, if_neg (by omega)]
    have h1 := beN_lt ((l.drop k).take 2)
    have h2 : ((l.drop k).take 2).length ≤ 2 := by rw [List.length_take]; omega
    have h3 : 256 ^ ((l.drop k).take 2).length ≤ 65536 := Nat.le_trans (Nat.pow_le_pow_right (by omega) h2) (by decide)
    omega
set_option maxHeartbeats 4000000 in
theorem readKept_any {w : World} {B g : Nat} {kv : Value} {K : List Ke} {p gl cap : Nat} {l : List UInt8} {k : Nat} (s : ByteArray) (H : SR w B g kv K p gl cap l k) (hok : OkK K) :
    Calls Tryz.prog 107 #[.pointer (some ⟨g, 0, none⟩), .string s, .pointer (some ⟨p, 0, none⟩)] w (RecPost w B g p gl cap l (keptD l k K s)) := by
  have HWd := hide (Word_u H.rd)
  have HH := hide H
  have hnn := num2 l k
  have hKl := H.rd.fit
  have hkl : numK l k 2 ≤ l.length := by have := H.rd.le; unfold numK; split <;> omega
  have HD : Hid (keptD l k K s = keptD l k K s) := hide rfl
  unfold keptD at HD ⊢
  clear HD H
  by_cases e1 : numE l k 2 = 0
  · rw [e1] at HWd
    by_cases e2 : 4096 < numV l k 2
    · rw [if_pos (Or.inr (Or.inl e2))]
      generalize numV l k 2 = n at HWd e2 hnn ⊢
      go_enter Tryz.func107, Tryz.ntmps107
      go_wp2_with fail
      refine (unhide HWd).mono ?_
      rintro e W ⟨rfl, hr, hg⟩
      have HB := hide ((unhide HH).rdB hg)
      clear hr hg HWd
      go_wp2
      go_ret
      exact ⟨unhide HB, Or.inl ⟨rfl, rfl⟩⟩
    · cases e3 : (hasN (kNm K) s || decide (K.length < 16))
      · rw [if_pos (Or.inr (Or.inr (Or.inl rfl)))]
        generalize numV l k 2 = n at HWd e2 hnn ⊢
        go_enter Tryz.func107, Tryz.ntmps107
        go_wp2_with fail
        refine (unhide HWd).mono ?_
        rintro e W ⟨rfl, hr, hg⟩
        have HB := hide ((unhide HH).rdB hg)
        have hS := (unhide HH).read hr hg
        have HM := hide (mayKeep_anyS s W hS.st hok.asc (by have := hok.few; omega))
        rw [e3] at HM
        have HBw := hide hS.Bw
        clear hr hg HWd hS
        go_wp2_with fail
        refine (unhide HM).mono ?_
        rintro e W2 ⟨rfl, hb⟩
        have HB2 := hide ((unhide HB).trans (hb.mono (unhide HBw)))
        clear hb
        go_wp2
        go_ret
        exact ⟨unhide HB2, Or.inl ⟨rfl, rfl⟩⟩
      · obtain ⟨n, hn, hn1, hn2⟩ : ∃ n : Nat, numV l k 2 = (n : Int) ∧ n ≤ 4096 ∧ (n : Int) ≤ 4096 := ⟨(numV l k 2).toNat, by omega, by omega, by omega⟩
        rw [hn, Int.toNat_natCast]
        rw [hn] at HWd
        clear e2 hnn hn
        have e5 : ¬ (4096 : Int) < (n : Int) := by omega
        have HE1 := hide e1
        have HE3 := hide e3
        clear e1
        generalize numK l k 2 = k3 at HWd hkl ⊢
        by_cases e4 : takeE l k3 (n : Int) = 0
        · have hk4 : takeK l k3 (n : Int) = k3 + n := by
            unfold takeE at e4
            unfold takeK
            split at e4
            · omega
            · rw [if_neg (by omega)]
              split at e4
              · omega
              · rw [if_neg (by assumption)]; rfl
          rw [if_neg (by rw [unhide HE1]; simp [e4]; omega), hk4]
          have HE4 := hide e4
          have HK4 := hide hk4
          clear e4 hk4
          go_enter Tryz.func107, Tryz.ntmps107
          go_wp2_with fail
          refine (unhide HWd).mono ?_
          rintro e W ⟨rfl, hr, hg⟩
          have HB := hide ((unhide HH).rdB hg)
          have hS := (unhide HH).read hr hg
          have HM := hide (mayKeep_anyS s W hS.st hok.asc (by have := hok.few; omega))
          rw [unhide HE3] at HM
          have HS := hide hS
          clear hr hg HWd hS HH
          go_wp2_with fail
          refine (unhide HM).mono ?_
          rintro e W2 ⟨rfl, hb⟩
          have HB2 := hide ((unhide HB).trans (hb.mono (unhide HS).Bw))
          have HS2 := hide ((unhide HS).below hb)
          clear hb HM HS HB
          have HAt := hide (At_any (unhide HS2).rd)
          go_wp2_with fail
          refine (unhide HAt).mono ?_
          rintro e W3 ⟨rfl, hw⟩
          rw [hw]
          clear hw HAt
          have HTk := hide (Take_u (unhide HS2).rd (n : Int))
          rw [unhide HE4, unhide HK4] at HTk
          go_wp2_with fail
          refine (unhide HTk).mono ?_
          rintro e W4 ⟨vt, rfl, hO, hr, hg⟩
          have HB4 := hide ((unhide HB2).trans ((unhide HS2).rdB hg))
          have HS4 := hide ((unhide HS2).read hr hg)
          have HKp := hide (keep_anyS ⟨s, k3, k3 + n⟩ (unhide HS4).st hok.asc (by have := hok.few; omega))
          clear hO hr hg HTk HS2 HB2
          go_wp2_with fail
          rw [show (k3 : Int) + (n : Int) = ((k3 + n : Nat) : Int) from by omega]
          refine (unhide HKp).mono ?_
          rintro e W5 ⟨kv5, rfl, hst, hk⟩
          have HB5 := hide ((unhide HB4).trans ((unhide HS4).stB hk))
          have HS5 := hide ((unhide HS4).store hst hk)
          clear hst hk HKp
          go_wp2
          go_ret
          exact ⟨unhide HB5, Or.inr ⟨k3 + n, _, kv5, rfl, rfl, unhide HS5⟩⟩
        · rw [if_pos (Or.inr (Or.inr (Or.inr e4)))]
          go_enter Tryz.func107, Tryz.ntmps107
          go_wp2_with fail
          refine (unhide HWd).mono ?_
          rintro e W ⟨rfl, hr, hg⟩
          have HB := hide ((unhide HH).rdB hg)
          have hS := (unhide HH).read hr hg
          have HM := hide (mayKeep_anyS s W hS.st hok.asc (by have := hok.few; omega))
          rw [unhide HE3] at HM
          have HS := hide hS
          clear hr hg HWd hS HH
          go_wp2_with fail
          refine (unhide HM).mono ?_
          rintro e W2 ⟨rfl, hb⟩
          have HB2 := hide ((unhide HB).trans (hb.mono (unhide HS).Bw))
          have HS2 := hide ((unhide HS).below hb)
          clear hb HM HS HB
          have HAt := hide (At_any (unhide HS2).rd)
          go_wp2_with fail
          refine (unhide HAt).mono ?_
          rintro e W3 ⟨rfl, hw⟩
          rw [hw]
          clear hw HAt
          have HTk := hide (Take_u (unhide HS2).rd (n : Int))
          generalize takeE l k3 (n : Int) = te at HTk e4
          go_wp2_with fail
          refine (unhide HTk).mono ?_
          rintro e W4 ⟨vt, rfl, hO, hr, hg⟩
          have HB4 := hide ((unhide HB2).trans ((unhide HS2).rdB hg))
          clear hO hr hg HTk HS2 HB2
          go_wp2
          go_ret
          exact ⟨unhide HB4, Or.inl ⟨rfl, rfl⟩⟩
  · rw [if_pos (Or.inl e1)]
    generalize numE l k 2 = te at HWd e1
    generalize numV l k 2 = n at HWd hnn
    go_enter Tryz.func107, Tryz.ntmps107
    go_wp2_with fail
    refine (unhide HWd).mono ?_
    rintro e W ⟨rfl, hr, hg⟩
    have HB := hide ((unhide HH).rdB hg)
    clear hr hg HWd
    go_wp2
    go_ret
    exact ⟨unhide HB, Or.inl ⟨rfl, rfl⟩⟩
end Go.Proofs.YtkiijdcpfbnacaaGreatDoor
