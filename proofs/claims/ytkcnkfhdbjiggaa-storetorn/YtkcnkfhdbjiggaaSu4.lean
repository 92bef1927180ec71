/-
  Contracts of the store's Put and Drop on one that was made: the error, or the image, the entries and the writes.
-/
import Derived.Test.YtkcnkfhdbjiggaaSu3
namespace Go.Proofs.Ytkcnkfhdbjiggaa
open Go.RowKit
set_option maxRecDepth 20000

theorem WrAt.keepST {W W' : World} {base B g : Nat} {iv kv v : Value} {I : List UInt8} {K : List Ke} {at_ : Nat} {A C : List UInt8} (h : WrAt W base v at_ A C) (hs : IsSt W B g iv kv I K) (hk : Kept (ST g kv) W W') : WrAt W' base v at_ A C := by
  obtain ⟨wb, ha, hc, fa, fc, h1, h2, h3, h4, h5⟩ := h
  have n1 : ∀ {q : Nat} {cs : Array Value} {t : TypeId}, W.heap[q]? = some (.cells cs t (0, 0)) → t ≠ 71 → t ≠ 83 → ¬ ST g kv q := fun hq e1 e2 e => by
    rcases e with e | e
    · exact ty_ne hq hs.row e1 e
    · obtain ⟨cur, hcur⟩ := hs.kty _ e
      exact ty_ne hq hcur e2 rfl
  have n2 : ∀ {u : Value} {l : List UInt8}, OwnB W base u l → ∀ q, u.ownBlock = some q → ¬ ST g kv q := fun ho q e => by
    rcases ho.2 with ⟨h1, _⟩ | ⟨g', cap, cur, hv, hbg, hh, r⟩
    · rw [h1] at e; cases e
    · rw [hv] at e
      injection e with e
      subst e
      exact n1 hh (by decide) (by decide)
  exact ⟨wb, ha, hc, fa, fc, h1, h2, by unfold Bx; rw [hk.block wb h3.lt (n1 h3 (by decide) (by decide))]; exact h3, h4.keep hk (n2 h4), h5.keep hk (n2 h5)⟩
/-- The blocks that a store's changes turn. -/
def SA (g : Nat) (iv kv : Value) (k : Nat) : Prop := k = g ∨ iv.ownBlock = some k ∨ kv.ownBlock = some k
theorem WrAt.mono' {W : World} {base base' : Nat} {v : Value} {at_ : Nat} {A C : List UInt8} (h : WrAt W base v at_ A C) (hb : base' ≤ base) : WrAt W base' v at_ A C := by
  obtain ⟨wb, ha, hc, fa, fc, h1, h2, h3, h4, h5⟩ := h
  exact ⟨wb, ha, hc, fa, fc, h1, by omega, h3, h4.mono hb, h5.mono hb⟩
def putE (I : List UInt8) (K : List Ke) (s : ByteArray) (m : List UInt8) : Int :=
  if nameB s = false then 6 else if 4096 < m.length then 4 else if (hasN (kNm K) s || decide (K.length < 16)) = false then 7 else if 1048576 < I.length + (recK s m).length + 1 then 7 else 0
def dropE (I : List UInt8) (K : List Ke) (s : ByteArray) : Int :=
  if nameB s = false then 6 else if hasN (kNm K) s = false then 211 else if 1048576 < I.length + (recD s).length + 1 then 7 else 0
def putK (I : List UInt8) (K : List Ke) (s : ByteArray) (m : List UInt8) : List Ke := putN (posN (kNm K) s) (hasN (kNm K) s) K ⟨s, I.length + (recK s m).length - m.length, I.length + (recK s m).length⟩
def dropK (K : List Ke) (s : ByteArray) : List Ke := cutN (posN (kNm K) s) (hasN (kNm K) s) K
def hidB (R : List UInt8) : List UInt8 := [0] ++ R.drop 1 ++ [0]
def OpPost (w : World) (B g : Nat) (iv kv : Value) (I : List UInt8) (K : List Ke) (code : Int) (R : List UInt8) (K' : List Ke) (e : Ending) (w' : World) : Prop :=
  (∃ c, code = c ∧ e = .returned (.tuple #[.slice none 0 0, .int .i64 c]) ∧ c ≠ 0 ∧ IsSt w' B g iv kv I K ∧ Below w.heap.size w w') ∨
  (code = 0 ∧ ∃ v iv' kv', e = .returned (.tuple #[v, .int .i64 0]) ∧ IsSt w' B g iv' kv' (I ++ R) K' ∧ WrAt w' w.heap.size v I.length (hidB R) [R.getD 0 0] ∧ Kept (SA g iv kv) w w' ∧ (∀ q, iv'.ownBlock = some q → iv.ownBlock = some q ∨ w.heap.size ≤ q))
set_option maxHeartbeats 1000000 in
theorem PutS_any {w : World} {B g : Nat} {iv kv : Value} {I : List UInt8} {K : List Ke} (s : ByteArray) (ao : Option Addr) (c : Nat) (m : List UInt8) (H : IsSt w B g iv kv I K) (hI : I.length ≤ 1048576) (hok : OkK K) (hs : s.size ≤ maxLen) (hb : BAt w ao m) (hn : ao = none → m = [] ∧ c = 0) (hml : m.length ≤ 140737488355328) :
    Calls Try.prog 22 #[.pointer (some ⟨g, 0, none⟩), .string s, .slice ao m.length c] w (OpPost w B g iv kv I K (putE I K s m) (recK s m) (putK I K s m)) := by
  have HM := hide (isMadeS_yes H)
  have HN := hide (IsName_any s w hs)
  have HK := hide (mayKeep_anyS s w H hok.asc (by have := hok.few; omega))
  have HH := hide H
  have HBt := hide hb
  have HNN := hide hn
  have hBw : B ≤ w.heap.size := by have := H.low; have := H.gl; omega
  clear H hb hn
  unfold putE
  cases h1 : nameB s
  · rw [h1] at HN
    rw [if_pos rfl]
    have HS9 := HH
    have HB9 := hide (Below.refl w.heap.size w)
    go_enter Try.func22, Try.ntmps22
    go_wp2_with fail
    refine (unhide HM).mono ?_
    rintro e W ⟨rfl, hw⟩
    rw [hw]
    clear hw W
    go_wp2_with fail
    refine (unhide HN).mono ?_
    rintro e W ⟨rfl, hw⟩
    rw [hw]
    clear hw W
    go_wp2
    go_ret2
    exact Or.inl ⟨_, rfl, rfl, by decide, unhide HS9, unhide HB9⟩
  · rw [h1] at HN
    rw [if_neg (by decide)]
    have HNB := hide h1
    clear h1
    by_cases h2 : 4096 < m.length
    · rw [if_pos h2]
      have i2 : (4096 : Int) < ((m.length : Nat) : Int) := by omega
      have HS9 := HH
      have HB9 := hide (Below.refl w.heap.size w)
      go_enter Try.func22, Try.ntmps22
      go_wp2_with fail
      refine (unhide HM).mono ?_
      rintro e W ⟨rfl, hw⟩
      rw [hw]
      clear hw W
      go_wp2_with fail
      refine (unhide HN).mono ?_
      rintro e W ⟨rfl, hw⟩
      rw [hw]
      clear hw W
      go_wp2
      go_ret2
      exact Or.inl ⟨_, rfl, rfl, by decide, unhide HS9, unhide HB9⟩
    · rw [if_neg h2]
      have i2 : ¬ (4096 : Int) < ((m.length : Nat) : Int) := by omega
      cases h3 : (hasN (kNm K) s || decide (K.length < 16))
      · rw [h3] at HK
        rw [if_pos rfl]
        go_enter Try.func22, Try.ntmps22
        go_wp2_with fail
        refine (unhide HM).mono ?_
        rintro e W ⟨rfl, hw⟩
        rw [hw]
        clear hw W
        go_wp2_with fail
        refine (unhide HN).mono ?_
        rintro e W ⟨rfl, hw⟩
        rw [hw]
        clear hw W
        go_wp2_with fail
        refine (unhide HK).mono ?_
        rintro e W ⟨rfl, hb⟩
        have HS9 := hide ((unhide HH).below hb)
        have HB9 := hide hb
        clear hb HK
        go_wp2
        go_ret2
        exact Or.inl ⟨_, rfl, rfl, by decide, unhide HS9, unhide HB9⟩
      · rw [h3] at HK
        rw [if_neg (by decide)]
        clear h3
        obtain ⟨cd, hcd⟩ : ∃ cd : Int, cd = (if 1048576 < I.length + (recK s m).length + 1 then 7 else 0) := ⟨_, rfl⟩
        rw [← hcd]
        have HCD := hide hcd
        clear hcd
        go_enter Try.func22, Try.ntmps22
        go_wp2_with fail
        refine (unhide HM).mono ?_
        rintro e W ⟨rfl, hw⟩
        rw [hw]
        clear hw W
        go_wp2_with fail
        refine (unhide HN).mono ?_
        rintro e W ⟨rfl, hw⟩
        rw [hw]
        clear hw W
        go_wp2_with fail
        refine (unhide HK).mono ?_
        rintro e W ⟨rfl, hb⟩
        have HS1 := hide ((unhide HH).below hb)
        have HB1 := hide hb
        have HRc := hide (keepRec_any s ao c m W (unhide HNB) ((unhide HBt).below' hb) (unhide HNN) (by omega))
        clear hb HK
        go_wp2_with fail
        refine (unhide HRc).mono ?_
        rintro e W1 ⟨rb, rfl, hO, hb⟩
        have hRl : (recK s m).length = s.size + 4 + m.length := recK_len s m
        have h24 := name_24 (unhide HNB)
        obtain ⟨R, hR⟩ : ∃ R, R = recK s m := ⟨_, rfl⟩
        rw [← hR] at hO hRl
        rw [← hR]
        have HRR := hide hR
        have HS2 := hide ((unhide HS1).below hb)
        have HB2 := hide ((unhide HB1).trans (hb.mono (unhide HB1).size))
        have hR2 : 2 ≤ R.length := by omega
        have hR5 : R.length ≤ 5000 := by omega
        have hRm : m.length ≤ R.length := by omega
        clear hRl
        have HLy := hide (lay_any (unhide HS2) hI ((hO.mono (unhide HB1).size).mono hBw) (fun e => by have h1 := (World.ownsRow.lt (unhide HS1).img _ e).2; have h3 := (World.ownsRow.lt hO rb rfl).1; omega) (by omega) (by omega))
        clear hO hb HRc hR HS1 HB1
        go_wp2_with fail
        refine (unhide HLy).mono ?_
        rintro e W2 hc
        rcases hc with ⟨hbig, rfl, hw⟩ | ⟨hfit, v3, iv3, rfl, hst3, hwr3, hk3, hF3⟩
        · rw [hw]
          clear hw HLy
          have HS9 := HS2
          have HB9 := HB2
          have HC9 : Hid (cd = 7) := hide (by rw [unhide HCD, ← unhide HRR, if_pos hbig])
          go_wp2
          go_ret2
          exact Or.inl ⟨7, unhide HC9, rfl, by decide, unhide HS9, unhide HB9⟩
        · have HC9 : Hid (cd = 0) := hide (by rw [unhide HCD, ← unhide HRR, if_neg (by omega)])
          have HS3 := hide hst3
          have HW3 := hide (WrAt.mono' hwr3 (unhide HB2).size)
          have HK3 := hide hk3
          have HF3 : Hid (∀ q, iv3.ownBlock = some q → iv.ownBlock = some q ∨ w.heap.size ≤ q) := hide (fun q e => (hF3 q e).imp id (fun h => Nat.le_trans (unhide HB2).size h))
          clear hst3 hwr3 hk3 hF3 HLy
          have c0 := (unhide HS3).c0
          obtain ⟨ia3, ic3, hiv3, -, -, -⟩ := (unhide HS3).img.atN
          rw [hiv3] at c0
          rw [List.length_append] at c0
          have HCl := hide (strClone_any s W2 (by omega))
          go_wp2_with fail
          refine (unhide HCl).mono ?_
          rintro e W4 ⟨rfl, hb4⟩
          have HS4 := hide ((unhide HS3).below hb4)
          have HW4 := hide ((unhide HW3).below hb4)
          have HK4 := hide ((unhide HK3).trans (Kept.of_below hb4 (SI g iv)) (fun _ _ h => h) (fun _ _ h => h))
          clear hb4 HCl
          obtain ⟨fr, hfr⟩ : ∃ fr : Nat, fr = I.length + R.length - m.length := ⟨_, rfl⟩
          have HC1 : Hid (((I.length : Nat) : Int) + ((R.length : Nat) : Int) - ((m.length : Nat) : Int) = (fr : Int)) := hide (by omega)
          have HC2 : Hid (((I.length : Nat) : Int) + ((R.length : Nat) : Int) = ((I.length + R.length : Nat) : Int)) := hide (by omega)
          have HKe := hide (keep_anyS ⟨s, fr, I.length + R.length⟩ (unhide HS4) hok.asc (by have := hok.few; omega))
          have HFR := hide hfr
          clear hfr hiv3
          go_wp2_with fail
          rw [unhide HC1, unhide HC2]
          refine (unhide HKe).mono ?_
          rintro e W5 ⟨kv5, rfl, hst5, hk5⟩
          have HS5 := hide hst5
          have HW5 := hide ((unhide HW4).keepST (unhide HS4) hk5)
          have HK5 : Hid (Kept (SA g iv kv) W1 W5) := hide ((unhide HK4).trans hk5 (fun k _ h => h.elim Or.inl (fun h => Or.inr (Or.inl h))) (fun k _ h => h.elim Or.inl (fun h => Or.inr (Or.inr h))))
          clear hst5 hk5 HKe
          go_wp2
          go_ret2
          refine Or.inr ⟨unhide HC9, _, iv3, kv5, rfl, ?_, ?_, (Kept.of_below (unhide HB2) (SA g iv kv)).trans (unhide HK5) (fun _ _ h => h) (fun _ _ h => h), unhide HF3⟩
          · unfold putK
            rw [← unhide HRR, ← unhide HFR]
            exact unhide HS5
          · rw [← unhide HRR]
            exact unhide HW5
set_option maxHeartbeats 1000000 in
theorem DropS_any {w : World} {B g : Nat} {iv kv : Value} {I : List UInt8} {K : List Ke} (s : ByteArray) (H : IsSt w B g iv kv I K) (hI : I.length ≤ 1048576) (hok : OkK K) (hs : s.size ≤ maxLen) :
    Calls Try.prog 29 #[.pointer (some ⟨g, 0, none⟩), .string s] w (OpPost w B g iv kv I K (dropE I K s) (recD s) (dropK K s)) := by
  have HM := hide (isMadeS_yes H)
  have HN := hide (IsName_any s w hs)
  have HK := hide (has_anyS s w H hok.asc (by have := hok.few; omega))
  have HH := hide H
  have hBw : B ≤ w.heap.size := by have := H.low; have := H.gl; omega
  clear H
  unfold dropE
  cases h1 : nameB s
  · rw [h1] at HN
    rw [if_pos rfl]
    have HS9 := HH
    have HB9 := hide (Below.refl w.heap.size w)
    go_enter Try.func29, Try.ntmps29
    go_wp2_with fail
    refine (unhide HM).mono ?_
    rintro e W ⟨rfl, hw⟩
    rw [hw]
    clear hw W
    go_wp2_with fail
    refine (unhide HN).mono ?_
    rintro e W ⟨rfl, hw⟩
    rw [hw]
    clear hw W
    go_wp2
    go_ret2
    exact Or.inl ⟨_, rfl, rfl, by decide, unhide HS9, unhide HB9⟩
  · rw [h1] at HN
    rw [if_neg (by decide)]
    have HNB := hide h1
    clear h1
    cases h3 : hasN (kNm K) s
    · rw [h3] at HK
      rw [if_pos rfl]
      go_enter Try.func29, Try.ntmps29
      go_wp2_with fail
      refine (unhide HM).mono ?_
      rintro e W ⟨rfl, hw⟩
      rw [hw]
      clear hw W
      go_wp2_with fail
      refine (unhide HN).mono ?_
      rintro e W ⟨rfl, hw⟩
      rw [hw]
      clear hw W
      go_wp2_with fail
      refine (unhide HK).mono ?_
      rintro e W ⟨rfl, hb⟩
      have HS9 := hide ((unhide HH).below hb)
      have HB9 := hide hb
      clear hb HK
      go_wp2
      go_ret2
      exact Or.inl ⟨_, rfl, rfl, by decide, unhide HS9, unhide HB9⟩
    · rw [h3] at HK
      rw [if_neg (by decide)]
      have HHS := hide h3
      clear h3
      obtain ⟨cd, hcd⟩ : ∃ cd : Int, cd = (if 1048576 < I.length + (recD s).length + 1 then 7 else 0) := ⟨_, rfl⟩
      rw [← hcd]
      have HCD := hide hcd
      clear hcd
      go_enter Try.func29, Try.ntmps29
      go_wp2_with fail
      refine (unhide HM).mono ?_
      rintro e W ⟨rfl, hw⟩
      rw [hw]
      clear hw W
      go_wp2_with fail
      refine (unhide HN).mono ?_
      rintro e W ⟨rfl, hw⟩
      rw [hw]
      clear hw W
      go_wp2_with fail
      refine (unhide HK).mono ?_
      rintro e W ⟨rfl, hb⟩
      have HS1 := hide ((unhide HH).below hb)
      have HB1 := hide hb
      have HRc := hide (dropRec_any s W (unhide HNB))
      clear hb HK
      go_wp2_with fail
      refine (unhide HRc).mono ?_
      rintro e W1 ⟨rb, rfl, hO, hb⟩
      have hRl : (recD s).length = s.size + 2 := recD_len s
      have h24 := name_24 (unhide HNB)
      obtain ⟨R, hR⟩ : ∃ R, R = recD s := ⟨_, rfl⟩
      rw [← hR] at hO hRl
      rw [← hR]
      have HRR := hide hR
      have HS2 := hide ((unhide HS1).below hb)
      have HB2 := hide ((unhide HB1).trans (hb.mono (unhide HB1).size))
      have hR2 : 2 ≤ R.length := by omega
      have hR5 : R.length ≤ 5000 := by omega
      clear hRl
      have HLy := hide (lay_any (unhide HS2) hI ((hO.mono (unhide HB1).size).mono hBw) (fun e => by have h1 := (World.ownsRow.lt (unhide HS1).img _ e).2; have h3 := (World.ownsRow.lt hO rb rfl).1; omega) (by omega) (by omega))
      clear hO hb HRc hR HS1 HB1
      go_wp2_with fail
      refine (unhide HLy).mono ?_
      rintro e W2 hc
      rcases hc with ⟨hbig, rfl, hw⟩ | ⟨hfit, v3, iv3, rfl, hst3, hwr3, hk3, hF3⟩
      · rw [hw]
        clear hw HLy
        have HS9 := HS2
        have HB9 := HB2
        have HC9 : Hid (cd = 7) := hide (by rw [unhide HCD, ← unhide HRR, if_pos hbig])
        go_wp2
        go_ret2
        exact Or.inl ⟨7, unhide HC9, rfl, by decide, unhide HS9, unhide HB9⟩
      · have HC9 : Hid (cd = 0) := hide (by rw [unhide HCD, ← unhide HRR, if_neg (by omega)])
        have HS3 := hide hst3
        have HW3 := hide (WrAt.mono' hwr3 (unhide HB2).size)
        have HK3 := hide hk3
        have HF3 : Hid (∀ q, iv3.ownBlock = some q → iv.ownBlock = some q ∨ w.heap.size ≤ q) := hide (fun q e => (hF3 q e).imp id (fun h => Nat.le_trans (unhide HB2).size h))
        clear hst3 hwr3 hk3 hF3 HLy
        have HKe := hide (lose_anyS s (unhide HS3) hok.asc (by have := hok.few; omega))
        go_wp2_with fail
        refine (unhide HKe).mono ?_
        rintro e W5 ⟨kv5, rfl, hst5, hk5⟩
        have HS5 := hide hst5
        have HW5 := hide ((unhide HW3).keepST (unhide HS3) hk5)
        have HK5 : Hid (Kept (SA g iv kv) W1 W5) := hide ((unhide HK3).trans hk5 (fun k _ h => h.elim Or.inl (fun h => Or.inr (Or.inl h))) (fun k _ h => h.elim Or.inl (fun h => Or.inr (Or.inr h))))
        clear hst5 hk5 HKe
        go_wp2
        go_ret2
        refine Or.inr ⟨unhide HC9, _, iv3, kv5, rfl, ?_, ?_, (Kept.of_below (unhide HB2) (SA g iv kv)).trans (unhide HK5) (fun _ _ h => h) (fun _ _ h => h), unhide HF3⟩
        · rw [← unhide HRR]
          exact unhide HS5
        · rw [← unhide HRR]
          exact unhide HW5
end Go.Proofs.Ytkcnkfhdbjiggaa
