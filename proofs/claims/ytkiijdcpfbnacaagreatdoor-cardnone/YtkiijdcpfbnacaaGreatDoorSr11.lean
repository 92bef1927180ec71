/-
  Contracts of what a store that was made tells: Image, Names, Get. What is told is new memory; nothing that lay is turned.
-/
import Derived.Test.YtkiijdcpfbnacaaGreatDoorSr10
import Derived.Test.YtkiijdcpfbnacaaGreatDoorWn
import Derived.Deep.QuietTactic
import Derived.BigQuiet
namespace Go.Proofs.YtkiijdcpfbnacaaGreatDoor
open Go.RowKit
set_option maxRecDepth 20000

theorem isMadeS_yes {w : World} {B g : Nat} {iv kv : Value} {I : List UInt8} {K : List Ke} (H : IsSt w B g iv kv I K) : Calls Tryz.prog 288 #[.pointer (some ⟨g, 0, none⟩)] w fun e w' => e = .returned (.bool true) ∧ w' = w := by
  have c2 := H.c2
  clear H
  go_enter Tryz.func288, Tryz.ntmps288
  go_wp2
  go_ret
  exact ⟨rfl, rfl⟩
theorem OwnB.atN {w : World} {base : Nat} {v : Value} {l : List UInt8} (h : OwnB w base v l) : ∃ ao cap, v = .slice ao l.length cap ∧ BAt w ao l ∧ (ao = none → l = []) ∧ l.length ≤ cap := by
  rcases h.shape with ⟨rfl, rfl⟩ | ⟨g, cap, rfl, _, _, hn, _, hb⟩
  · exact ⟨none, 0, rfl, BAt.nil _ _, fun _ => rfl, Nat.le_refl _⟩
  · exact ⟨_, cap, rfl, hb, (fun e => by cases e), hn⟩
theorem ImageS_any {w : World} {B g : Nat} {iv kv : Value} {I : List UInt8} {K : List Ke} (H : IsSt w B g iv kv I K) (hI : I.length ≤ 1048576) :
    Calls Tryz.prog 284 #[.pointer (some ⟨g, 0, none⟩)] w fun e w' => ∃ v, e = .returned v ∧ OwnB w' w.heap.size v I ∧ Below w.heap.size w w' := by
  obtain ⟨ia, ic, rfl, hb, hn, _⟩ := H.img.atN
  have c0 := H.c0
  have HM := hide (isMadeS_yes H)
  have HC := hide (bytesClone_any ia ic I w hb hn (by omega))
  clear H hb hn
  go_enter Tryz.func284, Tryz.ntmps284
  go_wp2_with fail
  refine (unhide HM).mono ?_
  rintro e W ⟨rfl, hw⟩
  rw [hw]
  clear hw W HM
  go_wp2_with fail
  refine (unhide HC).mono ?_
  rintro e W ⟨v, rfl, hO, hb, _⟩
  have HO := hide hO
  have HB := hide hb
  clear hO hb HC
  go_wp2
  go_ret
  exact ⟨v, rfl, unhide HO, unhide HB⟩
def seg (I : List UInt8) (a b : Nat) : List UInt8 := (I.drop a).take (b - a)
theorem seg_len {I : List UInt8} {a b : Nat} (h : a ≤ b) (hb : b ≤ I.length) : (seg I a b).length = b - a := by unfold seg; rw [List.length_take, List.length_drop]; omega
theorem seg_at {I : List UInt8} {a b i : Nat} (h : i < (seg I a b).length) : at8 (seg I a b) i = at8 I (a + i) := by
  unfold seg at h ⊢
  rw [List.length_take] at h
  unfold at8
  rw [List.getD_eq_getElem?_getD, List.getD_eq_getElem?_getD, List.getElem?_take, if_pos (by omega), List.getElem?_drop]
theorem BAt.segS {w : World} {ib : Nat} {I : List UInt8} {a b : Nat} (h : BAt w (some ⟨ib, 0, none⟩) I) (hb : b ≤ I.length) (hab : a ≤ b) : BAt w (some ⟨ib, a, none⟩) (seg I a b) := fun i hi => by
  have hl := seg_len hab hb
  obtain ⟨b', off, e, hc⟩ := h (a + i) (by omega)
  injection e with e
  injection e with e1 e2
  subst e1 e2
  refine ⟨ib, a, rfl, ?_⟩
  rw [seg_at hi, ← hc]
  congr 2
  omega
def BOf (w : World) (m : List UInt8) (e : Ending) (w' : World) : Prop := ∃ ao c, e = .returned (.slice ao m.length c) ∧ BAt w' ao m ∧ (ao = none → m = []) ∧ Below w.heap.size w w'
set_option maxHeartbeats 1000000 in
theorem bytesOf_any {w : World} {B g : Nat} {iv kv : Value} {I : List UInt8} {K : List Ke} (H : IsSt w B g iv kv I K) (hI : I.length ≤ 1048576) (s : ByteArray) (a b : Nat) (hab : a ≤ b) (hb : b ≤ I.length) :
    Calls Tryz.prog 291 #[.pointer (some ⟨g, 0, none⟩), .agg #[.string s, .int .i64 (a : Int), .int .i64 (b : Int)]] w (BOf w (seg I a b)) := by
  have hal : Below w.heap.size w (w.alloc (.cells #[.string s, .int .i64 (a : Int), .int .i64 (b : Int)] 242)) := (Below.refl _ _).alloc (Nat.le_refl _) _
  have hnew := heap_alloc_new w (.cells #[.string s, .int .i64 (a : Int), .int .i64 (b : Int)] 242)
  have n1 : (w.alloc (.cells #[.string s, .int .i64 (a : Int), .int .i64 (b : Int)] 242)).cell? ⟨w.heap.size, 1, none⟩ = some (.int .i64 (a : Int)) := by rw [cell_of_row _ _ _ _ _ _ hnew]; rfl
  have n2 : (w.alloc (.cells #[.string s, .int .i64 (a : Int), .int .i64 (b : Int)] 242)).cell? ⟨w.heap.size, 2, none⟩ = some (.int .i64 (b : Int)) := by rw [cell_of_row _ _ _ _ _ _ hnew]; rfl
  have c0 := (H.below hal).c0
  have HI := hide ((H.below hal).img)
  have HA := hide hal
  have mixed := mixedS
  have hsl := seg_len hab hb
  have i1 : ((a : Nat) : Int) ≤ ((b : Nat) : Int) := by omega
  clear H hal hnew
  go_enter Tryz.func291, Tryz.ntmps291
  go_wp2_with fail
  generalize (w.alloc (.cells #[.string s, .int .i64 (a : Int), .int .i64 (b : Int)] 242)) = W at *
  rcases (unhide HI).shape with ⟨hv, hI0⟩ | ⟨ib, ic, hv, _, _, hn, hm, hbt⟩
  · subst hv hI0
    have b0 : b = 0 := by simpa using hb
    have a0 : a = 0 := by omega
    subst b0 a0
    go_quiet (fail)
    go_wp2
    go_ret
    exact ⟨none, 0, by simp [seg], fun i hi => by simp [seg] at hi, fun _ => by simp [seg], (unhide HA).trans ⟨rfl, rfl, rfl, Nat.le_refl _, fun _ _ => rfl⟩⟩
  · subst hv
    have HBT := hide hbt
    clear hbt
    have i2 : ((b : Nat) : Int) ≤ ((ic : Nat) : Int) := by omega
    have i3 : b ≤ ic := by omega
    have hm2 : ic ≤ 9223372036854775807 := by unfold maxLen at hm; omega
    by_cases hq : ic = a
    · subst hq
      have b0 : b = ic := by omega
      subst b0
      go_quiet (fail)
      go_wp2
      go_ret
      exact ⟨_, _, by rw [hsl, Nat.sub_self]; rfl, (fun i hi => by rw [hsl] at hi; omega), (fun e => by cases e), (unhide HA).trans ⟨rfl, rfl, rfl, Nat.le_refl _, fun _ _ => rfl⟩⟩
    · go_quiet (fail)
      go_wp2
      go_ret
      exact ⟨_, _, by rw [hsl]; rfl, (BAt.segS (unhide HBT) hb hab), (fun e => by cases e), (unhide HA).trans ⟨rfl, rfl, rfl, Nat.le_refl _, fun _ _ => rfl⟩⟩
def GetPost (w : World) (I : List UInt8) (K : List Ke) (s : ByteArray) (e : Ending) (w' : World) : Prop := Below w.heap.size w w' ∧ ((e = .returned (.tuple #[.slice none 0 0, .int .i64 6]) ∧ nameB s = false) ∨ (e = .returned (.tuple #[.slice none 0 0, .int .i64 211]) ∧ nameB s = true ∧ hasN (kNm K) s = false) ∨ ∃ v x, e = .returned (.tuple #[v, .int .i64 0]) ∧ nameB s = true ∧ hasN (kNm K) s = true ∧ K[posN (kNm K) s]? = some x ∧ OwnB w' w.heap.size v (seg I x.fr x.to))
set_option maxHeartbeats 1000000 in
theorem GetS_any {w : World} {B g : Nat} {iv kv : Value} {I : List UInt8} {K : List Ke} (H : IsSt w B g iv kv I K) (hI : I.length ≤ 1048576) (hok : OkK K) (he : EnK I.length K) (s : ByteArray) (hs : s.size ≤ maxLen) :
    Calls Tryz.prog 283 #[.pointer (some ⟨g, 0, none⟩), .string s] w (GetPost w I K s) := by
  have HM := hide (isMadeS_yes H)
  have HN := hide (IsName_any s w hs)
  have HF := hide (find_anyS s w H hok.asc (by have := hok.few; omega))
  have HH := hide H
  clear H
  cases hn : nameB s
  · rw [hn] at HN
    go_enter Tryz.func283, Tryz.ntmps283
    go_wp2_with fail
    refine (unhide HM).mono ?_
    rintro e W ⟨rfl, hw⟩
    rw [hw]
    clear hw W HM
    go_wp2_with fail
    refine (unhide HN).mono ?_
    rintro e W ⟨rfl, hw⟩
    rw [hw]
    clear hw W HN
    go_wp2
    go_ret2
    exact ⟨Below.refl _ _, Or.inl ⟨rfl, hn⟩⟩
  · rw [hn] at HN
    cases hh : hasN (kNm K) s
    · rw [hh] at HF
      go_enter Tryz.func283, Tryz.ntmps283
      go_wp2_with fail
      refine (unhide HM).mono ?_
      rintro e W ⟨rfl, hw⟩
      rw [hw]
      clear hw W HM
      go_wp2_with fail
      refine (unhide HN).mono ?_
      rintro e W ⟨rfl, hw⟩
      rw [hw]
      clear hw W HN
      go_wp2_with fail
      refine (unhide HF).mono ?_
      rintro e W ⟨rfl, hb⟩
      have HB := hide hb
      clear hb HF
      go_wp2
      go_ret2
      exact ⟨unhide HB, Or.inr (Or.inl ⟨rfl, hn, hh⟩)⟩
    · rw [hh] at HF
      have hlt := has_lt hh
      rw [kNm_len] at hlt
      have hx := List.getElem?_eq_getElem hlt
      generalize K[posN (kNm K) s] = x at hx
      have HX := hide hx
      obtain ⟨h1, h2, h3, h4⟩ := he x (List.mem_of_getElem? hx)
      clear hx
      have hHX := hide (show ∀ p, p = posN (kNm K) s → K[p]? = some x from fun p e => by rw [e]; exact unhide HX)
      obtain ⟨p, hp⟩ : ∃ p, p = posN (kNm K) s := ⟨_, rfl⟩
      have HP := hide hp
      have HXp := hide (unhide hHX p hp)
      rw [← hp] at HF hlt
      clear hp hHX HX h4
      go_enter Tryz.func283, Tryz.ntmps283
      go_wp2_with fail
      refine (unhide HM).mono ?_
      rintro e W ⟨rfl, hw⟩
      rw [hw]
      clear hw W HM
      go_wp2_with fail
      refine (unhide HN).mono ?_
      rintro e W ⟨rfl, hw⟩
      rw [hw]
      clear hw W HN
      go_wp2_with fail
      refine (unhide HF).mono ?_
      rintro e W ⟨rfl, hb⟩
      have HB := hide hb
      have HS := hide ((unhide HH).below hb)
      clear hb HF
      have c1 := (unhide HS).c1
      obtain ⟨ka, kc, hkv, _, hat⟩ := (unhide HS).kep.at
      obtain ⟨b, hb, q0, q1, q2⟩ := hat p x (unhide HXp)
      subst hb
      rw [hkv] at c1
      have j1 : ((p : Nat) : Int) < ((K.length : Nat) : Int) := by omega
      have HBO := hide (bytesOf_any (unhide HS) hI x.nm x.fr x.to h1 h2)
      clear hat hkv
      go_wp2_with fail
      refine (unhide HBO).mono ?_
      rintro e W2 ⟨ao, c, rfl, hbt, hnil, hb2⟩
      have HC := hide (bytesClone_any ao c _ W2 hbt hnil (by rw [seg_len h1 h2]; omega))
      have HB2 := hide ((unhide HB).trans (hb2.mono (unhide HB).size))
      clear hbt hnil hb2 HBO
      obtain ⟨m, hm⟩ : ∃ m, m = seg I x.fr x.to := ⟨_, rfl⟩
      rw [← hm] at HC ⊢
      have HMq := hide hm
      clear hm
      go_wp2_with fail
      refine (unhide HC).mono ?_
      rintro e W3 ⟨v, rfl, hO, hb3, _⟩
      have HB3 := hide ((unhide HB2).trans (hb3.mono (unhide HB2).size))
      have HO := hide (hO.mono (unhide HB2).size)
      clear hO hb3 HC
      go_wp2
      go_ret2
      exact ⟨unhide HB3, Or.inr (Or.inr ⟨v, x, rfl, hn, hh, by rw [← unhide HP]; exact unhide HXp, by rw [← unhide HMq]; exact unhide HO⟩)⟩
end Go.Proofs.YtkiijdcpfbnacaaGreatDoor
