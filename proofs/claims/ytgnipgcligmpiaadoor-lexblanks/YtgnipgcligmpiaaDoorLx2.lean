/-
  Runs of characters: lex.runEnd, the reference's run and Blanks.
-/
import Derived.Test.YtgnipgcligmpiaaDoorLx1
namespace Go.Proofs.YtgnipgcligmpiaaDoor
open Go.RowKit
set_option maxRecDepth 20000

/-- Where the longest run of such bytes ends. -/
structure IsEnd (p : Int → Bool) (s : ByteArray) (i e : Nat) : Prop where
  ge : i ≤ e
  le : e ≤ s.size
  all : ∀ j, i ≤ j → j < e → p (bt s j) = true
  no : e < s.size → p (bt s e) = false
def enF (p : Int → Bool) (s : ByteArray) : Nat → Nat → Nat
  | 0, i => i
  | f + 1, i => if i < s.size ∧ p (bt s i) = true then enF p s f (i + 1) else i
def enD (p : Int → Bool) (s : ByteArray) (i : Nat) : Nat := enF p s (s.size - i) i
theorem enF_is {p : Int → Bool} {s : ByteArray} : ∀ (f i e : Nat), IsEnd p s i e → s.size ≤ i + f → enF p s f i = e
  | 0, i, e, h, hf => by
    have := h.ge
    have := h.le
    unfold enF
    omega
  | f + 1, i, e, h, hf => by
    unfold enF
    by_cases he : i = e
    · subst he
      rw [if_neg]
      rintro ⟨h1, h2⟩
      rw [h.no h1] at h2
      cases h2
    · have hlt : i < e := by have := h.ge; omega
      rw [if_pos ⟨by have := h.le; omega, h.all i (Nat.le_refl _) hlt⟩]
      exact enF_is f (i + 1) e ⟨hlt, h.le, fun j h1 h2 => h.all j (by omega) h2, h.no⟩ (by omega)
theorem enD_is {p : Int → Bool} {s : ByteArray} {i e : Nat} (h : IsEnd p s i e) : enD p s i = e := enF_is _ i e h (by omega)
theorem enF_end {p : Int → Bool} {s : ByteArray} : ∀ (f i : Nat), i ≤ s.size → s.size ≤ i + f → IsEnd p s i (enF p s f i)
  | 0, i, h1, h2 => ⟨Nat.le_refl _, h1, fun j a b => by unfold enF at b; omega, fun h => by unfold enF at h; omega⟩
  | f + 1, i, h1, h2 => by
    unfold enF
    by_cases hc : i < s.size ∧ p (bt s i) = true
    · rw [if_pos hc]
      have ih := enF_end (p := p) (s := s) f (i + 1) (by omega) (by omega)
      refine ⟨by have := ih.ge; omega, ih.le, fun j a b => ?_, ih.no⟩
      by_cases e : j = i
      · rw [e]; exact hc.2
      · exact ih.all j (by omega) b
    · rw [if_neg hc]
      refine ⟨Nat.le_refl _, h1, fun j a b => by omega, fun h => ?_⟩
      cases hb : p (bt s i) with
      | false => rfl
      | true => exact absurd ⟨h, hb⟩ hc
theorem enD_end {p : Int → Bool} {s : ByteArray} {i : Nat} (h : i ≤ s.size) : IsEnd p s i (enD p s i) := enF_end _ i h (by omega)
theorem ext_sz {s : ByteArray} {i e : Nat} (h : i ≤ e) (he : e ≤ s.size) : (s.extract i e).size = e - i := by rw [ByteArray.size_extract]; omega
theorem ext_bt {s : ByteArray} {i e j : Nat} (he : e ≤ s.size) (hj : i + j < e) : bt (s.extract i e) j = bt s (i + j) := by
  have h1 : j < (s.extract i e).size := by rw [ByteArray.size_extract]; omega
  have h2 : i + j < s.size := by omega
  unfold bt
  have g1 : (s.extract i e).get! j = (s.extract i e).data[j]! := rfl
  have g2 : s.get! (i + j) = s.data[i + j]! := rfl
  rw [g1, g2]
  have h3 : (s.extract i e).data[j]? = s.data[i + j]? := by
    rw [← Array.getElem?_toList, ← Array.getElem?_toList]
    simp
    rw [List.getElem?_take, if_pos (by omega), List.getElem?_drop, Array.getElem?_toList]
  rw [getElem!_def, getElem!_def, h3]

set_option maxRecDepth 20000 in
set_option maxHeartbeats 2000000 in
theorem runEndR_any (s : ByteArray) (i : Nat) (w : World) (hi : i ≤ s.size) (hs : s.size ≤ 140737488351232) :
    Calls Tryd.prog 17 #[.string s, .int .i64 (i : Int), .func (.func 18) #[] #[]] w fun e w' => e = .returned (.int .i64 ((enD rmC s i : Nat) : Int)) ∧ Below w.heap.size w w' := by
  obtain ⟨p, HP⟩ : ∃ p, Hid (rmC = p) := ⟨_, hide rfl⟩
  have HF : Hid (∀ (c : Int) (w : World), Calls Tryd.prog 18 #[.int .i32 c] w fun e w' => e = .returned (.bool (p c)) ∧ w' = w) := hide (by rw [← unhide HP]; exact lexRemark_any)
  have HV : Hid (∀ c, 128 ≤ c → p c = p 128) := hide (by rw [← unhide HP]; intro c hc; unfold rmC; simp; try omega)
  rw [unhide HP]
  have hts := ext_sz hi (Nat.le_refl s.size)
  have HBt := hide (fun j (hj : i + j < s.size) => ext_bt (s := s) (i := i) (Nat.le_refl s.size) hj)
  go_enter Tryd.func17, Tryd.ntmps17
  go_upto_region 2 with fail
  generalize hT : s.extract i s.size = T at HBt hts ⊢
  clear hT
  go_loopw [7] (fun _ wr => ∃ pos : Nat, pos ≤ T.size ∧ Hid (wr = w.iter T pos) ∧ Hid (∀ q, q < pos → p (bt T q) = true)) (fun _ wr => T.size - wr.iterPos w.heap.size)
  case atStart => exact ⟨0, by omega, hide rfl, hide (fun q h => by omega)⟩
  case round =>
    obtain ⟨pos, hpo, HW, HA⟩ := hrel
    have hwr := unhide HW
    subst hwr
    by_cases hp : pos < T.size
    · have hnx := fun ty => run_next_any (P := Tryd.prog) w T pos ty hp
      obtain ⟨hd1, hd2⟩ := dec_spec T pos hp
      have HD : Hid (p ((Utf8.decode T pos).1 : Int) = p (bt T pos : Int) ∧ 1 ≤ (Utf8.decode T pos).2 ∧ pos + (Utf8.decode T pos).2 ≤ T.size ∧ (p (bt T pos : Int) = true → ∀ q, q < pos + (Utf8.decode T pos).2 → p (bt T q) = true)) := hide (by
        rcases Nat.lt_or_ge (bt T pos) 128 with h | h
        · rw [hd1 h]
          refine ⟨rfl, Nat.le_refl _, by simp; omega, fun hh q hq => ?_⟩
          simp at hq
          by_cases e : q = pos
          · rw [e]; exact hh
          · exact unhide HA q (by omega)
        · obtain ⟨g1, _, g3, g4, g5⟩ := hd2 h
          have e1 := unhide HV ((Utf8.decode T pos).1 : Int) (by omega)
          have e2 := unhide HV (bt T pos : Int) (by omega)
          refine ⟨by rw [e1, e2], g3, g4, fun hh q hq => ?_⟩
          by_cases e : q < pos
          · exact unhide HA q e
          · have := unhide HV (bt T q : Int) (by have := g5 q (by omega) hq; omega)
            rw [this, ← e2]; exact hh)
      generalize Utf8.decode T pos = dd at hnx HD
      obtain ⟨cc, kk⟩ := dd
      simp only at hnx HD
      have HCl := hide (unhide HF (cc : Int) (w.iter T (pos + kk)))
      rw [(unhide HD).1] at HCl
      clear hd1 hd2
      cases hb : p (bt T pos : Int)
      · rw [hb] at HCl
        have HR : Hid (enD p s i = i + pos) := hide (enD_is ⟨by omega, by omega, fun j h1 h2 => by
          have h3 := unhide HA (j - i) (by omega)
          rw [unhide HBt (j - i) (by omega), show i + (j - i) = j from by omega] at h3
          exact h3, fun h => by rw [unhide HBt pos (by omega)] at hb; exact hb⟩)
        have hbel : Below w.heap.size w (w.iter T (pos + kk)) := (Below.refl _ _).alloc (Nat.le_refl _) _
        have HBl := hide hbel
        clear hb hbel
        go_wp2_with fail
        refine (unhide HCl).mono ?_
        rintro e w1 ⟨rfl, rfl⟩
        clear hnx
        go_wp2
        go_ret
        exact ⟨by rw [unhide HR]; exact ret_int (by push_cast; rfl), unhide HBl⟩
      · rw [hb] at HCl
        have HA2 := hide ((unhide HD).2.2.2 hb)
        have hk1 := (unhide HD).2.1
        have hk2 := (unhide HD).2.2.1
        clear hb
        go_wp2_with fail
        refine (unhide HCl).mono ?_
        rintro e w1 ⟨rfl, hw1⟩
        have HW1 := hide hw1
        clear hw1 hnx
        go_wp2
        go_roundw
        case rel => exact ⟨pos + kk, hk2, HW1, HA2⟩
        case measure => rw [unhide HW1]; simp; omega
    · have hnx := fun ty => run_next_end (P := Tryd.prog) w T pos ty hp
      have HR : Hid (enD p s i = s.size) := hide (enD_is ⟨hi, Nat.le_refl _, fun j h1 h2 => by
          have h3 := unhide HA (j - i) (by omega)
          rw [unhide HBt (j - i) (by omega), show i + (j - i) = j from by omega] at h3
          exact h3, fun h => by omega⟩)
      go_wp2
      go_ret
      exact ⟨by rw [unhide HR]; rfl, (Below.refl _ _).alloc (Nat.le_refl _) _⟩
set_option maxRecDepth 20000 in
set_option maxHeartbeats 2000000 in
theorem runEndW_any (s : ByteArray) (i : Nat) (w : World) (hi : i ≤ s.size) (hs : s.size ≤ 140737488351232) :
    Calls Tryd.prog 17 #[.string s, .int .i64 (i : Int), .func (.func 39) #[] #[]] w fun e w' => e = .returned (.int .i64 ((enD wdC s i : Nat) : Int)) ∧ Below w.heap.size w w' := by
  obtain ⟨p, HP⟩ : ∃ p, Hid (wdC = p) := ⟨_, hide rfl⟩
  have HF : Hid (∀ (c : Int) (w : World), Calls Tryd.prog 39 #[.int .i32 c] w fun e w' => e = .returned (.bool (p c)) ∧ w' = w) := hide (by rw [← unhide HP]; exact lexWord_any)
  have HV : Hid (∀ c, 128 ≤ c → p c = p 128) := hide (by rw [← unhide HP]; intro c hc; unfold wdC; unfold ltC dgC; simp; try omega)
  rw [unhide HP]
  have hts := ext_sz hi (Nat.le_refl s.size)
  have HBt := hide (fun j (hj : i + j < s.size) => ext_bt (s := s) (i := i) (Nat.le_refl s.size) hj)
  go_enter Tryd.func17, Tryd.ntmps17
  go_upto_region 2 with fail
  generalize hT : s.extract i s.size = T at HBt hts ⊢
  clear hT
  go_loopw [7] (fun _ wr => ∃ pos : Nat, pos ≤ T.size ∧ Hid (wr = w.iter T pos) ∧ Hid (∀ q, q < pos → p (bt T q) = true)) (fun _ wr => T.size - wr.iterPos w.heap.size)
  case atStart => exact ⟨0, by omega, hide rfl, hide (fun q h => by omega)⟩
  case round =>
    obtain ⟨pos, hpo, HW, HA⟩ := hrel
    have hwr := unhide HW
    subst hwr
    by_cases hp : pos < T.size
    · have hnx := fun ty => run_next_any (P := Tryd.prog) w T pos ty hp
      obtain ⟨hd1, hd2⟩ := dec_spec T pos hp
      have HD : Hid (p ((Utf8.decode T pos).1 : Int) = p (bt T pos : Int) ∧ 1 ≤ (Utf8.decode T pos).2 ∧ pos + (Utf8.decode T pos).2 ≤ T.size ∧ (p (bt T pos : Int) = true → ∀ q, q < pos + (Utf8.decode T pos).2 → p (bt T q) = true)) := hide (by
        rcases Nat.lt_or_ge (bt T pos) 128 with h | h
        · rw [hd1 h]
          refine ⟨rfl, Nat.le_refl _, by simp; omega, fun hh q hq => ?_⟩
          simp at hq
          by_cases e : q = pos
          · rw [e]; exact hh
          · exact unhide HA q (by omega)
        · obtain ⟨g1, _, g3, g4, g5⟩ := hd2 h
          have e1 := unhide HV ((Utf8.decode T pos).1 : Int) (by omega)
          have e2 := unhide HV (bt T pos : Int) (by omega)
          refine ⟨by rw [e1, e2], g3, g4, fun hh q hq => ?_⟩
          by_cases e : q < pos
          · exact unhide HA q e
          · have := unhide HV (bt T q : Int) (by have := g5 q (by omega) hq; omega)
            rw [this, ← e2]; exact hh)
      generalize Utf8.decode T pos = dd at hnx HD
      obtain ⟨cc, kk⟩ := dd
      simp only at hnx HD
      have HCl := hide (unhide HF (cc : Int) (w.iter T (pos + kk)))
      rw [(unhide HD).1] at HCl
      clear hd1 hd2
      cases hb : p (bt T pos : Int)
      · rw [hb] at HCl
        have HR : Hid (enD p s i = i + pos) := hide (enD_is ⟨by omega, by omega, fun j h1 h2 => by
          have h3 := unhide HA (j - i) (by omega)
          rw [unhide HBt (j - i) (by omega), show i + (j - i) = j from by omega] at h3
          exact h3, fun h => by rw [unhide HBt pos (by omega)] at hb; exact hb⟩)
        have hbel : Below w.heap.size w (w.iter T (pos + kk)) := (Below.refl _ _).alloc (Nat.le_refl _) _
        have HBl := hide hbel
        clear hb hbel
        go_wp2_with fail
        refine (unhide HCl).mono ?_
        rintro e w1 ⟨rfl, rfl⟩
        clear hnx
        go_wp2
        go_ret
        exact ⟨by rw [unhide HR]; exact ret_int (by push_cast; rfl), unhide HBl⟩
      · rw [hb] at HCl
        have HA2 := hide ((unhide HD).2.2.2 hb)
        have hk1 := (unhide HD).2.1
        have hk2 := (unhide HD).2.2.1
        clear hb
        go_wp2_with fail
        refine (unhide HCl).mono ?_
        rintro e w1 ⟨rfl, hw1⟩
        have HW1 := hide hw1
        clear hw1 hnx
        go_wp2
        go_roundw
        case rel => exact ⟨pos + kk, hk2, HW1, HA2⟩
        case measure => rw [unhide HW1]; simp; omega
    · have hnx := fun ty => run_next_end (P := Tryd.prog) w T pos ty hp
      have HR : Hid (enD p s i = s.size) := hide (enD_is ⟨hi, Nat.le_refl _, fun j h1 h2 => by
          have h3 := unhide HA (j - i) (by omega)
          rw [unhide HBt (j - i) (by omega), show i + (j - i) = j from by omega] at h3
          exact h3, fun h => by omega⟩)
      go_wp2
      go_ret
      exact ⟨by rw [unhide HR]; rfl, (Below.refl _ _).alloc (Nat.le_refl _) _⟩
set_option maxRecDepth 20000 in
set_option maxHeartbeats 2000000 in
theorem runEndD_any (s : ByteArray) (i : Nat) (w : World) (hi : i ≤ s.size) (hs : s.size ≤ 140737488351232) :
    Calls Tryd.prog 17 #[.string s, .int .i64 (i : Int), .func (.func 27) #[] #[]] w fun e w' => e = .returned (.int .i64 ((enD dgC s i : Nat) : Int)) ∧ Below w.heap.size w w' := by
  obtain ⟨p, HP⟩ : ∃ p, Hid (dgC = p) := ⟨_, hide rfl⟩
  have HF : Hid (∀ (c : Int) (w : World), Calls Tryd.prog 27 #[.int .i32 c] w fun e w' => e = .returned (.bool (p c)) ∧ w' = w) := hide (by rw [← unhide HP]; exact lexDigit_any)
  have HV : Hid (∀ c, 128 ≤ c → p c = p 128) := hide (by rw [← unhide HP]; intro c hc; unfold dgC; simp; try omega)
  rw [unhide HP]
  have hts := ext_sz hi (Nat.le_refl s.size)
  have HBt := hide (fun j (hj : i + j < s.size) => ext_bt (s := s) (i := i) (Nat.le_refl s.size) hj)
  go_enter Tryd.func17, Tryd.ntmps17
  go_upto_region 2 with fail
  generalize hT : s.extract i s.size = T at HBt hts ⊢
  clear hT
  go_loopw [7] (fun _ wr => ∃ pos : Nat, pos ≤ T.size ∧ Hid (wr = w.iter T pos) ∧ Hid (∀ q, q < pos → p (bt T q) = true)) (fun _ wr => T.size - wr.iterPos w.heap.size)
  case atStart => exact ⟨0, by omega, hide rfl, hide (fun q h => by omega)⟩
  case round =>
    obtain ⟨pos, hpo, HW, HA⟩ := hrel
    have hwr := unhide HW
    subst hwr
    by_cases hp : pos < T.size
    · have hnx := fun ty => run_next_any (P := Tryd.prog) w T pos ty hp
      obtain ⟨hd1, hd2⟩ := dec_spec T pos hp
      have HD : Hid (p ((Utf8.decode T pos).1 : Int) = p (bt T pos : Int) ∧ 1 ≤ (Utf8.decode T pos).2 ∧ pos + (Utf8.decode T pos).2 ≤ T.size ∧ (p (bt T pos : Int) = true → ∀ q, q < pos + (Utf8.decode T pos).2 → p (bt T q) = true)) := hide (by
        rcases Nat.lt_or_ge (bt T pos) 128 with h | h
        · rw [hd1 h]
          refine ⟨rfl, Nat.le_refl _, by simp; omega, fun hh q hq => ?_⟩
          simp at hq
          by_cases e : q = pos
          · rw [e]; exact hh
          · exact unhide HA q (by omega)
        · obtain ⟨g1, _, g3, g4, g5⟩ := hd2 h
          have e1 := unhide HV ((Utf8.decode T pos).1 : Int) (by omega)
          have e2 := unhide HV (bt T pos : Int) (by omega)
          refine ⟨by rw [e1, e2], g3, g4, fun hh q hq => ?_⟩
          by_cases e : q < pos
          · exact unhide HA q e
          · have := unhide HV (bt T q : Int) (by have := g5 q (by omega) hq; omega)
            rw [this, ← e2]; exact hh)
      generalize Utf8.decode T pos = dd at hnx HD
      obtain ⟨cc, kk⟩ := dd
      simp only at hnx HD
      have HCl := hide (unhide HF (cc : Int) (w.iter T (pos + kk)))
      rw [(unhide HD).1] at HCl
      clear hd1 hd2
      cases hb : p (bt T pos : Int)
      · rw [hb] at HCl
        have HR : Hid (enD p s i = i + pos) := hide (enD_is ⟨by omega, by omega, fun j h1 h2 => by
          have h3 := unhide HA (j - i) (by omega)
          rw [unhide HBt (j - i) (by omega), show i + (j - i) = j from by omega] at h3
          exact h3, fun h => by rw [unhide HBt pos (by omega)] at hb; exact hb⟩)
        have hbel : Below w.heap.size w (w.iter T (pos + kk)) := (Below.refl _ _).alloc (Nat.le_refl _) _
        have HBl := hide hbel
        clear hb hbel
        go_wp2_with fail
        refine (unhide HCl).mono ?_
        rintro e w1 ⟨rfl, rfl⟩
        clear hnx
        go_wp2
        go_ret
        exact ⟨by rw [unhide HR]; exact ret_int (by push_cast; rfl), unhide HBl⟩
      · rw [hb] at HCl
        have HA2 := hide ((unhide HD).2.2.2 hb)
        have hk1 := (unhide HD).2.1
        have hk2 := (unhide HD).2.2.1
        clear hb
        go_wp2_with fail
        refine (unhide HCl).mono ?_
        rintro e w1 ⟨rfl, hw1⟩
        have HW1 := hide hw1
        clear hw1 hnx
        go_wp2
        go_roundw
        case rel => exact ⟨pos + kk, hk2, HW1, HA2⟩
        case measure => rw [unhide HW1]; simp; omega
    · have hnx := fun ty => run_next_end (P := Tryd.prog) w T pos ty hp
      have HR : Hid (enD p s i = s.size) := hide (enD_is ⟨hi, Nat.le_refl _, fun j h1 h2 => by
          have h3 := unhide HA (j - i) (by omega)
          rw [unhide HBt (j - i) (by omega), show i + (j - i) = j from by omega] at h3
          exact h3, fun h => by omega⟩)
      go_wp2
      go_ret
      exact ⟨by rw [unhide HR]; rfl, (Below.refl _ _).alloc (Nat.le_refl _) _⟩
set_option maxRecDepth 20000 in
set_option maxHeartbeats 2000000 in
theorem runEndL_any (s : ByteArray) (i : Nat) (w : World) (hi : i ≤ s.size) (hs : s.size ≤ 140737488351232) :
    Calls Tryd.prog 17 #[.string s, .int .i64 (i : Int), .func (.func 25) #[] #[]] w fun e w' => e = .returned (.int .i64 ((enD ltC s i : Nat) : Int)) ∧ Below w.heap.size w w' := by
  obtain ⟨p, HP⟩ : ∃ p, Hid (ltC = p) := ⟨_, hide rfl⟩
  have HF : Hid (∀ (c : Int) (w : World), Calls Tryd.prog 25 #[.int .i32 c] w fun e w' => e = .returned (.bool (p c)) ∧ w' = w) := hide (by rw [← unhide HP]; exact lexLetter_any)
  have HV : Hid (∀ c, 128 ≤ c → p c = p 128) := hide (by rw [← unhide HP]; intro c hc; unfold ltC; simp; try omega)
  rw [unhide HP]
  have hts := ext_sz hi (Nat.le_refl s.size)
  have HBt := hide (fun j (hj : i + j < s.size) => ext_bt (s := s) (i := i) (Nat.le_refl s.size) hj)
  go_enter Tryd.func17, Tryd.ntmps17
  go_upto_region 2 with fail
  generalize hT : s.extract i s.size = T at HBt hts ⊢
  clear hT
  go_loopw [7] (fun _ wr => ∃ pos : Nat, pos ≤ T.size ∧ Hid (wr = w.iter T pos) ∧ Hid (∀ q, q < pos → p (bt T q) = true)) (fun _ wr => T.size - wr.iterPos w.heap.size)
  case atStart => exact ⟨0, by omega, hide rfl, hide (fun q h => by omega)⟩
  case round =>
    obtain ⟨pos, hpo, HW, HA⟩ := hrel
    have hwr := unhide HW
    subst hwr
    by_cases hp : pos < T.size
    · have hnx := fun ty => run_next_any (P := Tryd.prog) w T pos ty hp
      obtain ⟨hd1, hd2⟩ := dec_spec T pos hp
      have HD : Hid (p ((Utf8.decode T pos).1 : Int) = p (bt T pos : Int) ∧ 1 ≤ (Utf8.decode T pos).2 ∧ pos + (Utf8.decode T pos).2 ≤ T.size ∧ (p (bt T pos : Int) = true → ∀ q, q < pos + (Utf8.decode T pos).2 → p (bt T q) = true)) := hide (by
        rcases Nat.lt_or_ge (bt T pos) 128 with h | h
        · rw [hd1 h]
          refine ⟨rfl, Nat.le_refl _, by simp; omega, fun hh q hq => ?_⟩
          simp at hq
          by_cases e : q = pos
          · rw [e]; exact hh
          · exact unhide HA q (by omega)
        · obtain ⟨g1, _, g3, g4, g5⟩ := hd2 h
          have e1 := unhide HV ((Utf8.decode T pos).1 : Int) (by omega)
          have e2 := unhide HV (bt T pos : Int) (by omega)
          refine ⟨by rw [e1, e2], g3, g4, fun hh q hq => ?_⟩
          by_cases e : q < pos
          · exact unhide HA q e
          · have := unhide HV (bt T q : Int) (by have := g5 q (by omega) hq; omega)
            rw [this, ← e2]; exact hh)
      generalize Utf8.decode T pos = dd at hnx HD
      obtain ⟨cc, kk⟩ := dd
      simp only at hnx HD
      have HCl := hide (unhide HF (cc : Int) (w.iter T (pos + kk)))
      rw [(unhide HD).1] at HCl
      clear hd1 hd2
      cases hb : p (bt T pos : Int)
      · rw [hb] at HCl
        have HR : Hid (enD p s i = i + pos) := hide (enD_is ⟨by omega, by omega, fun j h1 h2 => by
          have h3 := unhide HA (j - i) (by omega)
          rw [unhide HBt (j - i) (by omega), show i + (j - i) = j from by omega] at h3
          exact h3, fun h => by rw [unhide HBt pos (by omega)] at hb; exact hb⟩)
        have hbel : Below w.heap.size w (w.iter T (pos + kk)) := (Below.refl _ _).alloc (Nat.le_refl _) _
        have HBl := hide hbel
        clear hb hbel
        go_wp2_with fail
        refine (unhide HCl).mono ?_
        rintro e w1 ⟨rfl, rfl⟩
        clear hnx
        go_wp2
        go_ret
        exact ⟨by rw [unhide HR]; exact ret_int (by push_cast; rfl), unhide HBl⟩
      · rw [hb] at HCl
        have HA2 := hide ((unhide HD).2.2.2 hb)
        have hk1 := (unhide HD).2.1
        have hk2 := (unhide HD).2.2.1
        clear hb
        go_wp2_with fail
        refine (unhide HCl).mono ?_
        rintro e w1 ⟨rfl, hw1⟩
        have HW1 := hide hw1
        clear hw1 hnx
        go_wp2
        go_roundw
        case rel => exact ⟨pos + kk, hk2, HW1, HA2⟩
        case measure => rw [unhide HW1]; simp; omega
    · have hnx := fun ty => run_next_end (P := Tryd.prog) w T pos ty hp
      have HR : Hid (enD p s i = s.size) := hide (enD_is ⟨hi, Nat.le_refl _, fun j h1 h2 => by
          have h3 := unhide HA (j - i) (by omega)
          rw [unhide HBt (j - i) (by omega), show i + (j - i) = j from by omega] at h3
          exact h3, fun h => by omega⟩)
      go_wp2
      go_ret
      exact ⟨by rw [unhide HR]; rfl, (Below.refl _ _).alloc (Nat.le_refl _) _⟩
end Go.Proofs.YtgnipgcligmpiaaDoor
