/-
  Contract of the law's 'again': where the bytes ahead of the reader are what was written, it tells true, and the reader has gone on over them. Conditions: what was written is what a writer takes.
-/
import Derived.Test.YtggaecmjadkopaaBack0
import Derived.Test.YtggaecmjadkopaaTake
import Derived.Test.YtggaecmjadkopaaLook2
namespace Go.Proofs.Ytggaecmjadkopaa
open Go.RowKit

def AgPost (w : World) (p g cap : Nat) (l : List UInt8) (k : Nat) (e : Ending) (w' : World) : Prop :=
  e = .returned (.bool true) ∧ IsReader w' p g cap l k ∧ Kept (fun b => b = p) w w'

theorem ag_kept {w w1 : World} {p : Nat} {o : Obj} (h : (w.alloc o).grownBy w1 (some p)) : Kept (fun b => b = p) w w1 :=
  (Kept.of_below ((Below.refl _ w).alloc (Nat.le_refl _) o) (fun _ => False)).trans (Kept.of_grown h) (fun _ _ h => h.elim) (fun _ _ e => by cases e; rfl)
theorem ag_keptD {w w1 : World} {p : Nat} (h : Kept (fun b => b = p) w w1) (j : Nat) : Kept (fun b => b = p) w (w1.drewN j) :=
  h.trans (Kept.of_below (belowD (Below.refl _ w1) j) (fun _ => False)) (fun _ _ h => h) (fun _ _ h => h.elim)

set_option maxHeartbeats 1000000 in
theorem again0 {w : World} {p g cap : Nat} {l rest : List UInt8} {k : Nat} (h : IsReader w p g cap l k) (x : WD) (ho : x.op = 0) (hk : x.ok) (hd : l.drop k = x.enc ++ rest) :
    Calls Try.prog 31 #[.pointer (some ⟨p, 0, none⟩), .agg #[.int .i64 (x.op : Int), .int .i64 x.n, .string x.nm, .slice x.so x.bs.length x.sc]] w (AgPost w p g cap l (k + x.enc.length)) := by
  have e0 : x.enc = be x.n 1 := by simp [WD.enc, ho]
  have hr : loN 1 ≤ x.n ∧ x.n ≤ hiN 1 := by
    obtain ⟨h0, h1, h2, _⟩ := hk
    exact h0 ho
  rw [e0] at hd ⊢
  rw [be_length, ho]
  obtain ⟨f1, f2, f3⟩ := num_back (by omega) hr.1 hr.2 hd
  have HV := hide f1
  have HE := hide f2
  have HK := hide f3
  have HR := hide (h.below ((Below.refl _ w).alloc (Nat.le_refl _) (.cells #[.int .i64 ((0 : Nat) : Int), .int .i64 x.n, .string x.nm, .slice x.so x.bs.length x.sc] 57)))
  have hpl := h.pl
  clear f1 f2 f3 hd hr hk e0 ho h
  go_enter Try.func31, Try.ntmps31
  go_wp2_with fail
  refine (Byte_u (unhide HR)).mono ?_
  rintro e w2 ⟨rfl, hR2, hG2⟩
  rw [unhide HV, unhide HE]
  rw [unhide HK] at hR2
  have c1 : w2.cell? ⟨w.heap.size, 1, none⟩ = some (.int .i64 x.n) := hG2.cell (by rw [cell_of_row _ _ _ _ _ _ (heap_alloc_new w _)]; rfl) (by
    intro e
    injection e with e
    have e : w.heap.size = p := e
    omega)
  have HK2 := hide (ag_kept hG2)
  have HR2 := hide hR2
  clear hG2 hR2 HV HE HK HR
  go_wp2
  go_ret
  exact ⟨rfl, unhide HR2, unhide HK2⟩

set_option maxHeartbeats 1000000 in
theorem again1 {w : World} {p g cap : Nat} {l rest : List UInt8} {k : Nat} (h : IsReader w p g cap l k) (x : WD) (ho : x.op = 1) (hk : x.ok) (hd : l.drop k = x.enc ++ rest) :
    Calls Try.prog 31 #[.pointer (some ⟨p, 0, none⟩), .agg #[.int .i64 (x.op : Int), .int .i64 x.n, .string x.nm, .slice x.so x.bs.length x.sc]] w (AgPost w p g cap l (k + x.enc.length)) := by
  have e0 : x.enc = be x.n 2 := by simp [WD.enc, ho]
  have hr : loN 2 ≤ x.n ∧ x.n ≤ hiN 2 := by
    obtain ⟨h0, h1, h2, _⟩ := hk
    exact h1 ho
  rw [e0] at hd ⊢
  rw [be_length, ho]
  obtain ⟨f1, f2, f3⟩ := num_back (by omega) hr.1 hr.2 hd
  have HV := hide f1
  have HE := hide f2
  have HK := hide f3
  have HR := hide (h.below ((Below.refl _ w).alloc (Nat.le_refl _) (.cells #[.int .i64 ((1 : Nat) : Int), .int .i64 x.n, .string x.nm, .slice x.so x.bs.length x.sc] 57)))
  have hpl := h.pl
  clear f1 f2 f3 hd hr hk e0 ho h
  go_enter Try.func31, Try.ntmps31
  go_wp2_with fail
  refine (Word_u (unhide HR)).mono ?_
  rintro e w2 ⟨rfl, hR2, hG2⟩
  rw [unhide HV, unhide HE]
  rw [unhide HK] at hR2
  have c1 : w2.cell? ⟨w.heap.size, 1, none⟩ = some (.int .i64 x.n) := hG2.cell (by rw [cell_of_row _ _ _ _ _ _ (heap_alloc_new w _)]; rfl) (by
    intro e
    injection e with e
    have e : w.heap.size = p := e
    omega)
  have HK2 := hide (ag_kept hG2)
  have HR2 := hide hR2
  clear hG2 hR2 HV HE HK HR
  go_wp2
  go_ret
  exact ⟨rfl, unhide HR2, unhide HK2⟩

set_option maxHeartbeats 1000000 in
theorem again2 {w : World} {p g cap : Nat} {l rest : List UInt8} {k : Nat} (h : IsReader w p g cap l k) (x : WD) (ho : x.op = 2) (hk : x.ok) (hd : l.drop k = x.enc ++ rest) :
    Calls Try.prog 31 #[.pointer (some ⟨p, 0, none⟩), .agg #[.int .i64 (x.op : Int), .int .i64 x.n, .string x.nm, .slice x.so x.bs.length x.sc]] w (AgPost w p g cap l (k + x.enc.length)) := by
  have e0 : x.enc = be x.n 4 := by simp [WD.enc, ho]
  have hr : loN 4 ≤ x.n ∧ x.n ≤ hiN 4 := by
    obtain ⟨h0, h1, h2, _⟩ := hk
    exact h2 ho
  rw [e0] at hd ⊢
  rw [be_length, ho]
  obtain ⟨f1, f2, f3⟩ := num_back (by omega) hr.1 hr.2 hd
  have HV := hide f1
  have HE := hide f2
  have HK := hide f3
  have HR := hide (h.below ((Below.refl _ w).alloc (Nat.le_refl _) (.cells #[.int .i64 ((2 : Nat) : Int), .int .i64 x.n, .string x.nm, .slice x.so x.bs.length x.sc] 57)))
  have hpl := h.pl
  clear f1 f2 f3 hd hr hk e0 ho h
  go_enter Try.func31, Try.ntmps31
  go_wp2_with fail
  refine (Long_u (unhide HR)).mono ?_
  rintro e w2 ⟨rfl, hR2, hG2⟩
  rw [unhide HV, unhide HE]
  rw [unhide HK] at hR2
  have c1 : w2.cell? ⟨w.heap.size, 1, none⟩ = some (.int .i64 x.n) := hG2.cell (by rw [cell_of_row _ _ _ _ _ _ (heap_alloc_new w _)]; rfl) (by
    intro e
    injection e with e
    have e : w.heap.size = p := e
    omega)
  have HK2 := hide (ag_kept hG2)
  have HR2 := hide hR2
  clear hG2 hR2 HV HE HK HR
  go_wp2
  go_ret
  exact ⟨rfl, unhide HR2, unhide HK2⟩

set_option maxHeartbeats 1000000 in
theorem again3 {w : World} {p g cap : Nat} {l rest : List UInt8} {k : Nat} (h : IsReader w p g cap l k) (x : WD) (ho : x.op = 3) (hb : BAt w x.so x.bs) (hd : l.drop k = x.enc ++ rest) :
    Calls Try.prog 31 #[.pointer (some ⟨p, 0, none⟩), .agg #[.int .i64 (x.op : Int), .int .i64 x.n, .string x.nm, .slice x.so x.bs.length x.sc]] w (AgPost w p g cap l (k + x.enc.length)) := by
  have e0 : x.enc = x.bs := by simp [WD.enc, ho]
  rw [e0] at hd ⊢
  have hfit : x.bs.length ≤ 140737488355328 := by
    have := len_of_drop hd
    have := h.fit
    omega
  rw [ho]
  obtain ⟨f1, f2, f3⟩ := take_back hd
  have HV := hide f1
  have HE := hide f2
  have HK := hide f3
  have hA := (Below.refl _ w).alloc (Nat.le_refl _) (.cells #[.int .i64 ((3 : Nat) : Int), .int .i64 x.n, .string x.nm, .slice x.so x.bs.length x.sc] 57)
  have HR := hide (h.below hA)
  have HB := hide (hb.below' hA)
  have hrow := h.row
  have hbn := hb.not_in h.row (row3_not _ _ _ _ _ _ rfl)
  have HN := hide hbn
  have hpl := h.pl
  clear f1 f2 f3 hd e0 ho h hA hb hrow hbn
  go_enter Try.func31, Try.ntmps31
  go_wp2_with fail
  refine (Take_u (unhide HR) x.bs.length).mono ?_
  rintro e w2 ⟨v, rfl, hO2, hR2, hG2⟩
  rw [unhide HE]
  rw [unhide HK] at hR2
  rw [unhide HV] at hO2
  have c1 : w2.cell? ⟨w.heap.size, 3, none⟩ = some (.slice x.so x.bs.length x.sc) := hG2.cell (by rw [cell_of_row _ _ _ _ _ _ (heap_alloc_new w _)]; rfl) (by
    intro e
    injection e with e
    have e : w.heap.size = p := e
    omega)
  have hb2 : BAt w2 x.so x.bs := (unhide HB).keep (Kept.of_grown hG2) (fun b off e hl e' => by cases e'; exact unhide HN _ off e hl rfl)
  obtain ⟨ao, c, rfl, hb1⟩ := hO2.at
  have HK2 := hide (ag_kept hG2)
  have HR2 := hide hR2
  clear hG2 hR2 HV HE HK HR HN HB hO2
  go_wp2_with fail
  refine (Equal_any ao x.so c x.sc x.bs x.bs w2 hb1 hb2 (by unfold maxLen; omega) (by unfold maxLen; omega)).mono ?_
  rintro e w4 ⟨rfl, j, rfl⟩
  rw [show (x.bs == x.bs) = true from by simp]
  go_wp2
  go_ret
  exact ⟨rfl, (unhide HR2).drewN _, ag_keptD (unhide HK2) _⟩

set_option maxHeartbeats 1000000 in
theorem again4 {w : World} {p g cap : Nat} {l rest : List UInt8} {k : Nat} (h : IsReader w p g cap l k) (x : WD) (ho : x.op = 4) (hk : x.ok) (hd : l.drop k = x.enc ++ rest) :
    Calls Try.prog 31 #[.pointer (some ⟨p, 0, none⟩), .agg #[.int .i64 (x.op : Int), .int .i64 x.n, .string x.nm, .slice x.so x.bs.length x.sc]] w (AgPost w p g cap l (k + x.enc.length)) := by
  have e0 : x.enc = nb x.nm := by simp [WD.enc, ho]
  have hr : nameB x.nm = true := hk.2.2.2.1 ho
  rw [e0] at hd ⊢
  rw [ho]
  obtain ⟨f1, f2, f3⟩ := name_back hr hd
  have HV : Hid ((⟨(nmL l k).toArray⟩ : ByteArray) = x.nm) := hide (by rw [f1])
  have HE := hide f2
  have HK := hide f3
  have HR := hide (h.below ((Below.refl _ w).alloc (Nat.le_refl _) (.cells #[.int .i64 ((4 : Nat) : Int), .int .i64 x.n, .string x.nm, .slice x.so x.bs.length x.sc] 57)))
  have hpl := h.pl
  clear f1 f2 f3 hd hr hk e0 ho h
  go_enter Try.func31, Try.ntmps31
  go_wp2_with fail
  refine (Name_u (unhide HR)).mono ?_
  rintro e w2 ⟨rfl, hR2, hG2⟩
  rw [unhide HV, unhide HE]
  rw [unhide HK] at hR2
  have c1 : w2.cell? ⟨w.heap.size, 2, none⟩ = some (.string x.nm) := hG2.cell (by rw [cell_of_row _ _ _ _ _ _ (heap_alloc_new w _)]; rfl) (by
    intro e
    injection e with e
    have e : w.heap.size = p := e
    omega)
  have HK2 := hide (ag_kept hG2)
  have HR2 := hide hR2
  clear hG2 hR2 HV HE HK HR
  go_wp2
  go_ret
  exact ⟨by simp, unhide HR2, unhide HK2⟩

theorem again_any {w : World} {p g cap : Nat} {l rest : List UInt8} {k : Nat} (h : IsReader w p g cap l k) (x : WD) (hb : BAt w x.so x.bs) (hk : x.ok) (hd : l.drop k = x.enc ++ rest) :
    Calls Try.prog 31 #[.pointer (some ⟨p, 0, none⟩), .agg #[.int .i64 (x.op : Int), .int .i64 x.n, .string x.nm, .slice x.so x.bs.length x.sc]] w (AgPost w p g cap l (k + x.enc.length)) := by
  have h5 := hk.2.2.2.2
  have hc : x.op = 0 ∨ x.op = 1 ∨ x.op = 2 ∨ x.op = 3 ∨ x.op = 4 := by omega
  rcases hc with hc | hc | hc | hc | hc
  · exact again0 h x hc hk hd
  · exact again1 h x hc hk hd
  · exact again2 h x hc hk hd
  · exact again3 h x hc hb hd
  · exact again4 h x hc hk hd
end Go.Proofs.Ytggaecmjadkopaa
