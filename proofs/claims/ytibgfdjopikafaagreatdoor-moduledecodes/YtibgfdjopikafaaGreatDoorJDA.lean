/-
  Texts of contracts and plain lemmas, one behind another; each says at its head what it holds.
-/
import Derived.Test.YtibgfdjopikafaaGreatDoorJWA
import Derived.Test.YtibgfdjopikafaaGreatDoorKTr1
import Derived.Test.YtibgfdjopikafaaGreatDoorKMd2
/-
  The reader of a module's file: must, byte, name, take, long, count, typeCode, hasCerts: what is read, or the fault with which it gives up. Conditions: none but that the reader is one.
-/
namespace Go.Proofs.YtibgfdjopikafaaGreatDoor
open Go.RowKit
set_option maxRecDepth 20000
set_option linter.unusedVariables false
set_option linter.unusedSimpArgs false

/-- What a call of the module's reader comes to, beside the plain parser r. -/
def RP (w : World) (p g cap : Nat) (l : List UInt8) {α : Type} (r : PR α) (f : α → Value → World → Prop) (e : Ending) (w' : World) : Prop :=
  (∃ x k' v, r = .ok (x, k') ∧ e = .returned v ∧ f x v w' ∧ IsReader w' p g cap l k' ∧ w.grownBy w' (some p)) ∨ (∃ (a : Nat) (er : Int), r = .error (a, er) ∧ e = .panicked [{ v := fltV (a : Int) er, recovered := false }] ∧ w.grownBy w' (some p))
theorem numV1 {l : List UInt8} {k : Nat} (h : ¬ l.length - k < 1) : numV l k 1 = (nmN l k : Int) := by
  have hk : k < l.length := by omega
  have e : (l.drop k).take 1 = [l[k]] := by rw [List.drop_eq_getElem_cons hk]; rfl
  rw [numV, if_neg h, if_neg (by omega), e]
  unfold nmN
  rw [List.getD_eq_getElem?_getD, List.getElem?_eq_getElem hk]
  simp [beN]
theorem numV2 {l : List UInt8} {k : Nat} (h : ¬ l.length - k < 2) : numV l k 2 = (woN l k : Int) := by
  have hk : k < l.length := by omega
  have hk1 : k + 1 < l.length := by omega
  have e : (l.drop k).take 2 = [l[k], l[k + 1]] := by rw [List.drop_eq_getElem_cons hk, List.drop_eq_getElem_cons hk1]; rfl
  rw [numV, if_neg h, if_neg (by omega), e]
  unfold woN nmN
  rw [List.getD_eq_getElem?_getD, List.getElem?_eq_getElem hk, List.getD_eq_getElem?_getD, List.getElem?_eq_getElem hk1]
  simp [beN]
  omega
theorem nmN_lt (l : List UInt8) (k : Nat) : nmN l k < 256 := by unfold nmN; exact UInt8.toNat_lt _

theorem rmust_ok (p n : Nat) (w : World) : Calls Tryz.prog 102 #[.agg #[.pointer (some ⟨p, 0, none⟩), .int .i64 (n : Int)], .int .i64 0] w fun e w' => e = .returned (.tuple #[]) ∧ Below w.heap.size w w' := by
  have al := (Below.refl w.heap.size w).alloc (Nat.le_refl _) (.cells #[.pointer (some ⟨p, 0, none⟩), .int .i64 (n : Int)] 112)
  have HB := hide al
  clear al
  go_enter Tryz.func102, Tryz.ntmps102
  go_wp2
  go_end0
  exact ⟨rfl, unhide HB⟩
theorem rmust_short (p n : Nat) (w : World) : Calls Tryz.prog 102 #[.agg #[.pointer (some ⟨p, 0, none⟩), .int .i64 (n : Int)], .int .i64 2] w fun e w' => e = .panicked [{ v := fltV (n : Int) 2, recovered := false }] ∧ Below w.heap.size w w' := by
  have al := (Below.refl w.heap.size w).alloc (Nat.le_refl _) (.cells #[.pointer (some ⟨p, 0, none⟩), .int .i64 (n : Int)] 112)
  have HB := hide al
  have HX : Hid (Bx (w.alloc (.cells #[.pointer (some ⟨p, 0, none⟩), .int .i64 (n : Int)] 112)) w.heap.size 112 #[.pointer (some ⟨p, 0, none⟩), .int .i64 (n : Int)]) := hide (heap_alloc_new w _)
  clear al
  go_enter Tryz.func102, Tryz.ntmps102
  go_upto_region 1 with fail
  generalize (w.alloc (.cells #[.pointer (some ⟨p, 0, none⟩), .int .i64 (n : Int)] 112)) = W1 at HB HX ⊢
  have k1 := (unhide HX).c 1 rfl
  go_wp2_with fail
  refine (GiveUp_any _ 2 W1).mono ?_
  rintro e W ⟨rfl, hw⟩
  rw [hw]
  exact ⟨rfl, rfl, unhide HB⟩
theorem rmust_bad {w : World} {p g cap n : Nat} {l : List UInt8} {k : Nat} (h : IsReader w p g cap l k) (x : Int) (h0 : x ≠ 0) (h2 : x ≠ 2) : Calls Tryz.prog 102 #[.agg #[.pointer (some ⟨p, 0, none⟩), .int .i64 (n : Int)], .int .i64 x] w fun e w' => e = .panicked [{ v := fltV (k : Int) x, recovered := false }] ∧ Below w.heap.size w w' := by
  have al := (Below.refl w.heap.size w).alloc (Nat.le_refl _) (.cells #[.pointer (some ⟨p, 0, none⟩), .int .i64 (n : Int)] 112)
  have HB := hide al
  have HX : Hid (Bx (w.alloc (.cells #[.pointer (some ⟨p, 0, none⟩), .int .i64 (n : Int)] 112)) w.heap.size 112 #[.pointer (some ⟨p, 0, none⟩), .int .i64 (n : Int)]) := hide (heap_alloc_new w _)
  have HR := hide (h.below al)
  have t0 : (x == 0) = false := beq_f h0
  have t2 : (x == 2) = false := beq_f h2
  clear al h h0 h2
  go_enter Tryz.func102, Tryz.ntmps102
  go_upto_region 1 with fail
  generalize (w.alloc (.cells #[.pointer (some ⟨p, 0, none⟩), .int .i64 (n : Int)] 112)) = W1 at HB HX HR ⊢
  have k0 := (unhide HX).c 0 rfl
  have k1 := (unhide HX).c 1 rfl
  go_wp2_with fail
  refine (At_any (unhide HR)).mono ?_
  rintro e W ⟨rfl, hw⟩
  rw [hw]
  clear hw W
  go_wp2_with fail
  refine (GiveUp_any _ x W1).mono ?_
  rintro e W ⟨rfl, hw⟩
  rw [hw]
  exact ⟨rfl, rfl, unhide HB⟩
theorem rbyte {w : World} {p g cap : Nat} {l : List UInt8} {k : Nat} (h : IsReader w p g cap l k) : Calls Tryz.prog 129 #[.agg #[.pointer (some ⟨p, 0, none⟩), .int .i64 (l.length : Int)]] w (RP w p g cap l (byP l k) (fun n v _ => v = .int .i64 (n : Int))) := by
  have al := (Below.refl w.heap.size w).alloc (Nat.le_refl _) (.cells #[.pointer (some ⟨p, 0, none⟩), .int .i64 (l.length : Int)] 112)
  have HX : Hid (Bx (w.alloc (.cells #[.pointer (some ⟨p, 0, none⟩), .int .i64 (l.length : Int)] 112)) w.heap.size 112 #[.pointer (some ⟨p, 0, none⟩), .int .i64 (l.length : Int)]) := hide (heap_alloc_new w _)
  have HR := hide (h.below al)
  have HG := hide (grown_of_below al (some p))
  have hpg : p ≠ w.heap.size := Nat.ne_of_lt h.pl
  have HZ : Hid (w.heap.size ≤ (w.alloc (.cells #[.pointer (some ⟨p, 0, none⟩), .int .i64 (l.length : Int)] 112)).heap.size) := hide (by simp)
  clear al h
  go_enter Tryz.func129, Tryz.ntmps129
  go_upto_region 1 with fail
  generalize (w.alloc (.cells #[.pointer (some ⟨p, 0, none⟩), .int .i64 (l.length : Int)] 112)) = W1 at HX HR HG HZ ⊢
  obtain ⟨gx, HGX⟩ : ∃ gx, Hid (w.heap.size = gx) := ⟨_, hide rfl⟩
  rw [unhide HGX] at HX hpg HZ ⊢
  have k0 := (unhide HX).c 0 rfl
  have HC := hide (Byte_u (unhide HR))
  go_wp2_with fail
  refine (unhide HC).mono ?_
  rintro e W2 ⟨rfl, hr2, hg2⟩
  have HX2 := hide ((unhide HX).grown hg2 (fun e => hpg (by injection e)))
  have HG2 := hide (grown_trans (unhide HG) hg2)

  by_cases hs : l.length - k < 1
  · have e1 : numE l k 1 = 2 := by rw [numE, if_pos hs]
    have HE : Hid (byP l k = .error (l.length, 2)) := hide (by rw [byP, if_pos hs])
    rw [e1]
    clear hr2 hg2 k0 HC HR HX HG e1 hs
    have k0 := (unhide HX2).c 0 rfl
    have k1 := (unhide HX2).c 1 rfl
    have HC := hide (rmust_short p l.length W2)
    go_wp2_with fail
    refine (unhide HC).mono ?_
    rintro e W3 ⟨rfl, hb⟩
    exact ⟨rfl, Or.inr ⟨_, _, unhide HE, rfl, grown_below_trans (unhide HG2) hb⟩⟩
  · have e1 : numE l k 1 = 0 := by rw [numE, if_neg hs]
    have HE : Hid (byP l k = .ok (nmN l k, k + 1)) := hide (by rw [byP, if_neg hs])
    have HR2 : Hid (IsReader W2 p g cap l (k + 1)) := hide (by rw [numK, if_neg hs] at hr2; exact hr2)
    rw [e1, numV1 hs]
    clear hr2 hg2 k0 HC HR HX HG e1 hs
    have k0 := (unhide HX2).c 0 rfl
    have k1 := (unhide HX2).c 1 rfl
    have HC := hide (rmust_ok p l.length W2)
    go_wp2_with fail
    refine (unhide HC).mono ?_
    rintro e W3 ⟨rfl, hb⟩
    have HR3 := hide ((unhide HR2).below hb)
    have HG3 := hide (grown_below_trans (unhide HG2) hb)
    clear hb HC k0 k1 HR2 HG2 HX2
    go_wp2
    go_ret
    exact Or.inl ⟨_, _, _, unhide HE, rfl, rfl, unhide HR3, unhide HG3⟩
theorem rname {w : World} {p g cap : Nat} {l : List UInt8} {k : Nat} (h : IsReader w p g cap l k) : Calls Tryz.prog 103 #[.agg #[.pointer (some ⟨p, 0, none⟩), .int .i64 (l.length : Int)]] w (RP w p g cap l (nmP l k) (fun s v _ => v = .string ⟨s.toArray⟩)) := by
  have al := (Below.refl w.heap.size w).alloc (Nat.le_refl _) (.cells #[.pointer (some ⟨p, 0, none⟩), .int .i64 (l.length : Int)] 112)
  have HX : Hid (Bx (w.alloc (.cells #[.pointer (some ⟨p, 0, none⟩), .int .i64 (l.length : Int)] 112)) w.heap.size 112 #[.pointer (some ⟨p, 0, none⟩), .int .i64 (l.length : Int)]) := hide (heap_alloc_new w _)
  have HR := hide (h.below al)
  have HG := hide (grown_of_below al (some p))
  have hpg : p ≠ w.heap.size := Nat.ne_of_lt h.pl
  have HZ : Hid (w.heap.size ≤ (w.alloc (.cells #[.pointer (some ⟨p, 0, none⟩), .int .i64 (l.length : Int)] 112)).heap.size) := hide (by simp)
  clear al h
  go_enter Tryz.func103, Tryz.ntmps103
  go_upto_region 1 with fail
  generalize (w.alloc (.cells #[.pointer (some ⟨p, 0, none⟩), .int .i64 (l.length : Int)] 112)) = W1 at HX HR HG HZ ⊢
  obtain ⟨gx, HGX⟩ : ∃ gx, Hid (w.heap.size = gx) := ⟨_, hide rfl⟩
  rw [unhide HGX] at HX hpg HZ ⊢
  have k0 := (unhide HX).c 0 rfl
  have HC := hide (Name_u (unhide HR))
  go_wp2_with fail
  refine (unhide HC).mono ?_
  rintro e W2 ⟨rfl, hr2, hg2⟩
  have HX2 := hide ((unhide HX).grown hg2 (fun e => hpg (by injection e)))
  have HG2 := hide (grown_trans (unhide HG) hg2)

  by_cases hs : nmE l k = 0
  · have HE : Hid (nmP l k = .ok (nmS l k, k + 1 + nmN l k)) := hide (by rw [nmP, if_pos hs])
    have HR2 : Hid (IsReader W2 p g cap l (k + 1 + nmN l k)) := hide (by rw [nmK, if_pos hs] at hr2; exact hr2)
    have e2 : nmL l k = nmS l k := by rw [nmL, if_pos hs]
    rw [hs, e2]
    clear hr2 hg2 k0 HC HR HX HG e2 hs
    have k0 := (unhide HX2).c 0 rfl
    have k1 := (unhide HX2).c 1 rfl
    have HC := hide (rmust_ok p l.length W2)
    go_wp2_with fail
    refine (unhide HC).mono ?_
    rintro e W3 ⟨rfl, hb⟩
    have HR3 := hide ((unhide HR2).below hb)
    have HG3 := hide (grown_below_trans (unhide HG2) hb)
    clear hb HC k0 k1 HR2 HG2 HX2
    go_wp2
    go_ret
    exact Or.inl ⟨_, _, _, unhide HE, rfl, rfl, unhide HR3, unhide HG3⟩
  by_cases h2 : nmE l k = 2
  · have HE : Hid (nmP l k = .error (l.length, 2)) := hide (by rw [nmP, if_neg hs, if_pos h2, h2])
    rw [h2]
    clear hr2 hg2 k0 HC HR HX HG hs h2
    have k0 := (unhide HX2).c 0 rfl
    have k1 := (unhide HX2).c 1 rfl
    have HC := hide (rmust_short p l.length W2)
    go_wp2_with fail
    refine (unhide HC).mono ?_
    rintro e W3 ⟨rfl, hb⟩
    exact ⟨rfl, Or.inr ⟨_, _, unhide HE, rfl, grown_below_trans (unhide HG2) hb⟩⟩
  · have HE : Hid (nmP l k = .error (k, nmE l k)) := hide (by rw [nmP, if_neg hs, if_neg h2])
    have HR2 : Hid (IsReader W2 p g cap l k) := hide (by rw [nmK, if_neg hs] at hr2; exact hr2)
    have HC' := hide (rmust_bad (n := l.length) (unhide HR2) (nmE l k) hs h2)
    clear hr2 hg2 k0 HC HR HX HG hs h2
    have k0 := (unhide HX2).c 0 rfl
    have k1 := (unhide HX2).c 1 rfl
    go_wp2_with fail
    refine (unhide HC').mono ?_
    rintro e W3 ⟨rfl, hb⟩
    exact ⟨rfl, Or.inr ⟨_, _, unhide HE, rfl, grown_below_trans (unhide HG2) hb⟩⟩
theorem rtake {w : World} {p g cap : Nat} {l : List UInt8} {k : Nat} (h : IsReader w p g cap l k) (n : Nat) (hn : n ≤ 9223372036854775807) : Calls Tryz.prog 70 #[.agg #[.pointer (some ⟨p, 0, none⟩), .int .i64 (l.length : Int)], .int .i64 (n : Int)] w (RP w p g cap l (biP n l k) (fun x v W => OwnB W w.heap.size v x)) := by
  have al := (Below.refl w.heap.size w).alloc (Nat.le_refl _) (.cells #[.pointer (some ⟨p, 0, none⟩), .int .i64 (l.length : Int)] 112)
  have HX : Hid (Bx (w.alloc (.cells #[.pointer (some ⟨p, 0, none⟩), .int .i64 (l.length : Int)] 112)) w.heap.size 112 #[.pointer (some ⟨p, 0, none⟩), .int .i64 (l.length : Int)]) := hide (heap_alloc_new w _)
  have HR := hide (h.below al)
  have HG := hide (grown_of_below al (some p))
  have hpg : p ≠ w.heap.size := Nat.ne_of_lt h.pl
  have HZ : Hid (w.heap.size ≤ (w.alloc (.cells #[.pointer (some ⟨p, 0, none⟩), .int .i64 (l.length : Int)] 112)).heap.size) := hide (by simp)
  clear al h
  go_enter Tryz.func70, Tryz.ntmps70
  go_upto_region 1 with fail
  generalize (w.alloc (.cells #[.pointer (some ⟨p, 0, none⟩), .int .i64 (l.length : Int)] 112)) = W1 at HX HR HG HZ ⊢
  obtain ⟨gx, HGX⟩ : ∃ gx, Hid (w.heap.size = gx) := ⟨_, hide rfl⟩
  rw [unhide HGX] at HX hpg HZ ⊢
  have k0 := (unhide HX).c 0 rfl
  have HC := hide (Take_u (unhide HR) (n : Int))
  go_wp2_with fail
  refine (unhide HC).mono ?_
  rintro e W2 ⟨v, rfl, ho2, hr2, hg2⟩
  have HX2 := hide ((unhide HX).grown hg2 (fun e => hpg (by injection e)))
  have HG2 := hide (grown_trans (unhide HG) hg2)

  by_cases hs : l.length - k < n
  · have i1 : ¬ ((n : Int) < 0) := by omega
    have i2 : ((l.length - k : Nat) : Int) < (n : Int) := by omega
    have e1 : takeE l k n = 2 := by rw [takeE, if_neg i1, if_pos i2]
    have HE : Hid (biP n l k = .error (l.length, 2)) := hide (by rw [biP, if_pos hs])
    rw [e1]
    clear hr2 hg2 k0 HC HR HX HG e1 hs i1 i2 ho2
    have k0 := (unhide HX2).c 0 rfl
    have k1 := (unhide HX2).c 1 rfl
    have HC := hide (rmust_short p l.length W2)
    go_wp2_with fail
    refine (unhide HC).mono ?_
    rintro e W3 ⟨rfl, hb⟩
    exact ⟨rfl, Or.inr ⟨_, _, unhide HE, rfl, grown_below_trans (unhide HG2) hb⟩⟩
  · have i1 : ¬ ((n : Int) < 0) := by omega
    have i2 : ¬ ((l.length - k : Nat) : Int) < (n : Int) := by omega
    have e1 : takeE l k n = 0 := by rw [takeE, if_neg i1, if_neg i2]
    have e2 : takeL l k n = (l.drop k).take n := by rw [takeL, if_neg i1, if_neg i2]; rfl
    have HE : Hid (biP n l k = .ok ((l.drop k).take n, k + n)) := hide (by rw [biP, if_neg hs])
    have HR2 : Hid (IsReader W2 p g cap l (k + n)) := hide (by rw [takeK, if_neg i1, if_neg i2] at hr2; exact hr2)
    have HO2 : Hid (OwnB W2 gx v ((l.drop k).take n)) := hide (by rw [e2] at ho2; exact ho2.mono (unhide HZ))
    rw [e1]
    clear hr2 hg2 k0 HC HR HX HG e1 hs i1 i2 ho2 e2
    have k0 := (unhide HX2).c 0 rfl
    have k1 := (unhide HX2).c 1 rfl
    have HC := hide (rmust_ok p l.length W2)
    go_wp2_with fail
    refine (unhide HC).mono ?_
    rintro e W3 ⟨rfl, hb⟩
    have HR3 := hide ((unhide HR2).below hb)
    have HO3 : Hid (OwnB W3 w.heap.size v ((l.drop k).take n)) := hide (by rw [unhide HGX]; exact (unhide HO2).below hb)
    have HG3 := hide (grown_below_trans (unhide HG2) hb)
    clear hb HC k0 k1 HR2 HG2 HX2 HO2
    go_wp2
    go_ret
    exact Or.inl ⟨_, _, _, unhide HE, rfl, unhide HO3, unhide HR3, unhide HG3⟩
end Go.Proofs.YtibgfdjopikafaaGreatDoor

/-
  The reader of a module's file: long, count, typeCode, hasCerts: what is read, or the fault with which it gives up. Conditions: none but that the reader is one.
-/
namespace Go.Proofs.YtibgfdjopikafaaGreatDoor
open Go.RowKit
set_option maxRecDepth 20000
set_option linter.unusedVariables false
set_option linter.unusedSimpArgs false

theorem woN_lt (l : List UInt8) (k : Nat) : woN l k < 65536 := by have := nmN_lt l k; have := nmN_lt l (k + 1); unfold woN; omega
theorem byP_lt {l : List UInt8} {k n k' : Nat} (h : byP l k = .ok (n, k')) : n < 256 := by
  unfold byP at h
  split at h
  · cases h
  · injection h with h
    injection h with h _
    have := nmN_lt l k
    omega
/-- Whether there are certificates behind so many functions. -/
def hcP (n : Nat) (L : List UInt8) (k : Nat) : PR Bool := bndP (byP L k) fun c k1 => if 1 < c ∨ (c = 1 ∧ n = 0) then .error (k, 162) else .ok (c == 1, k1)
theorem rlong {w : World} {p g cap : Nat} {l : List UInt8} {k : Nat} (h : IsReader w p g cap l k) : Calls Tryz.prog 108 #[.agg #[.pointer (some ⟨p, 0, none⟩), .int .i64 (l.length : Int)]] w (RP w p g cap l (loP l k) (fun x v W => OwnB W w.heap.size v x)) := by
  have al := (Below.refl w.heap.size w).alloc (Nat.le_refl _) (.cells #[.pointer (some ⟨p, 0, none⟩), .int .i64 (l.length : Int)] 112)
  have HX : Hid (Bx (w.alloc (.cells #[.pointer (some ⟨p, 0, none⟩), .int .i64 (l.length : Int)] 112)) w.heap.size 112 #[.pointer (some ⟨p, 0, none⟩), .int .i64 (l.length : Int)]) := hide (heap_alloc_new w _)
  have HR := hide (h.below al)
  have HG := hide (grown_of_below al (some p))
  have hpg : p ≠ w.heap.size := Nat.ne_of_lt h.pl
  have HZ : Hid (w.heap.size ≤ (w.alloc (.cells #[.pointer (some ⟨p, 0, none⟩), .int .i64 (l.length : Int)] 112)).heap.size) := hide (by simp)
  clear al h
  go_enter Tryz.func108, Tryz.ntmps108
  go_upto_region 1 with fail
  generalize (w.alloc (.cells #[.pointer (some ⟨p, 0, none⟩), .int .i64 (l.length : Int)] 112)) = W1 at HX HR HG HZ ⊢
  obtain ⟨gx, HGX⟩ : ∃ gx, Hid (w.heap.size = gx) := ⟨_, hide rfl⟩
  rw [unhide HGX] at HX hpg HZ ⊢
  have k0 := (unhide HX).c 0 rfl
  have HC := hide (Word_u (unhide HR))
  go_wp2_with fail
  refine (unhide HC).mono ?_
  rintro e W2 ⟨rfl, hr2, hg2⟩
  have HX2 := hide ((unhide HX).grown hg2 (fun e => hpg (by injection e)))
  have HG2 := hide (grown_trans (unhide HG) hg2)
  by_cases hs : l.length - k < 2
  · have e1 : numE l k 2 = 2 := by rw [numE, if_pos hs]
    have HE : Hid (loP l k = .error (l.length, 2)) := hide (by rw [loP, if_pos hs])
    rw [e1]
    clear hr2 hg2 k0 HC HR HX HG e1 hs
    have k0 := (unhide HX2).c 0 rfl
    have k1 := (unhide HX2).c 1 rfl
    have HC := hide (rmust_short p l.length W2)
    go_wp2_with fail
    refine (unhide HC).mono ?_
    rintro e W3 ⟨rfl, hb⟩
    exact ⟨rfl, Or.inr ⟨_, _, unhide HE, rfl, grown_below_trans (unhide HG2) hb⟩⟩
  have e1 : numE l k 2 = 0 := by rw [numE, if_neg hs]
  have HE : Hid (loP l k = biP (woN l k) l (k + 2)) := hide (by rw [loP, if_neg hs])
  have HR2 : Hid (IsReader W2 p g cap l (k + 2)) := hide (by rw [numK, if_neg hs] at hr2; exact hr2)
  have HZ2 : Hid (gx ≤ W2.heap.size) := hide (by have := hg2.size; have := unhide HZ; omega)
  rw [e1, numV2 hs]
  clear hr2 hg2 k0 HC HR HX HG e1 hs HZ
  have k0 := (unhide HX2).c 0 rfl
  have k1 := (unhide HX2).c 1 rfl
  have HC := hide (rmust_ok p l.length W2)
  go_wp2_with fail
  refine (unhide HC).mono ?_
  rintro e W3 ⟨rfl, hb⟩
  have HR3 := hide ((unhide HR2).below hb)
  have HX3 := hide ((unhide HX2).below hb)
  have HG3 := hide (grown_below_trans (unhide HG2) hb)
  have HZ3 : Hid (gx ≤ W3.heap.size) := hide (Nat.le_trans (unhide HZ2) hb.size)
  clear hb HC k0 k1 HR2 HG2 HX2 HZ2
  have k0 := (unhide HX3).c 0 rfl
  have k1 := (unhide HX3).c 1 rfl
  have HC := hide (rtake (unhide HR3) (woN l k) (by have := woN_lt l k; omega))
  go_wp2_with fail
  refine (unhide HC).mono ?_
  rintro e W4 (⟨x, k', v, h1, rfl, ho, hr, hg⟩ | ⟨a, er, h1, rfl, hg⟩)
  · have HE4 : Hid (loP l k = .ok (x, k')) := hide (by rw [unhide HE, h1])
    have HR4 := hide hr
    have HG4 := hide (grown_trans (unhide HG3) hg)
    have HO4 : Hid (OwnB W4 w.heap.size v x) := hide (by rw [unhide HGX]; exact ho.mono (unhide HZ3))
    clear h1 ho hr hg HC HR3 HG3 HX3 k0 k1
    go_wp2
    go_ret
    exact Or.inl ⟨_, _, _, unhide HE4, rfl, unhide HO4, unhide HR4, unhide HG4⟩
  · exact ⟨rfl, Or.inr ⟨_, _, by rw [unhide HE, h1], rfl, grown_trans (unhide HG3) hg⟩⟩
theorem rcount {w : World} {p g cap : Nat} {l : List UInt8} {k : Nat} (h : IsReader w p g cap l k) (most : Nat) : Calls Tryz.prog 104 #[.agg #[.pointer (some ⟨p, 0, none⟩), .int .i64 (l.length : Int)], .int .i64 (most : Int)] w (RP w p g cap l (coP most l k) (fun n v _ => v = .int .i64 (n : Int) ∧ n < 256)) := by
  have al := (Below.refl w.heap.size w).alloc (Nat.le_refl _) (.cells #[.pointer (some ⟨p, 0, none⟩), .int .i64 (l.length : Int)] 112)
  have HX : Hid (Bx (w.alloc (.cells #[.pointer (some ⟨p, 0, none⟩), .int .i64 (l.length : Int)] 112)) w.heap.size 112 #[.pointer (some ⟨p, 0, none⟩), .int .i64 (l.length : Int)]) := hide (heap_alloc_new w _)
  have HR := hide (h.below al)
  have HG := hide (grown_of_below al (some p))
  have hpg : p ≠ w.heap.size := Nat.ne_of_lt h.pl
  have HZ : Hid (w.heap.size ≤ (w.alloc (.cells #[.pointer (some ⟨p, 0, none⟩), .int .i64 (l.length : Int)] 112)).heap.size) := hide (by simp)
  clear al h
  go_enter Tryz.func104, Tryz.ntmps104
  go_upto_region 1 with fail
  generalize (w.alloc (.cells #[.pointer (some ⟨p, 0, none⟩), .int .i64 (l.length : Int)] 112)) = W1 at HX HR HG HZ ⊢
  obtain ⟨gx, HGX⟩ : ∃ gx, Hid (w.heap.size = gx) := ⟨_, hide rfl⟩
  rw [unhide HGX] at HX hpg HZ ⊢
  have k0 := (unhide HX).c 0 rfl
  have HC := hide (At_any (unhide HR))
  go_wp2_with fail
  refine (unhide HC).mono ?_
  rintro e W2 ⟨rfl, hw⟩
  rw [hw]
  clear hw W2 HC k0
  have k0 := (unhide HX).c 0 rfl
  have k1 := (unhide HX).c 1 rfl
  have HC := hide (rbyte (unhide HR))
  go_wp2_with fail
  refine (unhide HC).mono ?_
  rintro e W2 (⟨n, k', v, h1, rfl, rfl, hr, hg⟩ | ⟨a, er, h1, rfl, hg⟩)
  rotate_left
  · exact ⟨rfl, Or.inr ⟨_, _, by rw [coP, h1]; rfl, rfl, grown_trans (unhide HG) hg⟩⟩
  have HR2 := hide hr
  have HG2 := hide (grown_trans (unhide HG) hg)
  have hn := byP_lt h1
  have HX2 := hide ((unhide HX).grown hg (fun e => hpg (by injection e)))
  by_cases hb : most < n
  · have i1 : (n : Int) > (most : Int) := by omega
    have HE : Hid (coP most l k = .error (k, 4)) := hide (by rw [coP, h1]; show (if _ then _ else _) = _; rw [if_pos hb])
    clear h1 hr hg HC HR HG HX k0 k1 hb
    go_wp2_with fail
    refine (GiveUp_any (k : Int) 4 W2).mono ?_
    rintro e W ⟨rfl, hw⟩
    rw [hw]
    exact ⟨rfl, Or.inr ⟨_, _, unhide HE, rfl, unhide HG2⟩⟩
  · have i1 : ¬ (n : Int) > (most : Int) := by omega
    have HE : Hid (coP most l k = .ok (n, k')) := hide (by rw [coP, h1]; show (if _ then _ else _) = _; rw [if_neg hb])
    clear h1 hr hg HC HR HG HX k0 k1 hb
    go_wp2
    go_ret
    exact Or.inl ⟨_, _, _, unhide HE, rfl, ⟨rfl, hn⟩, unhide HR2, unhide HG2⟩
theorem rtype {w : World} {p g cap : Nat} {l : List UInt8} {k : Nat} (h : IsReader w p g cap l k) : Calls Tryz.prog 130 #[.agg #[.pointer (some ⟨p, 0, none⟩), .int .i64 (l.length : Int)]] w (RP w p g cap l (byP l k) (fun n v _ => v = .int .u8 (n : Int) ∧ n < 256)) := by
  have al := (Below.refl w.heap.size w).alloc (Nat.le_refl _) (.cells #[.pointer (some ⟨p, 0, none⟩), .int .i64 (l.length : Int)] 112)
  have HX : Hid (Bx (w.alloc (.cells #[.pointer (some ⟨p, 0, none⟩), .int .i64 (l.length : Int)] 112)) w.heap.size 112 #[.pointer (some ⟨p, 0, none⟩), .int .i64 (l.length : Int)]) := hide (heap_alloc_new w _)
  have HR := hide (h.below al)
  have HG := hide (grown_of_below al (some p))
  have hpg : p ≠ w.heap.size := Nat.ne_of_lt h.pl
  have HZ : Hid (w.heap.size ≤ (w.alloc (.cells #[.pointer (some ⟨p, 0, none⟩), .int .i64 (l.length : Int)] 112)).heap.size) := hide (by simp)
  clear al h
  go_enter Tryz.func130, Tryz.ntmps130
  go_upto_region 1 with fail
  generalize (w.alloc (.cells #[.pointer (some ⟨p, 0, none⟩), .int .i64 (l.length : Int)] 112)) = W1 at HX HR HG HZ ⊢
  obtain ⟨gx, HGX⟩ : ∃ gx, Hid (w.heap.size = gx) := ⟨_, hide rfl⟩
  rw [unhide HGX] at HX hpg HZ ⊢
  have k0 := (unhide HX).c 0 rfl
  have k1 := (unhide HX).c 1 rfl
  have HC := hide (rbyte (unhide HR))
  go_wp2_with fail
  refine (unhide HC).mono ?_
  rintro e W2 (⟨n, k', v, h1, rfl, rfl, hr, hg⟩ | ⟨a, er, h1, rfl, hg⟩)
  rotate_left
  · exact ⟨rfl, Or.inr ⟨_, _, h1, rfl, grown_trans (unhide HG) hg⟩⟩
  have HR2 := hide hr
  have HG2 := hide (grown_trans (unhide HG) hg)
  have hn := byP_lt h1
  have HX2 := hide ((unhide HX).grown hg (fun e => hpg (by injection e)))
  have hm : (n : Int) % 256 = (n : Int) := by omega
  have HE := hide h1
  clear h1 hr hg HC HR HG HX k0 k1
  go_wp2
  go_ret
  exact Or.inl ⟨_, _, _, unhide HE, rfl, ⟨rfl, hn⟩, unhide HR2, unhide HG2⟩
theorem rhas {w : World} {p g cap : Nat} {l : List UInt8} {k : Nat} (h : IsReader w p g cap l k) (m : Nat) : Calls Tryz.prog 107 #[.agg #[.pointer (some ⟨p, 0, none⟩), .int .i64 (l.length : Int)], .int .i64 (m : Int)] w (RP w p g cap l (hcP m l k) (fun b v _ => v = .bool b)) := by
  have al := (Below.refl w.heap.size w).alloc (Nat.le_refl _) (.cells #[.pointer (some ⟨p, 0, none⟩), .int .i64 (l.length : Int)] 112)
  have HX : Hid (Bx (w.alloc (.cells #[.pointer (some ⟨p, 0, none⟩), .int .i64 (l.length : Int)] 112)) w.heap.size 112 #[.pointer (some ⟨p, 0, none⟩), .int .i64 (l.length : Int)]) := hide (heap_alloc_new w _)
  have HR := hide (h.below al)
  have HG := hide (grown_of_below al (some p))
  have hpg : p ≠ w.heap.size := Nat.ne_of_lt h.pl
  have HZ : Hid (w.heap.size ≤ (w.alloc (.cells #[.pointer (some ⟨p, 0, none⟩), .int .i64 (l.length : Int)] 112)).heap.size) := hide (by simp)
  clear al h
  go_enter Tryz.func107, Tryz.ntmps107
  go_upto_region 1 with fail
  generalize (w.alloc (.cells #[.pointer (some ⟨p, 0, none⟩), .int .i64 (l.length : Int)] 112)) = W1 at HX HR HG HZ ⊢
  obtain ⟨gx, HGX⟩ : ∃ gx, Hid (w.heap.size = gx) := ⟨_, hide rfl⟩
  rw [unhide HGX] at HX hpg HZ ⊢
  have k0 := (unhide HX).c 0 rfl
  have HC := hide (At_any (unhide HR))
  go_wp2_with fail
  refine (unhide HC).mono ?_
  rintro e W2 ⟨rfl, hw⟩
  rw [hw]
  clear hw W2 HC k0
  have k0 := (unhide HX).c 0 rfl
  have k1 := (unhide HX).c 1 rfl
  have HC := hide (rbyte (unhide HR))
  go_wp2_with fail
  refine (unhide HC).mono ?_
  rintro e W2 (⟨n, k', v, h1, rfl, rfl, hr, hg⟩ | ⟨a, er, h1, rfl, hg⟩)
  rotate_left
  · exact ⟨rfl, Or.inr ⟨_, _, by rw [hcP, h1]; rfl, rfl, grown_trans (unhide HG) hg⟩⟩
  have HR2 := hide hr
  have HG2 := hide (grown_trans (unhide HG) hg)
  have hn := byP_lt h1
  have HX2 := hide ((unhide HX).grown hg (fun e => hpg (by injection e)))
  by_cases hb : 1 < n
  · have i1 : (n : Int) > 1 := by omega
    have HE : Hid (hcP m l k = .error (k, 162)) := hide (by rw [hcP, h1]; show (if _ then _ else _) = _; rw [if_pos (Or.inl hb)])
    clear h1 hr hg HC HR HG HX k0 k1 hb
    go_wp2_with fail
    refine (GiveUp_any (k : Int) 162 W2).mono ?_
    rintro e W ⟨rfl, hw⟩
    rw [hw]
    exact ⟨rfl, Or.inr ⟨_, _, unhide HE, rfl, unhide HG2⟩⟩
  have i1 : ¬ (n : Int) > 1 := by omega
  by_cases hn1 : n = 1
  · have j1 : ((n : Int) == 1) = true := beq_t (by omega)
    by_cases hm : m = 0
    · have j2 : ((m : Int) == 0) = true := beq_t (by omega)
      have HE : Hid (hcP m l k = .error (k, 162)) := hide (by rw [hcP, h1]; show (if _ then _ else _) = _; rw [if_pos (Or.inr ⟨hn1, hm⟩)])
      clear h1 hr hg HC HR HG HX k0 k1 hb hn1 hm
      go_wp2_with fail
      refine (GiveUp_any (k : Int) 162 W2).mono ?_
      rintro e W ⟨rfl, hw⟩
      rw [hw]
      exact ⟨rfl, Or.inr ⟨_, _, unhide HE, rfl, unhide HG2⟩⟩
    · have j2 : ((m : Int) == 0) = false := beq_f (by omega)
      have HE : Hid (hcP m l k = .ok (true, k')) := hide (by rw [hcP, h1]; show (if _ then _ else _) = _; rw [if_neg (by rintro (h | ⟨_, h⟩); exact hb h; exact hm h), hn1]; rfl)
      clear h1 hr hg HC HR HG HX k0 k1 hb hn1 hm
      go_wp2
      go_ret
      exact Or.inl ⟨_, _, _, unhide HE, rfl, rfl, unhide HR2, unhide HG2⟩
  · have j1 : ((n : Int) == 1) = false := beq_f (by omega)
    have HE : Hid (hcP m l k = .ok (false, k')) := hide (by
      rw [hcP, h1]; show (if _ then _ else _) = _; rw [if_neg (by rintro (h | ⟨h, _⟩); exact hb h; exact hn1 h)]
      have : (n == 1) = false := by simp [hn1]
      rw [this])
    clear h1 hr hg HC HR HG HX k0 k1 hb hn1
    go_wp2
    go_ret
    exact Or.inl ⟨_, _, _, unhide HE, rfl, rfl, unhide HR2, unhide HG2⟩
end Go.Proofs.YtibgfdjopikafaaGreatDoor

/-
  What a module's reader puts together: rows of fields, classes, functions and certificates in memory of their own. No Go in it.
-/
namespace Go.Proofs.YtibgfdjopikafaaGreatDoor
open Go.RowKit
set_option maxRecDepth 20000
set_option linter.unusedVariables false

theorem Bld.snoc {α : Type} {N : Nd α} {w2 w3 : World} {base : Nat} {v : Value} {M : List α} {y : α} {obj : Obj} {g3 cap3 : Nat} (h : Bld N w2 base v M) (hy : N.ok w2 y) (hlo : N.all (fun b => base ≤ b) y) (hyne : ∀ g, v.ownBlock = some g → N.all (fun b => b ≠ g) y) (hown : w3.ownsRow base N.t N.s (.slice (some ⟨g3, 0, none⟩) (M.length + 1) cap3) (M.length + 1) (vals N M ++ N.cells y)) (hg : (w2.alloc obj).grownBy w3 v.ownBlock) (hat : v.ownBlock = some g3 ∨ g3 = w2.heap.size + 1) : Bld N w3 base (.slice (some ⟨g3, 0, none⟩) (M.length + 1) cap3) (M ++ [y]) := by
  have hal : Below w2.heap.size w2 (w2.alloc obj) := (Below.refl _ _).alloc (Nat.le_refl _) _
  have hfar : ∀ x, N.ok (w2.alloc obj) x → (∀ g, v.ownBlock = some g → N.all (fun b => b ≠ g) x) → N.ok w3 x := fun x hx hne => by
    cases hv : v.ownBlock with
    | none => rw [hv] at hg; exact N.below hx ⟨hg.os, hg.tape, hg.output, hg.size, fun k hk => hg.block k hk (by simp)⟩
    | some g => rw [hv] at hg; exact N.far hx hg (hne g hv)
  have hne3 : ∀ x, N.ok w2 x → (∀ g, v.ownBlock = some g → N.all (fun b => b ≠ g) x) → N.all (fun b => b ≠ g3) x := fun x hx hne => by
    rcases hat with e | e
    · exact hne g3 e
    · exact N.mono (fun b hb => by omega) (N.lt hx)
  refine ⟨?_, ?_, ?_, ?_⟩
  · rw [vals_snoc, List.length_append]; exact hown
  · intro x hx
    rcases List.mem_append.1 hx with hx | hx
    · exact hfar x (N.below (h.ok x hx) hal) (fun g e => h.ne g e x hx)
    · rw [List.mem_singleton] at hx
      subst hx
      exact hfar x (N.below hy hal) hyne
  · intro x hx
    rcases List.mem_append.1 hx with hx | hx
    · exact h.lo x hx
    · rw [List.mem_singleton] at hx
      subst hx
      exact hlo
  · intro g e x hx
    have e' : g3 = g := by injection e
    subst e'
    rcases List.mem_append.1 hx with hx | hx
    · exact hne3 x (h.ok x hx) (fun g e => h.ne g e x hx)
    · rw [List.mem_singleton] at hx
      subst hx
      exact hne3 x hy hyne
/-- What is built, with its capacity. -/
theorem Bld.outC {α : Type} {N : Nd α} {W : World} {base : Nat} {v : Value} {M : List α} (h : Bld N W base v M) : ∃ ao cap, v = .slice ao M.length cap ∧ RowAt N W ao M ∧ RowAll N (fun b => base ≤ b) ao M ∧ (ao = none → M = [] ∧ cap = 0) ∧ M.length ≤ cap := by
  obtain ⟨ao, cap, e, h1, h2, h3⟩ := h.out
  rcases h.own.2 with ⟨e1, e2⟩ | ⟨g, c2, cur, e1, _, _, hn, _⟩
  · rw [e1] at e
    injection e with e3 e4 e5
    exact ⟨ao, cap, by rw [e1, ← e3, ← e4, ← e5], h1, h2, fun _ => ⟨h3 e3.symm, e5.symm⟩, by omega⟩
  · rw [e1] at e
    injection e with e3 e4 e5
    refine ⟨ao, cap, by rw [e1, ← e3, ← e5], h1, h2, fun e6 => ?_, by omega⟩
    rw [e6] at e3; cases e3
/-- The row's block is none of its things'. -/
def NeRow {α : Type} (N : Nd α) (ao : Option Addr) (M : List α) : Prop := ∀ b off, ao = some ⟨b, off, none⟩ → ∀ x ∈ M, N.all (fun q => q ≠ b) x
theorem Bld.neOut {α : Type} {N : Nd α} {W : World} {base : Nat} {ao : Option Addr} {n cap : Nat} {M : List α} (h : Bld N W base (.slice ao n cap) M) : NeRow N ao M := fun b off e x hx => by
  subst e
  exact h.ne b rfl x hx
/-! FIELDS -/
def flN : Nd Fl where
  t := 83
  s := 2
  cells := fun f => [.string f.nm, .int .u8 (f.ty : Int)]
  ok := fun _ f => f.nm.size ≤ 140737488351232 ∧ f.ty < 256
  all := fun _ _ => True
  pos := by decide
  len := fun _ => rfl
  below := fun h _ => h
  far := fun h _ _ => h
  lt := fun _ => trivial
  mono := fun _ _ => trivial
theorem fs_of_row {W : World} {fo : Option Addr} {fs : List Fl} (h : RowAt flN W fo fs) : FsAt W fo fs := fun i f hf => by
  obtain ⟨b, off, e, h1, h2, h3⟩ := h i f hf
  exact ⟨b, off, e, h1 0 _ rfl, h1 1 _ rfl, h2, h3⟩
/-! CLASSES -/
structure COk (x : Cl) : Prop where
  nil : x.fo = none → x.fs = [] ∧ x.fc = 0
  cap : x.fs.length ≤ x.fc
  fit : x.fs.length * 24 ≤ 140737488351232
  name : x.nm.size ≤ 140737488351232
  par : -9223372036854775808 ≤ x.par ∧ x.par ≤ 9223372036854775807
def clN : Nd Cl where
  t := 80
  s := 3
  cells := fun x => [.string x.nm, .int .i64 x.par, .slice x.fo x.fs.length x.fc]
  ok := fun W x => COk x ∧ RowAt flN W x.fo x.fs
  all := fun P x => RowAll flN P x.fo x.fs
  pos := by decide
  len := fun _ => rfl
  below := fun h hb => ⟨h.1, h.2.below hb⟩
  far := fun h hg hn => ⟨h.1, h.2.far hg hn⟩
  lt := fun h => h.2.lt
  mono := fun hq h => h.mono hq
theorem tab_of_row {W : World} {ao : Option Addr} {T : List Cl} (h : RowAt clN W ao T) : TabAt W ao T := fun i x hx => by
  obtain ⟨b, off, e, h1, h2, h3⟩ := h i x hx
  exact ⟨b, off, e, h1 0 _ rfl, h1 1 _ rfl, h1 2 _ rfl, fs_of_row h3, h2.nil, h2.cap, h2.fit, h2.name, h2.par⟩
/-! BYTES, FUNCTIONS, CERTIFICATES -/
def BlkOf (P : Nat → Prop) (ao : Option Addr) (n : Nat) : Prop := ∀ b off, ao = some ⟨b, off, none⟩ → 0 < n → P b
theorem bat_far {W W' : World} {k : Nat} {ao : Option Addr} {l : List UInt8} (h : BAt W ao l) (hg : W.grownBy W' (some k)) (hn : BlkOf (fun b => b ≠ k) ao l.length) : BAt W' ao l := fun i hi => by
  obtain ⟨b, off, e, hc⟩ := h i hi
  exact ⟨b, off, e, (hg.cell_far ⟨b, off + i, none⟩ (World.block_lt_of_cell? W _ hc) (fun e2 => hn b off e (by omega) (by injection e2))).trans hc⟩
theorem bat_lt {W : World} {ao : Option Addr} {l : List UInt8} (h : BAt W ao l) : BlkOf (fun b => b < W.heap.size) ao l.length := fun b off e hl => by
  obtain ⟨b', off', e', hc⟩ := h 0 hl
  rw [e] at e'
  injection e' with e'
  injection e' with e1 _
  subst e1
  exact World.block_lt_of_cell? W _ hc
theorem pat_far {W W' : World} {k : Nat} {ao : Option Addr} {l : List Nat} (h : PAt W ao l) (hg : W.grownBy W' (some k)) (hn : BlkOf (fun b => b ≠ k) ao l.length) : PAt W' ao l := fun i t ht => by
  obtain ⟨b, off, e, hc⟩ := h i t ht
  have hi := (List.getElem?_eq_some_iff.1 ht).1
  exact ⟨b, off, e, (hg.cell_far ⟨b, off + i, none⟩ (World.block_lt_of_cell? W _ hc) (fun e2 => hn b off e (by omega) (by injection e2))).trans hc⟩
theorem pat_lt {W : World} {ao : Option Addr} {l : List Nat} (h : PAt W ao l) : BlkOf (fun b => b < W.heap.size) ao l.length := fun b off e hl => by
  obtain ⟨b', off', e', hc⟩ := h 0 _ (List.getElem?_eq_getElem hl)
  rw [e] at e'
  injection e' with e'
  injection e' with e1 _
  subst e1
  exact World.block_lt_of_cell? W _ hc
theorem BlkOf.mono {P Q : Nat → Prop} {ao : Option Addr} {n : Nat} (hq : ∀ b, P b → Q b) (h : BlkOf P ao n) : BlkOf Q ao n := fun b off e hn => hq b (h b off e hn)
/-- The block is a row of bytes, and none of it is frozen. -/
def Pl (W : World) (ao : Option Addr) (n : Nat) : Prop := ∀ b off, ao = some ⟨b, off, none⟩ → 0 < n → ∃ cur, W.heap[b]? = some (.cells cur 5)
theorem Pl.below {W W' : World} {ao : Option Addr} {n : Nat} (h : Pl W ao n) (hb : Below W.heap.size W W') : Pl W' ao n := fun b off e hn => by
  obtain ⟨cur, hc⟩ := h b off e hn
  exact ⟨cur, (hb.block b (Array.getElem?_eq_some_iff.1 hc).1).trans hc⟩
theorem Pl.far {W W' : World} {k : Nat} {ao : Option Addr} {n : Nat} (h : Pl W ao n) (hg : W.grownBy W' (some k)) (hn : BlkOf (fun b => b ≠ k) ao n) : Pl W' ao n := fun b off e hl => by
  obtain ⟨cur, hc⟩ := h b off e hl
  exact ⟨cur, (hg.block b (Array.getElem?_eq_some_iff.1 hc).1 (fun e2 => hn b off e hl (by cases e2; rfl))).trans hc⟩
theorem own_pl {W : World} {base : Nat} {ao : Option Addr} {n c : Nat} {x : List UInt8} (h : OwnB W base (.slice ao n c) x) : Pl W ao n := fun b off e hn => by
  rcases h.2 with ⟨h1, _⟩ | ⟨g, cap, cur, hv, _, hh, _⟩
  · injection h1 with h1 h2
    subst h2
    omega
  · injection hv with hv _
    rw [e] at hv
    injection hv with hv
    injection hv with hv _
    subst hv
    exact ⟨cur, hh⟩
def fnN : Nd Fn where
  t := 44
  s := 5
  cells := fun x => [.string x.nm, .slice x.sg.po x.sg.ps.length x.sg.pc, .int .u8 (x.sg.rt : Int), .int .i64 x.lo, .slice x.ca x.cd.length x.cc]
  ok := fun W x => FnOk W x ∧ Pl W x.ca x.cd.length
  all := fun P x => BlkOf P x.sg.po x.sg.ps.length ∧ BlkOf P x.ca x.cd.length
  pos := by decide
  len := fun _ => rfl
  below := fun h hb => ⟨h.1.below hb, h.2.below hb⟩
  far := fun h hg hn => ⟨⟨⟨pat_far h.1.sg.prm hg hn.1, h.1.sg.nil, h.1.sg.bts, h.1.sg.fit, h.1.sg.res⟩, bat_far h.1.code hg hn.2, h.1.nil, h.1.fit, h.1.name, h.1.loc⟩, h.2.far hg hn.2⟩
  lt := fun h => ⟨pat_lt h.1.sg.prm, bat_lt h.1.code⟩
  mono := fun hq h => ⟨h.1.mono hq, h.2.mono hq⟩
theorem fns_of_row {W : World} {ao : Option Addr} {L : List Fn} (h : RowAt fnN W ao L) : FnsAt W ao L := fun i x hx => by
  obtain ⟨b, off, e, h1, h2⟩ := h i x hx
  exact ⟨b, off, e, h1 0 _ rfl, h1 1 _ rfl, h1 2 _ rfl, h1 3 _ rfl, h1 4 _ rfl, h2.1⟩
structure BsOk (W : World) (x : Bs) : Prop where
  code : BAt W x.ca x.cd
  nil : x.ca = none → x.cd = [] ∧ x.cc = 0
  fit : x.cd.length ≤ 140737488351232
  pl : Pl W x.ca x.cd.length
def bsN : Nd Bs where
  t := 28
  s := 1
  cells := fun x => [.slice x.ca x.cd.length x.cc]
  ok := BsOk
  all := fun P x => BlkOf P x.ca x.cd.length
  pos := by decide
  len := fun _ => rfl
  below := fun h hb => ⟨h.code.below' hb, h.nil, h.fit, h.pl.below hb⟩
  far := fun h hg hn => ⟨bat_far h.code hg hn, h.nil, h.fit, h.pl.far hg hn⟩
  lt := fun h => bat_lt h.code
  mono := fun hq h => h.mono hq
theorem bss_of_row {W : World} {ao : Option Addr} {L : List Bs} (h : RowAt bsN W ao L) : BssAt W ao L := fun i x hx => by
  obtain ⟨b, off, e, h1, h2⟩ := h i x hx
  have h1 : W.rangeAt b (off + i * 1) [.slice x.ca x.cd.length x.cc] := h1
  rw [Nat.mul_one] at h1
  exact ⟨b, off, e, h1 0 _ rfl, h2.code, fun e => (h2.nil e).1, h2.fit⟩
end Go.Proofs.YtibgfdjopikafaaGreatDoor
