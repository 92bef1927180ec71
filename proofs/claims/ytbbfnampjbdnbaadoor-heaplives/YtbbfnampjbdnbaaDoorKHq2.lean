/-
  Contracts of the heap's object, at, Get, Put, Len, Class and Used. Conditions: the heap is one that calls made.
-/
import Derived.Test.YtbbfnampjbdnbaaDoorKHq1
namespace Go.Proofs.YtbbfnampjbdnbaaDoor
open Go.RowKit
set_option maxRecDepth 20000

theorem results_obC {fn : Func} {q u : Tmp} (h : fn.results = #[.cell q 83, .tmp u]) (tmps : Array Value) (W : World) (g : Nat) (v x0 x1 x2 : Value) (hp : tmps.getD q undef = .pointer (some ⟨g, 0, none⟩)) (hu : tmps.getD u undef = v) (hg : Bx W g 83 #[x0, x1, x2]) :
    (results fn tmps).run Tryd.prog W = .ok (.tuple #[.agg #[x0, x1, x2], v]) W := by
  rw [results_cell_tmp h, hp, hu, run_addrH, Result.andThen_ok, run_loadVar_row W g 83 83 #[x0, x1, x2] (0, 0) _ hg Tryd.underlying83 rfl (by kernel_rfl), Result.andThen_ok]
/-- What is answered as the object of a reference. -/
def ObIs (O : List Ob) (ref r c : Int) (a : Option Addr) (n cp : Nat) (er : Int) : Prop :=
  (er = 0 ∧ ∃ o, objD O ref = some o ∧ o ∈ O ∧ ref = o.ref ∧ r = o.ref ∧ c = o.cls ∧ a = some ⟨o.pb, 0, none⟩ ∧ n = o.ps.length ∧ cp = o.ps.length) ∨
  (objD O ref = none ∧ r = 0 ∧ c = 0 ∧ a = none ∧ n = 0 ∧ cp = 0 ∧ ((er = 140 ∧ ref = 0) ∨ (er = 141 ∧ ref ≠ 0)))
set_option maxHeartbeats 1000000 in
theorem object_any (B g : Nat) (h : Hm) (ref : Int) (w : World) (H : HpAt B w g h) (hok : HmOk h) : Calls Tryd.prog 47 #[.pointer (some ⟨g, 0, none⟩), .int .i64 ref] w fun e w' => (∃ r c a n cp er, e = .returned (.tuple #[.agg #[.int .i64 r, .int .i64 c, .slice a n cp], .int .i64 er]) ∧ ObIs h.O ref r c a n cp er) ∧ Below w.heap.size w w' := by
  have al := (Below.refl w.heap.size w).alloc (Nat.le_refl _) (.cells #[.int .i64 0, .int .i64 0, .slice none 0 0] 83)
  have HB := hide al
  have HO : Hid (Bx (w.alloc (.cells #[.int .i64 0, .int .i64 0, .slice none 0 0] 83)) w.heap.size 83 #[.int .i64 0, .int .i64 0, .slice none 0 0]) := hide (heap_alloc_new w _)
  have HH := hide (H.below al)
  have HK := hide hok
  clear H hok al
  go_enter Tryd.func47, Tryd.ntmps47
  go_upto_region 1 with fail
  generalize (w.alloc (.cells #[.int .i64 0, .int .i64 0, .slice none 0 0] 83)) = W1 at HB HO HH ⊢
  go_wp2_with fail
  refine (isMade_yes B g h W1 (unhide HH)).mono ?_
  rintro e W ⟨rfl, hw⟩
  rw [hw]
  clear hw W
  by_cases h0 : ref = 0
  · have t0 : (ref == 0) = true := by simp [h0]
    have HNO : Hid (objD h.O ref = none ∧ ref = 0) := hide ⟨obj_none (fun o ho => by have := ((unhide HK).refs o ho).1; omega), h0⟩
    clear h0
    have HO2 : Hid (Bx (W1.setRow w.heap.size #[.int .i64 0, .int .i64 0, .slice none 0 0]) w.heap.size 83 #[.int .i64 0, .int .i64 0, .slice none 0 0]) := hide (setRow_heap _ _ _ _ _ _ (unhide HO))
    have HB2 : Hid (Below w.heap.size w (W1.setRow w.heap.size #[.int .i64 0, .int .i64 0, .slice none 0 0])) := hide (below_row (unhide HB) (Nat.le_refl _) _)
    go_wp2_with (refine wpList_store_row rfl 83 _ _ rfl w.heap.size #[.int .i64 0, .int .i64 0, .slice none 0 0] rfl rfl 83 #[.int .i64 0, .int .i64 0, .slice none 0 0] (unhide HO) (by kernel_rfl) rfl (by simp [Value.oneCell']) ?_)
    exact bodyPost_ret (v := .tuple #[.agg #[.int .i64 0, .int .i64 0, .slice none 0 0], .int .i64 140]) (results_obC rfl _ _ w.heap.size _ _ _ _ rfl rfl (unhide HO2)) rfl ⟨⟨0, 0, none, 0, 0, 140, rfl, Or.inr ⟨(unhide HNO).1, rfl, rfl, rfl, rfl, rfl, Or.inl ⟨rfl, (unhide HNO).2⟩⟩⟩, unhide HB2⟩
  · have t0 : (ref == 0) = false := beq_f h0
    have HN0 := hide h0
    clear h0
    go_wp2_with fail
    refine (find_any B g h ref W1 (unhide HH) (unhide HK).asc (unhide HK).len).mono ?_
    rintro e W2 ⟨k, b, rfl, hf, hb⟩
    have HB2 := hide ((unhide HB).trans (hb.mono (unhide HB).size))
    have HO2 := hide ((unhide HO).below hb)
    have HH2 := hide ((unhide HH).below hb)
    clear hb HB HO HH
    rcases hf.2 with ⟨rfl, o, ho, hr⟩ | ⟨rfl, hno⟩
    · obtain ⟨ob, cap, hov, hBo, k0, k1, k2⟩ := (unhide HH2).ob ho
      have c4 := (unhide HH2).c4
      rw [hov] at c4
      have hk : k < h.O.length := (List.getElem?_eq_some_iff.1 ho).1
      have HOB : Hid (objD h.O ref = some o ∧ o ∈ h.O ∧ ref = o.ref) := hide ⟨by rw [← hr]; exact obj_at (unhide HK).asc ho, List.mem_of_getElem? ho, hr.symm⟩
      have i1 : ((k : Nat) : Int) < ((h.O.length : Nat) : Int) := by omega
      clear ho hr hf hov hBo
      have HO3 : Hid (Bx (W2.setRow w.heap.size #[.int .i64 o.ref, .int .i64 o.cls, .slice (some ⟨o.pb, 0, none⟩) o.ps.length o.ps.length]) w.heap.size 83 #[.int .i64 o.ref, .int .i64 o.cls, .slice (some ⟨o.pb, 0, none⟩) o.ps.length o.ps.length]) := hide (setRow_heap _ _ _ _ _ _ (unhide HO2))
      have HB3 : Hid (Below w.heap.size w (W2.setRow w.heap.size #[.int .i64 o.ref, .int .i64 o.cls, .slice (some ⟨o.pb, 0, none⟩) o.ps.length o.ps.length])) := hide (below_row (unhide HB2) (Nat.le_refl _) _)
      go_wp2_with (refine wpList_store_row rfl 83 _ _ rfl w.heap.size #[.int .i64 o.ref, .int .i64 o.cls, .slice (some ⟨o.pb, 0, none⟩) o.ps.length o.ps.length] rfl rfl 83 #[.int .i64 0, .int .i64 0, .slice none 0 0] (unhide HO2) (by kernel_rfl) rfl (by simp [Value.oneCell']) ?_)
      exact bodyPost_ret (v := .tuple #[.agg #[.int .i64 o.ref, .int .i64 o.cls, .slice (some ⟨o.pb, 0, none⟩) o.ps.length o.ps.length], .int .i64 0]) (results_obC rfl _ _ w.heap.size _ _ _ _ rfl rfl (unhide HO3)) rfl ⟨⟨_, _, _, _, _, _, rfl, Or.inl ⟨rfl, o, (unhide HOB).1, (unhide HOB).2.1, (unhide HOB).2.2, rfl, rfl, rfl, rfl, rfl⟩⟩, unhide HB3⟩
    · have HNO : Hid (objD h.O ref = none) := hide (obj_none hno)
      clear hno hf
      have HO3 : Hid (Bx (W2.setRow w.heap.size #[.int .i64 0, .int .i64 0, .slice none 0 0]) w.heap.size 83 #[.int .i64 0, .int .i64 0, .slice none 0 0]) := hide (setRow_heap _ _ _ _ _ _ (unhide HO2))
      have HB3 : Hid (Below w.heap.size w (W2.setRow w.heap.size #[.int .i64 0, .int .i64 0, .slice none 0 0])) := hide (below_row (unhide HB2) (Nat.le_refl _) _)
      go_wp2_with (refine wpList_store_row rfl 83 _ _ rfl w.heap.size #[.int .i64 0, .int .i64 0, .slice none 0 0] rfl rfl 83 #[.int .i64 0, .int .i64 0, .slice none 0 0] (unhide HO2) (by kernel_rfl) rfl (by simp [Value.oneCell']) ?_)
      exact bodyPost_ret (v := .tuple #[.agg #[.int .i64 0, .int .i64 0, .slice none 0 0], .int .i64 141]) (results_obC rfl _ _ w.heap.size _ _ _ _ rfl rfl (unhide HO3)) rfl ⟨⟨0, 0, none, 0, 0, 141, rfl, Or.inr ⟨unhide HNO, rfl, rfl, rfl, rfl, rfl, Or.inr ⟨rfl, unhide HN0⟩⟩⟩, unhide HB3⟩
theorem ObIs.len {h : Hm} (hok : HmOk h) {ref r c : Int} {a : Option Addr} {n cp : Nat} {er : Int} (H : ObIs h.O ref r c a n cp er) : n ≤ 4096 := by
  rcases H with ⟨_, o, _, ho, _, _, _, _, rfl, _⟩ | ⟨_, _, _, _, rfl, _⟩
  · exact hok.plen ho
  · omega
theorem Len_any (B g : Nat) (h : Hm) (ref : Int) (w : World) (H : HpAt B w g h) (hok : HmOk h) : Calls Tryd.prog 24 #[.pointer (some ⟨g, 0, none⟩), .int .i64 ref] w fun e w' => (∃ r c a n cp er, e = .returned (.tuple #[.int .i64 ((n : Nat) : Int), .int .i64 er]) ∧ ObIs h.O ref r c a n cp er) ∧ Below w.heap.size w w' := by
  go_enter Tryd.func24, Tryd.ntmps24
  go_wp2_with fail
  refine (object_any B g h ref w H hok).mono ?_
  rintro e W2 ⟨⟨r, c, a, n, cp, er, rfl, hI⟩, hB2⟩
  have al2 := (Below.refl W2.heap.size W2).alloc (Nat.le_refl _) (.cells #[.int .i64 r, .int .i64 c, .slice a n cp] 83)
  have HB3 := hide (hB2.trans (al2.mono hB2.size))
  have HN : Hid (Bx (W2.alloc (.cells #[.int .i64 r, .int .i64 c, .slice a n cp] 83)) W2.heap.size 83 #[.int .i64 r, .int .i64 c, .slice a n cp]) := hide (heap_alloc_new W2 _)
  have HI := hide hI
  clear al2 hB2 hI
  go_upto_region 2 with fail
  generalize (W2.alloc (.cells #[.int .i64 r, .int .i64 c, .slice a n cp] 83)) = W3 at HB3 HN ⊢
  generalize W2.heap.size = g3 at HN ⊢
  have c2 := (unhide HN).c 2 rfl
  go_wp2
  go_ret2
  exact ⟨⟨r, c, a, n, cp, er, rfl, unhide HI⟩, unhide HB3⟩
theorem Class_any (B g : Nat) (h : Hm) (ref : Int) (w : World) (H : HpAt B w g h) (hok : HmOk h) : Calls Tryd.prog 34 #[.pointer (some ⟨g, 0, none⟩), .int .i64 ref] w fun e w' => (∃ c b, e = .returned (.tuple #[.int .i64 c, .bool b]) ∧ ((b = true ∧ ∃ o, objD h.O ref = some o ∧ o ∈ h.O ∧ c = o.cls ∧ o.cls ≠ -1) ∨ (b = false ∧ c = 0 ∧ ∀ o, objD h.O ref = some o → o.cls = -1))) ∧ Below w.heap.size w w' := by
  go_enter Tryd.func34, Tryd.ntmps34
  go_wp2_with fail
  refine (object_any B g h ref w H hok).mono ?_
  rintro e W2 ⟨⟨r, c, a, n, cp, er, rfl, hI⟩, hB2⟩
  have al2 := (Below.refl W2.heap.size W2).alloc (Nat.le_refl _) (.cells #[.int .i64 r, .int .i64 c, .slice a n cp] 83)
  have HB3 := hide (hB2.trans (al2.mono hB2.size))
  have HN : Hid (Bx (W2.alloc (.cells #[.int .i64 r, .int .i64 c, .slice a n cp] 83)) W2.heap.size 83 #[.int .i64 r, .int .i64 c, .slice a n cp]) := hide (heap_alloc_new W2 _)
  have HI := hide hI
  clear al2 hB2 hI
  go_upto_region 2 with fail
  generalize (W2.alloc (.cells #[.int .i64 r, .int .i64 c, .slice a n cp] 83)) = W3 at HB3 HN ⊢
  generalize W2.heap.size = g3 at HN ⊢
  have c1 := (unhide HN).c 1 rfl
  by_cases h0 : er = 0
  · have t0 : (er != 0) = false := bne_f h0
    rcases unhide HI with ⟨_, o, ho, hm, _, _, hc, _⟩ | ⟨_, _, _, _, _, _, hh⟩
    · have HOB : Hid (objD h.O ref = some o ∧ o ∈ h.O ∧ c = o.cls) := hide ⟨ho, hm, hc⟩
      clear ho hm hc h0
      by_cases h1 : c = -1
      · have t1 : (c == -1) = true := by simp [h1]
        have HC1 := hide h1
        clear h1
        go_wp2
        go_ret2
        exact ⟨⟨0, false, rfl, Or.inr ⟨rfl, rfl, fun x hx => by rw [(unhide HOB).1] at hx; injection hx with hx; subst hx; rw [← (unhide HOB).2.2]; exact unhide HC1⟩⟩, unhide HB3⟩
      · have t1 : (c == -1) = false := beq_f h1
        have HC1 := hide h1
        clear h1
        go_wp2
        go_ret2
        exact ⟨⟨c, true, rfl, Or.inl ⟨rfl, o, (unhide HOB).1, (unhide HOB).2.1, (unhide HOB).2.2, fun e => unhide HC1 ((unhide HOB).2.2.trans e)⟩⟩, unhide HB3⟩
    · omega
  · have t0 : (er != 0) = true := bne_t h0
    have HNO : Hid (objD h.O ref = none) := hide (by
      rcases unhide HI with ⟨e, _⟩ | ⟨e, _⟩
      · omega
      · exact e)
    clear h0
    go_wp2
    go_ret2
    exact ⟨⟨0, false, rfl, Or.inr ⟨rfl, rfl, fun x hx => by rw [unhide HNO] at hx; cases hx⟩⟩, unhide HB3⟩
theorem Used_any (B g : Nat) (h : Hm) (w : World) (H : HpAt B w g h) : Calls Tryd.prog 31 #[.pointer (some ⟨g, 0, none⟩)] w fun e w' => e = .returned (.int .i64 h.used) ∧ w' = w := by
  have HM := hide (isMade_yes B g h w H)
  have c2 := H.c2
  clear H
  go_enter Tryd.func31, Tryd.ntmps31
  go_wp2_with fail
  refine (unhide HM).mono ?_
  rintro e W ⟨rfl, hw⟩
  rw [hw]
  clear hw W
  go_wp2
  go_ret
  exact ⟨rfl, rfl⟩
/-- What is answered as the object that has a place. -/
def AtIs (O : List Ob) (ref i : Int) (a : Option Addr) (n cp : Nat) (er : Int) : Prop :=
  (er = 0 ∧ ∃ o, objD O ref = some o ∧ o ∈ O ∧ 0 ≤ i ∧ i < o.ps.length ∧ a = some ⟨o.pb, 0, none⟩ ∧ n = o.ps.length ∧ cp = o.ps.length) ∨
  (er = 142 ∧ ∃ o, objD O ref = some o ∧ (i < 0 ∨ (o.ps.length : Int) ≤ i)) ∨
  (objD O ref = none ∧ ((er = 140 ∧ ref = 0) ∨ (er = 141 ∧ ref ≠ 0)))
set_option maxHeartbeats 1000000 in
theorem at_any (B g : Nat) (h : Hm) (ref i : Int) (w : World) (H : HpAt B w g h) (hok : HmOk h) : Calls Tryd.prog 46 #[.pointer (some ⟨g, 0, none⟩), .int .i64 ref, .int .i64 i] w fun e w' => (∃ r c a n cp er, e = .returned (.tuple #[.agg #[.int .i64 r, .int .i64 c, .slice a n cp], .int .i64 er]) ∧ AtIs h.O ref i a n cp er) ∧ Below w.heap.size w w' := by
  have al := (Below.refl w.heap.size w).alloc (Nat.le_refl _) (.cells #[.int .i64 0, .int .i64 0, .slice none 0 0] 83)
  have HB := hide al
  have HO : Hid (Bx (w.alloc (.cells #[.int .i64 0, .int .i64 0, .slice none 0 0] 83)) w.heap.size 83 #[.int .i64 0, .int .i64 0, .slice none 0 0]) := hide (heap_alloc_new w _)
  have HM := hide (object_any B g h ref _ (H.below al) hok)
  have HK := hide hok
  clear H hok al
  go_enter Tryd.func46, Tryd.ntmps46
  go_upto_region 1 with fail
  generalize (w.alloc (.cells #[.int .i64 0, .int .i64 0, .slice none 0 0] 83)) = W1 at HB HO HM ⊢
  go_wp2_with fail
  refine (unhide HM).mono ?_
  rintro e W2 ⟨⟨r, c, a, n, cp, er, rfl, hI⟩, hB2⟩
  have al2 := (Below.refl W2.heap.size W2).alloc (Nat.le_refl _) (.cells #[.int .i64 r, .int .i64 c, .slice a n cp] 83)
  have hB3 := hB2.trans (al2.mono hB2.size)
  have HB3 := hide ((unhide HB).trans (hB3.mono (unhide HB).size))
  have HO3 := hide ((unhide HO).below hB3)
  have HN : Hid (Bx (W2.alloc (.cells #[.int .i64 r, .int .i64 c, .slice a n cp] 83)) W2.heap.size 83 #[.int .i64 r, .int .i64 c, .slice a n cp]) := hide (heap_alloc_new W2 _)
  have HI := hide hI
  clear al2 hB3 hB2 hI HB HO HM
  go_upto_region 2 with fail
  generalize (W2.alloc (.cells #[.int .i64 r, .int .i64 c, .slice a n cp] 83)) = W3 at HB3 HO3 HN ⊢
  generalize W2.heap.size = g3 at HN ⊢
  have HOZ : Hid (Bx (W3.setRow w.heap.size #[.int .i64 0, .int .i64 0, .slice none 0 0]) w.heap.size 83 #[.int .i64 0, .int .i64 0, .slice none 0 0]) := hide (setRow_heap _ _ _ _ _ _ (unhide HO3))
  have HBZ : Hid (Below w.heap.size w (W3.setRow w.heap.size #[.int .i64 0, .int .i64 0, .slice none 0 0])) := hide (below_row (unhide HB3) (Nat.le_refl _) _)
  have HOC : Hid (Bx (W3.setRow w.heap.size #[.int .i64 r, .int .i64 c, .slice a n cp]) w.heap.size 83 #[.int .i64 r, .int .i64 c, .slice a n cp]) := hide (setRow_heap _ _ _ _ _ _ (unhide HO3))
  have HBC : Hid (Below w.heap.size w (W3.setRow w.heap.size #[.int .i64 r, .int .i64 c, .slice a n cp])) := hide (below_row (unhide HB3) (Nat.le_refl _) _)
  have k0 := (unhide HN).c 0 rfl
  have k1 := (unhide HN).c 1 rfl
  have k2 := (unhide HN).c 2 rfl
  have hn := ObIs.len (unhide HK) (unhide HI)
  by_cases h0 : er = 0
  · have t0 : (er == 0) = true := by simp [h0]
    have HE0 := hide h0
    have HOB : Hid (∃ o, objD h.O ref = some o ∧ o ∈ h.O ∧ a = some ⟨o.pb, 0, none⟩ ∧ n = o.ps.length ∧ cp = o.ps.length) := hide (by
      rcases unhide HI with ⟨_, o, ho, hm, _, _, _, e1, e2, e3⟩ | ⟨_, _, _, _, _, _, hh⟩
      · exact ⟨o, ho, hm, e1, e2, e3⟩
      · omega)
    clear h0
    by_cases h1 : i < 0
    · have HI1 := hide h1
      go_wp2_with (refine wpList_store_row rfl 83 _ _ rfl w.heap.size #[.int .i64 0, .int .i64 0, .slice none 0 0] rfl rfl 83 #[.int .i64 0, .int .i64 0, .slice none 0 0] (unhide HO3) (by kernel_rfl) rfl (by simp [Value.oneCell']) ?_)
      refine bodyPost_ret (v := .tuple #[.agg #[.int .i64 0, .int .i64 0, .slice none 0 0], .int .i64 142]) (results_obC rfl _ _ w.heap.size _ _ _ _ rfl rfl (unhide HOZ)) rfl ⟨⟨0, 0, none, 0, 0, 142, rfl, Or.inr (Or.inl ⟨rfl, ?_⟩)⟩, unhide HBZ⟩
      obtain ⟨o, ho, _⟩ := unhide HOB
      exact ⟨o, ho, Or.inl (unhide HI1)⟩
    · by_cases h2 : ((n : Nat) : Int) ≤ i
      · have HI1 := hide h2
        go_wp2_with (refine wpList_store_row rfl 83 _ _ rfl w.heap.size #[.int .i64 0, .int .i64 0, .slice none 0 0] rfl rfl 83 #[.int .i64 0, .int .i64 0, .slice none 0 0] (unhide HO3) (by kernel_rfl) rfl (by simp [Value.oneCell']) ?_)
        refine bodyPost_ret (v := .tuple #[.agg #[.int .i64 0, .int .i64 0, .slice none 0 0], .int .i64 142]) (results_obC rfl _ _ w.heap.size _ _ _ _ rfl rfl (unhide HOZ)) rfl ⟨⟨0, 0, none, 0, 0, 142, rfl, Or.inr (Or.inl ⟨rfl, ?_⟩)⟩, unhide HBZ⟩
        obtain ⟨o, ho, _, _, hl, _⟩ := unhide HOB
        exact ⟨o, ho, Or.inr (by rw [← hl]; exact unhide HI1)⟩
      · have HI1 : Hid (0 ≤ i ∧ i < ((n : Nat) : Int)) := hide ⟨by omega, by omega⟩
        go_wp2_with (first | (refine wpList_load_rowH (by kernel_rfl) 83 (.tmp 8) rfl g3 rfl 83 #[.int .i64 r, .int .i64 c, .slice a n cp] (0, 0) _ (unhide HN) Tryd.underlying83 rfl (by kernel_rfl) ?_) | (refine wpList_store_row rfl 83 _ _ rfl w.heap.size #[.int .i64 r, .int .i64 c, .slice a n cp] rfl rfl 83 #[.int .i64 0, .int .i64 0, .slice none 0 0] (unhide HO3) (by kernel_rfl) rfl (by simp [Value.oneCell']) ?_))
        refine bodyPost_ret (v := .tuple #[.agg #[.int .i64 r, .int .i64 c, .slice a n cp], .int .i64 er]) (results_obC rfl _ _ w.heap.size _ _ _ _ rfl rfl (unhide HOC)) rfl ⟨⟨r, c, a, n, cp, er, rfl, Or.inl ⟨unhide HE0, ?_⟩⟩, unhide HBC⟩
        obtain ⟨o, ho, hm, e1, hl, e3⟩ := unhide HOB
        exact ⟨o, ho, hm, (unhide HI1).1, by rw [← hl]; exact (unhide HI1).2, e1, hl, e3⟩
  · have t0 : (er == 0) = false := beq_f h0
    have HNO : Hid (objD h.O ref = none ∧ ((er = 140 ∧ ref = 0) ∨ (er = 141 ∧ ref ≠ 0))) := hide (by
      rcases unhide HI with ⟨e, _⟩ | ⟨e, _, _, _, _, _, hh⟩
      · omega
      · exact ⟨e, hh⟩)
    clear h0
    go_wp2_with (first | (refine wpList_load_rowH (by kernel_rfl) 83 (.tmp 8) rfl g3 rfl 83 #[.int .i64 r, .int .i64 c, .slice a n cp] (0, 0) _ (unhide HN) Tryd.underlying83 rfl (by kernel_rfl) ?_) | (refine wpList_store_row rfl 83 _ _ rfl w.heap.size #[.int .i64 r, .int .i64 c, .slice a n cp] rfl rfl 83 #[.int .i64 0, .int .i64 0, .slice none 0 0] (unhide HO3) (by kernel_rfl) rfl (by simp [Value.oneCell']) ?_))
    exact bodyPost_ret (v := .tuple #[.agg #[.int .i64 r, .int .i64 c, .slice a n cp], .int .i64 er]) (results_obC rfl _ _ w.heap.size _ _ _ _ rfl rfl (unhide HOC)) rfl ⟨⟨r, c, a, n, cp, er, rfl, Or.inr (Or.inr (unhide HNO))⟩, unhide HBC⟩
end Go.Proofs.YtbbfnampjbdnbaaDoor
