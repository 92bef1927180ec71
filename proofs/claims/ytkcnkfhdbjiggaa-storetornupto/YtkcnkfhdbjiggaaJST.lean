/-
  Texts of contracts and plain lemmas, one behind another; each says at its head what it holds.
-/
import Derived.Test.YtkcnkfhdbjiggaaJSQ
/-
  Plain: bytes laid over an image, and what a cut of a record's writes leaves.
-/
namespace Go.Proofs.Ytkcnkfhdbjiggaa
open Go.RowKit
set_option maxRecDepth 20000

/-- Bytes laid over others, from a place on. -/
def ovl (D : List UInt8) (a : Nat) (X : List UInt8) : List UInt8 := D.take a ++ X ++ D.drop (a + X.length)
theorem ovl_nil (D : List UInt8) (a : Nat) : ovl D a [] = D := by simp [ovl]
theorem ovl_len {D : List UInt8} {a : Nat} (X : List UInt8) (h : a ≤ D.length) : (ovl D a X).length = max D.length (a + X.length) := by
  unfold ovl
  simp only [List.length_append, List.length_take, List.length_drop]
  omega
theorem ovl_end {D : List UInt8} {a : Nat} {X : List UInt8} (x : UInt8) (h : a ≤ D.length) (he : a + X.length = (ovl D a X).length) : ovl D a (X ++ [x]) = ovl D a X ++ [x] := by
  rw [ovl_len X h] at he
  have h1 : D.drop (a + X.length) = [] := List.drop_eq_nil_of_le (by omega)
  have h2 : D.drop (a + (X ++ [x]).length) = [] := List.drop_eq_nil_of_le (by rw [List.length_append]; omega)
  unfold ovl
  rw [h1, h2]
  simp
theorem ovl_set {D : List UInt8} {a : Nat} {X : List UInt8} (x : UInt8) (h : a ≤ D.length) (he : a + X.length < (ovl D a X).length) : ovl D a (X ++ [x]) = (ovl D a X).set (a + X.length) x := by
  rw [ovl_len X h] at he
  have hd : a + X.length < D.length := by omega
  unfold ovl
  rw [List.set_append_right _ _ (by simp only [List.length_append, List.length_take]; omega)]
  have e : a + X.length - (D.take a ++ X).length = 0 := by simp only [List.length_append, List.length_take]; omega
  rw [e, List.drop_eq_getElem_cons hd]
  simp [Nat.add_assoc]
theorem ovl_two {D : List UInt8} {a : Nat} {X Y : List UInt8} (h : a ≤ D.length) (hl : Y.length ≤ X.length) : ovl (ovl D a X) a Y = ovl D a (Y ++ X.drop Y.length) := by
  unfold ovl
  have h1 : (D.take a).length = a := by simp; omega
  have e1 : (D.take a ++ X ++ D.drop (a + X.length)).take a = D.take a := by
    rw [List.append_assoc]
    have := List.take_left (l₁ := D.take a) (l₂ := X ++ D.drop (a + X.length))
    rwa [h1] at this
  have e2 : (D.take a ++ X ++ D.drop (a + X.length)).drop (a + Y.length) = X.drop Y.length ++ D.drop (a + X.length) := by
    rw [List.append_assoc, ← List.drop_drop]
    have := List.drop_left (l₁ := D.take a) (l₂ := X ++ D.drop (a + X.length))
    rw [h1] at this
    rw [this, List.drop_append_of_le_length hl]
  rw [e1, e2]
  have : a + (Y ++ X.drop Y.length).length = a + X.length := by rw [List.length_append, List.length_drop]; omega
  rw [this]
  simp
/-- What a disk holds: the image, and behind it nothing, or what begins with 0. -/
structure Dsk (D I : List UInt8) (K : List Ke) : Prop where
  im : ImK I K
  tk : D.take I.length = I
  ln : D.length ≤ 1048576
  z : D.length = I.length ∨ (I.length < D.length ∧ D.getD I.length 0 = 0)
theorem Dsk.le {D I : List UInt8} {K : List Ke} (h : Dsk D I K) : I.length ≤ D.length := by rcases h.z with h | h <;> omega
theorem Dsk.zero : Dsk [] [] [] := ⟨ImK.zero, rfl, by simp, Or.inl rfl⟩
theorem Dsk.op {D I : List UInt8} {K : List Ke} (h : Dsk D I K) : openS D = some (I.length, K) := by
  have e : D = I ++ D.drop I.length := by conv => lhs; rw [← List.take_append_drop I.length D, h.tk]
  have hr : Rest D I.length K := by
    have := open_restS (D.drop I.length) h.im.op (by rw [← e]; have := h.ln; omega)
    rwa [← e] at this
  exact hr.done (fun hc => by
    rcases h.z with hz | ⟨_, hz⟩
    · omega
    · exact hc.2 hz) h.le
theorem hid_hd (R : List UInt8) : ∃ r, hidB R = 0 :: r := ⟨_, rfl⟩
theorem ovl_take {D : List UInt8} {a : Nat} (X : List UInt8) (h : a ≤ D.length) : (ovl D a X).take a = D.take a := by
  unfold ovl
  rw [List.append_assoc]
  have h1 : (D.take a).length = a := by simp; omega
  have := List.take_left (l₁ := D.take a) (l₂ := X ++ D.drop (a + X.length))
  rwa [h1] at this
theorem ovl_at {D : List UInt8} {a : Nat} {x : UInt8} {X : List UInt8} (h : a ≤ D.length) : (ovl D a (x :: X)).getD a 0 = x := by
  unfold ovl
  have h1 : (D.take a).length = a := by simp; omega
  rw [List.append_assoc, List.getD_eq_getElem?_getD, List.getElem?_append_right (by omega), h1, Nat.sub_self]
  rfl
/-- A cut within the writes leaves the image. -/
theorem Dsk.cut {D I : List UInt8} {K : List Ke} (h : Dsk D I K) {X : List UInt8} (hb : I.length + X.length ≤ 1048576) (hX : X = [] ∨ ∃ r, X = 0 :: r) : Dsk (ovl D I.length X) I K := by
  have hl := ovl_len X h.le
  rcases hX with rfl | ⟨r, rfl⟩
  · rw [ovl_nil]; exact h
  · refine ⟨h.im, by rw [ovl_take _ h.le]; exact h.tk, by rw [hl]; have := h.ln; omega, Or.inr ⟨?_, ovl_at h.le⟩⟩
    rw [hl, List.length_cons]
    omega
/-- All of them leave what was to be. -/
theorem Dsk.all {D I R : List UInt8} {K K2 : List Ke} (h : Dsk D I K) (him : ImK (I ++ R) K2) (h2 : 2 ≤ R.length) (hb : I.length + R.length + 1 ≤ 1048576) : Dsk (ovl (ovl D I.length (hidB R)) I.length [R.getD 0 0]) (I ++ R) K2 := by
  have hhl : (hidB R).length = R.length + 1 := by simp [hidB]; omega
  rw [ovl_two h.le (by rw [hhl]; simp)]
  have e : [R.getD 0 0] ++ (hidB R).drop [R.getD 0 0].length = R ++ [0] := by
    match R, h2 with
    | r :: R', _ => simp [hidB]
  rw [e]
  have hl := ovl_len (D := D) (R ++ [0]) h.le
  have h1 : (D.take I.length).length = I.length := by rw [h.tk]
  refine ⟨him, ?_, by rw [hl, List.length_append]; have := h.ln; simp; omega, Or.inr ⟨by rw [hl, List.length_append, List.length_append]; simp; omega, ?_⟩⟩
  · unfold ovl
    rw [h.tk]
    have : I ++ (R ++ [0]) ++ D.drop (I.length + (R ++ [0]).length) = (I ++ R) ++ ([0] ++ D.drop (I.length + (R ++ [0]).length)) := by simp
    rw [this, List.take_left]
  · unfold ovl
    rw [h.tk]
    have : I ++ (R ++ [0]) ++ D.drop (I.length + (R ++ [0]).length) = (I ++ R) ++ (0 :: D.drop (I.length + (R ++ [0]).length)) := by simp
    rw [this, List.getD_eq_getElem?_getD, List.getElem?_append_right (Nat.le_refl _), Nat.sub_self]
    rfl
/-- What n bytes of two writes at one place leave. -/
def layD (D : List UInt8) (a : Nat) (A C : List UInt8) (n : Nat) : List UInt8 := if n ≤ A.length then ovl D a (A.take n) else ovl (ovl D a A) a (C.take (n - A.length))
end Go.Proofs.Ytkcnkfhdbjiggaa

/-
  What the law StoreTorn calls of its own: total and lay.
-/
namespace Go.Proofs.Ytkcnkfhdbjiggaa
open Go.RowKit
set_option maxRecDepth 20000

theorem total_nil (w : World) : Calls Try.prog 17 #[.slice none 0 0] w fun e w' => e = .returned (.int .i64 0) ∧ Below w.heap.size w w' := by
  go_enter Try.func17, Try.ntmps17
  go_wp2_with fail
  go_loopw [3, 8] (fun a i wr => a = .int .i64 0 ∧ i = .int .i64 0 ∧ wr = w) (fun _ _ _ => 0)
  case atStart => exact ⟨rfl, rfl, rfl⟩
  case round =>
    obtain ⟨rfl, rfl, rfl⟩ := hrel
    go_wp2
    go_ret
    exact ⟨rfl, Below.refl _ _⟩
set_option maxHeartbeats 1000000 in
theorem total_two {w : World} {base : Nat} {v : Value} {at_ : Nat} {A C : List UInt8} (h : WrAt w base v at_ A C) (hA : A.length ≤ 10000) (hC : C.length ≤ 10000) : Calls Try.prog 17 #[v] w fun e w' => e = .returned (.int .i64 ((A.length + C.length : Nat) : Int)) ∧ Below w.heap.size w w' := by
  obtain ⟨wb, ha, hc, fa, fc, rfl, -, hx, -, -⟩ := h
  have HX := hide hx
  clear hx
  go_enter Try.func17, Try.ntmps17
  go_wp2_with fail
  go_loopw [3, 8] (fun a i wr => ∃ j s : Nat, j ≤ 2 ∧ i = .int .i64 j ∧ a = .int .i64 s ∧ s ≤ 20000 ∧ Hid ((j = 0 ∧ s = 0) ∨ (j = 1 ∧ s = A.length) ∨ (j = 2 ∧ s = A.length + C.length)) ∧ Hid (Below w.heap.size w wr)) (fun _ i _ => 2 - (intOf i).toNat)
  case atStart => exact ⟨0, 0, by omega, rfl, rfl, by omega, hide (Or.inl ⟨rfl, rfl⟩), hide (Below.refl _ _)⟩
  case round =>
    obtain ⟨j, s, hj, rfl, rfl, hs, HJ, HB⟩ := hrel
    by_cases hlj : j < 2
    · have i1 : ((j : Nat) : Int) < 2 := by omega
      have hxr := (unhide HX).below (unhide HB)
      rcases (show j = 0 ∨ j = 1 by omega) with rfl | rfl
      · have z0 := hxr.c 0 rfl
        have z1 := hxr.c 1 rfl
        have HS : Hid (s = 0) := hide (by rcases unhide HJ with h | h | h <;> omega)
        have HJ2 : Hid ((1 = 0 ∧ s + A.length = 0) ∨ (1 = 1 ∧ s + A.length = A.length) ∨ (1 = 2 ∧ s + A.length = A.length + C.length)) := hide (Or.inr (Or.inl ⟨rfl, by have := unhide HS; omega⟩))
        have hs2 : s + A.length ≤ 20000 := by have := unhide HS; omega
        have HB2 : Hid (Below w.heap.size w (wr.alloc (.cells #[.int .i64 (at_ : Int), .slice ha A.length hc] 66))) := hide ((unhide HB).alloc (unhide HB).size _)
        clear hxr HJ hj hlj
        go_wp2
        go_roundw
        case rel => exact ⟨1, s + A.length, by omega, by go_num, by go_num, hs2, HJ2, HB2⟩
        case measure => simp [intOf]
      · have z0 := hxr.c 2 rfl
        have z1 := hxr.c 3 rfl
        have HS : Hid (s = A.length) := hide (by rcases unhide HJ with h | h | h <;> omega)
        have HJ2 : Hid ((2 = 0 ∧ s + C.length = 0) ∨ (2 = 1 ∧ s + C.length = A.length) ∨ (2 = 2 ∧ s + C.length = A.length + C.length)) := hide (Or.inr (Or.inr ⟨rfl, by have := unhide HS; omega⟩))
        have hs2 : s + C.length ≤ 20000 := by have := unhide HS; omega
        have HB2 : Hid (Below w.heap.size w (wr.alloc (.cells #[.int .i64 (at_ : Int), .slice fa C.length fc] 66))) := hide ((unhide HB).alloc (unhide HB).size _)
        clear hxr HJ hj hlj
        go_wp2
        go_roundw
        case rel => exact ⟨2, s + C.length, by omega, by go_num, by go_num, hs2, HJ2, HB2⟩
        case measure => simp [intOf]
    · have i1 : ¬ ((j : Nat) : Int) < 2 := by omega
      have HS : Hid (s = A.length + C.length) := hide (by rcases unhide HJ with h | h | h <;> omega)
      clear HJ
      go_wp2
      go_ret
      exact ⟨congrArg (fun z : Int => Ending.returned (Value.int .i64 z)) (show ((s : Nat) : Int) = _ by have := unhide HS; omega), unhide HB⟩
set_option maxHeartbeats 1000000 in
theorem lay_nil {w : World} (da : Option Addr) (dc : Nat) (L : List UInt8) (hD : BAt w da L) (hn : da = none → L = []) (hl : L.length ≤ 1048576) (n : Int) : Calls Try.prog 18 #[.slice da L.length dc, .slice none 0 0, .int .i64 n] w fun e w' => ∃ v, e = .returned v ∧ OwnB w' w.heap.size v L ∧ Below w.heap.size w w' := by
  have HCl := hide (Clone_any da dc L w hD hn (by omega))
  clear hD hn
  go_enter Try.func18, Try.ntmps18
  go_wp2_with fail
  refine (unhide HCl).mono ?_
  rintro e W1 ⟨v1, rfl, hO, hb, -⟩
  have HO := hide hO
  have HB := hide hb
  clear hO hb HCl
  go_wp2_with fail
  go_loopw [2, 7, 17] (fun a o i wr => a = .int .i64 n ∧ o = v1 ∧ i = .int .i64 0 ∧ wr = W1) (fun _ _ _ _ => 0)
  case atStart => exact ⟨rfl, rfl, rfl, rfl⟩
  case round =>
    obtain ⟨rfl, rfl, rfl, rfl⟩ := hrel
    go_wp2
    go_ret
    exact ⟨_, rfl, unhide HO, unhide HB⟩
theorem at_u8 {x : UInt8} : (0 : Int) ≤ (x.toNat : Int) ∧ (x.toNat : Int) < 256 := ⟨by omega, by have := x.toNat_lt; omega⟩
theorem BAt.xat {w : World} {ao : Option Addr} {l : List UInt8} (h : BAt w ao l) {k : Nat} (hk : k < l.length) : ∃ b off, ao = some ⟨b, off, none⟩ ∧ w.cell? ⟨b, off + k, none⟩ = some (.int .u8 (at8 l k)) := h k hk
theorem take_snoc8 {X : List UInt8} {k : Nat} (h : k < X.length) : X.take (k + 1) = X.take k ++ [X.getD k 0] := by
  rw [List.take_succ_eq_append_getElem h, List.getD_eq_getElem?_getD, List.getElem?_eq_getElem h]
  rfl
/-- How far the laying has come. -/
def LyS (D : List UInt8) (a : Nat) (A C : List UInt8) (n j m : Nat) (O : List UInt8) : Prop := (j = 0 ∧ m = n ∧ O = D) ∨ (j = 1 ∧ m + A.length = n ∧ O = ovl D a A) ∨ (j = 2 ∧ m + A.length + C.length = n ∧ O = ovl (ovl D a A) a C)
theorem OwnB.cellQ {w : World} {B : Nat} {a : Option Addr} {n c : Nat} {l : List UInt8} (h : OwnB w B (.slice a n c) l) {j : Nat} (hj : j < l.length) : ∃ gb, a = some ⟨gb, 0, none⟩ ∧ w.cell? ⟨gb, j, none⟩ = some (.int .u8 (at8 l j)) ∧ w.frozen? ⟨gb, j, none⟩ = false ∧ B ≤ gb := by
  obtain ⟨a', c', hv, hB, -⟩ := h.atN
  injection hv with h1 h2 h3
  subst h1
  rcases h.2 with ⟨e1, e2⟩ | ⟨g, cap, cur, hv, hbg, hh, r⟩
  · omega
  · injection hv with hv _ _
    subst hv
    obtain ⟨b, off, e, hc⟩ := hB j hj
    injection e with e
    injection e with e1 e2
    subst e1 e2
    rw [Nat.zero_add] at hc
    exact ⟨_, rfl, hc, frozen_of_row _ _ _ _ _ hh, hbg⟩
theorem OwnB.storeQ {w : World} {B g n cap : Nat} {l : List UInt8} (h : OwnB w B (.slice (some ⟨g, 0, none⟩) n cap) l) (hn : l.length = n) (k : Nat) (y : UInt8) :
    OwnB (w.setCell ⟨g, k, none⟩ (.int .u8 (y.toNat : Int))) B (.slice (some ⟨g, 0, none⟩) n cap) (l.set k y) := by
  subst hn
  have := (World.ownsRow.stored h k (.int .u8 (y.toNat : Int))).1
  unfold OwnB
  rw [List.length_set]
  have e : bvals (l.set k y) = (bvals l).set k (.int .u8 (y.toNat : Int)) := by unfold bvals; rw [List.map_set]
  rw [e]
  exact this
set_option maxRecDepth 20000 in
set_option maxHeartbeats 4000000 in
theorem lay_two {w : World} (da : Option Addr) (dc : Nat) (D : List UInt8) {base : Nat} {v : Value} {at_ : Nat} {A C : List UInt8} (n : Nat) (hD : BAt w da D) (hn : da = none → D = []) (hl : D.length ≤ 1048576) (h : WrAt w base v at_ A C) (hA : A.length ≤ 10000) (hC : C.length ≤ 10000) (hat : at_ ≤ D.length) (hnn : n ≤ A.length + C.length) :
    Calls Try.prog 18 #[.slice da D.length dc, v, .int .i64 (n : Int)] w fun e w' => ∃ v, e = .returned v ∧ OwnB w' w.heap.size v (layD D at_ A C n) ∧ Below w.heap.size w w' := by
  have HCl := hide (Clone_any da dc D w hD hn (by omega))
  obtain ⟨wb, ha, hc, fa, fc, rfl, -, hx, hoa, hoc⟩ := h
  have HX := hide hx
  have HAB : Hid (BAt w ha A) := hide (by obtain ⟨a', c', hv, hB, -⟩ := hoa.atN; injection hv with h1 _ _; subst h1; exact hB)
  have HCB : Hid (BAt w fa C) := hide (by obtain ⟨a', c', hv, hB, -⟩ := hoc.atN; injection hv with h1 _ _; subst h1; exact hB)
  have HDL : Hid (D.length ≤ 1048576 ∧ at_ ≤ D.length) := hide ⟨hl, hat⟩
  have HAL : Hid (A.length ≤ 10000) := hide hA
  have HCL : Hid (C.length ≤ 10000) := hide hC
  have hn20 : n ≤ 20000 := by omega
  have HNN := hide hnn
  clear hD hn hx hoa hoc hl hA hC hat hnn
  go_enter Try.func18, Try.ntmps18
  go_wp2_with fail
  refine (unhide HCl).mono ?_
  rintro e W1 ⟨v1, rfl, hO, hb, -⟩
  obtain ⟨oa1, oc1, hv1, -⟩ := hO.at
  subst hv1
  have HO1 := hide hO
  have HB1 := hide hb
  obtain ⟨dn, hdn⟩ : ∃ dn, dn = D.length := ⟨_, rfl⟩
  rw [← hdn] at HO1 ⊢
  clear hO hb HCl hdn
  go_wp2_with fail
  go_loopw [2, 7, 17] (fun a o i wr => ∃ (j m : Nat) (oa : Option Addr) (on oc : Nat) (O0 : List UInt8), j ≤ 2 ∧ i = .int .i64 j ∧ a = .int .i64 m ∧ o = .slice oa on oc ∧ m ≤ 20000 ∧ Hid (OwnB wr w.heap.size (.slice oa on oc) O0) ∧ Hid (LyS D at_ A C n j m O0) ∧ Hid (Below w.heap.size w wr)) (fun _ _ i _ => 2 - (intOf i).toNat)
  case atStart => exact ⟨0, n, _, _, _, D, by omega, rfl, rfl, rfl, by omega, HO1, hide (Or.inl ⟨rfl, rfl, rfl⟩), HB1⟩
  case round =>
    clear HO1 HB1
    obtain ⟨j, m, oa, on, oc, O0, hj, rfl, rfl, rfl, hm20, HO, HJ, HB⟩ := hrel
    have hon0 : on = O0.length := by
      obtain ⟨a', c', hv, -⟩ := (unhide HO).at
      injection hv with _ hv _
    by_cases hlj : j < 2
    · have i1 : ((j : Nat) : Int) < 2 := by omega
      subst hon0
      rcases (show j = 0 ∨ j = 1 by omega) with rfl | rfl
      · have HS0 : Hid (m = n ∧ O0 = D) := hide (by rcases unhide HJ with h | h | h <;> first | exact h.2 | omega)
        have HAT : Hid (at_ ≤ O0.length) := hide (by rw [(unhide HS0).2]; exact (unhide HDL).2)
        have HO0L : Hid (O0.length ≤ 1048576) := hide (by rw [(unhide HS0).2]; exact (unhide HDL).1)
        have HXL := HAL
        clear HJ hj hlj
        rw [show ((0 : Nat) : Int) = 0 from rfl] at i1 ⊢
        have hxr := (unhide HX).below (unhide HB)
        have z0 := hxr.c 0 rfl
        have z1 := hxr.c 1 rfl
        clear hxr
        go_upto_region 5 with fail
        have hal : Below wr.heap.size wr (wr.alloc (.cells #[.int .i64 (at_ : Int), .slice ha A.length hc] 66)) := (Below.refl _ _).alloc (Nat.le_refl _) _
        have HZ : Hid (Bx (wr.alloc (.cells #[.int .i64 (at_ : Int), .slice ha A.length hc] 66)) wr.heap.size 66 #[.int .i64 (at_ : Int), .slice ha A.length hc]) := hide (heap_alloc_new wr _)
        have HO1 := hide ((unhide HO).below hal)
        have HB1 := hide ((unhide HB).trans (hal.mono (unhide HB).size))
        clear hal z0 z1 HO HB
        generalize (wr.alloc (.cells #[.int .i64 (at_ : Int), .slice ha A.length hc] 66)) = V1 at HZ HO1 HB1 ⊢
        generalize wr.heap.size = bz at HZ ⊢
        have z1 := (unhide HZ).c 1 rfl
        obtain ⟨q0, hq0⟩ : ∃ q0, q0 = O0.length := ⟨_, rfl⟩
        rw [← hq0] at HO1 ⊢
        have hq1 : q0 ≤ 1048576 := by have := unhide HO0L; omega
        have HQ0 := hide hq0
        clear hq0
        go_wp2_with fail
        go_loopw [2, 7, 24] (fun a o i wr => ∃ (kk m' : Nat) (oa : Option Addr) (on oc : Nat), kk ≤ A.length ∧ i = .int .i64 kk ∧ a = .int .i64 m' ∧ m' + kk ≤ m ∧ m ≤ m' + kk ∧ o = .slice oa on oc ∧ Hid (OwnB wr w.heap.size (.slice oa on oc) (ovl O0 at_ (A.take kk))) ∧ Hid (Bx wr bz 66 #[.int .i64 (at_ : Int), .slice ha A.length hc]) ∧ Hid (Below w.heap.size w wr)) (fun _ _ i _ => A.length - (intOf i).toNat)
        case atStart => exact ⟨0, m, oa, q0, oc, by omega, rfl, rfl, by omega, by omega, rfl, by rw [List.take_zero, ovl_nil]; exact HO1, HZ, HB1⟩
        case round =>
          clear HO1 HZ HB1 z1
          obtain ⟨kk, m', oa, on, oc, hkk, rfl, rfl, hm1, hm2, rfl, HOi, HZi, HBi⟩ := hrel
          have hon : on = (ovl O0 at_ (A.take kk)).length := by
            obtain ⟨a', c', hv, -⟩ := (unhide HOi).at
            injection hv with _ hv _
          have hol := ovl_len (D := O0) (A.take kk) (unhide HAT)
          have htl : (A.take kk).length = kk := by rw [List.length_take]; omega
          by_cases hlk : kk < A.length
          · have i2 : ((kk : Nat) : Int) < ((A.length : Nat) : Int) := by omega
            obtain ⟨bb, off, hbb, cx⟩ := ((unhide HAB).below' (unhide HBi)).xat hlk
            subst hbb
            have hx1 := (at_u8 (x := A.getD kk 0)).1
            have hx2 := (at_u8 (x := A.getD kk 0)).2
            by_cases hm0 : m' = 0
            · have HLD : Hid (layD D at_ A C n = ovl O0 at_ (A.take kk)) := hide (by
                obtain ⟨e1, e2⟩ := unhide HS0
                unfold layD
                rw [if_pos (by omega), e2]
                have : n = kk := by omega
                rw [this])
              have i3 : ((m' : Nat) : Int) = 0 := by omega
              obtain rfl : m' = 0 := hm0
              clear hon hol htl i3
              go_wp2
              go_ret
              exact ⟨_, rfl, by rw [unhide HLD]; exact unhide HOi, unhide HBi⟩
            · have i3 : ¬ ((m' : Nat) : Int) = 0 := by omega
              have i3b : (((m' : Nat) : Int) == 0) = false := by simpa using hm0
              obtain ⟨m2, hm2'⟩ : ∃ m2, m' = m2 + 1 := ⟨m' - 1, by omega⟩
              have z0 := (unhide HZi).c 0 rfl
              have j1 : ¬ ((at_ : Nat) : Int) + ((kk : Nat) : Int) < 0 := by omega
              have j2 : ¬ ((on : Nat) : Int) < ((at_ : Nat) : Int) + ((kk : Nat) : Int) := by rw [hon, hol, htl]; omega
              have hon2 : on ≤ 3000000 := by rw [hon, hol, htl]; have := unhide HO0L; have := unhide HXL; have := unhide HAT; omega
              have hat3 : at_ ≤ 1048576 := by have h1 := unhide HAT; have h2 := unhide HO0L; omega
              have hkk3 : kk ≤ 10000 := by have := unhide HXL; omega
              by_cases heq : at_ + kk = on
              · have j3 : ((at_ : Nat) : Int) + ((kk : Nat) : Int) = ((on : Nat) : Int) := by omega
                have j3b : ((((at_ : Nat) : Int) + ((kk : Nat) : Int)) == ((on : Nat) : Int)) = true := by simpa using j3
                obtain ⟨xb, hxb⟩ : ∃ xb, xb = A.getD kk 0 := ⟨_, rfl⟩
                have HE : Hid (ovl O0 at_ (A.take (kk + 1)) = ovl O0 at_ (A.take kk) ++ [xb]) := hide (by rw [take_snoc8 hlk, ← hxb]; exact ovl_end _ (unhide HAT) (by rw [htl]; omega))
                have HO2 := hide ((unhide HOi).below ((Below.refl wr.heap.size wr).alloc (Nat.le_refl _) (.cells #[.int .u8 ((xb.toNat : Int))] 5)))
                have HSr : Hid (SrcB (wr.alloc (.cells #[.int .u8 ((xb.toNat : Int))] 5)) (.slice (some ⟨wr.heap.size, 0, none⟩) 1 1) [xb]) := hide (.inr ⟨_, 1, rfl, BAt.one wr xb _ rfl _⟩)
                have HFT : Hid ((ovl O0 at_ (A.take kk)).length + [xb].length ≤ 140737488355328) := hide (by rw [← hon]; simp; omega)
                have HBs : Hid (w.heap.size ≤ wr.heap.size) := hide (unhide HBi).size
                have cx2 : wr.cell? ⟨bb, off + kk, none⟩ = some (.int .u8 (xb.toNat : Int)) := by rw [hxb]; exact cx
                have hy1 : (0 : Int) ≤ (xb.toNat : Int) := by omega
                have hy2 : (xb.toNat : Int) < 256 := at_u8.2
                clear cx hxb hx1 hx2 hon hol htl heq j3 hm0 i3
                subst hm2'
                go_wp2_with (at_builtin; go_loud (refine wpList_appendB rfl (.tmp 50) (.tmp 52) rfl w.heap.size (.slice oa on oc) (ovl O0 at_ (A.take kk)) rfl (unhide HO2) (.slice (some ⟨wr.heap.size, 0, none⟩) 1 1) [xb] rfl (unhide HSr) ?z6 ?z4 ?_))
                case z6 => (have h9 := unhide HFT; simp at h9 ⊢; omega)
                try (case z4 => (have h9 := unhide HBs; first | omega | (simp; omega)))
                intro v2 W2 hO2 hG2 _ _
                obtain ⟨oa2, oc2, hv2, -⟩ := hO2.at
                subst hv2
                obtain ⟨on2, hon2'⟩ : ∃ z, z = (ovl O0 at_ (A.take kk) ++ [xb]).length := ⟨_, rfl⟩
                rw [← hon2'] at hO2 ⊢
                have HO3 : Hid (OwnB W2 w.heap.size (.slice oa2 on2 oc2) (ovl O0 at_ (A.take (kk + 1)))) := hide (by rw [unhide HE]; exact hO2)
                have hal2 : Below wr.heap.size wr (wr.alloc (.cells #[.int .u8 (xb.toNat : Int)] 5)) := (Below.refl _ _).alloc (Nat.le_refl _) _
                have HZ3 := hide (((unhide HZi).below hal2).grown hG2 (fun e => (by obtain ⟨cur, hh⟩ := own_tyB (unhide HO2) e; exact ty_ne hh ((unhide HZi).below hal2) (by decide) rfl)))
                have HB3 : Hid (Below w.heap.size w W2) := hide ((Kept.of_grown hG2).below ((unhide HBi).trans (hal2.mono (unhide HBi).size)) (by rw [World.size_alloc]; exact Nat.le_succ_of_le (unhide HBs)) (fun z e => (World.ownsRow.lt (unhide HO2) z e.symm).1))
                clear hO2 hG2 hal2 hon2' HO2 HSr HFT HBs HOi HZi HBi z0 cx2 j3b j2 j1
                go_wp2
                go_roundw
                case rel => exact ⟨kk + 1, m2, oa2, on2, oc2, by omega, by go_num, by go_num, by omega, by omega, rfl, HO3, HZ3, HB3⟩
                case measure => simp [intOf]; omega
              · have j3 : ¬ ((at_ : Nat) : Int) + ((kk : Nat) : Int) = ((on : Nat) : Int) := by omega
                have j3b : ((((at_ : Nat) : Int) + ((kk : Nat) : Int)) == ((on : Nat) : Int)) = false := by simpa using j3
                have hlt3 : at_ + kk < on := by omega
                have j4 : ((at_ : Nat) : Int) + ((kk : Nat) : Int) < ((on : Nat) : Int) := by omega
                have j5 : (((at_ : Nat) : Int) + ((kk : Nat) : Int)).toNat = at_ + kk := by omega
                have HE : Hid (ovl O0 at_ (A.take (kk + 1)) = (ovl O0 at_ (A.take kk)).set (at_ + kk) (A.getD kk 0)) := hide (by
                  rw [take_snoc8 hlk, ovl_set _ (unhide HAT) (by rw [htl]; omega), htl])
                obtain ⟨gb, hgb, cb, fb, hgB⟩ := (unhide HOi).cellQ (show at_ + kk < _ by omega)
                subst hgb
                have hc2 : ((at_ + kk : Nat) : Int) = ((at_ : Nat) : Int) + ((kk : Nat) : Int) := by omega
                have HO3 : Hid (OwnB (wr.setCell ⟨gb, at_ + kk, none⟩ (.int .u8 (at8 A kk))) w.heap.size (.slice (some ⟨gb, 0, none⟩) on oc) (ovl O0 at_ (A.take (kk + 1)))) := hide (by rw [unhide HE]; exact (unhide HOi).storeQ hon.symm _ _)
                have HZ3 : Hid (Bx (wr.setCell ⟨gb, at_ + kk, none⟩ (.int .u8 (at8 A kk))) bz 66 #[.int .i64 (at_ : Int), .slice (some ⟨bb, off, none⟩) A.length hc]) := hide ((unhide HZi).other ⟨gb, at_ + kk, none⟩ _ (fun e => (by obtain ⟨cur, hh⟩ := own_tyB (unhide HOi) (q := gb) rfl; exact ty_ne hh (unhide HZi) (by decide) e.symm)))
                have HB3 : Hid (Below w.heap.size w (wr.setCell ⟨gb, at_ + kk, none⟩ (.int .u8 (at8 A kk)))) := hide ((unhide HBi).setCell (p := ⟨gb, at_ + kk, none⟩) hgB _)
                clear hon hol htl heq j3 hm0 i3 HOi HZi HBi hlt3 hgB hc2
                subst hm2'
                go_wp2
                go_roundw
                case rel => exact ⟨kk + 1, m2, some ⟨gb, 0, none⟩, on, oc, by omega, by go_num, by go_num, by omega, by omega, rfl, HO3, HZ3, HB3⟩
                case measure => simp [intOf]; omega
          · have i2 : ¬ ((kk : Nat) : Int) < ((A.length : Nat) : Int) := by omega
            have hkx : kk = A.length := by omega
            have HO5 := HOi
            rw [hkx, List.take_length] at HO5
            have HJ5 : Hid (LyS D at_ A C n 1 m' (ovl O0 at_ A)) := hide (by
              obtain ⟨e1, e2⟩ := unhide HS0
              exact Or.inr (Or.inl ⟨rfl, by omega, by rw [e2]⟩))
            clear hkx hon hol htl HOi HZi hkk hlk
            go_wp2
            go_roundw
            case rel => exact ⟨1, m', oa, on, oc, _, by omega, by go_num, rfl, rfl, by omega, HO5, HJ5, HBi⟩
            case measure => simp [intOf]
      · have HS0 : Hid (m + A.length = n ∧ O0 = ovl D at_ A) := hide (by rcases unhide HJ with h | h | h <;> first | exact h.2 | omega)
        have HAT : Hid (at_ ≤ O0.length) := hide (by rw [(unhide HS0).2, ovl_len A (unhide HDL).2]; have := (unhide HDL).2; omega)
        have HO0L : Hid (O0.length ≤ 1058576) := hide (by rw [(unhide HS0).2, ovl_len A (unhide HDL).2]; have := (unhide HDL); have := unhide HAL; omega)
        have HXL := HCL
        clear HJ hj hlj
        rw [show ((1 : Nat) : Int) = 1 from rfl] at i1 ⊢
        have hxr := (unhide HX).below (unhide HB)
        have z0 := hxr.c 2 rfl
        have z1 := hxr.c 3 rfl
        clear hxr
        go_upto_region 5 with fail
        have hal : Below wr.heap.size wr (wr.alloc (.cells #[.int .i64 (at_ : Int), .slice fa C.length fc] 66)) := (Below.refl _ _).alloc (Nat.le_refl _) _
        have HZ : Hid (Bx (wr.alloc (.cells #[.int .i64 (at_ : Int), .slice fa C.length fc] 66)) wr.heap.size 66 #[.int .i64 (at_ : Int), .slice fa C.length fc]) := hide (heap_alloc_new wr _)
        have HO1 := hide ((unhide HO).below hal)
        have HB1 := hide ((unhide HB).trans (hal.mono (unhide HB).size))
        clear hal z0 z1 HO HB
        generalize (wr.alloc (.cells #[.int .i64 (at_ : Int), .slice fa C.length fc] 66)) = V1 at HZ HO1 HB1 ⊢
        generalize wr.heap.size = bz at HZ ⊢
        have z1 := (unhide HZ).c 1 rfl
        obtain ⟨q0, hq0⟩ : ∃ q0, q0 = O0.length := ⟨_, rfl⟩
        rw [← hq0] at HO1 ⊢
        have hq1 : q0 ≤ 1058576 := by have := unhide HO0L; omega
        have HQ0 := hide hq0
        clear hq0
        go_wp2_with fail
        go_loopw [2, 7, 24] (fun a o i wr => ∃ (kk m' : Nat) (oa : Option Addr) (on oc : Nat), kk ≤ C.length ∧ i = .int .i64 kk ∧ a = .int .i64 m' ∧ m' + kk ≤ m ∧ m ≤ m' + kk ∧ o = .slice oa on oc ∧ Hid (OwnB wr w.heap.size (.slice oa on oc) (ovl O0 at_ (C.take kk))) ∧ Hid (Bx wr bz 66 #[.int .i64 (at_ : Int), .slice fa C.length fc]) ∧ Hid (Below w.heap.size w wr)) (fun _ _ i _ => C.length - (intOf i).toNat)
        case atStart => exact ⟨0, m, oa, q0, oc, by omega, rfl, rfl, by omega, by omega, rfl, by rw [List.take_zero, ovl_nil]; exact HO1, HZ, HB1⟩
        case round =>
          clear HO1 HZ HB1 z1
          obtain ⟨kk, m', oa, on, oc, hkk, rfl, rfl, hm1, hm2, rfl, HOi, HZi, HBi⟩ := hrel
          have hon : on = (ovl O0 at_ (C.take kk)).length := by
            obtain ⟨a', c', hv, -⟩ := (unhide HOi).at
            injection hv with _ hv _
          have hol := ovl_len (D := O0) (C.take kk) (unhide HAT)
          have htl : (C.take kk).length = kk := by rw [List.length_take]; omega
          by_cases hlk : kk < C.length
          · have i2 : ((kk : Nat) : Int) < ((C.length : Nat) : Int) := by omega
            obtain ⟨bb, off, hbb, cx⟩ := ((unhide HCB).below' (unhide HBi)).xat hlk
            subst hbb
            have hx1 := (at_u8 (x := C.getD kk 0)).1
            have hx2 := (at_u8 (x := C.getD kk 0)).2
            by_cases hm0 : m' = 0
            · have HLD : Hid (layD D at_ A C n = ovl O0 at_ (C.take kk)) := hide (by
                obtain ⟨e1, e2⟩ := unhide HS0
                unfold layD
                by_cases h0 : kk = 0
                · rw [if_pos (by omega), e2, h0]
                  have : n = A.length := by omega
                  rw [this, List.take_length, List.take_zero, ovl_nil]
                · rw [if_neg (by omega), e2]
                  have : n - A.length = kk := by omega
                  rw [this])
              have i3 : ((m' : Nat) : Int) = 0 := by omega
              obtain rfl : m' = 0 := hm0
              clear hon hol htl i3
              go_wp2
              go_ret
              exact ⟨_, rfl, by rw [unhide HLD]; exact unhide HOi, unhide HBi⟩
            · have i3 : ¬ ((m' : Nat) : Int) = 0 := by omega
              have i3b : (((m' : Nat) : Int) == 0) = false := by simpa using hm0
              obtain ⟨m2, hm2'⟩ : ∃ m2, m' = m2 + 1 := ⟨m' - 1, by omega⟩
              have z0 := (unhide HZi).c 0 rfl
              have j1 : ¬ ((at_ : Nat) : Int) + ((kk : Nat) : Int) < 0 := by omega
              have j2 : ¬ ((on : Nat) : Int) < ((at_ : Nat) : Int) + ((kk : Nat) : Int) := by rw [hon, hol, htl]; omega
              have hon2 : on ≤ 3000000 := by rw [hon, hol, htl]; have := unhide HO0L; have := unhide HXL; have := unhide HAT; omega
              have hat3 : at_ ≤ 1058576 := by have h1 := unhide HAT; have h2 := unhide HO0L; omega
              have hkk3 : kk ≤ 10000 := by have := unhide HXL; omega
              by_cases heq : at_ + kk = on
              · have j3 : ((at_ : Nat) : Int) + ((kk : Nat) : Int) = ((on : Nat) : Int) := by omega
                have j3b : ((((at_ : Nat) : Int) + ((kk : Nat) : Int)) == ((on : Nat) : Int)) = true := by simpa using j3
                obtain ⟨xb, hxb⟩ : ∃ xb, xb = C.getD kk 0 := ⟨_, rfl⟩
                have HE : Hid (ovl O0 at_ (C.take (kk + 1)) = ovl O0 at_ (C.take kk) ++ [xb]) := hide (by rw [take_snoc8 hlk, ← hxb]; exact ovl_end _ (unhide HAT) (by rw [htl]; omega))
                have HO2 := hide ((unhide HOi).below ((Below.refl wr.heap.size wr).alloc (Nat.le_refl _) (.cells #[.int .u8 ((xb.toNat : Int))] 5)))
                have HSr : Hid (SrcB (wr.alloc (.cells #[.int .u8 ((xb.toNat : Int))] 5)) (.slice (some ⟨wr.heap.size, 0, none⟩) 1 1) [xb]) := hide (.inr ⟨_, 1, rfl, BAt.one wr xb _ rfl _⟩)
                have HFT : Hid ((ovl O0 at_ (C.take kk)).length + [xb].length ≤ 140737488355328) := hide (by rw [← hon]; simp; omega)
                have HBs : Hid (w.heap.size ≤ wr.heap.size) := hide (unhide HBi).size
                have cx2 : wr.cell? ⟨bb, off + kk, none⟩ = some (.int .u8 (xb.toNat : Int)) := by rw [hxb]; exact cx
                have hy1 : (0 : Int) ≤ (xb.toNat : Int) := by omega
                have hy2 : (xb.toNat : Int) < 256 := at_u8.2
                clear cx hxb hx1 hx2 hon hol htl heq j3 hm0 i3
                subst hm2'
                go_wp2_with (at_builtin; go_loud (refine wpList_appendB rfl (.tmp 50) (.tmp 52) rfl w.heap.size (.slice oa on oc) (ovl O0 at_ (C.take kk)) rfl (unhide HO2) (.slice (some ⟨wr.heap.size, 0, none⟩) 1 1) [xb] rfl (unhide HSr) ?z6 ?z4 ?_))
                case z6 => (have h9 := unhide HFT; simp at h9 ⊢; omega)
                try (case z4 => (have h9 := unhide HBs; first | omega | (simp; omega)))
                intro v2 W2 hO2 hG2 _ _
                obtain ⟨oa2, oc2, hv2, -⟩ := hO2.at
                subst hv2
                obtain ⟨on2, hon2'⟩ : ∃ z, z = (ovl O0 at_ (C.take kk) ++ [xb]).length := ⟨_, rfl⟩
                rw [← hon2'] at hO2 ⊢
                have HO3 : Hid (OwnB W2 w.heap.size (.slice oa2 on2 oc2) (ovl O0 at_ (C.take (kk + 1)))) := hide (by rw [unhide HE]; exact hO2)
                have hal2 : Below wr.heap.size wr (wr.alloc (.cells #[.int .u8 (xb.toNat : Int)] 5)) := (Below.refl _ _).alloc (Nat.le_refl _) _
                have HZ3 := hide (((unhide HZi).below hal2).grown hG2 (fun e => (by obtain ⟨cur, hh⟩ := own_tyB (unhide HO2) e; exact ty_ne hh ((unhide HZi).below hal2) (by decide) rfl)))
                have HB3 : Hid (Below w.heap.size w W2) := hide ((Kept.of_grown hG2).below ((unhide HBi).trans (hal2.mono (unhide HBi).size)) (by rw [World.size_alloc]; exact Nat.le_succ_of_le (unhide HBs)) (fun z e => (World.ownsRow.lt (unhide HO2) z e.symm).1))
                clear hO2 hG2 hal2 hon2' HO2 HSr HFT HBs HOi HZi HBi z0 cx2 j3b j2 j1
                go_wp2
                go_roundw
                case rel => exact ⟨kk + 1, m2, oa2, on2, oc2, by omega, by go_num, by go_num, by omega, by omega, rfl, HO3, HZ3, HB3⟩
                case measure => simp [intOf]; omega
              · have j3 : ¬ ((at_ : Nat) : Int) + ((kk : Nat) : Int) = ((on : Nat) : Int) := by omega
                have j3b : ((((at_ : Nat) : Int) + ((kk : Nat) : Int)) == ((on : Nat) : Int)) = false := by simpa using j3
                have hlt3 : at_ + kk < on := by omega
                have j4 : ((at_ : Nat) : Int) + ((kk : Nat) : Int) < ((on : Nat) : Int) := by omega
                have j5 : (((at_ : Nat) : Int) + ((kk : Nat) : Int)).toNat = at_ + kk := by omega
                have HE : Hid (ovl O0 at_ (C.take (kk + 1)) = (ovl O0 at_ (C.take kk)).set (at_ + kk) (C.getD kk 0)) := hide (by
                  rw [take_snoc8 hlk, ovl_set _ (unhide HAT) (by rw [htl]; omega), htl])
                obtain ⟨gb, hgb, cb, fb, hgB⟩ := (unhide HOi).cellQ (show at_ + kk < _ by omega)
                subst hgb
                have hc2 : ((at_ + kk : Nat) : Int) = ((at_ : Nat) : Int) + ((kk : Nat) : Int) := by omega
                have HO3 : Hid (OwnB (wr.setCell ⟨gb, at_ + kk, none⟩ (.int .u8 (at8 C kk))) w.heap.size (.slice (some ⟨gb, 0, none⟩) on oc) (ovl O0 at_ (C.take (kk + 1)))) := hide (by rw [unhide HE]; exact (unhide HOi).storeQ hon.symm _ _)
                have HZ3 : Hid (Bx (wr.setCell ⟨gb, at_ + kk, none⟩ (.int .u8 (at8 C kk))) bz 66 #[.int .i64 (at_ : Int), .slice (some ⟨bb, off, none⟩) C.length fc]) := hide ((unhide HZi).other ⟨gb, at_ + kk, none⟩ _ (fun e => (by obtain ⟨cur, hh⟩ := own_tyB (unhide HOi) (q := gb) rfl; exact ty_ne hh (unhide HZi) (by decide) e.symm)))
                have HB3 : Hid (Below w.heap.size w (wr.setCell ⟨gb, at_ + kk, none⟩ (.int .u8 (at8 C kk)))) := hide ((unhide HBi).setCell (p := ⟨gb, at_ + kk, none⟩) hgB _)
                clear hon hol htl heq j3 hm0 i3 HOi HZi HBi hlt3 hgB hc2
                subst hm2'
                go_wp2
                go_roundw
                case rel => exact ⟨kk + 1, m2, some ⟨gb, 0, none⟩, on, oc, by omega, by go_num, by go_num, by omega, by omega, rfl, HO3, HZ3, HB3⟩
                case measure => simp [intOf]; omega
          · have i2 : ¬ ((kk : Nat) : Int) < ((C.length : Nat) : Int) := by omega
            have hkx : kk = C.length := by omega
            have HO5 := HOi
            rw [hkx, List.take_length] at HO5
            have HJ5 : Hid (LyS D at_ A C n 2 m' (ovl O0 at_ C)) := hide (by
              obtain ⟨e1, e2⟩ := unhide HS0
              exact Or.inr (Or.inr ⟨rfl, by omega, by rw [e2]⟩))
            clear hkx hon hol htl HOi HZi hkk hlk
            go_wp2
            go_roundw
            case rel => exact ⟨2, m', oa, on, oc, _, by omega, by go_num, rfl, rfl, by omega, HO5, HJ5, HBi⟩
            case measure => simp [intOf]
    · have i1 : ¬ ((j : Nat) : Int) < 2 := by omega
      have HLD : Hid (layD D at_ A C n = O0) := hide (by
        rcases unhide HJ with h | h | h
        · omega
        · omega
        · obtain ⟨-, e1, e2⟩ := h
          have hnn := unhide HNN
          unfold layD
          by_cases h0 : n ≤ A.length
          · rw [if_pos h0, e2]
            have h1 : C.length = 0 := by omega
            have h2 : n = A.length := by omega
            rw [h2, List.take_length, List.eq_nil_of_length_eq_zero h1, ovl_nil]
          · rw [if_neg h0, e2, List.take_of_length_le (by omega)])
      clear HJ hon0
      go_wp2
      go_ret
      exact ⟨_, rfl, by rw [unhide HLD]; exact unhide HO, unhide HB⟩
end Go.Proofs.Ytkcnkfhdbjiggaa

/-
  What the law StoreTorn wants besides: a call that turned both, and the cut.
-/
namespace Go.Proofs.Ytkcnkfhdbjiggaa
open Go.RowKit
set_option maxRecDepth 20000

def CuAt (w : World) (ao : Option Addr) (l : List Int) : Prop := ∀ (i : Nat) (x : Int), l[i]? = some x → ∃ b off, ao = some ⟨b, off, none⟩ ∧ w.cell? ⟨b, off + i, none⟩ = some (.int .i64 x)
/-- What a call gave: nothing turned, or a record more. -/
def Turned (w' : World) (I : List UInt8) (K : List Ke) (v : Value) (I' : List UInt8) (K' : List Ke) : Prop := (I' = I ∧ K' = K ∧ v = .slice none 0 0) ∨ ∃ R, I' = I ++ R ∧ ImK (I ++ R) K' ∧ 2 ≤ R.length ∧ R.length ≤ 5000 ∧ I.length + R.length + 1 ≤ 1048576 ∧ WrAt w' 0 v I.length (hidB R) [R.getD 0 0]
theorem DoPost.torn {w w' : World} {B g : Nat} {iv kv : Value} {code : Int} {I R : List UInt8} {K K2 : List Ke} {e : Ending} (hd : DoPost w B g iv kv I K code R K2 e w') (h0 : code = 0 → ImK (I ++ R) K2 ∧ 2 ≤ R.length ∧ R.length ≤ 5000 ∧ I.length + R.length + 1 ≤ 1048576) :
    Kept (SA g iv kv) w w' ∧ ∃ xi' lv' v iv' kv' I' K' L', e = .returned (.tuple #[.agg #[xi', lv'], v, .bool true]) ∧ Tw w' B g iv' kv' xi' lv' I' K' L' ∧ Turned w' I K v I' K' := by
  obtain ⟨hk, xi', lv', v, iv', kv', I', K', L', he, ht, hc⟩ := hd
  refine ⟨hk, xi', lv', v, iv', kv', I', K', L', he, ht, ?_⟩
  rcases hc with ⟨-, rfl, rfl, h3⟩ | ⟨hc, rfl, rfl, hw⟩
  · exact Or.inl ⟨rfl, rfl, h3⟩
  · obtain ⟨h1, h2, h3, h4⟩ := h0 hc
    exact Or.inr ⟨R, rfl, h1, h2, h3, h4, hw⟩
theorem torn_put {I : List UInt8} {K : List Ke} {s : ByteArray} {m : List UInt8} (h : ImK I K) (hen : EnK I.length K) (hc : putE I K s m = 0) : ImK (I ++ recK s m) (putK I K s m) ∧ 2 ≤ (recK s m).length ∧ (recK s m).length ≤ 5000 ∧ I.length + (recK s m).length + 1 ≤ 1048576 := by
  obtain ⟨h1, h2, -, h4⟩ := putE_ok hc
  have h5 := recK_len s m
  have h6 := name_24 h1
  exact ⟨h.put hc hen, by omega, by omega, by omega⟩
theorem torn_drop {I : List UInt8} {K : List Ke} {s : ByteArray} (h : ImK I K) (hc : dropE I K s = 0) : ImK (I ++ recD s) (dropK K s) ∧ 2 ≤ (recD s).length ∧ (recD s).length ≤ 5000 ∧ I.length + (recD s).length + 1 ≤ 1048576 := by
  obtain ⟨h1, h2, h4⟩ := dropE_ok hc
  have h5 := recD_len s
  have h6 := name_24 h1
  exact ⟨h.drop hc, by omega, by omega, by omega⟩
theorem u64remN (c : Int) (N : Nat) (h0 : 0 < N) (h1 : N ≤ 40000) : ∃ r : Nat, wrap64 ((IntKind.u64.wrap c).tmod (N : Int)) = (r : Int) ∧ r < N := by
  have hw : 0 ≤ IntKind.u64.wrap c := by simp [IntKind.wrap, IntKind.bits, IntKind.signed]; omega
  refine ⟨(IntKind.u64.wrap c % (N : Int)).toNat, ?_, ?_⟩
  · rw [Int.tmod_eq_emod_of_nonneg hw]
    have h2 : 0 ≤ IntKind.u64.wrap c % (N : Int) := Int.emod_nonneg _ (by omega)
    have h3 : IntKind.u64.wrap c % (N : Int) < N := Int.emod_lt_of_pos _ (by omega)
    have : wrap64 (IntKind.u64.wrap c % (N : Int)) = IntKind.u64.wrap c % (N : Int) := by unfold wrap64; omega
    rw [this]
    omega
  · have h2 : 0 ≤ IntKind.u64.wrap c % (N : Int) := Int.emod_nonneg _ (by omega)
    have h3 : IntKind.u64.wrap c % (N : Int) < N := Int.emod_lt_of_pos _ (by omega)
    omega
/-- The disk behind a cut. -/
theorem Dsk.laid {D I R : List UInt8} {K : List Ke} (h : Dsk D I K) (h2 : 2 ≤ R.length) (hb : I.length + R.length + 1 ≤ 1048576) {n : Nat} (hn : n < (hidB R).length + 1) : Dsk (layD D I.length (hidB R) [R.getD 0 0] n) I K := by
  have hhl : (hidB R).length = R.length + 1 := by simp [hidB]; omega
  unfold layD
  rw [if_pos (by omega)]
  refine h.cut (by rw [List.length_take]; omega) ?_
  obtain ⟨r, hr⟩ := hid_hd R
  rw [hr]
  cases n with
  | zero => exact Or.inl rfl
  | succ n => exact Or.inr ⟨_, rfl⟩
theorem Dsk.whole {D I R : List UInt8} {K K2 : List Ke} (h : Dsk D I K) (him : ImK (I ++ R) K2) (h2 : 2 ≤ R.length) (hb : I.length + R.length + 1 ≤ 1048576) : Dsk (layD D I.length (hidB R) [R.getD 0 0] ((hidB R).length + 1)) (I ++ R) K2 := by
  unfold layD
  rw [if_neg (by omega)]
  have : (hidB R).length + 1 - (hidB R).length = 1 := by omega
  rw [this]
  exact h.all him h2 hb
/-- Opened again from the disk. -/
theorem OpenS_disk {D I : List UInt8} {K : List Ke} (hd : Dsk D I K) (ao : Option Addr) (c : Nat) (w : World) (hl : BAt w ao D) (hn : ao = none → D = []) (hlc : D.length ≤ c) :
    Calls Try.prog 15 #[.slice ao D.length c] w fun e w' => ∃ g iv kv, e = .returned (.tuple #[.pointer (some ⟨g, 0, none⟩), .int .i64 0]) ∧ IsSt w' w.heap.size g iv kv I K ∧ OkK K ∧ EnK I.length K ∧ Below w.heap.size w w' := by
  refine (OpenS_any ao c D w hl hn (by have := hd.ln; omega) hlc).mono ?_
  rintro e w' ⟨hb', ⟨-, h0⟩ | ⟨g, iv, kv, k, K', he, h0, hst, hok, hen, -⟩⟩
  · rw [hd.op] at h0; cases h0
  · rw [hd.op] at h0
    injection h0 with h0
    injection h0 with h1 h2
    subst h1 h2
    rw [hd.tk] at hst
    exact ⟨g, iv, kv, he, hst, hok, hen, hb'⟩
/-- A store that was opened, and a state that keeps the same, side by side. -/
theorem Tw.from {w w1 : World} {B gt N : Nat} {xi lv it kt : Value} {I : List UInt8} {K : List Ke} {L : List Rk} (hx : OwnB w 0 xi I) (hl : OwnR w 0 lv L) (hr : RkO w L) (hsm : SameL I K L)
    (hs : IsSt w1 N gt it kt I K) (hok : OkK K) (hen : EnK I.length K) (hI : I.length ≤ 1048576) (hN : w.heap.size ≤ N) (hB : B ≤ N) (hb1 : Below w.heap.size w w1) : Tw w1 B gt it kt xi lv I K L := by
  refine ⟨⟨hs.row, Nat.le_trans hB hs.low, hs.img.mono hB, ?_⟩, hx.below hb1, hl.below hb1, fun x hxm => (hr x hxm).below hb1, hsm, hok, hen, hI, ?_, ?_⟩
  · rcases hs.kep with ⟨h1, h2 | ⟨g, cap, cur, hv, hg, hr⟩⟩
    · exact ⟨h1, Or.inl h2⟩
    · exact ⟨h1, Or.inr ⟨g, cap, cur, hv, by omega, hr⟩⟩
  · intro q e e2
    have h1 := (World.ownsRow.lt hs.img q e).1
    have h2 := (World.ownsRow.lt hx q e2).2
    omega
  · intro q e x hxm e2
    have h1 := (World.ownsRow.lt hs.img q e).1
    have h2 := (World.ownsRow.lt (hr x hxm) q e2).2
    omega
end Go.Proofs.Ytkcnkfhdbjiggaa
