/-
  Contracts of the heap's those and Live: the references of the objects at some places, rising as they stand, in memory of its own.
-/
import Derived.Test.YtbbfnampjbdnbaaDoorKHq4
import Derived.Test.YtbbfnampjbdnbaaDoorJs
namespace Go.Proofs.YtbbfnampjbdnbaaDoor
open Go.RowKit
set_option maxRecDepth 20000

/-- The references of the objects that are marked. -/
def sel : List Ob → List Bool → List Int
  | o :: O, true :: C => o.ref :: sel O C
  | _ :: O, false :: C => sel O C
  | _, _ => []
theorem sel_snoc : ∀ (O : List Ob) (C : List Bool) (o : Ob) (b : Bool), O.length = C.length → sel (O ++ [o]) (C ++ [b]) = sel O C ++ (if b then [o.ref] else [])
  | [], [], o, b, _ => by cases b <;> rfl
  | x :: O, c :: C, o, b, h => by
    have ih := sel_snoc O C o b (by simpa using h)
    cases c <;> simp [sel, ih]
theorem sel_step {O : List Ob} {C : List Bool} {k : Nat} {o : Ob} {b : Bool} (ho : O[k]? = some o) (hb : C[k]? = some b) : sel (O.take (k + 1)) (C.take (k + 1)) = sel (O.take k) (C.take k) ++ (if b then [o.ref] else []) := by
  rw [take_step ho, take_step hb]
  refine sel_snoc _ _ _ _ ?_
  have h1 := (List.getElem?_eq_some_iff.1 ho).1
  have h2 := (List.getElem?_eq_some_iff.1 hb).1
  simp; omega
theorem sel_len : ∀ (O : List Ob) (C : List Bool), (sel O C).length ≤ O.length
  | [], [] => by simp [sel]
  | [], _ :: _ => by simp [sel]
  | _ :: _, [] => by simp [sel]
  | o :: O, true :: C => by have := sel_len O C; simp [sel]; omega
  | o :: O, false :: C => by have := sel_len O C; simp [sel]; omega
theorem sel_all : ∀ (O : List Ob), sel O (List.replicate O.length true) = O.map Ob.ref
  | [] => rfl
  | o :: O => by rw [List.length_cons, List.replicate_succ]; simp [sel, sel_all O]
theorem mem_sel : ∀ {O : List Ob} {C : List Bool} {r : Int}, r ∈ sel O C ↔ ∃ (i : Nat) (o : Ob), O[i]? = some o ∧ C[i]? = some true ∧ o.ref = r
  | [], C, r => by cases C <;> simp [sel]
  | o :: O, [], r => by simp [sel]
  | o :: O, b :: C, r => by
    have ih := @mem_sel O C r
    have key : (∃ (i : Nat) (x : Ob), (o :: O)[i]? = some x ∧ (b :: C)[i]? = some true ∧ x.ref = r) ↔ (b = true ∧ o.ref = r) ∨ ∃ (i : Nat) (x : Ob), O[i]? = some x ∧ C[i]? = some true ∧ x.ref = r := by
      constructor
      · rintro ⟨i, x, h1, h2, h3⟩
        cases i with
        | zero => simp at h1 h2; subst h1; exact Or.inl ⟨h2, h3⟩
        | succ i => exact Or.inr ⟨i, x, by simpa using h1, by simpa using h2, h3⟩
      · rintro (⟨h1, h2⟩ | ⟨i, x, h1, h2, h3⟩)
        · exact ⟨0, o, rfl, by simp [h1], h2⟩
        · exact ⟨i + 1, x, by simpa using h1, by simpa using h2, h3⟩
    rw [key, ← ih]
    cases b
    · simp [sel]
    · simp [sel]
      constructor
      · rintro (h | h)
        · exact Or.inl h.symm
        · exact Or.inr h
      · rintro (h | h)
        · exact Or.inl h.symm
        · exact Or.inr h
theorem sel_asc {O : List Ob} (h : O.Pairwise (fun a b => a.ref < b.ref)) (C : List Bool) : (sel O C).Pairwise (· < ·) := by
  induction O generalizing C with
  | nil => cases C <;> simp [sel]
  | cons o O ih =>
    obtain ⟨h1, h2⟩ := List.pairwise_cons.1 h
    cases C with
    | nil => simp [sel]
    | cons b C =>
      cases b
      · exact ih h2 C
      · refine List.pairwise_cons.2 ⟨?_, ih h2 C⟩
        intro r hr
        obtain ⟨i, x, hx, _, rfl⟩ := mem_sel.1 hr
        exact h1 x (List.mem_of_getElem? hx)
theorem Live1_any (i : Int) (w : World) : Calls Tryd.prog 54 #[.int .i64 i] w fun e w' => e = .returned (.bool true) ∧ w' = w := by
  go_enter Tryd.func54, Tryd.ntmps54
  go_wp2
  go_ret
  exact ⟨rfl, rfl⟩
/-- Rows of bools. -/
def BoAt (w : World) (ao : Option Addr) (l : List Bool) : Prop := ∀ (i : Nat) (x : Bool), l[i]? = some x → ∃ b off, ao = some ⟨b, off, none⟩ ∧ w.cell? ⟨b, off + i, none⟩ = some (.bool x)
theorem BoAt.below {w w' : World} {ao : Option Addr} {l : List Bool} (h : BoAt w ao l) (hb : Below w.heap.size w w') : BoAt w' ao l := fun i x hx => by
  obtain ⟨b, off, e, hc⟩ := h i x hx
  exact ⟨b, off, e, (hb.cell (p := ⟨b, off + i, none⟩) (World.block_lt_of_cell? w _ hc)).trans hc⟩
theorem Reach1_any (q : Nat) (ao : Option Addr) (cap : Nat) (C : List Bool) (k : Nat) (b : Bool) (w : World) (hq : w.cell? ⟨q, 0, none⟩ = some (.slice ao C.length cap)) (hC : BoAt w ao C) (hb : C[k]? = some b) : Calls Tryd.prog 51 #[.int .i64 ((k : Nat) : Int), .pointer (some ⟨q, 0, none⟩)] w fun e w' => e = .returned (.bool b) ∧ w' = w := by
  obtain ⟨bb, off, rfl, hc⟩ := hC k b hb
  have hk := (List.getElem?_eq_some_iff.1 hb).1
  have i1 : ((k : Nat) : Int) < ((C.length : Nat) : Int) := by omega
  clear hC hb
  go_enter Tryd.func51, Tryd.ntmps51
  go_wp2
  go_ret
  exact ⟨rfl, rfl⟩
set_option maxHeartbeats 2000000 in
theorem thoseLive_any (B g : Nat) (h : Hm)  (w : World) (H : HpAt B w g h) (hlen : h.O.length ≤ 4096)  :
    Calls Tryd.prog 50 #[.pointer (some ⟨g, 0, none⟩), .func (.func 54) #[] #[]] w fun e w' => ∃ v, e = .returned v ∧ OwnJ w' w.heap.size v (sel h.O (List.replicate h.O.length true)) ∧ Below w.heap.size w w' := by
  obtain ⟨i0, hi, hz0, hz1, hz2⟩ := info_parts infoJ
  obtain ⟨oa, oc, hov⟩ := H.ovs
  have c4 := H.c4
  rw [hov] at c4
  have HOV := hide hov
  have HH := hide H
  clear H hov
  go_enter Tryd.func50, Tryd.ntmps50
  go_wp2_with fail
  clear c4
  go_loopw [5, 13] (fun v i wr => ∃ (k : Nat) (X : List Int), k ≤ h.O.length ∧ i = .int .i64 (k : Int) ∧ X.length ≤ 4096 ∧ Hid (X = sel (h.O.take k) ((List.replicate h.O.length true).take k)) ∧ Hid (OwnJ wr w.heap.size v X) ∧ Hid (Below w.heap.size w wr)) (fun _ i _ => h.O.length - (intOf i).toNat)
  case atStart => exact ⟨0, [], by omega, rfl, by simp, hide rfl, hide (OwnJ.nil _ _), hide (Below.refl _ _)⟩
  case round =>
    obtain ⟨k, X, hk, rfl, hX4, HXE, HO, HB⟩ := hrel
    obtain ⟨va, vc, rfl, _⟩ := (unhide HO).at
    by_cases hlt : k < h.O.length
    · have i1 : ((k : Nat) : Int) < ((h.O.length : Nat) : Int) := by omega
      have hx := List.getElem?_eq_getElem hlt
      generalize h.O[k] = o at hx
      obtain ⟨b, cap, e, hBb, c0, c1, c2⟩ := ((unhide HH).below (unhide HB)).ob hx
      rw [unhide HOV] at e
      injection e with e1 _ e2
      subst e1
      have HBX : Hid (Bx (wr.alloc (.cells #[.int .i64 o.ref, .int .i64 o.cls, .slice (some ⟨o.pb, 0, none⟩) o.ps.length o.ps.length] 83)) wr.heap.size 83 #[.int .i64 o.ref, .int .i64 o.cls, .slice (some ⟨o.pb, 0, none⟩) o.ps.length o.ps.length]) := hide (heap_alloc_new wr _)
      have HBa : Hid (Below w.heap.size w (wr.alloc (.cells #[.int .i64 o.ref, .int .i64 o.cls, .slice (some ⟨o.pb, 0, none⟩) o.ps.length o.ps.length] 83))) := hide ((unhide HB).alloc (unhide HB).size _)
      have HOa : Hid (OwnJ (wr.alloc (.cells #[.int .i64 o.ref, .int .i64 o.cls, .slice (some ⟨o.pb, 0, none⟩) o.ps.length o.ps.length] 83)) w.heap.size (.slice va X.length vc) X) := hide ((unhide HO).alloc _)
      have HX := hide hx
      clear hx e2 hBb
      go_upto_region 5 with fail
      clear c0 c1 c2
      generalize wr.alloc (.cells #[.int .i64 o.ref, .int .i64 o.cls, .slice (some ⟨o.pb, 0, none⟩) o.ps.length o.ps.length] 83) = Wa at HBX HBa HOa ⊢
      generalize wr.heap.size = gb at HBX ⊢
      have b0 := (unhide HBX).c 0 rfl
      have HST : Hid (sel (h.O.take (k + 1)) ((List.replicate h.O.length true).take (k + 1)) = sel (h.O.take k) ((List.replicate h.O.length true).take k) ++ [o.ref]) := hide (by have := sel_step (C := List.replicate h.O.length true) (b := true) (unhide HX) (by rw [List.getElem?_replicate, if_pos hlt]); rw [this]; rfl)
      go_wp2_with fail
      refine (Live1_any (k : Int) Wa).mono ?_
      rintro e Wb ⟨rfl, hw⟩
      have HBb := HBa
      have HOb := HOa
      rw [hw]
      clear hw Wb
      obtain ⟨Wb, HWb⟩ : ∃ q, q = Wa := ⟨_, rfl⟩
      subst HWb
      have HR1 := hide ((unhide HOb).alloc (.cells #[.int .i64 o.ref] 3))
      go_wp2_with (at_builtin; refine wpList_append_own _ rfl _ _ 42 rfl (w.heap.size) 3 i0 (.int .i64 0) 1 8 Tryd.underlying42 hi hz0 hz1 hz2 rfl (by decide) _ X.length (jvals X) rfl (unhide HR1) ⟨Wb.heap.size, 0, none⟩ 1 1 [.int .i64 o.ref] rfl rfl (cell_one_newJ _ _ _) (by simp [Value.oneCell']) ?a3 ?a4 ?a5 ?_)
      case a3 => unfold maxLen; omega
      case a4 => omega
      case a5 => have := (unhide HBb).size; simp; omega
      intro v1 w1 hO1 hG1 _
      have HLX : (X ++ [o.ref]).length ≤ 4096 := by have := sel_len (h.O.take (k + 1)) ((List.replicate h.O.length true).take (k + 1)); rw [unhide HST, ← unhide HXE] at this; simp at this ⊢; omega
      have HO1 : Hid (OwnJ w1 (w.heap.size) v1 (X ++ [o.ref])) := hide (by unfold OwnJ jvals; rw [List.map_append, List.length_append]; exact hO1)
      have HB1 := hide (((unhide HBb).alloc (unhide HBb).size _).grown hG1 (by have := (unhide HBb).size; simp; omega) (fun q e => ((unhide HOb).lt q e).1))
      clear hO1 hG1
      go_wp2
      go_roundw
      case rel => exact ⟨k + 1, X ++ [o.ref], by omega, by go_num, HLX, hide (by rw [unhide HST, ← unhide HXE]), HO1, HB1⟩
      case measure => simp [intOf]; omega
    · have i1 : ¬ ((k : Nat) : Int) < ((h.O.length : Nat) : Int) := by omega
      have HE : Hid (sel (h.O.take k) ((List.replicate h.O.length true).take k) = sel h.O (List.replicate h.O.length true)) := hide (by rw [List.take_of_length_le (by omega), List.take_of_length_le (by simp; omega)])
      go_wp2
      go_ret
      exact ⟨_, rfl, by rw [← unhide HE, ← unhide HXE]; exact unhide HO, unhide HB⟩
set_option maxHeartbeats 2000000 in
theorem thoseReach_any (B g : Nat) (h : Hm) (q : Nat) (ao : Option Addr) (cp : Nat) (C : List Bool) (w : World) (H : HpAt B w g h) (hlen : h.O.length ≤ 4096) (hCl : C.length = h.O.length) (hq : w.cell? ⟨q, 0, none⟩ = some (.slice ao C.length cp)) (hC : BoAt w ao C) :
    Calls Tryd.prog 50 #[.pointer (some ⟨g, 0, none⟩), .func (.func 51) #[] #[.pointer (some ⟨q, 0, none⟩)]] w fun e w' => ∃ v, e = .returned v ∧ OwnJ w' w.heap.size v (sel h.O C) ∧ Below w.heap.size w w' := by
  obtain ⟨i0, hi, hz0, hz1, hz2⟩ := info_parts infoJ
  obtain ⟨oa, oc, hov⟩ := H.ovs
  have c4 := H.c4
  rw [hov] at c4
  have HOV := hide hov
  have HH := hide H
  have HCQ := hide (And.intro hq hC)
  have hCl1 : C.length ≤ h.O.length := by omega
  have hCl2 : h.O.length ≤ C.length := by omega
  clear hq hC hCl
  clear H hov
  go_enter Tryd.func50, Tryd.ntmps50
  go_wp2_with fail
  clear c4
  go_loopw [5, 13] (fun v i wr => ∃ (k : Nat) (X : List Int), k ≤ h.O.length ∧ i = .int .i64 (k : Int) ∧ X.length ≤ 4096 ∧ Hid (X = sel (h.O.take k) (C.take k)) ∧ Hid (OwnJ wr w.heap.size v X) ∧ Hid (Below w.heap.size w wr)) (fun _ i _ => h.O.length - (intOf i).toNat)
  case atStart => exact ⟨0, [], by omega, rfl, by simp, hide rfl, hide (OwnJ.nil _ _), hide (Below.refl _ _)⟩
  case round =>
    obtain ⟨k, X, hk, rfl, hX4, HXE, HO, HB⟩ := hrel
    obtain ⟨va, vc, rfl, _⟩ := (unhide HO).at
    by_cases hlt : k < h.O.length
    · have i1 : ((k : Nat) : Int) < ((h.O.length : Nat) : Int) := by omega
      have hx := List.getElem?_eq_getElem hlt
      generalize h.O[k] = o at hx
      obtain ⟨b, cap, e, hBb, c0, c1, c2⟩ := ((unhide HH).below (unhide HB)).ob hx
      rw [unhide HOV] at e
      injection e with e1 _ e2
      subst e1
      have HBX : Hid (Bx (wr.alloc (.cells #[.int .i64 o.ref, .int .i64 o.cls, .slice (some ⟨o.pb, 0, none⟩) o.ps.length o.ps.length] 83)) wr.heap.size 83 #[.int .i64 o.ref, .int .i64 o.cls, .slice (some ⟨o.pb, 0, none⟩) o.ps.length o.ps.length]) := hide (heap_alloc_new wr _)
      have HBa : Hid (Below w.heap.size w (wr.alloc (.cells #[.int .i64 o.ref, .int .i64 o.cls, .slice (some ⟨o.pb, 0, none⟩) o.ps.length o.ps.length] 83))) := hide ((unhide HB).alloc (unhide HB).size _)
      have HOa : Hid (OwnJ (wr.alloc (.cells #[.int .i64 o.ref, .int .i64 o.cls, .slice (some ⟨o.pb, 0, none⟩) o.ps.length o.ps.length] 83)) w.heap.size (.slice va X.length vc) X) := hide ((unhide HO).alloc _)
      have HX := hide hx
      clear hx e2 hBb
      go_upto_region 5 with fail
      clear c0 c1 c2
      generalize wr.alloc (.cells #[.int .i64 o.ref, .int .i64 o.cls, .slice (some ⟨o.pb, 0, none⟩) o.ps.length o.ps.length] 83) = Wa at HBX HBa HOa ⊢
      generalize wr.heap.size = gb at HBX ⊢
      have b0 := (unhide HBX).c 0 rfl
      have hbk := List.getElem?_eq_getElem (show k < C.length by omega)
      generalize C[k] = bb at hbk
      have HQ := hide (Reach1_any q ao cp C k bb Wa (((unhide HBa).cell (p := ⟨q, 0, none⟩) (World.block_lt_of_cell? w _ (unhide HCQ).1)).trans (unhide HCQ).1) ((unhide HCQ).2.below (unhide HBa)) hbk)
      cases bb with
      | true =>
        have HST : Hid (sel (h.O.take (k + 1)) (C.take (k + 1)) = sel (h.O.take k) (C.take k) ++ [o.ref]) := hide (sel_step (unhide HX) hbk)
        clear hbk
        go_wp2_with fail
        refine (unhide HQ).mono ?_
        rintro e Wb ⟨rfl, hw⟩
        have HBb := HBa
        have HOb := HOa
        rw [hw]
        clear hw Wb HQ
        obtain ⟨Wb, HWb⟩ : ∃ q, q = Wa := ⟨_, rfl⟩
        subst HWb
        have HR1 := hide ((unhide HOb).alloc (.cells #[.int .i64 o.ref] 3))
        go_wp2_with (at_builtin; refine wpList_append_own _ rfl _ _ 42 rfl (w.heap.size) 3 i0 (.int .i64 0) 1 8 Tryd.underlying42 hi hz0 hz1 hz2 rfl (by decide) _ X.length (jvals X) rfl (unhide HR1) ⟨Wb.heap.size, 0, none⟩ 1 1 [.int .i64 o.ref] rfl rfl (cell_one_newJ _ _ _) (by simp [Value.oneCell']) ?a3 ?a4 ?a5 ?_)
        case a3 => unfold maxLen; omega
        case a4 => omega
        case a5 => have := (unhide HBb).size; simp; omega
        intro v1 w1 hO1 hG1 _
        have HLX : (X ++ [o.ref]).length ≤ 4096 := by have := sel_len (h.O.take (k + 1)) (C.take (k + 1)); rw [unhide HST, ← unhide HXE] at this; simp at this ⊢; omega
        have HO1 : Hid (OwnJ w1 (w.heap.size) v1 (X ++ [o.ref])) := hide (by unfold OwnJ jvals; rw [List.map_append, List.length_append]; exact hO1)
        have HB1 := hide (((unhide HBb).alloc (unhide HBb).size _).grown hG1 (by have := (unhide HBb).size; simp; omega) (fun q e => ((unhide HOb).lt q e).1))
        clear hO1 hG1
        go_wp2
        go_roundw
        case rel => exact ⟨k + 1, X ++ [o.ref], by omega, by go_num, HLX, hide (by rw [unhide HST, ← unhide HXE]), HO1, HB1⟩
        case measure => simp [intOf]; omega
      | false =>
        have HST : Hid (sel (h.O.take (k + 1)) (C.take (k + 1)) = sel (h.O.take k) (C.take k)) := hide (by have := sel_step (unhide HX) hbk; simpa using this)
        clear hbk
        go_wp2_with fail
        refine (unhide HQ).mono ?_
        rintro e Wb ⟨rfl, hw⟩
        rw [hw]
        clear hw Wb HQ
        go_wp2
        go_roundw
        case rel => exact ⟨k + 1, X, by omega, by go_num, hX4, hide (by rw [unhide HST]; exact unhide HXE), HOa, HBa⟩
        case measure => simp [intOf]; omega
    · have i1 : ¬ ((k : Nat) : Int) < ((h.O.length : Nat) : Int) := by omega
      have HE : Hid (sel (h.O.take k) (C.take k) = sel h.O C) := hide (by rw [List.take_of_length_le (by omega), List.take_of_length_le (by omega)])
      go_wp2
      go_ret
      exact ⟨_, rfl, by rw [← unhide HE, ← unhide HXE]; exact unhide HO, unhide HB⟩
theorem Live_any (B g : Nat) (h : Hm) (w : World) (H : HpAt B w g h) (hlen : h.O.length ≤ 4096) : Calls Tryd.prog 33 #[.pointer (some ⟨g, 0, none⟩)] w fun e w' => ∃ v, e = .returned v ∧ OwnJ w' w.heap.size v (h.O.map Ob.ref) ∧ Below w.heap.size w w' := by
  have HM := hide (isMade_yes B g h w H)
  have HT := hide (thoseLive_any B g h w H hlen)
  rw [sel_all] at HT
  clear H
  go_enter Tryd.func33, Tryd.ntmps33
  go_wp2_with fail
  refine (unhide HM).mono ?_
  rintro e W ⟨rfl, hw⟩
  rw [hw]
  clear hw W HM
  go_wp2_with fail
  refine (unhide HT).mono ?_
  rintro e W2 ⟨v, rfl, hO, hB⟩
  have HO := hide (And.intro hO hB)
  clear hO hB
  go_wp2
  go_ret
  exact ⟨v, rfl, (unhide HO).1, (unhide HO).2⟩
end Go.Proofs.YtbbfnampjbdnbaaDoor
