/-
  provisolaw14.places: all that an object holds; what Collect leaves is all come to. Conditions: the heap is one that calls made.
-/
import Derived.Test.YtnkhkppddlpcmaaDoorKHl1
namespace Go.Proofs.YtnkhkppddlpcmaaDoor
open Go.RowKit
set_option maxRecDepth 20000

theorem place_get {h : Hm} {ref : Int} {o : Ob} (ho : objD h.O ref = some o) {i : Nat} {x : Int} (hi : o.ps[i]? = some x) : plE h.O ref (i : Int) = 0 ∧ getV h.O ref (i : Int) = x := by
  have hl := (List.getElem?_eq_some_iff.1 hi).1
  have e : plE h.O ref (i : Int) = 0 := by unfold plE; rw [ho]; simp only; rw [if_pos (by omega)]
  refine ⟨e, ?_⟩
  unfold getV getD
  rw [if_pos e, ho]
  simp [hi]
set_option maxHeartbeats 2000000 in
theorem places_any (B g : Nat) (h : Hm) (ref : Int) (o : Ob) (w : World) (H : HpAt B w g h) (hok : HmOk h) (ho : objD h.O ref = some o) :
    Calls Tryd.prog 28 #[.pointer (some ⟨g, 0, none⟩), .int .i64 ref] w fun e w' => ∃ v, e = .returned v ∧ OwnJ w' w.heap.size v o.ps ∧ Below w.heap.size w w' := by
  obtain ⟨i0, hi, hz0, hz1, hz2⟩ := info_parts infoJ
  have HL := hide (Len_any B g h ref w H hok)
  have HH := hide H
  have HK := hide hok
  have HO := hide ho
  have hpl := hok.plen (obj_mem ho).1
  clear H hok ho
  go_enter Tryd.func28, Tryd.ntmps28
  go_wp2_with fail
  refine (unhide HL).mono ?_
  rintro e W2 ⟨⟨r, c, a, n, cp, er, rfl, hI⟩, hb2⟩
  have HB2 := hide hb2
  clear hb2 HL
  rcases hI with ⟨rfl, o', ho', q1, q2, q3, q4, q5, rfl, q6⟩ | ⟨hno, _⟩
  · rw [unhide HO] at ho'
    injection ho' with ho'
    subst ho'
    clear q1 q2 q3 q4 q5 q6
    go_wp2_with fail
    go_loopw [7, 18] (fun v i wr => ∃ (k : Nat) (X : List Int), k ≤ o.ps.length ∧ i = .int .i64 (k : Int) ∧ X.length ≤ k ∧ Hid (X = o.ps.take k) ∧ Hid (OwnJ wr w.heap.size v X) ∧ Hid (Below w.heap.size w wr)) (fun _ i _ => o.ps.length - (intOf i).toNat)
    case atStart => exact ⟨0, [], by omega, rfl, by simp, hide rfl, hide (OwnJ.nil _ _), HB2⟩
    case round =>
      obtain ⟨k, X, hk, rfl, hXk, HXE, HOw, HB⟩ := hrel
      clear HB2
      obtain ⟨va, vc, rfl, _⟩ := (unhide HOw).at
      by_cases hlt : k < o.ps.length
      · have i1 : ((k : Nat) : Int) < ((o.ps.length : Nat) : Int) := by omega
        have hx := List.getElem?_eq_getElem hlt
        generalize o.ps[k] = y at hx
        have hpg := place_get (unhide HO) hx
        have HG := hide (Get_any B g h ref (k : Int) wr ((unhide HH).below (unhide HB)) (unhide HK))
        rw [hpg.1, hpg.2] at HG
        have HST : Hid (o.ps.take (k + 1) = o.ps.take k ++ [y]) := hide (take_step hx)
        clear hx hpg
        go_wp2_with fail
        with_reducible refine (unhide HG).mono ?_
        rintro e W3 ⟨rfl, hb3⟩
        have HB3 := hide ((unhide HB).trans (hb3.mono (unhide HB).size))
        have HO3 := hide ((unhide HOw).below hb3)
        clear hb3 HG
        have HR1 := hide ((unhide HO3).alloc (.cells #[.int .i64 y] 3))
        go_wp2_with (at_builtin; refine wpList_append_own _ rfl _ _ 42 rfl (w.heap.size) 3 i0 (.int .i64 0) 1 8 Tryd.underlying42 hi hz0 hz1 hz2 rfl (by decide) _ X.length (jvals X) rfl (unhide HR1) ⟨W3.heap.size, 0, none⟩ 1 1 [.int .i64 y] rfl rfl (cell_one_newJ _ _ _) (by simp [Value.oneCell']) ?a3 ?a4 ?a5 ?_)
        case a3 => unfold maxLen; omega
        case a4 => omega
        case a5 => have := (unhide HB3).size; simp; omega
        intro v1 w1 hO1 hG1 _
        have HO1 : Hid (OwnJ w1 (w.heap.size) v1 (X ++ [y])) := hide (by unfold OwnJ jvals; rw [List.map_append, List.length_append]; exact hO1)
        have HB1 := hide (((unhide HB3).alloc (unhide HB3).size _).grown hG1 (by have := (unhide HB3).size; simp; omega) (fun q e => ((unhide HO3).lt q e).1))
        clear hO1 hG1
        go_wp2
        go_roundw
        case rel => exact ⟨k + 1, X ++ [y], by omega, by go_num, by simp; omega, hide (by rw [unhide HST, ← unhide HXE]), HO1, HB1⟩
        case measure => simp [intOf]; omega
      · have i1 : ¬ ((k : Nat) : Int) < ((o.ps.length : Nat) : Int) := by omega
        have HE : Hid (X = o.ps) := hide (by have := unhide HXE; rw [List.take_of_length_le (by omega)] at this; exact this)
        go_wp2
        go_ret
        exact ⟨_, rfl, by rw [← unhide HE]; exact unhide HOw, unhide HB⟩
  · rw [unhide HO] at hno
    cases hno
/-! ### What Collect leaves -/
theorem com_uniq {h : Hm} {R : List Int} {C C' : List Bool} (h1 : ComIs h R C) (h2 : ComIs h R C') : C' = C := by
  refine List.ext_getElem? (fun i => ?_)
  by_cases hi : i < C.length
  · have hi' : i < C'.length := by rw [h2.1, ← h1.1]; exact hi
    rw [List.getElem?_eq_getElem hi, List.getElem?_eq_getElem hi']
    have e1 := h1.2 i
    have e2 := h2.2 i
    rw [List.getElem?_eq_getElem hi] at e1
    rw [List.getElem?_eq_getElem hi'] at e2
    have : (some C'[i] = some true) ↔ (some C[i] = some true) := e2.trans e1.symm
    simp only [Option.some.injEq] at this ⊢
    cases hc : C[i] <;> cases hd : C'[i] <;> simp_all
  · have e1 : C'[i]? = none := List.getElem?_eq_none (by rw [h2.1, ← h1.1]; omega)
    have e2 : C[i]? = none := List.getElem?_eq_none (by omega)
    rw [e1, e2]
theorem mem_keep : ∀ {O : List Ob} {C : List Bool} {o : Ob}, o ∈ keepO O C ↔ ∃ i : Nat, O[i]? = some o ∧ C[i]? = some true
  | [], C, o => by cases C <;> simp [keepO]
  | x :: O, [], o => by simp [keepO]
  | x :: O, b :: C, o => by
    have ih := @mem_keep O C o
    have key : (∃ i : Nat, (x :: O)[i]? = some o ∧ (b :: C)[i]? = some true) ↔ (b = true ∧ x = o) ∨ ∃ i : Nat, O[i]? = some o ∧ C[i]? = some true := by
      constructor
      · rintro ⟨i, h1, h2⟩
        cases i with
        | zero => simp at h1 h2; exact Or.inl ⟨h2, h1⟩
        | succ i => exact Or.inr ⟨i, by simpa using h1, by simpa using h2⟩
      · rintro (⟨h1, h2⟩ | ⟨i, h1, h2⟩)
        · exact ⟨0, by simp [h2], by simp [h1]⟩
        · exact ⟨i + 1, by simpa using h1, by simpa using h2⟩
    rw [key, ← ih]
    cases b
    · simp [keepO]
    · simp only [keepO, List.mem_cons, true_and]
      constructor
      · rintro (h | h)
        · exact Or.inl h.symm
        · exact Or.inr h
      · rintro (h | h)
        · exact Or.inl h.symm
        · exact Or.inr h
theorem kept_come {h : Hm} {R : List Int} {C : List Bool} {ov : Value} (hC : ComIs h R C) {k : Nat} (H : Rch h R k) : ∀ o, h.O[k]? = some o → ∃ k' : Nat, (colH h C ov).O[k']? = some o ∧ Rch (colH h C ov) R k' := by
  have there : ∀ {t : Nat} {x : Ob}, Rch h R t → h.O[t]? = some x → ∃ t' : Nat, (colH h C ov).O[t']? = some x := fun hr hx => by
    obtain ⟨t', ht, e⟩ := List.mem_iff_getElem.1 (mem_keep.2 ⟨_, hx, (hC.2 _).2 hr⟩)
    exact ⟨t', by show (keepO h.O C)[t']? = _; rw [List.getElem?_eq_getElem ht, e]⟩
  induction H with
  | root h1 h2 =>
    intro o ho
    rw [h1] at ho
    injection ho with ho
    subst ho
    obtain ⟨k', hk⟩ := there (.root h1 h2) h1
    exact ⟨k', hk, .root hk h2⟩
  | step hr h1 h2 h3 h4 h5 ih =>
    intro o ho
    rw [h4] at ho
    injection ho with ho
    subst ho
    obtain ⟨k', hk, hrk⟩ := ih _ h1
    obtain ⟨t', ht⟩ := there (.step hr h1 h2 h3 h4 h5) h4
    exact ⟨t', ht, .step hrk hk h2 h3 ht h5⟩
theorem again_none {h h' : Hm} {R : List Int} {C : List Bool} {ov : Value} {n er : Int} (hok : HmOk h) (hC : ComIs h R C) (hs : ∀ r ∈ R, ∃ o ∈ h.O, o.ref = r) (hI : ColIs (colH h C ov) R h' n er) : n = 0 ∧ er = 0 := by
  have allin : ∀ r ∈ R, ∃ o ∈ (colH h C ov).O, o.ref = r := fun r hr => by
    obtain ⟨o, ho, e⟩ := hs r hr
    obtain ⟨i, hi, ei⟩ := List.mem_iff_getElem.1 ho
    have hx : h.O[i]? = some o := by rw [← ei]; exact List.getElem?_eq_getElem hi
    exact ⟨o, mem_keep.2 ⟨i, hx, (hC.2 i).2 (.root hx (by rw [e]; exact hr))⟩, e⟩
  rcases hI with ⟨⟨r, hr, _, hn⟩, _⟩ | ⟨_, rfl, C2, ov2, hC2, rfl, _⟩
  · obtain ⟨o, ho, e⟩ := allin r hr
    exact absurd e (hn o ho)
  · refine ⟨?_, rfl⟩
    have hok1 := hok.col hC.1 ov
    have e : C2 = List.replicate (colH h C ov).O.length true := by
      rw [List.eq_replicate_iff]
      refine ⟨hC2.1, fun b hb => ?_⟩
      obtain ⟨i, hi, ei⟩ := List.mem_iff_getElem.1 hb
      have hil : i < (colH h C ov).O.length := by rw [← hC2.1]; exact hi
      have hx := List.getElem?_eq_getElem hil
      obtain ⟨j, hj, hcj⟩ := mem_keep.1 (List.mem_of_getElem? (show (keepO h.O C)[i]? = some _ from hx))
      obtain ⟨i', hi', hr'⟩ := kept_come (ov := ov) hC ((hC.2 j).1 hcj) _ hj
      have eii := ref_uniq hok1 hx hi' rfl
      subst eii
      have h1 := (hC2.2 i).2 hr'
      rw [List.getElem?_eq_getElem hi] at h1
      injection h1 with h1
      rw [← ei, h1]
    have : goneN (colH h C ov).O C2 = 0 := by
      rw [e]
      clear e hC2 hok1
      generalize (colH h C ov).O = O
      induction O with
      | nil => rfl
      | cons o O ih => rw [List.length_cons, List.replicate_succ]; exact ih
    rw [this]
    rfl
end Go.Proofs.YtnkhkppddlpcmaaDoor
