/-
  flow.Reach.
-/
import Derived.Test.YtdpfinnclnapbaaDoorRc1
import Derived.Laws.AppendOwnNone
import Derived.Deep.LoopGhost
namespace Go.Proofs.YtdpfinnclnapbaaDoor
open Go.RowKit Go.Maps
set_option maxRecDepth 20000

/-- How many of the instructions are not come to yet. -/
def frN5 (l : List Ix) (cm : List Int) : Nat := l.countP (fun y => decide (y.p ∉ cm))
theorem frN5_step (cm : List Int) (a : Int) (hn : a ∉ cm) : ∀ l : List Ix, frN5 l (cm ++ [a]) + (if hasP l a = true then 1 else 0) ≤ frN5 l cm := by
  intro l
  induction l with
  | nil => simp [frN5, hasP]
  | cons y t ih =>
    have e1 : hasP (y :: t) a = (decide (y.p = a) || hasP t a) := by simp [hasP]
    unfold frN5 at ih ⊢
    rw [List.countP_cons, List.countP_cons, e1]
    by_cases hy : y.p = a
    · have q1 : decide (y.p ∉ cm ++ [a]) = false := by simp [hy]
      have q2 : decide (y.p ∉ cm) = true := by rw [hy]; simpa using hn
      have q3 : decide (y.p = a) = true := by simpa using hy
      rw [q1, q2, q3]
      simp only [Bool.true_or, if_true, Bool.false_eq_true, if_false]
      split at ih <;> omega
    · have q3 : decide (y.p = a) = false := by simpa using hy
      have q1 : decide (y.p ∉ cm ++ [a]) = decide (y.p ∉ cm) := by simp [hy]
      rw [q1, q3, Bool.false_or]
      omega
theorem frN5_come {l : List Ix} {cm : List Int} {a : Int} (hn : a ∉ cm) (hp : hasP l a = true) : frN5 l (cm ++ [a]) + 1 ≤ frN5 l cm := by
  have := frN5_step cm a hn l
  rw [if_pos hp] at this
  exact this
theorem frN5_nil (l : List Ix) : frN5 l [] = l.length := by
  unfold frN5
  rw [List.countP_eq_length]
  simp
theorem next_bd {p : Int} {op : Nat} {a b : Int} (ha : -9223372036854775808 ≤ a ∧ a ≤ 9223372036854775807) (h : b ∈ nextD p op a) : -9223372036854775808 ≤ b ∧ b ≤ 9223372036854775807 := by
  unfold nextD at h
  split at h
  · cases h
  · rename_i hc
    have hs := sizeD_le op
    have hp : 0 ≤ p ∧ p ≤ 4096 := by
      have : inC p = true := by simpa using fun e => hc (Or.inr e)
      unfold inC at this; simp at this; omega
    have h0 : ∀ y ∈ (if endD op then [] else putJ [] (p + sizeD op)), y = p + sizeD op := by
      intro y hy
      split at hy
      · cases hy
      · rcases mem_putJ.1 hy with hy | hy
        · exact hy
        · cases hy
    simp only [] at h
    split at h
    · rcases mem_putJ.1 h with h | h
      · omega
      · have := h0 _ h; omega
    · have := h0 _ h; omega
theorem own_pop {w : World} {base : Nat} {v : Value} {l : List Int} {a : Int} (h : OwnJ w base v (l ++ [a])) : ∃ g cap, v = .slice (some ⟨g, 0, none⟩) (l.length + 1) cap ∧ l.length + 1 ≤ cap ∧ w.cell? ⟨g, l.length, none⟩ = some (.int .i64 a) ∧ OwnJ w base (.slice (some ⟨g, 0, none⟩) l.length cap) l := by
  rcases h.2 with ⟨_, h2⟩ | ⟨g, cap, cur, hv, hb, hh, hn, hm, hs, ht⟩
  · simp at h2
  · rw [List.length_append, List.length_singleton] at hv hn
    refine ⟨g, cap, hv, hn, ?_, ?_, Or.inr ⟨g, cap, cur, rfl, hb, hh, by omega, hm, hs, ?_⟩⟩
    · rcases h.shape with ⟨h1, _⟩ | ⟨g', cap', h1, _, _, _, hc, _⟩
      · rw [hv] at h1; injection h1 with h1; cases h1
      · rw [hv] at h1
        injection h1 with h1
        injection h1 with h1
        injection h1 with h1
        rw [h1]
        exact hc l.length a (by simp)
    · simp [jvals]
    · have := congrArg (List.take (l.length * 1)) ht
      rw [List.take_take] at this
      rw [Nat.min_eq_left (by simp)] at this
      rw [this]
      unfold jvals
      rw [List.map_append, List.take_append_of_le_length (by simp)]
      rw [List.take_of_length_le (by simp)]
theorem jcells {w : World} {g : Nat} {l : List Int} (h : ∀ (i : Nat) (x : Int), l[i]? = some x → w.cell? ⟨g, i, none⟩ = some (.int .i64 x)) : ∀ (j : Nat) u, (jvals l)[j]? = some u → w.cell? ((⟨g, 0, none⟩ : Addr).add j) = some u := by
  intro j u hj
  unfold jvals at hj
  rw [List.getElem?_map] at hj
  obtain ⟨x, hx, rfl⟩ := Option.map_eq_some_iff.1 hj
  rw [Addr.add_lit, Nat.zero_add]
  exact h j x hx
theorem jone (l : List Int) : ∀ u ∈ jvals l, u.oneCell' = true := by
  intro u hu
  obtain ⟨x, _, rfl⟩ := List.mem_map.1 hu
  rfl
theorem zeroU (w : World) : (zeroValue 68).run Tryd.prog w = .ok (.agg #[]) w := by kernel_rfl
theorem has_setD (ks : List Int) (x : Int) : Maps.has (setOf (H := Unit) (.agg []) (ks.map (Lit.int .i64))) (Lit.int .i64 x) = decide (x ∈ ks) := by
  by_cases h : x ∈ ks
  · rw [(has_set x).2 h]; simp [h]
  · have : ¬ Maps.has (setOf (H := Unit) (.agg []) (ks.map (Lit.int .i64))) (Lit.int .i64 x) = true := fun e => h ((has_set x).1 e)
    simp [h, this]
theorem OwnJ.new (w : World) (base : Nat) (x : Int) (hb : base ≤ w.heap.size) : OwnJ (w.alloc (.cells #[.int .i64 x] 3)) base (.slice (some ⟨w.heap.size, 0, none⟩) 1 1) [x] :=
  ⟨rfl, Or.inr ⟨w.heap.size, 1, _, rfl, hb, heap_alloc_new w _, Nat.le_refl _, by decide, rfl, rfl⟩⟩

set_option maxRecDepth 20000 in
set_option maxHeartbeats 4000000 in
theorem Reach_any (ao : Option Addr) (c : Nat) (l : List Ix) (s : Int) (w : World) (hx : XsAt w ao l) (hW : WidAt w) (hz : l.length ≤ 4400000000000) (hbp : ∀ x ∈ l, -9223372036854775808 ≤ x.p ∧ x.p ≤ 9223372036854775807) (hba : ∀ x ∈ l, -9223372036854775808 ≤ x.a ∧ x.a ≤ 9223372036854775807) (hs : -9223372036854775808 ≤ s ∧ s ≤ 9223372036854775807) :
    Calls Tryd.prog 15 #[.slice ao l.length c, .int .i64 s] w fun e w' => ∃ v js, e = .returned v ∧ OwnJ w' w.heap.size v js ∧ AscJ js ∧ (∀ x, x ∈ js ↔ Rch l s x) ∧ js.length ≤ l.length ∧ Below w.heap.size w w' := by
  obtain ⟨i0, hi, hz0, hz1, hz2⟩ := info_parts infoJ
  have hmm := @run_makeMap Tryd.prog
  have HF := hide (firsts_any ao c l w hx hz hbp)
  have HX := hide hx
  have HW := hide hW
  clear hx hW
  go_enter Tryd.func15, Tryd.ntmps15
  go_wp2_with (go_at_call 25; refine (unhide HF).mono ?_; rintro e w2 ⟨rfl, hM, hB2⟩)
  have HM := hide hM
  have HB := hide hB2
  have HX2 := hide ((unhide HX).below hB2)
  have HW2 := hide ((unhide HW).below hB2)
  have hsz : w.heap.size + 1 < w2.heap.size := hM.lt
  have HP := hide hbp
  have HA := hide hba
  have HS0 := hide hs
  clear HX HW hM hB2 HF hbp hba hs
  go_loopg [7] (3 * l.length + 1) (fun k v wr => ∃ cm ah, Hid (OwnJ wr (w2.heap.size + 1) v ah) ∧ Hid (SetAt wr w2.heap.size cm.length cm) ∧ Hid (Below w2.heap.size w2 wr) ∧ Hid (Srch l s cm ah) ∧ Hid (∀ a ∈ ah, -9223372036854775808 ≤ a ∧ a ≤ 9223372036854775807) ∧ cm.length + frN5 l cm ≤ l.length ∧ ah.length + 3 * frN5 l cm ≤ k ∧ k ≤ 3 * l.length + 1)
  case atStart =>
    refine ⟨[], [s], hide (by have := OwnJ.new (w2.alloc (.map #[] 0)) (w2.heap.size + 1) s (by simp); simpa using this), hide ((World.ownsMap_made _ _ _ _).alloc _), hide (((Below.refl _ _).alloc (Nat.le_refl _) _).alloc (by simp) _), hide (Srch.start l s), hide (fun a ha => by rw [List.mem_singleton.1 ha]; exact unhide HS0), ?_, ?_, Nat.le_refl _⟩
    · rw [frN5_nil]; simp
    · rw [frN5_nil]; simp; omega
  case round =>
    obtain ⟨cm, ah, HO, HC, HBr, HSr, HAh, hf1, hf2, hgk⟩ := hrel
    rcases List.eq_nil_or_concat ah with rfl | ⟨ah, a, rfl⟩
    · obtain ⟨ea, ec, rfl, _, _⟩ := (unhide HO).at
      have HR := hide (rising_any w2.heap.size cm.length cm wr (unhide HC) (by omega))
      have HDn := hide (fun y => (unhide HSr).done y)
      clear HO HC HSr HAh
      go_wp2_with (go_at_call 41; refine (unhide HR).mono ?_; rintro e w3 ⟨v, js, rfl, hO, hA, hm, hl, hB3⟩)
      go_ret
      have hb1 := (unhide HBr).size
      have hb2 := (unhide HB).size
      exact ⟨v, js, rfl, hO.mono (by omega), hA, (fun y => (hm y).trans (unhide HDn y)), by omega, (unhide HB).trans ((((unhide HBr).trans (hB3.mono hb1))).mono hb2)⟩
    · rw [List.concat_eq_append] at HO HSr HAh hf2
      obtain ⟨g, cap, rfl, hcap, hcell, hO1⟩ := own_pop (unhide HO)
      rw [List.length_append, List.length_singleton] at hf2
      have hwf := wf_of (unhide HAh a (by simp))
      have HO1 := hide hO1
      clear hO1 HO
      have HM1 : Hid (MapAt wr (w.heap.size + 1) l.length (bks l)) := hide (World.ownsMap.kept (unhide HM) (grownX (unhide HBr)) (fun e => by cases e))
      have hah : ah.length ≤ 3 * l.length + 1 := by omega
      go_upto_region 6 with fail
      go_upto_region 7 with (at_lookup; refine wpList_lookup_own_ok_int _ rfl _ _ 55 rfl 3 3 .i64 lawK Tryd.underlying55 Tryd.underlying3 (zeroX _) (w.heap.size + 1) l.length (fMap (bks l)) rfl (unhide HM1) _ _ rfl (keyOf_int_mk Tryd.underlying3 hwf) ?_; intro cc hat hwc; have HAT := hide hat; clear hat hwc)
      rw [has_fMap]
      go_upto_region 8 with (at_lookup; refine wpList_lookup_own_unit _ rfl _ _ 65 rfl 3 68 lawK Tryd.underlying65 (zeroU _) w2.heap.size cm.length _ rfl (unhide HC) _ _ rfl (keyOf_int_mk Tryd.underlying3 hwf) ?_)
      rw [has_setD]
      have hal : Below wr.heap.size wr (wr.alloc (.cells #[] 68)) := (Below.refl _ _).alloc (Nat.le_refl _) _
      have HO3 := hide ((unhide HO1).below hal)
      have HC3 : Hid (SetAt (wr.alloc (.cells #[] 68)) w2.heap.size cm.length cm) := hide ((unhide HC).alloc _)
      have HB3 := hide ((unhide HBr).trans (hal.mono (unhide HBr).size))
      clear hal HO1 HC HBr HM1 hcell
      generalize wr.heap.size = gz
      generalize (wr.alloc (.cells #[] 68)) = w3 at HO3 HC3 HB3 ⊢
      have HAh2 : Hid (∀ y ∈ ah, -9223372036854775808 ≤ y ∧ y ≤ 9223372036854775807) := hide (fun y hy => unhide HAh y (List.mem_append_left _ hy))
      by_cases ha : a ∈ cm
      · rw [decide_eq_true ha]
        have HS3 := hide ((unhide HSr).skip (Or.inl ha))
        clear ha HAT
        go_wp2
        go_roundg (ah.length + 3 * frN5 l cm)
        case measure => omega
        case rel => exact ⟨cm, ah, HO3, HC3, HB3, HS3, HAh2, hf1, Nat.le_refl _, by omega⟩
      · rw [decide_eq_false ha]
        cases hh : hasP l a with
        | false =>
          have HS3 := hide ((unhide HSr).skip (Or.inr hh))
          clear ha hh HAT
          go_wp2
          go_roundg (ah.length + 3 * frN5 l cm)
          case measure => omega
          case rel => exact ⟨cm, ah, HO3, HC3, HB3, HS3, HAh2, hf1, Nat.le_refl _, by omega⟩
        | true =>
          have hfr := frN5_come ha hh
          rw [pI_has] at hh
          obtain ⟨i, hpi⟩ := Option.isSome_iff_exists.1 hh
          obtain ⟨x, hx, hxp⟩ := pI_some hpi
          have hcc : cc = (i : Int) := by
            have h1 := unhide HAT
            rw [at_fMap hpi] at h1
            injection h1 with h1
            injection h1 with _ h1
            exact h1.symm
          subst hcc
          have HS3 := hide ((unhide HSr).come hpi hx)
          have hil := (List.getElem?_eq_some_iff.1 hx).1
          have hiz : ((i : Nat) : Int) < ((l.length : Nat) : Int) := by omega
          have hxm := List.mem_of_getElem? hx
          have hnl := nextD_len x.p x.op x.a
          have HNB : Hid (∀ y ∈ nextD x.p x.op x.a, -9223372036854775808 ≤ y ∧ y ≤ 9223372036854775807) := hide (fun y hy => next_bd (unhide HA x hxm) hy)
          clear HAT ha hh hpi hxp
          have hS := unhide HC3
          unfold SetAt at hS
          go_upto_region 10 with (at_mapUpdate; refine wpList_mapUpdate_own _ rfl _ _ _ 65 rfl 3 68 lawK Tryd.underlying65 (unitElem (H := Unit)) w2.heap.size cm.length _ rfl hS (by unfold maxLen; omega) _ _ _ rfl rfl (keyOf_int_mk Tryd.underlying3 hwf) _ [] unitElem_mk ?_; intro w4 hS4 hG4)
          have hgb := ((World.ownsRow.lt (unhide HO3)) g rfl).1
          have HO4 : Hid (OwnJ w4 (w2.heap.size + 1) (.slice (some ⟨g, 0, none⟩) ah.length cap) ah) := hide (World.ownsRow.kept (unhide HO3) hG4 (Or.inr (fun e => by injection e with e; have e : g = w2.heap.size := e; omega)))
          have HC4 : Hid (SetAt w4 w2.heap.size (cm ++ [a]).length (cm ++ [a])) := hide (by unfold SetAt; rw [set_snoc, List.length_append]; exact hS4)
          have HB4 : Hid (Below w2.heap.size w2 w4) := hide ((unhide HB3).trans (below_grown hG4 (unhide HB3).size (fun r e => by injection e with e; omega)))
          obtain ⟨b, off, rfl, hc⟩ := ((unhide HX2).below (unhide HB4)) i x hx
          obtain ⟨c0, c1, c2, c3, ho⟩ := hc
          have HN := hide (Next_any x.p x.op x.a x.b w4 ((unhide HW2).below (unhide HB4)) ho)
          generalize nextD x.p x.op x.a = ns at HN HS3 HNB hnl
          clear hS hS4 hG4 HO3 HC3 HB3 hx hxm
          have hfr2 : (ah ++ ns).length + 3 * frN5 l (cm ++ [a]) < gk := by rw [List.length_append]; omega
          have hfr3 : (cm ++ [a]).length + frN5 l (cm ++ [a]) ≤ l.length := by rw [List.length_append, List.length_singleton]; omega
          have HAh3 : Hid (∀ y ∈ ah ++ ns, -9223372036854775808 ≤ y ∧ y ≤ 9223372036854775807) := hide (fun y hy => by
            rcases List.mem_append.1 hy with hy | hy
            · exact unhide HAh2 y hy
            · exact unhide HNB y hy)
          have hm1 : ah.length + ns.length ≤ 140000000000000 / 8 := by omega
          clear hfr HAh2 HNB hf1
          go_simp
          go_wp2_with fail
          with_reducible refine (unhide HN).mono ?_
          rintro e w5 ⟨v5, rfl, hO5, hB5⟩
          have HO5 := hide ((unhide HO4).below hB5)
          have HC5 : Hid (SetAt w5 w2.heap.size (cm ++ [a]).length (cm ++ [a])) := hide (World.ownsMap.kept (unhide HC4) (grownX hB5) (fun e => by cases e))
          have HB5 := hide ((unhide HB4).trans (hB5.mono (unhide HB4).size))
          clear HO4 HC4 HB4 HN hB5 c0 c1 c2 c3
          rcases hO5.shape with ⟨rfl, rfl⟩ | ⟨g5, cap5, rfl, _, _, _, hc5, _⟩
          · clear hO5
            rw [List.append_nil] at HS3 HAh3 hfr2
            go_wp2_with (at_builtin; refine wpList_append_own_none rfl _ _ 32 rfl (w2.heap.size + 1) 3 i0 1 Tryd.underlying32 hi _ ah.length (jvals ah) rfl (unhide HO5) rfl ?_)
            go_roundg (ah.length + 3 * frN5 l (cm ++ [a]))
            case measure => exact hfr2
            case rel => exact ⟨cm ++ [a], ah, HO5, HC5, HB5, HS3, HAh3, hfr3, Nat.le_refl _, by omega⟩
          · clear hO5
            have HC5c := hide hc5
            clear hc5
            have hb5 := (unhide HB5).size
            have hb6 : w2.heap.size + 1 ≤ w5.heap.size := by have := (World.ownsRow.lt (unhide HO5)) g rfl; omega
            go_wp2_with (at_builtin; refine wpList_append_own_at _ rfl _ _ 32 rfl (w2.heap.size + 1) 3 i0 (.int .i64 0) 1 8 Tryd.underlying32 hi hz0 hz1 hz2 rfl (by decide) _ ah.length (jvals ah) rfl (unhide HO5) ⟨g5, 0, none⟩ ns.length cap5 (jvals ns) rfl (by simp [jvals]) (jcells (unhide HC5c)) (jone ns) (by unfold maxLen; omega) (by omega) hb6 ?_; intro v6 w6 hO6 hG6 _ _)
            have HO6 : Hid (OwnJ w6 (w2.heap.size + 1) v6 (ah ++ ns)) := hide (by unfold OwnJ jvals; rw [List.length_append, List.map_append]; exact hO6)
            have HC6 : Hid (SetAt w6 w2.heap.size (cm ++ [a]).length (cm ++ [a])) := hide (World.ownsMap.kept (unhide HC5) hG6 (fun e => by injection e with e; have e : w2.heap.size = g := e; omega))
            have HB6 : Hid (Below w2.heap.size w2 w6) := hide ((unhide HB5).trans (below_grown hG6 (unhide HB5).size (fun r e => by injection e with e; have e : g = r := e; omega)))
            go_roundg ((ah ++ ns).length + 3 * frN5 l (cm ++ [a]))
            case measure => exact hfr2
            case rel => exact ⟨cm ++ [a], ah ++ ns, HO6, HC6, HB6, HS3, HAh3, hfr3, Nat.le_refl _, by omega⟩
end Go.Proofs.YtdpfinnclnapbaaDoor
