/-
  Contracts of the heap's smallest parts: isMade, an object's cells, the search for a reference, the object of one. All that lay lies unturned.
-/
import Derived.Test.YtbbfnampjbdnbaaDoorKHq0
import Derived.Deep.LoopGhost
namespace Go.Proofs.YtbbfnampjbdnbaaDoor
open Go.RowKit
set_option maxRecDepth 20000

theorem isMade_yes (B : Nat) (g : Nat) (h : Hm) (w : World) (H : HpAt B w g h) : Calls Tryd.prog 42 #[.pointer (some ⟨g, 0, none⟩)] w fun e w' => e = .returned (.bool true) ∧ w' = w := by
  have hc := H.c5
  clear H
  go_enter Tryd.func42, Tryd.ntmps42
  go_wp2
  go_ret
  exact ⟨rfl, rfl⟩
theorem cells_any (r c : Int) (a : Option Addr) (n cap : Nat) (w : World) (hn : n ≤ 4096) : Calls Tryd.prog 53 #[.agg #[.int .i64 r, .int .i64 c, .slice a n cap]] w fun e w' => e = .returned (.int .i64 (1 + (n : Int))) ∧ Below w.heap.size w w' := by
  go_enter Tryd.func53, Tryd.ntmps53
  go_wp2
  go_ret
  exact ⟨rfl, (Below.refl _ _).alloc (Nat.le_refl _) _⟩
def cmpI (a b : Int) : Int := if a < b then -1 else if b < a then 1 else 0
theorem isNaN_any (a : Int) (w : World) : Calls Tryd.prog 88 #[.int .i64 a] w fun e w' => e = .returned (.bool false) ∧ w' = w := by
  have h : (a != a) = false := by simp
  go_enter Tryd.func88, Tryd.ntmps88
  go_wp2
  go_ret
  exact ⟨rfl, rfl⟩
theorem Compare_any (a b : Int) (w : World) : Calls Tryd.prog 82 #[.int .i64 a, .int .i64 b] w fun e w' => e = .returned (.int .i64 (cmpI a b)) ∧ w' = w := by
  have h1 := isNaN_any a w
  have h2 := isNaN_any b w
  unfold cmpI
  go_enter Tryd.func82, Tryd.ntmps82
  by_cases hab : a < b
  · rw [if_pos hab]
    go_wp2_with (first | (go_at_call 88; refine h1.mono ?_; rintro e W ⟨rfl, rfl⟩) | (go_at_call 88; refine h2.mono ?_; rintro e W ⟨rfl, rfl⟩))
    go_ret
    exact ⟨rfl, rfl⟩
  · rw [if_neg hab]
    by_cases hba : b < a
    · rw [if_pos hba]
      go_wp2_with (first | (go_at_call 88; refine h1.mono ?_; rintro e W ⟨rfl, rfl⟩) | (go_at_call 88; refine h2.mono ?_; rintro e W ⟨rfl, rfl⟩))
      go_ret
      exact ⟨rfl, rfl⟩
    · rw [if_neg hba]
      go_wp2_with (first | (go_at_call 88; refine h1.mono ?_; rintro e W ⟨rfl, rfl⟩) | (go_at_call 88; refine h2.mono ?_; rintro e W ⟨rfl, rfl⟩))
      go_ret
      exact ⟨rfl, rfl⟩
theorem find1_any (r c : Int) (a : Option Addr) (n cap : Nat) (ref : Int) (w : World) : Calls Tryd.prog 81 #[.agg #[.int .i64 r, .int .i64 c, .slice a n cap], .int .i64 ref] w fun e w' => e = .returned (.int .i64 (cmpI r ref)) ∧ Below w.heap.size w w' := by
  have HC := hide (Compare_any r ref)
  go_enter Tryd.func81, Tryd.ntmps81
  go_wp2_with (go_at_call 82; refine (unhide HC _).mono ?_; rintro e W ⟨rfl, rfl⟩)
  go_ret
  exact ⟨rfl, (Below.refl _ _).alloc (Nat.le_refl _) _⟩
/-- What a search tells: where the object stands, or that there is none. -/
def FndIs (O : List Ob) (ref : Int) (k : Nat) (b : Bool) : Prop := k ≤ O.length ∧ ((b = true ∧ ∃ o, O[k]? = some o ∧ o.ref = ref) ∨ (b = false ∧ ∀ o ∈ O, o.ref ≠ ref))
set_option maxHeartbeats 4000000 in
theorem search_any (B g : Nat) (h : Hm) (ref : Int) (a : Option Addr) (cap : Nat) (w : World) (H : HpAt B w g h) (hov : h.ov = .slice a h.O.length cap) (hok : h.O.Pairwise (fun a b => a.ref < b.ref)) (hlen : h.O.length ≤ 4096) :
    Calls Tryd.prog 80 #[.slice a h.O.length cap, .int .i64 ref, .func (.func 81) #[] #[]] w fun e w' => ∃ k b, e = .returned (.tuple #[.int .i64 ((k : Nat) : Int), .bool b]) ∧ FndIs h.O ref k b ∧ Below w.heap.size w w' := by
  have HH := hide H
  have HOV := hide hov
  have HASC := hide hok
  clear H hov hok
  go_enter Tryd.func80, Tryd.ntmps80
  go_wp2_with fail
  go_loopg [9, 10] h.O.length (fun kx s9 s10 wr => ∃ lo hi : Nat, s9 = .int .i64 lo ∧ s10 = .int .i64 hi ∧ lo ≤ hi ∧ hi ≤ h.O.length ∧ hi - lo ≤ kx ∧ Hid (Below w.heap.size w wr) ∧ Hid ((∀ t o, t < lo → h.O[t]? = some o → o.ref < ref) ∧ (∀ t o, hi ≤ t → h.O[t]? = some o → ref ≤ o.ref)))
  case atStart => exact ⟨0, h.O.length, rfl, rfl, Nat.zero_le _, Nat.le_refl _, by omega, hide (Below.refl _ _), hide ⟨fun t o ht => absurd ht (Nat.not_lt_zero _), fun t o h1 h2 => by have := (List.getElem?_eq_some_iff.1 h2).1; omega⟩⟩
  case round =>
    obtain ⟨lo, hi, rfl, rfl, hlh, hin, hg, HB, HI⟩ := hrel
    by_cases hlt : lo < hi
    · have hm : (lo + hi) / 2 < h.O.length := by omega
      obtain ⟨o, HO⟩ : ∃ o, Hid (h.O[(lo + hi) / 2]? = some o) := ⟨_, hide (List.getElem?_eq_getElem hm)⟩
      obtain ⟨b, cap', e, _, c0, c1, c2⟩ := ((unhide HH).below (unhide HB)).ob (unhide HO)
      rw [unhide HOV] at e
      injection e with e1 _ e2
      subst e1
      clear e2
      have HF := hide (find1_any o.ref o.cls (some ⟨o.pb, 0, none⟩) o.ps.length o.ps.length ref wr)
      by_cases hyx : o.ref < ref
      · have hc : cmpI o.ref ref = -1 := by unfold cmpI; rw [if_pos hyx]
        rw [hc] at HF
        clear hc
        go_wp2_with (go_at_call 81; refine (unhide HF).mono ?_; rintro e w' ⟨rfl, hb⟩)
        have HB2 := hide ((unhide HB).trans (hb.mono (unhide HB).size))
        clear hb
        go_wp2_with fail
        go_roundg (hi - ((lo + hi) / 2 + 1))
        case measure => omega
        case rel =>
          refine ⟨(lo + hi) / 2 + 1, hi, by rw [show ((lo : Int) + (hi : Int)) / 2 + 1 = (((lo + hi) / 2 + 1 : Nat) : Int) by omega], rfl, by omega, hin, Nat.le_refl _, HB2, hide ⟨fun t x ht hx => ?_, (unhide HI).2⟩⟩
          by_cases e : t = (lo + hi) / 2
          · subst e
            rw [unhide HO] at hx
            injection hx with hx
            subst hx
            exact hyx
          · obtain ⟨h1, h2⟩ := List.getElem?_eq_some_iff.1 hx
            obtain ⟨h3, h4⟩ := List.getElem?_eq_some_iff.1 (unhide HO)
            have := List.pairwise_iff_getElem.1 (unhide HASC) t ((lo + hi) / 2) h1 h3 (by omega)
            rw [h2, h4] at this
            omega
      · have hc : ¬ cmpI o.ref ref < 0 := by unfold cmpI; rw [if_neg hyx]; split <;> omega
        obtain ⟨q, HQ⟩ : ∃ q, Hid (cmpI o.ref ref = q) := ⟨_, hide rfl⟩
        rw [unhide HQ] at HF hc
        go_wp2_with (go_at_call 81; refine (unhide HF).mono ?_; rintro e w' ⟨rfl, hb⟩)
        have HB2 := hide ((unhide HB).trans (hb.mono (unhide HB).size))
        clear hb
        go_wp2_with fail
        go_roundg ((lo + hi) / 2 - lo)
        case measure => omega
        case rel =>
          refine ⟨lo, (lo + hi) / 2, rfl, by rw [show ((lo : Int) + (hi : Int)) / 2 = (((lo + hi) / 2 : Nat) : Int) by omega], by omega, by omega, Nat.le_refl _, HB2, hide ⟨(unhide HI).1, fun t x ht hx => ?_⟩⟩
          by_cases e : t = (lo + hi) / 2
          · subst e
            rw [unhide HO] at hx
            injection hx with hx
            subst hx
            omega
          · obtain ⟨h1, h2⟩ := List.getElem?_eq_some_iff.1 hx
            obtain ⟨h3, h4⟩ := List.getElem?_eq_some_iff.1 (unhide HO)
            have := List.pairwise_iff_getElem.1 (unhide HASC) ((lo + hi) / 2) t h3 h1 (by omega)
            rw [h2, h4] at this
            omega
    · obtain rfl : hi = lo := by omega
      by_cases hn : hi < h.O.length
      · obtain ⟨o, HO⟩ : ∃ o, Hid (h.O[hi]? = some o) := ⟨_, hide (List.getElem?_eq_getElem hn)⟩
        obtain ⟨b, cap', e, _, c0, c1, c2⟩ := ((unhide HH).below (unhide HB)).ob (unhide HO)
        rw [unhide HOV] at e
        injection e with e1 _ e2
        subst e1
        clear e2
        have HF := hide (find1_any o.ref o.cls (some ⟨o.pb, 0, none⟩) o.ps.length o.ps.length ref wr)
        by_cases hyx : o.ref = ref
        · have hc : cmpI o.ref ref = 0 := by unfold cmpI; rw [if_neg (by omega), if_neg (by omega)]
          rw [hc] at HF
          have HE := hide hyx
          clear hc hyx
          go_wp2_with (go_at_call 81; refine (unhide HF).mono ?_; rintro e w' ⟨rfl, hb⟩)
          have HB2 := hide ((unhide HB).trans (hb.mono (unhide HB).size))
          clear hb
          go_wp2_with fail
          go_ret2
          exact ⟨hi, true, rfl, ⟨by omega, Or.inl ⟨rfl, o, unhide HO, unhide HE⟩⟩, unhide HB2⟩
        · have hlow := (unhide HI).2 hi o (Nat.le_refl _) (unhide HO)
          have hc : cmpI o.ref ref = 1 := by unfold cmpI; rw [if_neg (by omega), if_pos (by omega)]
          rw [hc] at HF
          clear hc
          have HNO : Hid (∀ x ∈ h.O, x.ref ≠ ref) := hide (by
            intro x hx
            obtain ⟨t, ht, e⟩ := List.mem_iff_getElem.1 hx
            have hxt : h.O[t]? = some x := by rw [← e]; exact List.getElem?_eq_getElem ht
            by_cases h1 : t < hi
            · have := (unhide HI).1 t x h1 hxt; omega
            · by_cases h2 : t = hi
              · subst h2
                rw [unhide HO] at hxt
                injection hxt with hxt
                subst hxt
                exact hyx
              · obtain ⟨h3, h4⟩ := List.getElem?_eq_some_iff.1 (unhide HO)
                have := List.pairwise_iff_getElem.1 (unhide HASC) hi t h3 ht (by omega)
                rw [h4, e] at this
                omega)
          clear hyx hlow
          go_wp2_with (go_at_call 81; refine (unhide HF).mono ?_; rintro e w' ⟨rfl, hb⟩)
          have HB2 := hide ((unhide HB).trans (hb.mono (unhide HB).size))
          clear hb
          go_wp2_with fail
          go_ret2
          exact ⟨hi, false, rfl, ⟨by omega, Or.inr ⟨rfl, unhide HNO⟩⟩, unhide HB2⟩
      · have HNO : Hid (∀ x ∈ h.O, x.ref ≠ ref) := hide (by
          intro x hx
          obtain ⟨t, ht, e⟩ := List.mem_iff_getElem.1 hx
          have := (unhide HI).1 t x (by omega) (by rw [← e]; exact List.getElem?_eq_getElem ht)
          omega)
        go_wp2_with fail
        go_ret2
        exact ⟨hi, false, rfl, ⟨by omega, Or.inr ⟨rfl, unhide HNO⟩⟩, unhide HB⟩
theorem find_any (B g : Nat) (h : Hm) (ref : Int) (w : World) (H : HpAt B w g h) (hok : h.O.Pairwise (fun a b => a.ref < b.ref)) (hlen : h.O.length ≤ 4096) :
    Calls Tryd.prog 66 #[.pointer (some ⟨g, 0, none⟩), .int .i64 ref] w fun e w' => ∃ k b, e = .returned (.tuple #[.int .i64 ((k : Nat) : Int), .bool b]) ∧ FndIs h.O ref k b ∧ Below w.heap.size w w' := by
  obtain ⟨a, cap, hov⟩ := H.ovs
  have hc := H.c4
  have HS := hide (search_any B g h ref a cap w H hov hok hlen)
  rw [hov] at hc
  clear H hok hlen hov
  go_enter Tryd.func66, Tryd.ntmps66
  go_wp2_with fail
  refine (unhide HS).mono ?_
  rintro e W ⟨k, b, rfl, hf, hb⟩
  have HF := hide hf
  have HB := hide hb
  clear hf hb
  go_wp2
  go_ret2
  exact ⟨k, b, rfl, unhide HF, unhide HB⟩
end Go.Proofs.YtbbfnampjbdnbaaDoor
