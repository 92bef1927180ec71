/-
  The walk of the law CodePatches: it returns true for all bytes, every place and every number, and writes nothing that was there.
-/
import Derived.Test.YtihkodfcgfnjoacDoorPt3
import Derived.Test.YtihkodfcgfnjoacDoorRoom
import Derived.Test.YtihkodfcgfnjoacDoorOwn
namespace Go.Proofs.YtihkodfcgfnjoacDoor
open Go.RowKit

theorem ptL_len (L : List UInt8) (p t : Int) : (ptL L p t).length ≤ 4099 := by
  unfold ptL
  by_cases h : ptE L p t = 0
  · have hL : L.length ≤ 4096 := by
      refine Decidable.byContradiction fun h4 => ?_
      unfold ptE at h
      rw [if_pos (by omega)] at h
      omega
    rw [if_pos h]
    unfold splice
    simp
    omega
  · rw [if_neg h]; simp

set_option maxHeartbeats 2000000 in
theorem walkCodePatches {w : World} (hW : WidAt w) (ao : Option Addr) (c : Nat) (l : List UInt8) (hl : BAt w ao l) (hn : ao = none → l = []) (hb : l.length ≤ 140737488351232) (hc : l.length ≤ c) (p : Int) (_ : (Lit.int .i64 p).wf = true) (t : Int) (_ : (Lit.int .i64 t).wf = true) :
    Calls Tryd.prog 3 #[.slice ao l.length c, .int .i64 p, .int .i64 t] w fun e w' => e = .returned (.bool true) ∧ Below w.heap.size w w' := by
  have HL := hide hl
  have HW := hide hW
  have hm := ptL_len l p t
  clear hl hW
  go_enter Tryd.func3, Tryd.ntmps3
  go_wp2_with fail
  with_reducible refine (Roomy_any ao c l _ (unhide HL) hn hb).mono ?_
  rintro e w1 ⟨g, cap, rfl, hg, hO, hB⟩
  have HB := hide hB
  have HL1 := hide ((unhide HL).below' hB)
  have HW1 := hide ((unhide HW).below hB)
  obtain ⟨hcap, HR⟩ : l.length + 4 ≤ cap ∧ Hid (BAt w1 (some ⟨g, 0, none⟩) (roomy l)) := by
    rcases hO.shape with ⟨h1, _⟩ | ⟨g', cap', h1, _, _, h4, _, h6⟩
    · injection h1 with h1
      cases h1
    · injection h1 with h1 h2 h3
      injection h1 with h1
      injection h1 with h1
      subst h1 h3
      rw [roomy_length] at h4
      exact ⟨h4, hide h6⟩
  clear hO hB HL HW
  have PT := hide (fun W (h : Below w1.heap.size w1 W) => Patch_any (some ⟨g, 0, none⟩) cap l p t W (BAt.take (m := [165, 90, 195, 60]) ((unhide HR).below' h)) (fun e => by cases e) ((unhide HW1).below h) (by omega) (by omega))
  have RP := hide (fun W (h : Below w1.heap.size w1 W) => refPatch_any ao c l p t W ((unhide HL1).below' h) (by omega) hc)
  have U := hide (fun W (h : Below w1.heap.size w1 W) => Untouched_yes g cap ao c l W ((unhide HR).below' h) ((unhide HL1).below' h) hcap (by omega))
  generalize ptE l p t = er at PT RP
  generalize ptL l p t = m at PT RP hm
  clear HR HL1 HW1 hn hc hb
  go_wp2_with fail
  refine (unhide PT _ (Below.refl _ _)).mono ?_
  rintro e w2 ⟨v1, rfl, hO1, hB2⟩
  have HB2 := hide hB2
  obtain ⟨a1, p1, rfl, _⟩ := hO1.at
  have HO1 := hide hO1
  clear hO1 hB2
  go_wp2_with fail
  refine (unhide RP _ (unhide HB2)).mono ?_
  rintro e w3 ⟨v2, rfl, hO2, hB3⟩
  have HB3 := hide ((unhide HB2).trans (hB3.mono (unhide HB2).size))
  have HO1' := hide ((unhide HO1).below hB3)
  obtain ⟨a2, p2, rfl, hb2⟩ := hO2.at
  obtain ⟨_, _, e1, hb1⟩ := (unhide HO1').at
  simp only [Value.slice.injEq] at e1
  obtain ⟨rfl, _, rfl⟩ := e1
  have EQ := hide (Equal_any a1 a2 p1 p2 m m w3 hb1 hb2 (by unfold maxLen; omega) (by unfold maxLen; omega))
  have U3 := hide (fun k => unhide U (w3.drewN k) (belowD (unhide HB3) k))
  have hmm : (m == m) = true := by simp
  clear hO2 hB3 hb1 hb2 HO1
  go_wp2_with (first | (go_at_call 10; with_reducible refine (unhide EQ).mono ?_; rintro e w4 ⟨rfl, k1, rfl⟩; rw [hmm]) | (go_at_call 11; with_reducible refine (unhide U3 _).mono ?_; rintro e w5 ⟨rfl, k2, rfl⟩))
  have h35 : Below w3.heap.size w3 ((w3.drewN (k1 + k2)).alloc (.cells #[.slice none 0 0, .slice none 0 0] 32)) := (belowD (Below.refl _ _) _).alloc (by simp) _
  have HB5 : Hid (Below w1.heap.size w1 ((w3.drewN (k1 + k2)).alloc (.cells #[.slice none 0 0, .slice none 0 0] 32))) := hide ((unhide HB3).trans (h35.mono (unhide HB3).size))
  have HO5 : Hid (OwnB ((w3.drewN (k1 + k2)).alloc (.cells #[.slice none 0 0, .slice none 0 0] 32)) w1.heap.size (.slice a1 m.length p1) m) := hide ((unhide HO1').below h35)
  have HS5 : Hid (Sh ((w3.drewN (k1 + k2)).alloc (.cells #[.slice none 0 0, .slice none 0 0] 32)) w3.heap.size (.slice none 0 0) []) := hide ⟨heap_alloc_new (w3.drewN (k1 + k2)) _, World.ownsRow_nil _ _ _ _⟩
  have hsp1 : w1.heap.size ≤ w3.heap.size := (unhide HB3).size
  have hlt5 : ∀ k, (Value.slice a1 m.length p1).ownBlock = some k → k < w3.heap.size := fun k e => (unhide HO1').block_lt e
  have HLT := hide hlt5
  have hsz5 : w3.heap.size < ((w3.drewN (k1 + k2)).alloc (.cells #[.slice none 0 0, .slice none 0 0] 32)).heap.size := by simp
  clear h35 HB3 HO1' EQ U3 RP hlt5 HB2
  generalize ((w3.drewN (k1 + k2)).alloc (.cells #[.slice none 0 0, .slice none 0 0] 32)) = w5 at HB5 HO5 HS5 hsz5 ⊢
  generalize w3.heap.size = sp at HS5 hsp1 HLT hsz5 ⊢
  refine (unhide PT _ (unhide HB5)).mono ?_
  rintro e w6 ⟨v3, rfl, hO3, hB6⟩
  obtain ⟨a3, p3, rfl, _⟩ := hO3.at
  have HS6 := hide ((unhide HS5).below hB6)
  have HO1 := hide ((unhide HO5).below hB6)
  have HO3 := hide hO3
  have HB6 := hide ((unhide HB5).trans (hB6.mono (unhide HB5).size))
  have hs6 := hB6.size
  clear hO3 hB6 HS5 HO5 HB5 PT
  go_wp2_with fail
  refine (ShBytes (unhide HS6) a1 m.length p1 (by simp)).mono ?_
  rintro e w7 ⟨rfl, sv7, hS7, hK7, hF7⟩
  have HB7 : Hid (Below w1.heap.size w1 w7) := hide (hK7.below (unhide HB6) (unhide HB6).size (fun k hk => by
    rcases hk with rfl | hk
    · exact hsp1
    · cases hk))
  have HO1b : Hid (OwnB w7 w1.heap.size (.slice a1 m.length p1) m) := hide ((unhide HO1).keep hK7 (fun k hk e => by
    rcases e with e | e
    · exact ((unhide HS6).bytes (unhide HO1)).1 (by rw [hk, e])
    · cases e))
  have HO3b : Hid (OwnB w7 w5.heap.size (.slice a3 m.length p3) m) := hide ((unhide HO3).keep hK7 (fun k hk e => by
    rcases e with e | e
    · exact ((unhide HS6).bytes (unhide HO3)).1 (by rw [hk, e])
    · cases e))
  have HF7 : Hid (∀ k, sv7.ownBlock = some k → w6.heap.size ≤ k) := hide (fun k hk => by
    rcases hF7 k hk with e | e
    · cases e
    · exact e)
  have HS7 : Hid (Sh w7 sp sv7 [.slice a1 m.length p1]) := hide hS7
  clear hS7 hK7 hF7 HS6 HO1 HO3
  go_wp2_with fail
  refine (ShBytes (unhide HS7) a3 m.length p3 (by simp)).mono ?_
  rintro e w8 ⟨rfl, sv8, hS8, hK8, _⟩
  have hB67 := (unhide HB6).size
  have HB8 : Hid (Below w1.heap.size w1 w8) := hide (hK8.below (unhide HB7) (unhide HB7).size (fun k hk => by
    rcases hk with rfl | hk
    · exact hsp1
    · have := unhide HF7 k hk; omega))
  have HO1c : Hid (OwnB w8 w1.heap.size (.slice a1 m.length p1) m) := hide ((unhide HO1b).keep hK8 (fun k hk e => by
    rcases e with e | e
    · exact ((unhide HS7).bytes (unhide HO1b)).1 (by rw [hk, e])
    · exact ((unhide HS7).bytes (unhide HO1b)).2 k hk e))
  have HO3c : Hid (OwnB w8 w5.heap.size (.slice a3 m.length p3) m) := hide ((unhide HO3b).keep hK8 (fun k hk e => by
    rcases e with e | e
    · exact ((unhide HS7).bytes (unhide HO3b)).1 (by rw [hk, e])
    · exact ((unhide HS7).bytes (unhide HO3b)).2 k hk e))
  have HS8 : Hid (Sh w8 sp sv8 [.slice a1 m.length p1, .slice a3 m.length p3]) := hide hS8
  have hI : Its w8 [.slice a1 m.length p1, .slice a3 m.length p3] 0 := fun i v hv => by
    match i, hv with
    | 0, hv =>
      simp at hv
      subst hv
      exact ⟨m, (unhide HO1c).mono (Nat.zero_le _), by omega, fun h => by omega⟩
    | 1, hv =>
      simp at hv
      subst hv
      exact ⟨m, (unhide HO3c).mono (Nat.zero_le _), by omega, fun h => by omega⟩
    | i + 2, hv => simp at hv
  have h31 : ∀ k, (Value.slice a3 m.length p3).ownBlock = some k → w5.heap.size ≤ k := fun k e => ((unhide HO3c).lt k e).1
  have h11 : ∀ k, (Value.slice a1 m.length p1).ownBlock = some k → w1.heap.size ≤ k := fun k e => ((unhide HO1c).lt k e).1
  have hA : Apart [.slice a1 m.length p1, .slice a3 m.length p3] := fun i j a b ha hb hne k hka hkb => by
    match i, j, ha, hb with
    | 0, 0, ha, hb => exact hne rfl
    | 0, 1, ha, hb =>
      simp at ha hb
      subst ha hb
      have := unhide HLT k hka
      have := h31 k hkb
      omega
    | 1, 0, ha, hb =>
      simp at ha hb
      subst ha hb
      have := unhide HLT k hkb
      have := h31 k hka
      omega
    | 1, 1, ha, hb => exact hne rfl
    | i + 2, _, ha, _ => simp at ha
    | 0, j + 2, _, hb => simp at hb
    | 1, j + 2, _, hb => simp at hb
  have HOW := hide (Own_yes (unhide HS8) hI hA (by simp) (by simp))
  have hin : ∀ k, InIts [.slice a1 m.length p1, .slice a3 m.length p3] k → w1.heap.size ≤ k := by
    rintro k ⟨v, hv, e⟩
    simp at hv
    rcases hv with rfl | rfl
    · exact h11 k e
    · have := h31 k e; omega
  have HIN := hide hin
  clear hS8 hK8 hI hA h31 h11 hin HS7 HB7 HF7 HO1b HO3b HO1c HO3c HS8 HLT
  go_wp2_with fail
  refine (unhide HOW).mono ?_
  rintro e w9 ⟨rfl, hK9⟩
  have HB9 : Hid (Below w1.heap.size w1 w9) := hide (hK9.below (unhide HB8) (unhide HB8).size (unhide HIN))
  have U9 := hide (unhide U w9 (unhide HB9))
  clear hK9 HOW HIN HB8 HB6
  go_wp2_with (go_at_call 11; with_reducible refine (unhide U9).mono ?_; rintro e w10 ⟨rfl, k3, rfl⟩)
  go_ret
  exact ⟨ret_bool (by simp), belowD ((unhide HB).trans ((unhide HB9).mono (unhide HB).size)) _⟩
end Go.Proofs.YtihkodfcgfnjoacDoor
