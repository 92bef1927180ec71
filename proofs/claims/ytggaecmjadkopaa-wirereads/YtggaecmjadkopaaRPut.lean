/-
  Contracts of provisoref01.Join, PutName, Put, Patch: the error and the bytes behind as the same plain functions. Conditions: lengths fit.
-/
import Derived.Test.YtggaecmjadkopaaWOps
import Derived.Laws.IdiomStrings
namespace Go.Proofs.Ytggaecmjadkopaa
open Go.RowKit

/-- What holds behind: the error, and a slice of its own (or the one that came in) with the bytes. -/
def RPost (w : World) (b : Value) (code : Int) (l' : List UInt8) (e : Ending) (w' : World) : Prop :=
  ∃ v', e = .returned (.tuple #[v', .int .i64 code]) ∧ OwnB w' 0 v' l' ∧ Below w.heap.size w w' ∧ (v' = b ∨ ∀ k, v'.ownBlock = some k → w.heap.size ≤ k)

theorem RPost.same {w : World} {b : Value} {l : List UInt8} (code : Int) (h : OwnB w 0 b l) : RPost w b code l (.returned (.tuple #[b, .int .i64 code])) w :=
  ⟨b, rfl, h, Below.refl _ _, .inl rfl⟩

set_option maxHeartbeats 400000 in
theorem Join_u {w : World} {b c : Value} {l m : List UInt8} (hb : OwnB w 0 b l) (hc : SrcB w c m) (hl : l.length ≤ 1048576) (hm : m.length ≤ 140737488351232) :
    Calls Try.prog 45 #[b, c] w (RPost w b (jE l m) (jL l m)) := by
  obtain ⟨ao, cap, hbv, _⟩ := hb.at
  obtain ⟨bo, bc, hcv⟩ : ∃ bo bc, c = .slice bo m.length bc := by
    rcases hc with ⟨rfl, rfl⟩ | ⟨x, c, rfl, _⟩
    · exact ⟨none, 0, rfl⟩
    · exact ⟨_, _, rfl⟩
  have HB := hide hb
  have HC := hide hc
  subst hbv hcv
  clear hb hc
  by_cases hf : 1048576 < l.length + m.length
  · have e1 : jE l m = 7 := by unfold jE; rw [if_pos hf]
    have e2 : jL l m = l := by unfold jL; rw [e1]; rfl
    rw [e1, e2]
    have hf' : (1048576 : Int) < (l.length : Int) + (m.length : Int) := by omega
    clear e1 e2
    go_enter Try.func45, Try.ntmps45
    go_wp2
    go_ret2
    exact RPost.same 7 (unhide HB)
  · have e1 : jE l m = 0 := by unfold jE; rw [if_neg hf]
    have e2 : jL l m = l ++ m := by unfold jL; rw [e1]; rfl
    rw [e1, e2]
    have hf' : ¬ (1048576 : Int) < (l.length : Int) + (m.length : Int) := by omega
    have hA : Below w.heap.size w (w.alloc (.cells #[] 5)) := (Below.refl _ w).alloc (Nat.le_refl _) _
    have HS : Hid (SrcB (w.alloc (.cells #[] 5)) (.slice ao l.length cap) l) := hide ((unhide HB).below hA).src
    have HE : Hid (OwnB (w.alloc (.cells #[] 5)) w.heap.size (.slice (some ⟨w.heap.size, 0, none⟩) 0 0) []) := hide (World.ownsRow_made w #[] 0 (Nat.le_refl _) (by decide) rfl)
    clear e1 e2
    go_enter Try.func45, Try.ntmps45
    go_wp2_with (at_builtin; refine wpList_appendB rfl _ _ rfl w.heap.size _ [] rfl (unhide HE) _ l rfl (unhide HS) (by simp; omega) (by simp) ?_)
    intro v1 w1 hO1 hG1 hF1 hN1
    have hB1 : Below w.heap.size w w1 := hA.grown hG1 (by simp) (fun k e => by cases e; exact Nat.le_refl _)
    have HS2 : Hid (SrcB w1 (.slice bo m.length bc) m) := hide (by
      rcases unhide HC with ⟨h1, h2⟩ | ⟨x, c, h1, h2⟩
      · exact .inl ⟨h1, h2⟩
      · exact .inr ⟨x, c, h1, h2.below' hB1⟩)
    have HO1 := hide hO1
    have HB1 := hide hB1
    obtain ⟨ao1, cap1, hv1, _⟩ := hO1.at
    subst hv1
    clear hO1 hG1 hF1 hN1 hB1
    go_wp2_with (at_builtin; refine wpList_appendB rfl _ _ rfl w.heap.size _ l rfl (unhide HO1) _ m rfl (unhide HS2) (by omega) (unhide HB1).size ?_)
    intro v2 w2 hO2 hG2 hF2 hN2
    have HB2 : Hid (Below w.heap.size w w2) := hide ((unhide HB1).grown hG2 (unhide HB1).size (fun k e => ((unhide HO1).lt k e).1))
    have HO2 := hide hO2
    clear hO2 hG2 hF2 hN2
    go_wp2
    go_ret2
    exact ⟨_, rfl, (unhide HO2).mono (Nat.zero_le _), unhide HB2, .inr (fun k e => ((unhide HO2).lt k e).1)⟩

theorem BAt.ofString (w : World) (s : ByteArray) (cap : Nat) (fr : Nat × Nat) (t : TypeId) : BAt (w.alloc (.cells (bytesRow s cap) t fr)) (some ⟨w.heap.size, 0, none⟩) s.data.toList := by
  intro i hi
  have hi' : i < s.data.size := by simpa using hi
  refine ⟨w.heap.size, 0, rfl, ?_⟩
  rw [Nat.zero_add, World.cell?_alloc_mark, bytesRow_at s cap i hi']
  unfold at8
  rw [List.getD_eq_getElem?_getD, List.getElem?_eq_getElem hi]
  simp

set_option maxHeartbeats 400000 in
theorem PutName_u {w : World} {b : Value} {l : List UInt8} (hb : OwnB w 0 b l) (s : ByteArray) (hl : l.length ≤ 1048576) (hs : s.size ≤ maxLen) :
    Calls Try.prog 46 #[b, .string s] w (RPost w b (nE l s) (nL l s)) := by
  obtain ⟨ao, cap, hbv, _⟩ := hb.at
  have HB := hide hb
  subst hbv
  clear hb
  cases hn : nameB s
  · have e1 : nE l s = 6 := by unfold nE; rw [hn]; rfl
    have e2 : nL l s = l := by unfold nL; rw [e1]; rfl
    rw [e1, e2]
    have HN := hide hn
    clear hn e1 e2
    go_enter Try.func46, Try.ntmps46
    go_wp2_with (go_at_call 22; refine (refName_any s _ hs).mono ?_; rintro e w' ⟨rfl, rfl⟩; rw [unhide HN])
    go_ret2
    exact RPost.same 6 (unhide HB)
  · have e1 : nE l s = jE l (nb s) := by unfold nE; rw [hn]; rfl
    have e2 : nL l s = jL l (nb s) := by unfold nL jL; rw [e1]
    rw [e1, e2]
    obtain ⟨hs1, hs24⟩ := name_size hn
    have HN := hide hn
    have hsz : (s.size : Int) % 256 = (s.size : Int) := by omega
    have hx : ((s.size : Nat) : Int) = ((UInt8.ofNat s.size).toNat : Int) := by rw [UInt8.toNat_ofNat_of_lt' (by show _ < 256; omega)]
    have hcv := fun (w : World) => run_bytes_of_string (P := Try.prog) w 9 22 5 s Try.underlying9 Try.underlying22 Try.underlying5
    have HX := hide hx
    clear hn e1 e2 hx
    go_enter Try.func46, Try.ntmps46
    go_wp2_with (first | (go_at_call 22; refine (refName_any s _ hs).mono ?_; rintro e w' ⟨rfl, rfl⟩; rw [unhide HN]) | (at_builtin; refine wpList_appendB rfl _ _ rfl 0 _ [UInt8.ofNat s.size] rfl ?a1 _ s.data.toList rfl ?a2 ?a3 (Nat.zero_le _) ?_))
    case a1 =>
      have h1 : OwnB (w'.alloc (.cells #[.int .u8 (s.size : Int)] 5)) 0 (.slice (some ⟨w'.heap.size, 0, none⟩) 1 1) [UInt8.ofNat s.size] := by
        have := World.ownsRow_lit (base := 0) (e := 5) (size := 1) w' #[.int .u8 (s.size : Int)] 1 (Nat.zero_le _) (by decide) rfl
        rw [unhide HX] at this ⊢
        exact this
      exact (h1.below ((Below.refl _ _).alloc (Nat.le_refl _) _)).below (Below.drew (Below.refl _ _))
    case a2 => exact .inr ⟨⟨w'.heap.size + 1, 0, none⟩, _, by show Value.slice _ s.size _ = _; rw [show s.data.toList.length = s.size from by simp], (by
      have := BAt.ofString (w'.alloc (.cells #[.int .u8 (s.size : Int)] 5)) s (grownCap (w'.alloc (.cells #[.int .u8 (s.size : Int)] 5)) s.size 0 5) ((bytesRow s (grownCap (w'.alloc (.cells #[.int .u8 (s.size : Int)] 5)) s.size 0 5)).size, (bytesRow s (grownCap (w'.alloc (.cells #[.int .u8 (s.size : Int)] 5)) s.size 0 5)).size + 1) 5
      rw [World.size_alloc] at this
      exact this)⟩
    case a3 => simp; omega
    · intro v2 w2 hO2 hG2 hF2 hN2
      have hO2' : OwnB w2 0 v2 (nb s) := hO2
      have hB2 : Below w'.heap.size w' w2 := (((Below.refl _ w').alloc (Nat.le_refl _) _).alloc (by simp) _).drew.grown hG2 (by show w'.heap.size ≤ ((w'.alloc _).alloc _).heap.size; simp; omega) (fun k e => by cases e; exact Nat.le_refl _)
      have hB2' : OwnB w2 0 (.slice ao l.length cap) l := (unhide HB).below hB2
      have HO2 := hide hO2'
      have HF2 := hide hB2
      have HB2 := hide hB2'
      obtain ⟨ao2, cap2, hv2, _⟩ := hO2'.at
      subst hv2
      clear hO2 hO2' hG2 hF2 hN2 hB2 hB2' hcv
      go_wp2_with fail
      refine (Join_u (unhide HB2) (unhide HO2).src hl (by simp [nb]; omega)).mono ?_
      rintro e w3 ⟨v3, rfl, hO3, hB3, hF3⟩
      have HO3 := hide hO3
      have HB3 := hide ((unhide HF2).trans (hB3.mono (unhide HF2).size))
      have HF3 : Hid (v3 = .slice ao l.length cap ∨ ∀ k, v3.ownBlock = some k → w'.heap.size ≤ k) := hide (Or.elim hF3 Or.inl (fun h => Or.inr (fun k e => Nat.le_trans (unhide HF2).size (h k e))))
      clear hO3 hB3 hF3
      go_wp2
      go_ret2
      exact ⟨_, rfl, unhide HO3, unhide HB3, unhide HF3⟩
end Go.Proofs.Ytggaecmjadkopaa
