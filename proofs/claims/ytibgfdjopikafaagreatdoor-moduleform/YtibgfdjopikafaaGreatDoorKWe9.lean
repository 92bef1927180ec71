/-
  The document's Encode of a module. Conditions: lengths fit.
-/
import Derived.Test.YtibgfdjopikafaaGreatDoorKWe8
namespace Go.Proofs.YtibgfdjopikafaaGreatDoor
open Go.RowKit
set_option maxRecDepth 20000
set_option linter.unusedVariables false

def cdL (C : List Bs) : Nat := (C.flatMap fun x => x.cd).length
theorem cd_le {C : List Bs} : cdL C ≤ (ctW C).length := by
  have h : ∀ C : List Bs, cdL C ≤ (C.flatMap ctOne).length := by
    intro C
    unfold cdL
    induction C with
    | nil => simp
    | cons a l ih =>
      rw [List.flatMap_cons, List.flatMap_cons, List.length_append, List.length_append]
      unfold ctOne at ih ⊢
      rw [List.length_append]
      omega
  unfold ctW
  split
  · rename_i e; subst e; simp [cdL]
  · have := h C
    rw [List.length_append]
    omega
theorem size_file {m : Md} (hv : McV (mcOf m)) : cdL m.C ≤ (fileB (mcOf m)).length := by
  have h := cd_le (C := m.C)
  rw [← file_eq hv, tsum_len]
  unfold mdW
  simp only [List.length_append]
  omega
theorem cd_step {C : List Bs} {j : Nat} {x : Bs} (h : C[j]? = some x) : cdL (C.take (j + 1)) = cdL (C.take j) + x.cd.length := by
  unfold cdL
  rw [(flat_at (fun x : Bs => x.cd) h).2, List.length_append]
theorem cd_take (C : List Bs) (j : Nat) : cdL (C.take j) ≤ cdL C := by
  conv => rhs; rw [← List.take_append_drop j C]
  unfold cdL
  rw [List.flatMap_append, List.length_append]
  omega
set_option maxHeartbeats 4000000 in
theorem refSize_any (m : Md) (w : World) (hC : BssAt w m.co m.C) (hz : m.C.length ≤ 64) (hl : ∀ x ∈ m.C, x.cd.length < 65536) :
    Calls Tryz.prog 29 #[.agg #[.string m.nm, .slice m.ao m.T.length m.cap, .slice m.fo m.F.length m.fc, .slice m.co m.C.length m.cc]] w fun e W => (∃ n : Nat, e = .returned (.int .i64 (n : Int)) ∧ n ≤ cdL m.C) ∧ Below w.heap.size w W := by
  obtain ⟨nm, ao, cap, T, fo, fc, F, co, cc, C⟩ := m
  simp only at hC hz hl
  have al : Below w.heap.size w (w.alloc (.cells #[.string nm, .slice ao T.length cap, .slice fo F.length fc, .slice co C.length cc] 26)) := (Below.refl _ _).alloc (Nat.le_refl _) _
  have HX : Hid (Bx (w.alloc (.cells #[.string nm, .slice ao T.length cap, .slice fo F.length fc, .slice co C.length cc] 26)) w.heap.size 26 #[.string nm, .slice ao T.length cap, .slice fo F.length fc, .slice co C.length cc]) := hide (heap_alloc_new w _)
  have HCB := hide hC
  have HL := hide hl
  have HB := hide al
  clear al hC hl
  go_enter Tryz.func29, Tryz.ntmps29
  go_upto_region 1 with fail
  generalize w.alloc (.cells #[.string nm, .slice ao T.length cap, .slice fo F.length fc, .slice co C.length cc] 26) = W0 at HX HB ⊢
  go_wp2_with fail
  go_loopw [3, 4] (fun z i wr => ∃ (j s : Nat), j ≤ C.length ∧ i = .int .i64 (j : Int) ∧ z = .int .i64 (s : Int) ∧ s ≤ 65535 * j ∧ Hid (s = cdL (C.take j)) ∧ Hid (wr = W0)) (fun _ i _ => C.length - (intOf i).toNat)
  case atStart => exact ⟨0, 0, by omega, rfl, rfl, by omega, hide rfl, hide rfl⟩
  case round =>
    obtain ⟨j, s, hj, rfl, rfl, hs, HS, HW⟩ := hrel
    have hW := unhide HW
    subst hW
    have c3 := (unhide HX).c 3 rfl
    by_cases hlt : j < C.length
    · have i1 : ((j : Nat) : Int) < ((C.length : Nat) : Int) := by omega
      by_cases hle : s ≤ 1048576
      · have i2 : ((s : Nat) : Int) ≤ 1048576 := by omega
        obtain ⟨⟨ca, xcc, cd⟩, HFJ⟩ : ∃ x, Hid (C[j]? = some x) := ⟨_, hide (List.getElem?_eq_getElem hlt)⟩
        have hcd : cd.length < 65536 := (unhide HL) _ (List.mem_of_getElem? (unhide HFJ))
        obtain ⟨b, off, rfl, hx0⟩ := (unhide HCB).below (unhide HB) j _ (unhide HFJ)
        have q0 := hx0.c0
        have HN : Hid (s + cd.length = cdL (C.take (j + 1))) := hide (by rw [cd_step (unhide HFJ), ← unhide HS])
        clear hx0 HS HFJ
        go_wp2
        go_roundw
        case rel => exact ⟨j + 1, s + cd.length, by omega, by go_num, by go_num, by omega, HN, hide trivial⟩
        case measure => simp [intOf]; omega
      · have i2 : ¬ ((s : Nat) : Int) ≤ 1048576 := by omega
        have hn : s ≤ cdL C := by rw [unhide HS]; exact cd_take C j
        have HN := hide hn
        clear HS hn
        go_wp2
        go_ret
        exact ⟨⟨s, rfl, unhide HN⟩, unhide HB⟩
    · have i1 : ¬ ((j : Nat) : Int) < ((C.length : Nat) : Int) := by omega
      have hn : s ≤ cdL C := by rw [unhide HS]; exact cd_take C j
      have HN := hide hn
      clear HS hn
      go_wp2
      go_ret
      exact ⟨⟨s, rfl, unhide HN⟩, unhide HB⟩
set_option maxHeartbeats 4000000 in
theorem refEncode_any (m : Md) (w : World) (h : MdOk w m) (hn : ∀ x ∈ m.C, x.ca = none → x.cc = 0) :
    Calls Tryz.prog 11 #[.agg #[.string m.nm, .slice m.ao m.T.length m.cap, .slice m.fo m.F.length m.fc, .slice m.co m.C.length m.cc]] w fun e w' => ∃ vb L er, e = .returned (.tuple #[vb, .int .i64 er]) ∧ OwnB w' w.heap.size vb L ∧ EncR m L er ∧ Below w.heap.size w w' := by
  have al := (Below.refl w.heap.size w).alloc (Nat.le_refl _) (.cells #[.string m.nm, .slice m.ao m.T.length m.cap, .slice m.fo m.F.length m.fc, .slice m.co m.C.length m.cc] 26)
  have HB := hide al
  have HX : Hid (Bx (w.alloc (.cells #[.string m.nm, .slice m.ao m.T.length m.cap, .slice m.fo m.F.length m.fc, .slice m.co m.C.length m.cc] 26)) w.heap.size 26 #[.string m.nm, .slice m.ao m.T.length m.cap, .slice m.fo m.F.length m.fc, .slice m.co m.C.length m.cc]) := hide (heap_alloc_new w _)
  have H := hide (h.below al)
  have HN := hide hn
  clear al h hn
  go_enter Tryz.func11, Tryz.ntmps11
  go_upto_region 1 with fail
  generalize (w.alloc (.cells #[.string m.nm, .slice m.ao m.T.length m.cap, .slice m.fo m.F.length m.fc, .slice m.co m.C.length m.cc] 26)) = W1 at HB HX H ⊢
  have m0 := (unhide HX).c 0 rfl
  have m1 := (unhide HX).c 1 rfl
  have m2 := (unhide HX).c 2 rfl
  have m3 := (unhide HX).c 3 rfl
  have HC := hide (refCheck16_any m W1 (unhide H))
  go_wp2_with fail
  refine (unhide HC).mono ?_
  rintro e W2 ⟨⟨n, er, rfl, hck⟩, hb⟩
  have HCK := hide hck
  have HB2 := hide ((unhide HB).trans (hb.mono (unhide HB).size))
  have HX2 := hide ((unhide HX).below hb)
  have H2 := hide ((unhide H).below hb)
  clear HC hck hb m0 m1 m2 m3 HB HX H
  by_cases h0 : er = 0
  rotate_left
  · have t0 : (er != 0) = true := bne_t h0
    have HR : Hid (EncR m [] er) := hide (Or.inl ⟨⟨n, unhide HCK⟩, h0, rfl⟩)
    clear h0
    go_wp2
    go_ret2
    exact ⟨.slice none 0 0, [], er, rfl, World.ownsRow_nil _ _ _ _, unhide HR, unhide HB2⟩
  obtain ⟨hgd, hn0⟩ := ck_good (by rw [h0] at HCK; exact unhide HCK)
  have HCZ : Hid (CkR m 0 0) := hide (by have := unhide HCK; rw [h0, hn0] at this; exact this)
  have HMW := hide (ckG_mdW (unhide H2) hgd (unhide HN))
  rw [h0]
  clear HCK hgd hn0 h0
  have hCl : m.C.length ≤ 64 := by
    have hv := (unhide HMW).v
    have hFl : m.F.length ≤ 64 := by have := hv.2.2.2.1; simpa [mcOf] using this
    rcases hv.2.2.2.2.2.1 with h6 | ⟨h6, _⟩
    · have : m.C = [] := by simpa [mcOf] using h6
      rw [this]; simp
    · have : m.C.length = m.F.length := by simpa [mcOf] using h6
      omega
  have hCc : ∀ x ∈ m.C, x.cd.length < 65536 := fun x hx => (unhide HMW).v.2.2.2.2.2.2 (bsC x) (List.mem_map_of_mem hx)
  have HC := hide (refSize_any m W2 (unhide H2).cts hCl hCc)
  have m0 := (unhide HX2).c 0 rfl
  have m1 := (unhide HX2).c 1 rfl
  have m2 := (unhide HX2).c 2 rfl
  have m3 := (unhide HX2).c 3 rfl
  clear hCl hCc
  go_wp2_with fail
  refine (unhide HC).mono ?_
  rintro e W3 ⟨⟨s, rfl, hs⟩, hb⟩
  have HSF : Hid (s ≤ (fileB (mcOf m)).length) := hide (Nat.le_trans hs (size_file (unhide HMW).v))
  have HB3 := hide ((unhide HB2).trans (hb.mono (unhide HB2).size))
  have HX3 := hide ((unhide HX2).below hb)
  have HMW3 : Hid (MdW W3 m) := hide ⟨(unhide HMW).ok.below hb, (unhide HMW).v, (unhide HMW).cd, (unhide HMW).nil⟩
  clear HC hs hb m0 m1 m2 m3 HB2 HX2 H2 HMW
  by_cases hbig : 1048576 < s
  · have i0 : ((s : Nat) : Int) > 1048576 := by omega
    have HR : Hid (EncR m [] 4) := hide (Or.inr (Or.inl ⟨unhide HCZ, Nat.lt_of_lt_of_le hbig (unhide HSF), rfl, rfl⟩))
    clear HSF hbig
    go_wp2
    go_ret2
    exact ⟨.slice none 0 0, [], 4, rfl, World.ownsRow_nil _ _ _ _, unhide HR, unhide HB3⟩
  have i0 : ¬ ((s : Nat) : Int) > 1048576 := by omega
  have m0 := (unhide HX3).c 0 rfl
  have m1 := (unhide HX3).c 1 rfl
  have m2 := (unhide HX3).c 2 rfl
  have m3 := (unhide HX3).c 3 rfl
  have HC := hide (refBody_any m W3 (unhide HMW3))
  clear HSF hbig
  go_wp2_with fail
  refine (unhide HC).mono ?_
  rintro e W4 ⟨v4, rfl, hr⟩
  have hl := md_len (unhide HMW3).v
  have HFE := hide (file_eq (unhide HMW3).v)
  obtain ⟨L, HLE⟩ : ∃ L, Hid (magB ++ mdW m = L) := ⟨_, hide rfl⟩
  rw [unhide HLE] at hr hl HFE
  have HB4 := hide ((unhide HB3).trans (hr.bel.mono (unhide HB3).size))
  have HSU : Hid (Calls Tryz.prog 30 #[v4] W4 fun e w' => ∃ v', e = .returned v' ∧ OwnB w' W4.heap.size v' (tsum L) ∧ Below W4.heap.size W4 w') := hide (by
    rcases hr.own.shape with ⟨hv4, hl4⟩ | ⟨g4, c4, hv4, _, _, _, _, hb4⟩
    · rw [hv4, hl4]
      exact summed_any none 0 [] W4 (BAt.nil _ _) (fun _ => ⟨rfl, rfl⟩) (by simp)
    · rw [hv4]
      exact summed_any _ c4 L W4 hb4 (fun h => by cases h) (by omega))
  clear HC hr hl HLE m0 m1 m2 m3 HX3 HMW3
  go_wp2_with fail
  refine (unhide HSU).mono ?_
  rintro e W5 ⟨v5, rfl, ho5, hb5⟩
  have HO5 : Hid (OwnB W5 w.heap.size v5 (fileB (mcOf m))) := hide (by rw [← unhide HFE]; exact ho5.mono (unhide HB4).size)
  have HB5 := hide ((unhide HB4).trans (hb5.mono (unhide HB4).size))
  obtain ⟨X, HXE⟩ : ∃ X, Hid (fileB (mcOf m) = X) := ⟨_, hide rfl⟩
  rw [unhide HXE] at HO5
  obtain ⟨a5, c5, hv5, _⟩ := (unhide HO5).at
  subst hv5
  clear HSU ho5 hb5 HFE
  by_cases hbig : 1048576 < X.length
  · have i1 : ((X.length : Nat) : Int) > 1048576 := by omega
    have HR : Hid (EncR m [] 4) := hide (Or.inr (Or.inl ⟨unhide HCZ, by rw [unhide HXE]; exact hbig, rfl, rfl⟩))
    clear hbig
    go_wp2
    go_ret2
    exact ⟨.slice none 0 0, [], 4, rfl, World.ownsRow_nil _ _ _ _, unhide HR, unhide HB5⟩
  · have i1 : ¬ ((X.length : Nat) : Int) > 1048576 := by omega
    have HR : Hid (EncR m X 0) := hide (Or.inr (Or.inr ⟨unhide HCZ, by rw [unhide HXE]; omega, rfl, (unhide HXE).symm⟩))
    clear hbig
    go_wp2
    go_ret2
    exact ⟨_, X, 0, rfl, unhide HO5, unhide HR, unhide HB5⟩
end Go.Proofs.YtibgfdjopikafaaGreatDoor
