/-
  Contracts of frames.Top and frames.Load: what the plain functions 'topD' and 'loadD' say; nothing old is turned.
-/
import Derived.Test.YtihkodfcgfnjoaaFrC
namespace Go.Proofs.Ytihkodfcgfnjoaa
open Go.RowKit

def topD (f : Fr) (n : Int) : Nat × Int :=
  if shapeD f = false then (0, 32) else if n < 0 then (0, 1) else if f.he ≤ n then (0, 30) else (f.sl.getD (nF f - 1 - n.toNat) 0, 0)
def loadD (f : Fr) (s : Int) : Nat × Int :=
  if shapeD f = false then (0, 32) else if s < 0 ∨ f.lo ≤ s then (0, 33) else (f.sl.getD s.toNat 0, 0)
def twoV (p : Nat × Int) : Value := .tuple #[.int .u8 (p.1 : Int), .int .i64 p.2]

set_option maxHeartbeats 400000 in
theorem Load_any (f : Fr) (s : Int) (w : World) (hf : FrOk f) (hw : -9223372036854775808 ≤ s ∧ s ≤ 9223372036854775807) :
    Calls Try.prog 27 #[.agg (frA f), .int .i64 s] w fun e w' => e = .returned (twoV (loadD f s)) ∧ Below w.heap.size w w' := by
  have HF := hide hf
  have H1 := hide (FAt.new w f)
  have HB : Hid (Below w.heap.size w (w.alloc (.cells (frA f) 27))) := hide ((Below.refl _ _).alloc (Nat.le_refl _) _)
  clear hf
  go_enter Try.func27, Try.ntmps27
  go_wp2_with (refine wpList_load_row rfl 27 _ rfl w.heap.size rfl 27 (frA f) (0, 0) _ (unhide H1) Try.underlying27 rfl (sizeFr (unhide HF)) ?_)
  generalize (w.alloc (.cells (frA f) 27)) = W at H1 HB ⊢
  refine (shapeCanBe_any f _ (unhide HF)).mono ?_
  rintro e W1 ⟨rfl, hB1⟩
  have K1 := hide ((unhide H1).below hB1 (unhide H1).lt)
  have HB1 := hide ((unhide HB).trans (hB1.mono (unhide HB).size))
  clear hB1 H1 HB W
  by_cases hs : shapeD f = true
  · obtain ⟨h0, h1, h2, h3⟩ := shapeD_iff.1 hs
    have c0 := (unhide K1).lo
    have c1 := (unhide K1).he
    by_cases s1 : s < 0
    · have HR : Hid (loadD f s = (0, 33)) := hide (by unfold loadD; rw [if_neg (by rw [hs]; simp), if_pos (Or.inl s1)])
      rw [hs]
      clear hs
      go_wp2
      go_ret2
      exact ⟨by rw [unhide HR]; rfl, unhide HB1⟩
    · by_cases s2 : s ≥ f.lo
      · have HR : Hid (loadD f s = (0, 33)) := hide (by unfold loadD; rw [if_neg (by rw [hs]; simp), if_pos (Or.inr s2)])
        rw [hs]
        clear hs
        go_wp2
        go_ret2
        exact ⟨by rw [unhide HR]; rfl, unhide HB1⟩
      · have HR : Hid (loadD f s = (f.sl.getD s.toNat 0, 0)) := hide (by unfold loadD; rw [if_neg (by rw [hs]; simp), if_neg (by omega)])
        have hlt : s.toNat < f.sl.length := by rw [(unhide HF).len]; omega
        have ct := (unhide K1).slot (List.getElem?_eq_getElem hlt)
        have HG : Hid (f.sl.getD s.toNat 0 = f.sl[s.toNat]) := hide (by rw [List.getD_eq_getElem?_getD, List.getElem?_eq_getElem hlt]; rfl)
        rw [unhide HG] at HR
        generalize f.sl[s.toNat] = t at ct HR
        rw [hs]
        clear hs hlt HG
        go_wp2
        go_ret2
        exact ⟨by rw [unhide HR]; rfl, unhide HB1⟩
  · have hs' : shapeD f = false := by simpa using hs
    have HR : Hid (loadD f s = (0, 32)) := hide (by unfold loadD; rw [if_pos hs'])
    rw [hs']
    clear hs hs'
    go_wp2
    go_ret2
    exact ⟨by rw [unhide HR]; rfl, unhide HB1⟩

set_option maxHeartbeats 400000 in
theorem Top_any (f : Fr) (n : Int) (w : World) (hf : FrOk f) (hw : -9223372036854775808 ≤ n ∧ n ≤ 9223372036854775807) :
    Calls Try.prog 25 #[.agg (frA f), .int .i64 n] w fun e w' => e = .returned (twoV (topD f n)) ∧ Below w.heap.size w w' := by
  have HF := hide hf
  have H1 := hide (FAt.new w f)
  have HB : Hid (Below w.heap.size w (w.alloc (.cells (frA f) 27))) := hide ((Below.refl _ _).alloc (Nat.le_refl _) _)
  clear hf
  go_enter Try.func25, Try.ntmps25
  go_wp2_with (refine wpList_load_row rfl 27 _ rfl w.heap.size rfl 27 (frA f) (0, 0) _ (unhide H1) Try.underlying27 rfl (sizeFr (unhide HF)) ?_)
  generalize (w.alloc (.cells (frA f) 27)) = W at H1 HB ⊢
  refine (shapeCanBe_any f _ (unhide HF)).mono ?_
  rintro e W1 ⟨rfl, hB1⟩
  have K1 := hide ((unhide H1).below hB1 (unhide H1).lt)
  have HB1 := hide ((unhide HB).trans (hB1.mono (unhide HB).size))
  clear hB1 H1 HB W
  by_cases hs : shapeD f = true
  · have HS := hide hs
    obtain ⟨h0, h1, h2, h3⟩ := shapeD_iff.1 hs
    have c0 := (unhide K1).lo
    have c1 := (unhide K1).he
    by_cases s1 : n < 0
    · have HR : Hid (topD f n = (0, 1)) := hide (by unfold topD; rw [if_neg (by rw [hs]; simp), if_pos s1])
      rw [hs]
      clear hs
      go_wp2
      go_ret2
      exact ⟨by rw [unhide HR]; rfl, unhide HB1⟩
    · by_cases s2 : n ≥ f.he
      · have HR : Hid (topD f n = (0, 30)) := hide (by unfold topD; rw [if_neg (by rw [hs]; simp), if_neg s1, if_pos s2])
        rw [hs]
        clear hs
        go_wp2
        go_ret2
        exact ⟨by rw [unhide HR]; rfl, unhide HB1⟩
      · have HR : Hid (topD f n = (f.sl.getD (nF f - 1 - n.toNat) 0, 0)) := hide (by unfold topD; rw [if_neg (by rw [hs]; simp), if_neg s1, if_neg s2])
        have hlt : (f.lo + f.he - 1 - n).toNat < f.sl.length := by rw [(unhide HF).len]; omega
        have ei : nF f - 1 - n.toNat = (f.lo + f.he - 1 - n).toNat := by unfold nF; omega
        rw [ei] at HR
        have HG : Hid (f.sl.getD (f.lo + f.he - 1 - n).toNat 0 = f.sl[(f.lo + f.he - 1 - n).toNat]) := hide (by rw [List.getD_eq_getElem?_getD, List.getElem?_eq_getElem hlt]; rfl)
        have ht := List.getElem?_eq_getElem hlt
        rw [unhide HG] at HR
        generalize f.sl[(f.lo + f.he - 1 - n).toNat] = t at ht HR
        rw [hs]
        have HT := hide ht
        clear hs hlt HG ei ht
        go_wp2_with (refine wpList_load_row rfl 27 _ rfl w.heap.size rfl 27 (frA f) (0, 0) _ (unhide K1) Try.underlying27 rfl (sizeFr (unhide HF)) ?_)
        refine (size_any f _ (unhide HS)).mono ?_
        rintro e W2 ⟨rfl, hB2⟩
        have K2 := hide ((unhide K1).below hB2 (unhide K1).lt)
        have HB2 := hide ((unhide HB1).trans (hB2.mono (unhide HB1).size))
        have ct := (unhide K2).slot (unhide HT)
        clear hB2 K1 HB1 c0 c1
        go_wp2
        go_ret2
        exact ⟨by rw [unhide HR]; rfl, unhide HB2⟩
  · have hs' : shapeD f = false := by simpa using hs
    have HR : Hid (topD f n = (0, 32)) := hide (by unfold topD; rw [if_pos hs'])
    rw [hs']
    clear hs hs'
    go_wp2
    go_ret2
    exact ⟨by rw [unhide HR]; rfl, unhide HB1⟩
end Go.Proofs.Ytihkodfcgfnjoaa
