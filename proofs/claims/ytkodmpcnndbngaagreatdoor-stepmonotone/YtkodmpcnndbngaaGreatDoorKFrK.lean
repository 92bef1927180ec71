/-
  The contract of provisoref03.Check: what the plain function 'chkF' says; nothing old is turned.
-/
import Derived.Test.YtkodmpcnndbngaaGreatDoorJFR
import Derived.Test.YtkodmpcnndbngaaGreatDoorJTY
namespace Go.Proofs.YtkodmpcnndbngaaGreatDoor
open Go.RowKit
set_option maxRecDepth 20000

def chkF (n : Nat) (f : Fr) : Int :=
  if shapeD f = false then 32 else if frEq f (trimD f) = false then 32 else if (f.sl.take (nF f)).all (validD n) = true then 0 else 22

theorem trim_iff {f : Fr} (hf : FrOk f) (hs : shapeD f = true) : frEq f (trimD f) = true ↔ ∀ j, nF f ≤ j → j < 24 → f.sl[j]? = some 0 := by
  have hn := shape_n hs
  rw [frEq_iff]
  constructor
  · intro h j h1 h2
    have hs : f.sl = trimL (nF f) f.sl := congrArg Fr.sl h
    rw [hs]
    unfold trimL
    rw [List.getElem?_append_right (by rw [List.length_take, hf.len]; omega), List.length_take, hf.len, List.getElem?_replicate, if_pos (by omega)]
  · intro h
    have : trimL (nF f) f.sl = f.sl := by
      apply List.ext_getElem?
      intro j
      unfold trimL
      rw [List.getElem?_append, List.length_take, hf.len, List.getElem?_take, List.getElem?_replicate]
      by_cases h1 : j < nF f
      · rw [if_pos (by omega), if_pos h1]
      · rw [if_neg (by omega)]
        by_cases h2 : j < 24
        · rw [if_pos (by omega), h j (by omega) h2]
        · rw [if_neg (by omega), List.getElem?_eq_none (by rw [hf.len]; omega)]
    unfold trimD
    rw [this]

theorem all_iff {n k : Nat} {l : List Nat} (hk : k ≤ l.length) : (l.take k).all (validD n) = true ↔ ∀ j t, j < k → l[j]? = some t → validD n t = true := by
  rw [List.all_eq_true]
  constructor
  · intro h j t hj ht
    refine h t ?_
    rw [List.mem_take_iff_getElem]
    have := (List.getElem?_eq_some_iff.1 ht)
    exact ⟨j, by omega, this.2⟩
  · intro h t ht
    rw [List.mem_take_iff_getElem] at ht
    obtain ⟨j, hj, rfl⟩ := ht
    exact h j _ (by omega) (List.getElem?_eq_getElem (by omega))

set_option maxHeartbeats 1000000 in
theorem refCheckF_any (ao : Option Addr) (c n : Nat) (f : Fr) (w : World) (hf : FrOk f) :
    Calls Tryz.prog 13 #[.slice ao n c, .agg (frA f)] w fun e w' => e = .returned (.int .i64 (chkF n f)) ∧ Below w.heap.size w w' := by
  have HF := hide hf
  have H1 := hide (FAt.new w f)
  have HB : Hid (Below w.heap.size w (w.alloc (.cells (frA f) 29))) := hide ((Below.refl _ _).alloc (Nat.le_refl _) _)
  clear hf
  go_enter Tryz.func13, Tryz.ntmps13
  go_wp2_with (refine wpList_load_row rfl 29 _ rfl w.heap.size rfl 29 (frA f) (0, 0) _ (unhide H1) Tryz.underlying29 rfl (sizeFr (unhide HF)) ?_)
  generalize (w.alloc (.cells (frA f) 29)) = W at H1 HB ⊢
  refine (refShape_any f _ (unhide HF)).mono ?_
  rintro e W1 ⟨rfl, hB1⟩
  have K1 := hide ((unhide H1).below hB1 (unhide H1).lt)
  have HB1 := hide ((unhide HB).trans (hB1.mono (unhide HB).size))
  clear hB1 H1 HB W
  by_cases hs : shapeD f = true
  · have HS := hide hs
    obtain ⟨h0, h1, h2, h3⟩ := shapeD_iff.1 hs
    have c0 := (unhide K1).lo
    have c1 := (unhide K1).he
    obtain ⟨m, hm⟩ : ∃ m : Nat, f.lo + f.he = (m : Int) := ⟨nF f, by unfold nF; omega⟩
    have hm24 : m ≤ 24 := by omega
    have HN : Hid (nF f = m) := hide (by unfold nF; omega)
    have HM := hide hm
    rw [hs]
    clear hs hm
    go_wp2
    rw [unhide HM]
    go_loopw [5] (fun i wr => (∃ k : Nat, m ≤ k ∧ k ≤ 24 ∧ i = .int .i64 (k : Int) ∧ Hid (∀ j, m ≤ j → j < k → f.sl[j]? = some 0)) ∧ wr = W1) (fun i _ => 24 - (intOf i).toNat)
    case atStart => exact ⟨⟨m, by omega, by omega, rfl, hide (fun j h1 h2 => by omega)⟩, rfl⟩
    case round =>
      obtain ⟨⟨k, hmk, hk, rfl, HK⟩, rfl⟩ := hrel
      by_cases hlt : k < 24
      · have i1 : ((k : Nat) : Int) < 24 := by omega
        have hlen : k < f.sl.length := by rw [(unhide HF).len]; exact hlt
        have hx := List.getElem?_eq_getElem hlen
        have d1 := (unhide K1).slot hx
        generalize f.sl[k] = x at hx d1
        by_cases e0 : x = 0
        · have b1 : (((x : Nat) : Int) != 0) = false := bne_f (by omega)
          have HK2 : Hid (∀ j, m ≤ j → j < k + 1 → f.sl[j]? = some 0) := hide (fun j h1 h2 => by
            by_cases e : j = k
            · rw [e, hx, e0]
            · exact unhide HK j h1 (by omega))
          clear e0 hx hlen HK
          go_wp2
          go_roundw
          case rel => exact ⟨⟨k + 1, by omega, by omega, by go_num, HK2⟩, by trivial⟩
          case measure => simp [intOf]; omega
        · have b1 : (((x : Nat) : Int) != 0) = true := bne_t (by omega)
          have HR : Hid (chkF n f = 32) := hide (by
            unfold chkF
            rw [if_neg (by rw [unhide HS]; simp), if_pos]
            cases hq : frEq f (trimD f)
            · rfl
            · exfalso
              have := (trim_iff (unhide HF) (unhide HS)).1 hq k (by rw [unhide HN]; exact hmk) hlt
              rw [hx] at this
              injection this with this
              exact e0 this)
          clear e0 hx hlen HK
          go_wp2
          go_ret
          exact ⟨ret_int (unhide HR).symm, unhide HB1⟩
      · have i1 : ¬ ((k : Nat) : Int) < 24 := by omega
        have HQ : Hid (frEq f (trimD f) = true) := hide ((trim_iff (unhide HF) (unhide HS)).2 (fun j h1 h2 => unhide HK j (by rw [← unhide HN]; exact h1) (by omega)))
        clear HK
        have i2 := HM
        go_wp2
        go_loopw [6] (fun i wq => (∃ k : Nat, k ≤ m ∧ i = .int .i64 (k : Int) ∧ Hid (∀ j t, j < k → f.sl[j]? = some t → validD n t = true)) ∧ wq = wr) (fun i _ => m - (intOf i).toNat)
        case atStart => exact ⟨⟨0, by omega, rfl, hide (fun j t h => by omega)⟩, rfl⟩
        case round =>
          obtain ⟨⟨k, hk, rfl, HV⟩, rfl⟩ := hrel
          by_cases hlt : k < m
          · have j1 : ((k : Nat) : Int) < f.lo + f.he := by rw [unhide HM]; omega
            have j2 : ((k : Nat) : Int) < 24 := by omega
            have hlen : k < f.sl.length := by rw [(unhide HF).len]; omega
            have hx := List.getElem?_eq_getElem hlen
            have d1 := (unhide K1).slot hx
            have hx256 := (unhide HF).byte _ (List.getElem_mem hlen)
            generalize f.sl[k] = x at hx d1 hx256
            have HX := hide hx
            clear hx hlen
            go_wp2_with fail
            refine (refValid_any ao c n x _ hx256).mono ?_
            rintro e W2 ⟨rfl, rfl⟩
            cases hv : validD n x
            · have HR : Hid (chkF n f = 22) := hide (by
                unfold chkF
                rw [if_neg (by rw [unhide HS]; simp), if_neg (by rw [unhide HQ]; simp), if_neg]
                intro h
                have := (all_iff (by rw [(unhide HF).len, unhide HN]; exact hm24)).1 h k x (by rw [unhide HN]; exact hlt) (unhide HX)
                rw [hv] at this
                cases this)
              go_wp2
              go_ret
              exact ⟨ret_int (unhide HR).symm, unhide HB1⟩
            · have HV2 : Hid (∀ j t, j < k + 1 → f.sl[j]? = some t → validD n t = true) := hide (fun j t h1 h2 => by
                by_cases e : j = k
                · rw [e, unhide HX] at h2
                  injection h2 with h2
                  rw [← h2]; exact hv
                · exact unhide HV j t (by omega) h2)
              clear HV HX hv
              go_wp2
              go_roundw
              case rel => exact ⟨⟨k + 1, by omega, by go_num, HV2⟩, by trivial⟩
              case measure => simp [intOf]; omega
          · have j1 : ¬ ((k : Nat) : Int) < f.lo + f.he := by rw [unhide HM]; omega
            have HR : Hid (chkF n f = 0) := hide (by
              unfold chkF
              rw [if_neg (by rw [unhide HS]; simp), if_neg (by rw [unhide HQ]; simp), if_pos]
              exact (all_iff (by rw [(unhide HF).len, unhide HN]; exact hm24)).2 (fun j t h1 h2 => unhide HV j t (by rw [unhide HN] at h1; omega) h2))
            go_wp2
            go_ret
            exact ⟨ret_int (unhide HR).symm, unhide HB1⟩
  · have hs' : shapeD f = false := by simpa using hs
    have HR : Hid (chkF n f = 32) := hide (by unfold chkF; rw [if_pos hs'])
    rw [hs']
    clear hs hs'
    go_wp2
    go_ret
    exact ⟨ret_int (unhide HR).symm, unhide HB1⟩
end Go.Proofs.YtkodmpcnndbngaaGreatDoor
