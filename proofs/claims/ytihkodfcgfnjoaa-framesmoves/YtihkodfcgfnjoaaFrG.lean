/-
  The contract of provisoref03.bare: nothing stands behind the entries. Conditions: a frame's shape can be.
-/
import Derived.Test.YtihkodfcgfnjoaaFrC
namespace Go.Proofs.Ytihkodfcgfnjoaa
open Go.RowKit

/-- Slots n up to k set to zero. -/
def zeroTo (l : List Nat) (n k : Nat) : List Nat := zeroFrom l n (k - n)
theorem zeroFrom_snoc : ∀ (m n : Nat) (l : List Nat), (zeroFrom l n m).set (n + m) 0 = zeroFrom l n (m + 1)
  | 0, n, l => rfl
  | m + 1, n, l => by
    have := zeroFrom_snoc m (n + 1) (l.set n 0)
    unfold zeroFrom
    rw [show n + (m + 1) = n + 1 + m from by omega]
    exact this
theorem zeroTo_succ (l : List Nat) {n k : Nat} (h : n ≤ k) : (zeroTo l n k).set k 0 = zeroTo l n (k + 1) := by
  unfold zeroTo
  have := zeroFrom_snoc (k - n) n l
  rw [show n + (k - n) = k from by omega] at this
  rw [this, show k + 1 - n = k - n + 1 from by omega]
theorem zeroFrom_length : ∀ (m n : Nat) (l : List Nat), (zeroFrom l n m).length = l.length
  | 0, _, _ => rfl
  | m + 1, n, l => by unfold zeroFrom; rw [zeroFrom_length m, List.length_set]

set_option maxHeartbeats 400000 in
theorem bare_any (f : Fr) (w : World) (hf : FrOk f) (hs : shapeD f = true) :
    Calls Try.prog 45 #[.agg (frA f)] w fun e w' => e = .returned (.agg (frA (trimD f))) ∧ Below w.heap.size w w' := by
  have HS := hide hs
  have HF := hide hf
  have h1 : FAt ((w.alloc (.cells (frA f) 27)).alloc (.cells (frA frZ) 27)) w.heap.size f := (FAt.new w f).below ((Below.refl _ _).alloc (Nat.le_refl _) _) (by simp)
  have h2 : FAt ((w.alloc (.cells (frA f) 27)).alloc (.cells (frA frZ) 27)) (w.heap.size + 1) frZ := by
    have := FAt.new (w.alloc (.cells (frA f) 27)) frZ
    rw [World.size_alloc] at this
    exact this
  have hB : Below w.heap.size w ((w.alloc (.cells (frA f) 27)).alloc (.cells (frA frZ) 27)) := ((Below.refl _ _).alloc (Nat.le_refl _) _).alloc (by simp) _
  obtain ⟨g0, g1, g2, g3⟩ := shapeD_iff.1 hs
  have e0 := frA_lo f
  have e1 := frA_he f
  have H1 := hide h1
  have H2 := hide h2
  have HB := hide hB
  clear hs hf h1 h2 hB
  go_enter Try.func45, Try.ntmps45
  go_wp2
  rw [frZ_eq]
  generalize ((w.alloc (.cells (frA f) 27)).alloc (.cells (frA frZ) 27)) = W at H1 H2 HB ⊢
  obtain ⟨n, hn⟩ : ∃ n : Nat, f.lo + f.he = (n : Int) := ⟨nF f, by unfold nF; omega⟩
  have hn24 : n ≤ 24 := by omega
  have HN : Hid (nF f = n) := hide (by unfold nF; omega)
  rw [hn]
  clear hn e0 e1
  go_loopw [3] (fun i wr => ∃ k : Nat, n ≤ k ∧ k ≤ 24 ∧ i = .int .i64 (k : Int) ∧ Hid (FAt wr w.heap.size { f with sl := zeroTo f.sl n k }) ∧ Hid (FAt wr (w.heap.size + 1) frZ) ∧ Hid (Below w.heap.size w wr)) (fun i _ => 24 - (intOf i).toNat)
  case atStart => exact ⟨n, by omega, by omega, rfl, by unfold zeroTo; rw [Nat.sub_self]; exact H1, H2, HB⟩
  case round =>
    clear H1 H2 HB
    obtain ⟨k, hnk, hk, rfl, H1, H2, HB⟩ := hrel
    by_cases hlt : k < 24
    · have i1 : ((k : Nat) : Int) < 24 := by omega
      have hlen : k < (zeroTo f.sl n k).length := by unfold zeroTo; rw [zeroFrom_length, (unhide HF).len]; exact hlt
      have c1 := (unhide H1).slot (List.getElem?_eq_getElem hlen)
      generalize (zeroTo f.sl n k)[k] = old at c1
      have z1 := (unhide H1).frozen (2 + k)
      have R1 : Hid (FAt (wr.setCell ⟨w.heap.size, 2 + k, none⟩ (.int .u8 0)) w.heap.size { f with sl := zeroTo f.sl n (k + 1) }) := hide (by
        have := (unhide H1).set k 0
        rw [show ({ f with sl := zeroTo f.sl n k } : Fr).sl = zeroTo f.sl n k from rfl, zeroTo_succ _ hnk] at this
        exact this)
      have R2 := hide ((unhide H2).cellOther ⟨w.heap.size, 2 + k, none⟩ (.int .u8 0) (by simp))
      have HB2 := hide ((unhide HB).setCell (p := ⟨w.heap.size, 2 + k, none⟩) (Nat.le_refl _) (.int .u8 0))
      clear hlen H1 H2 HB
      go_wp2
      go_roundw
      case rel => exact ⟨k + 1, by omega, by omega, by go_num, R1, R2, HB2⟩
      case measure => simp [intOf]; omega
    · have i1 : ¬ ((k : Nat) : Int) < 24 := by omega
      have HT : Hid (({ f with sl := zeroTo f.sl n k } : Fr) = trimD f) := hide (by
        unfold trimD zeroTo
        rw [show k - n = 24 - n from by omega, zeroFrom_trim (unhide HF).len hn24, unhide HN])
      rw [unhide HT] at H1
      have HO := hide (trim_ok (unhide HF) (unhide HS))
      clear HT
      obtain ⟨F, HE⟩ : ∃ F, Hid (trimD f = F) := ⟨_, hide rfl⟩
      rw [unhide HE] at H1 HO
      go_wp2_with (first | (refine wpList_load_row rfl 27 _ rfl w.heap.size rfl 27 (frA F) (0, 0) _ (unhide H1) Try.underlying27 rfl (sizeFr (unhide HO)) ?_) | (refine wpList_store_row rfl 27 _ _ rfl (w.heap.size + 1) (frA F) rfl rfl 27 (frA frZ) (unhide H2) (sizeFr (unhide HO)) (sizeEq frZ_ok (unhide HO)) (frA_one _) ?_))
      exact bodyPost_ret (v := .agg (frA F)) (results_cell_row rfl _ _ (w.heap.size + 1) 27 (frA F) (0, 0) _ rfl ((unhide H2).row _) Try.underlying27 rfl (sizeFr (unhide HO))) rfl ⟨by rw [unhide HE], below_setRow' (unhide HB) (by omega) _⟩
end Go.Proofs.Ytihkodfcgfnjoaa
