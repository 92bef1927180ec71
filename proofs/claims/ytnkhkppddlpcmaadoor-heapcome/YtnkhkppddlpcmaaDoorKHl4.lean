/-
  HeapCome's calls: cmp.Less, slices.IsSorted, the reference's Fields over the table of a life.
-/
import Derived.Test.YtnkhkppddlpcmaaDoorKHl3
namespace Go.Proofs.YtnkhkppddlpcmaaDoor
open Go.RowKit
set_option maxRecDepth 20000

theorem Less_any (a b : Int) (w : World) : Calls Tryd.prog 61 #[.int .i64 a, .int .i64 b] w fun e w' => e = .returned (.bool (decide (a < b))) ∧ w' = w := by
  have h1 := isNaN_any a w
  have h2 := isNaN_any b w
  go_enter Tryd.func61, Tryd.ntmps61
  go_wp2_with (first | (go_at_call 73; refine h1.mono ?_; rintro e W ⟨rfl, rfl⟩) | (go_at_call 73; refine h2.mono ?_; rintro e W ⟨rfl, rfl⟩))
  go_ret
  exact ⟨rfl, rfl⟩
set_option maxRecDepth 20000 in
set_option maxHeartbeats 4000000 in
theorem IsSortedH_yes (ao : Option Addr) (c : Nat) (l : List Int) (w : World) (hx : JsAt w ao l) (hz : l.length ≤ 4096) (ha : l.Pairwise (· < ·)) :
    Calls Tryd.prog 34 #[.slice ao l.length c] w fun e w' => e = .returned (.bool true) ∧ Below w.heap.size w w' := by
  have HX := hide hx
  have HA := hide ha
  clear hx ha
  go_enter Tryd.func34, Tryd.ntmps34
  go_wp2_with fail
  go_loopw [3] (fun i wr => ∃ (k : Int), -1 ≤ k ∧ k < (l.length : Int) ∧ i = .int .i64 k ∧ Hid (Below w.heap.size w wr)) (fun i _ => (intOf i).toNat)
  case atStart => exact ⟨(l.length : Int) - 1, by omega, by omega, by go_num, hide (Below.refl _ _)⟩
  case round =>
    obtain ⟨k, hk0, hk, rfl, HB⟩ := hrel
    by_cases hlt : 0 < k
    · obtain ⟨n, rfl⟩ : ∃ n : Nat, k = ((n + 1 : Nat) : Int) := ⟨(k - 1).toNat, by omega⟩
      have hn1 : n + 1 < l.length := by omega
      have hn0 : n < l.length := by omega
      have x1 := List.getElem?_eq_getElem hn1
      have x0 := List.getElem?_eq_getElem hn0
      have hlt2 : l[n] < l[n + 1] := List.pairwise_iff_getElem.1 (unhide HA) n (n + 1) hn0 hn1 (by omega)
      obtain ⟨b, off, rfl, hc1⟩ := ((unhide HX).below (unhide HB)) (n + 1) _ x1
      obtain ⟨b', off', e, hc0⟩ := ((unhide HX).below (unhide HB)) n _ x0
      injection e with e
      injection e with e1 e2
      subst e1 e2
      generalize l[n] = y0 at hc0 hlt2
      generalize l[n + 1] = y1 at hc1 hlt2
      have HL := hide (Less_any y1 y0)
      have i1 : (((n + 1 : Nat) : Nat) : Int) < ((l.length : Nat) : Int) := by omega
      have i0 : ((n : Nat) : Int) < ((l.length : Nat) : Int) := by omega
      have i3 : IntKind.i64.wrap ((n : Nat) : Int) = ((n : Nat) : Int) := by simp [IntKind.wrap, IntKind.bits, IntKind.signed]; omega
      have d1 : decide (y1 < y0) = false := by simp; omega
      clear x1 x0
      go_upto_region 4 with fail
      go_cut [20] (fun s wx => s = .bool false ∧ Hid (Below w.heap.size w wx))
      case first =>
        have HD : Hid (Below w.heap.size w wr.drew) := hide ((unhide HB).trans (belowD (Below.refl _ _) 1))
        refine wp_region_held_drew (S := fun w' => w'.cell? ⟨b, off + (n + 1), none⟩ = some (.int .i64 y1) ∧ w'.cell? ⟨b, off + n, none⟩ = some (.int .i64 y0)) (by kernel_rfl) ⟨hc1, hc0⟩ (fun hS => ?_)
        clear hc1 hc0
        generalize wr.drew = Wd at hS HD ⊢
        refine wpAnyH_take (i := 0) (v := .slice (some ⟨b, off, none⟩) l.length c) rfl (by kernel_rfl) (by kernel_rfl) (by kernel_rfl) (fun _ _ _ h => h) (Or.inl ⟨by rfl, fun w _ => by go_simp⟩) hS ?_
        refine wpAnyH_take (i := 1) (v := .int .i64 (((n + 1 : Nat) : Nat) : Int)) rfl (by kernel_rfl) (by kernel_rfl) (by kernel_rfl) (fun _ _ _ h => h) (Or.inl ⟨by rfl, fun w _ => by go_simp⟩) hS ?_
        go_simp
        refine wpAnyH_take (i := 2) (v := .pointer (some ⟨b, off + (n + 1), none⟩)) rfl (by kernel_rfl) (by kernel_rfl) (by kernel_rfl) (fun _ _ _ h => h) (Or.inl ⟨by rfl, fun w _ => by go_simp; intro hh; exact absurd (hh (by omega)) (by omega)⟩) hS ?_
        go_simp
        refine wpAnyH_take (i := 3) (v := .int .i64 y1) rfl (by kernel_rfl) (by kernel_rfl) (by kernel_rfl) (fun _ _ _ h => h) (Or.inl ⟨by rfl, fun W h => by have h0 := h.1; go_simp⟩) hS ?_
        refine wpAnyH_take (i := 4) (v := .slice (some ⟨b, off, none⟩) l.length c) rfl (by kernel_rfl) (by kernel_rfl) (by kernel_rfl) (fun _ _ _ h => h) (Or.inl ⟨by rfl, fun w _ => by go_simp⟩) hS ?_
        refine wpAnyH_take (i := 5) (v := .int .i64 (((n + 1 : Nat) : Nat) : Int)) rfl (by kernel_rfl) (by kernel_rfl) (by kernel_rfl) (fun _ _ _ h => h) (Or.inl ⟨by rfl, fun w _ => by go_simp⟩) hS ?_
        go_simp
        refine wpAnyH_take (i := 6) (v := .int .i64 ((n : Nat) : Int)) rfl (by kernel_rfl) (by kernel_rfl) (by kernel_rfl) (fun _ _ _ h => h) (Or.inl ⟨by rfl, fun w _ => by go_simp⟩) hS ?_
        go_simp
        refine wpAnyH_take (i := 7) (v := .pointer (some ⟨b, off + n, none⟩)) rfl (by kernel_rfl) (by kernel_rfl) (by kernel_rfl) (fun _ _ _ h => h) (Or.inl ⟨by rfl, fun w _ => by go_simp⟩) hS ?_
        go_simp
        refine wpAnyH_take (i := 8) (v := .int .i64 y0) rfl (by kernel_rfl) (by kernel_rfl) (by kernel_rfl) (fun _ _ _ h => h) (Or.inl ⟨by rfl, fun W h => by have h0 := h.2; go_simp⟩) hS ?_
        go_simp
        refine wpAnyH_ready (rs := [9]) (by kernel_rfl) (by simp) ?_
        refine AllReadyH.cons rfl (fun K hK => ?_) AllReadyH.nil
        go_simp
        go_wp2_with (go_at_call 61; refine (unhide HL _).mono ?_; rintro e W ⟨rfl, rfl⟩)
        refine hK.out _ _ hS (fun hS2 => ?_)
        clear hK K hS
        refine wpAnyH_done (by kernel_rfl) ?_ _
        go_wp2_with fail
        go_meet
        exact ⟨rfl, HD⟩
      case rest =>
        obtain ⟨rfl, HBn⟩ := hcut
        go_wp2
        go_roundw
        case rel => exact ⟨((n : Nat) : Int), by omega, by omega, by go_num, HBn⟩
        case measure => simp [intOf]
    · go_wp2
      go_ret
      exact ⟨rfl, unhide HB⟩
theorem refFieldsH {W : World} {ao : Option Addr} {T : List Cl} (cap : Nat) (hT : TabAt W ao T) (hz : T.length * 48 ≤ 140737488351232) (hm : madeD T = true) {c : Nat} (hc : c < T.length) (hl : (fieldsB T (c : Int)).length ≤ 4096) :
    Calls Tryd.prog 31 #[.slice ao T.length cap, .int .i64 (c : Int)] W fun e w' => ∃ fa fc, e = .returned (.slice fa (fieldsB T (c : Int)).length fc) ∧ FsAt w' fa (fieldsB T (c : Int)) ∧ Below W.heap.size W w' := by
  have he : fieldsD T (c : Int) = fieldsB T (c : Int) := fields_same2 (n := T.length) (Nat.le_refl _) (fun k hk => of_decide_eq_true (List.all_eq_true.1 hm k (List.mem_range.2 hk))) (by omega)
  refine (refFields_any ao cap T (c : Int) W hT hz (by rw [he]; omega)).mono ?_
  rintro e W2 ⟨v, rfl, hO, hB2⟩
  rw [he] at hO
  obtain ⟨fa, fc, rfl, hF, -, -⟩ := hO.at (fieldsB_ok hT (c : Int))
  exact ⟨fa, fc, rfl, hF, hB2⟩
end Go.Proofs.YtnkhkppddlpcmaaDoor
