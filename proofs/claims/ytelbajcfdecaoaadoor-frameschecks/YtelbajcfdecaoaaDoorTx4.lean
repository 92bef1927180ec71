/-
  The contract of frames.Print. Conditions: the table and the words lie there, the frame is of bytes, names are short.
-/
import Derived.Test.YtelbajcfdecaoaaDoorTx3
import Derived.Test.YtelbajcfdecaoaaDoorFrL
import Derived.Deep.RegionHeld
namespace Go.Proofs.YtelbajcfdecaoaaDoor
open Go.RowKit
set_option maxRecDepth 20000

theorem text_len_rev {T : List Cl} (hM : ∀ t, (printD T t).size ≤ 1000) : ∀ es : List Nat, (textD T es.reverse).length ≤ 1001 * es.length
  | [] => by simp [text_nil]
  | x :: es => by
    have h := text_len_rev hM es
    have hx : (printD T x).data.toList.length ≤ 1000 := by simpa using hM x
    rw [List.reverse_cons, text_snoc, List.length_append, List.length_append, List.length_cons]
    have h1 : (if es.reverse = [] then ([] : List UInt8) else [32]).length ≤ 1 := by split <;> simp
    omega
theorem text_len {T : List Cl} (hM : ∀ t, (printD T t).size ≤ 1000) (es : List Nat) : (textD T es).length ≤ 1001 * es.length := by
  have h := text_len_rev hM es.reverse
  rwa [List.reverse_reverse, List.length_reverse] at h

set_option maxHeartbeats 2000000 in
theorem PrintF_any (ao : Option Addr) (cap : Nat) (T : List Cl) (f : Fr) (w : World) (hT : TabAt w ao T) (hW : WordsAt w) (hf : FrOk f) (hM : ∀ t, (printD T t).size ≤ 1000) :
    Calls Tryd.prog 15 #[.slice ao T.length cap, .agg (frA f)] w fun e w' => e = .returned (.tuple #[.string (prD T f).1, .int .i64 (prD T f).2]) ∧ Below w.heap.size w w' := by
  have HF := hide hf
  have HT := hide hT
  have HW := hide hW
  have H1 := hide (FAt.new w f)
  have HB : Hid (Below w.heap.size w (w.alloc (.cells (frA f) 26))) := hide ((Below.refl _ _).alloc (Nat.le_refl _) _)
  clear hf hT hW
  go_enter Tryd.func15, Tryd.ntmps15
  go_wp2_with (refine wpList_load_row rfl 26 _ rfl w.heap.size rfl 26 (frA f) (0, 0) _ (unhide H1) Tryd.underlying26 rfl (sizeFr (unhide HF)) ?_)
  generalize (w.alloc (.cells (frA f) 26)) = W at H1 HB ⊢
  refine (CheckF_any ao cap T.length f _ (unhide HF)).mono ?_
  rintro e W1 ⟨rfl, hB1⟩
  have K1 := hide ((unhide H1).below hB1 (unhide H1).lt)
  have HB1 := hide ((unhide HB).trans (hB1.mono (unhide HB).size))
  clear hB1 H1 HB W
  by_cases ea : chkF T.length f = 0
  rotate_left
  · have HR : Hid (prD T f = (⟨#[]⟩, chkF T.length f)) := hide (by unfold prD; rw [if_neg ea])
    generalize chkF T.length f = er at ea HR ⊢
    have b1 := bne_t ea
    clear ea
    go_wp2
    go_ret2
    exact ⟨by rw [unhide HR]; rfl, unhide HB1⟩
  have HS := hide (check_good ea).1
  obtain ⟨h0, h1, h2, h3⟩ := shapeD_iff.1 (unhide HS)
  obtain ⟨lo, hlo⟩ : ∃ m : Nat, f.lo = (m : Int) := ⟨f.lo.toNat, by omega⟩
  obtain ⟨he, hhe⟩ : ∃ m : Nat, f.he = (m : Int) := ⟨f.he.toNat, by omega⟩
  have HR : Hid (prD T f = (⟨(prF T lo he f.sl).toArray⟩, 0)) := hide (by unfold prD; rw [if_pos ea, hlo, hhe]; rfl)
  have h24 : lo + he ≤ 24 := by omega
  have h16 : lo ≤ 16 := by omega
  have HLO := hide hlo
  have HHE := hide hhe
  rw [ea]
  clear ea h0 h1 h2 h3 hlo hhe
  go_wp2_with fail
  have HB2 : Hid (Below w.heap.size w W1.drew) := hide ((unhide HB1).trans ⟨rfl, rfl, rfl, Nat.le_refl _, fun _ _ => rfl⟩)
  have K2 : Hid (FAt W1.drew w.heap.size f) := hide (unhide K1)
  refine wp_region_held_drew (S := fun w' => FAt w' w.heap.size f) (by kernel_rfl) (unhide K2) (fun hS => ?_)
  generalize W1.drew = W2 at HB2 K2 hS ⊢
  clear K1 HB1 W1
  have hl1 : (f.sl.take lo).length = lo := by rw [List.length_take, (unhide HF).len]; omega
  have hl2 : ((f.sl.drop lo).take he).length = he := by rw [List.length_take, List.length_drop, (unhide HF).len]; omega
  have t1 := text_len hM (f.sl.take lo)
  have t2 := text_len hM ((f.sl.drop lo).take he)
  have HE1 : Hid (∀ (i : Nat) t, (f.sl.take lo)[i]? = some t → f.sl[i]? = some t ∧ t < 256) := hide (fun i t h => by
    have h1 : f.sl[i]? = some t := by rw [List.getElem?_take] at h; split at h; exact h; cases h
    exact ⟨h1, (unhide HF).byte _ (List.mem_of_getElem? h1)⟩)
  have HE2 : Hid (∀ (i : Nat) t, ((f.sl.drop lo).take he)[i]? = some t → f.sl[lo + i]? = some t ∧ t < 256) := hide (fun i t h => by
    have h1 : f.sl[lo + i]? = some t := by rw [List.getElem?_take] at h; split at h; rw [List.getElem?_drop] at h; exact h; cases h
    exact ⟨h1, (unhide HF).byte _ (List.mem_of_getElem? h1)⟩)
  have i1 : (lo : Int) ≤ 24 := by omega
  have i2 : (lo : Int) ≤ (lo : Int) + (he : Int) := by omega
  have i3 : (lo : Int) + (he : Int) ≤ 24 := by omega
  have i4 : ¬ 24 = lo := by omega
  refine wpAnyH_take (i := 0) (v := .slice ao T.length cap) rfl (by kernel_rfl) (by kernel_rfl) (by kernel_rfl) (fun _ _ _ h => h) (Or.inl ⟨by rfl, fun w h => by go_simp⟩) hS ?_
  refine wpAnyH_take (i := 1) (v := .pointer (some ⟨w.heap.size, 2, none⟩)) rfl (by kernel_rfl) (by kernel_rfl) (by kernel_rfl) (fun _ _ _ h => h) (Or.inl ⟨by rfl, fun w h => by go_simp⟩) hS ?_
  refine wpAnyH_take (i := 2) (v := .pointer (some ⟨w.heap.size, 0, none⟩)) rfl (by kernel_rfl) (by kernel_rfl) (by kernel_rfl) (fun _ _ _ h => h) (Or.inl ⟨by rfl, fun w h => by go_simp⟩) hS ?_
  go_simp
  refine wpAnyH_take (i := 3) (v := .int .i64 (lo : Int)) rfl (by kernel_rfl) (by kernel_rfl) (by kernel_rfl) (fun _ _ _ h => h) (Or.inl ⟨by rfl, fun w h => by
    have c := FAt.lo h
    rw [unhide HLO] at c
    clear h
    go_simp⟩) hS ?_
  refine wpAnyH_take (i := 4) (v := .slice (some ⟨w.heap.size, 2, none⟩) lo 24) rfl (by kernel_rfl) (by kernel_rfl) (by kernel_rfl) (fun _ _ _ h => h) (Or.inl ⟨by rfl, fun w h => by go_simp⟩) hS ?_
  refine wpAnyH_take (i := 8) (v := .slice ao T.length cap) rfl (by kernel_rfl) (by kernel_rfl) (by kernel_rfl) (fun _ _ _ h => h) (Or.inl ⟨by rfl, fun w h => by go_simp⟩) hS ?_
  go_simp
  refine wpAnyH_take (i := 9) (v := .pointer (some ⟨w.heap.size, 2, none⟩)) rfl (by kernel_rfl) (by kernel_rfl) (by kernel_rfl) (fun _ _ _ h => h) (Or.inl ⟨by rfl, fun w h => by go_simp⟩) hS ?_
  refine wpAnyH_take (i := 10) (v := .pointer (some ⟨w.heap.size, 0, none⟩)) rfl (by kernel_rfl) (by kernel_rfl) (by kernel_rfl) (fun _ _ _ h => h) (Or.inl ⟨by rfl, fun w h => by go_simp⟩) hS ?_
  refine wpAnyH_take (i := 11) (v := .int .i64 (lo : Int)) rfl (by kernel_rfl) (by kernel_rfl) (by kernel_rfl) (fun _ _ _ h => h) (Or.inl ⟨by rfl, fun w h => by
    have c := FAt.lo h
    rw [unhide HLO] at c
    clear h
    go_simp⟩) hS ?_
  go_simp
  refine wpAnyH_take (i := 12) (v := .agg (frA f)) rfl (by kernel_rfl) (by kernel_rfl) (by kernel_rfl) (fun _ _ _ h => h) (yieldsIf_load_fr (by rfl) _ rfl w.heap.size rfl f (unhide HF) (fun _ h => h)) hS ?_
  go_simp
  refine wpAnyH_ready (rs := [5]) (by kernel_rfl) (by simp) ?_
  refine AllReadyH.cons rfl (fun K hK => ?_) AllReadyH.nil
  go_simp
  go_wp2_with (go_at_call 48; refine (texts_any ao cap T w.heap.size 2 lo 24 (f.sl.take lo) _ ((unhide HT).below (unhide HB2)) ((unhide HW).below (unhide HB2)) hl1.symm (fun i t h => ⟨(unhide K2).slot (unhide HE1 i t h).1, (unhide HE1 i t h).2⟩) (by omega) (by omega)).mono ?_; rintro e W3 ⟨rfl, hB⟩)
  have K3 := hide ((unhide K2).below hB (unhide K2).lt)
  have HB3 := hide ((unhide HB2).trans (hB.mono (unhide HB2).size))
  refine hK.out _ _ (unhide K3) (fun hS => ?_)
  clear hK K hB K2 HB2
  obtain ⟨x1, HX1⟩ : ∃ x1 : ByteArray, Hid (x1 = ⟨(textD T (f.sl.take lo)).toArray⟩) := ⟨_, hide rfl⟩
  have hx1 : x1.size ≤ 100000 := by rw [unhide HX1]; show (textD T (f.sl.take lo)).toArray.size ≤ 100000; simp; omega
  rw [← unhide HX1]
  have n1 : ¬ 9223372036854775807 < 1 + x1.size := by omega
  have n2 : ¬ 9223372036854775807 < 1 + x1.size + 3 := by omega
  refine wpAnyH_take (i := 6) (v := .string (⟨#[91]⟩ ++ x1)) rfl (by kernel_rfl) (by kernel_rfl) (by kernel_rfl) (fun _ _ _ h => h) (Or.inl ⟨by rfl, fun w h => by go_simp⟩) hS ?_
  refine wpAnyH_take (i := 7) (v := .string (⟨#[91]⟩ ++ x1 ++ ⟨#[32, 124, 32]⟩)) rfl (by kernel_rfl) (by kernel_rfl) (by kernel_rfl) (fun _ _ _ h => h) (Or.inl ⟨by rfl, fun w h => by go_simp⟩) hS ?_
  go_simp
  refine wpAnyH_ready (rs := [13]) (by kernel_rfl) (by simp) ?_
  refine AllReadyH.cons rfl (fun K hK => ?_) AllReadyH.nil
  go_simp
  go_wp2_with (go_at_call 42; refine (size_any f _ (unhide HS)).mono ?_; rintro e W4 ⟨rfl, hB⟩)
  have K4 := hide ((unhide K3).below hB (unhide K3).lt)
  have HB4 := hide ((unhide HB3).trans (hB.mono (unhide HB3).size))
  refine hK.out _ _ (unhide K4) (fun hS => ?_)
  clear hK K hB K3 HB3
  rw [unhide HLO, unhide HHE]
  refine wpAnyH_take (i := 14) (v := .slice (some ⟨w.heap.size, 2 + lo, none⟩) he (24 - lo)) rfl (by kernel_rfl) (by kernel_rfl) (by kernel_rfl) (fun _ _ _ h => h) (Or.inl ⟨by rfl, fun w h => by go_simp; omega⟩) hS ?_
  go_simp
  refine wpAnyH_ready (rs := [15]) (by kernel_rfl) (by simp) ?_
  refine AllReadyH.cons rfl (fun K hK => ?_) AllReadyH.nil
  go_simp
  go_wp2_with (go_at_call 48; refine (texts_any ao cap T w.heap.size (2 + lo) he (24 - lo) ((f.sl.drop lo).take he) _ ((unhide HT).below (unhide HB4)) ((unhide HW).below (unhide HB4)) hl2.symm (fun i t h => ⟨by rw [Nat.add_assoc]; exact (unhide K4).slot (unhide HE2 i t h).1, (unhide HE2 i t h).2⟩) (by omega) (by omega)).mono ?_; rintro e W5 ⟨rfl, hB⟩)
  have K5 := hide ((unhide K4).below hB (unhide K4).lt)
  have HB5 := hide ((unhide HB4).trans (hB.mono (unhide HB4).size))
  refine hK.out _ _ (unhide K5) (fun hS => ?_)
  clear hK K hB K4 HB4
  obtain ⟨x2, HX2⟩ : ∃ x2 : ByteArray, Hid (x2 = ⟨(textD T ((f.sl.drop lo).take he)).toArray⟩) := ⟨_, hide rfl⟩
  have hx2 : x2.size ≤ 100000 := by rw [unhide HX2]; show (textD T ((f.sl.drop lo).take he)).toArray.size ≤ 100000; simp; omega
  rw [← unhide HX2]
  have n3 : ¬ 9223372036854775807 < 1 + x1.size + 3 + x2.size := by omega
  have n4 : ¬ 9223372036854775807 < 1 + x1.size + 3 + x2.size + 1 := by omega
  refine wpAnyH_take (i := 16) (v := .string (⟨#[91]⟩ ++ x1 ++ ⟨#[32, 124, 32]⟩ ++ x2)) rfl (by kernel_rfl) (by kernel_rfl) (by kernel_rfl) (fun _ _ _ h => h) (Or.inl ⟨by rfl, fun w h => by go_simp⟩) hS ?_
  refine wpAnyH_take (i := 17) (v := .string (⟨#[91]⟩ ++ x1 ++ ⟨#[32, 124, 32]⟩ ++ x2 ++ ⟨#[93]⟩)) rfl (by kernel_rfl) (by kernel_rfl) (by kernel_rfl) (fun _ _ _ h => h) (Or.inl ⟨by rfl, fun w h => by go_simp⟩) hS ?_
  refine wpAnyH_take (i := 18) (v := .string (⟨#[91]⟩ ++ x1 ++ ⟨#[32, 124, 32]⟩ ++ x2 ++ ⟨#[93]⟩)) rfl (by kernel_rfl) (by kernel_rfl) (by kernel_rfl) (fun _ _ _ h => h) (Or.inl ⟨by rfl, fun w h => by go_simp⟩) hS ?_
  go_simp
  refine wpAnyH_take (i := 19) (v := .int .i64 0) rfl (by kernel_rfl) (by kernel_rfl) (by kernel_rfl) (fun _ _ _ h => h) (Or.inl ⟨by rfl, fun w h => by go_simp⟩) hS ?_
  go_simp
  refine wpAnyH_done (by kernel_rfl) ?_ _
  clear hS
  go_wp2
  go_ret2
  rw [unhide HR]
  refine ⟨?_, unhide HB5⟩
  show Ending.returned (.tuple #[.string (⟨#[91]⟩ ++ x1 ++ ⟨#[32, 124, 32]⟩ ++ x2 ++ ⟨#[93]⟩), .int .i64 0]) = _
  rw [str_eq (a := ⟨#[91]⟩ ++ x1 ++ ⟨#[32, 124, 32]⟩ ++ x2 ++ ⟨#[93]⟩) (l := prF T lo he f.sl) (by unfold prF; rw [unhide HX1, unhide HX2]; simp [ByteArray.data_append])]
end Go.Proofs.YtelbajcfdecaoaaDoor
