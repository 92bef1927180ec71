/-
  Contracts of slices.Delete of one entry and of slices.Insert of one.
-/
import Derived.Test.YtkiijdcpfbnacaaGreatDoorSr3
import Derived.Test.YtkiijdcpfbnacaaGreatDoorSr2
import Derived.Deep.RegionLaw
import Derived.Lib.SliceRun
import Derived.Lib.Overlaps
import Derived.Lib.AppendZerosOnto
import Derived.Laws.Externs
namespace Go.Proofs.YtkiijdcpfbnacaaGreatDoor
open Go.RowKit
set_option maxRecDepth 20000

theorem infoKe : (Tryz.prog.info? 242).map (fun i => (i.zero, i.size, i.bytes)) = some (some (.agg #[.string ⟨#[]⟩, .int .i64 0, .int .i64 0]), 3, 32) := by kernel_rfl
theorem mixedS : Tryz.prog.follows Departure.mixedOrders = true := by kernel_rfl
theorem sizeKe : (Tryz.prog.info? 242).map (·.size) = some 3 := by kernel_rfl
def zeE : List Value := [.string ⟨#[]⟩, .int .i64 0, .int .i64 0]
theorem zeE_one : (Builtin.zeroCells (Value.agg #[.string ⟨#[]⟩, .int .i64 0, .int .i64 0]).cells 1).toList = zeE := by kernel_rfl
theorem OwnK.row {w : World} {B g n cap : Nat} {K : List Ke} (h : OwnK w B (.slice (some ⟨g, 0, none⟩) n cap) K) : ∃ cur : Array Value, n = K.length ∧ B ≤ g ∧ w.heap[g]? = some (.cells cur 242 (0, 0)) ∧ K.length ≤ cap ∧ cap ≤ maxLen ∧ cur.size = cap * 3 ∧ cur.toList.take (K.length * 3) = keV K := by
  rcases h.2 with ⟨h1, _⟩ | ⟨g', cap', cur, hv, hbg, hh, hn, hm, hs, ht⟩
  · cases h1
  · injection hv with e1 e2 e3
    injection e1 with e1
    injection e1 with e1
    subst e1 e3
    exact ⟨cur, e2, hbg, hh, hn, hm, hs, ht⟩
theorem OwnK.mk' {w : World} {B g cap : Nat} {cur : Array Value} {K : List Ke} (hb : B ≤ g) (hh : w.heap[g]? = some (.cells cur 242 (0, 0))) (hn : K.length ≤ cap) (hm : cap ≤ maxLen) (hs : cur.size = cap * 3) (ht : cur.toList.take (K.length * 3) = keV K) : OwnK w B (.slice (some ⟨g, 0, none⟩) K.length cap) K :=
  ⟨keV_len K, Or.inr ⟨g, cap, cur, rfl, hb, hh, hn, hm, hs, ht⟩⟩
theorem kept_row (w : World) (g : Nat) (cs : Array Value) : Kept (fun k => k = g) w (w.setRow g cs) := ⟨rfl, rfl, rfl, by simp, fun k _ hk => setRow_other w g k cs hk⟩
theorem kept_drewR (S : Nat → Prop) (w : World) : Kept S w w.drew := ⟨rfl, rfl, rfl, Nat.le_refl _, fun _ _ _ => rfl⟩
set_option maxHeartbeats 4000000 in
theorem Delete_anyS {w : World} {B g cap : Nat} {K : List Ke} (i : Nat) (h : OwnK w B (.slice (some ⟨g, 0, none⟩) K.length cap) K) (hi : i < K.length) (hl : K.length ≤ 4096) :
    Calls Tryz.prog 128 #[.slice (some ⟨g, 0, none⟩) K.length cap, .int .i64 (i : Int), .int .i64 ((i : Int) + 1)] w fun e w' => e = .returned (.slice (some ⟨g, 0, none⟩) (K.length - 1) cap) ∧ OwnK w' B (.slice (some ⟨g, 0, none⟩) (K.length - 1) cap) (cutN i true K) ∧ Kept (fun k => k = g) w w' := by
  obtain ⟨i0, hi0, hz0, hz1, hz2⟩ := info_parts infoKe
  obtain ⟨cur, _, hbg, hh, hc1, hc2, hs, ht⟩ := h.row
  have hc3 : cap ≤ 9223372036854775807 := by unfold maxLen at hc2; omega
  have i1 : ((i : Nat) : Int) < ((K.length : Nat) : Int) := by omega
  have i2 : ((i : Nat) : Int) + 1 ≤ ((K.length : Nat) : Int) := by omega
  have i3 : (0 : Int) ≤ ((i : Nat) : Int) := by omega
  have i4 : (((i : Nat) : Int) == ((i : Nat) : Int) + 1) = false := by simp; omega
  have i5 : ((i : Int) + 1).toNat = i + 1 := by omega
  have i6 : (0 : Int) ≤ ((i : Nat) : Int) + 1 := by omega
  have mixed := mixedS
  have hic : i ≤ cap := by omega
  have hjc : i + 1 ≤ cap := by omega
  obtain ⟨news, hnews⟩ : ∃ news, news = keV (K.drop (i + 1)) := ⟨_, rfl⟩
  have hnl : news.length = (K.length - (i + 1)) * 3 := by rw [hnews, kd_len]
  have hrl : cur.toList.length = cap * 3 := by rw [Array.length_toList, hs]
  obtain ⟨A, hA, hsrc⟩ : ∃ A : Addr, (if cap = i + 1 then some (⟨g, 0, none⟩ : Addr) else some ⟨g, (i + 1) * 3, none⟩) = some A ∧ Hid (∀ t u, news[t]? = some u → w.drew.cell? (A.add t) = some u) := by
    by_cases hq : cap = i + 1
    · refine ⟨⟨g, 0, none⟩, by simp [hq], hide fun t u hu => ?_⟩
      have := (List.getElem?_eq_some_iff.1 hu).1
      omega
    · refine ⟨⟨g, (i + 1) * 3, none⟩, by simp [hq], hide fun t u hu => ?_⟩
      have hlt := (List.getElem?_eq_some_iff.1 hu).1
      rw [Addr.add_lit]
      show w.cell? _ = _
      rw [World.ownsRow.cellAt h ((i + 1) * 3 + t) (by omega), ← hu, hnews, keV_drop, List.getElem?_drop]
  have s1 : Hid (news.length = (K.length - (i + 1)) * 3) := hide hnl
  have s2 : Hid (∀ u ∈ news, u.oneCell' = true) := hide (by rw [hnews]; exact keV_one _)
  have s3 : Hid (∀ t, t < news.length → (w.drew.cell? ⟨g, 0 + i * 3 + t, none⟩).isSome = true ∧ w.drew.frozen? ⟨g, 0 + i * 3 + t, none⟩ = false) := hide fun t ht' => by
    refine ⟨?_, frozen_of_row w _ _ _ _ hh⟩
    show (w.cell? _).isSome = true
    rw [cell_of_row _ _ _ _ _ _ hh, Array.getElem?_eq_getElem (by omega)]
    rfl
  have hrow := setCells_row (w := w.drew) (g := g) (o := 0 + i * 3) (vs := news) hh (by omega) s2.out
  obtain ⟨W1, hW1⟩ : ∃ W1, W1 = w.drew.setCells g (0 + i * 3) news := ⟨_, rfl⟩
  have hg1 : W1.heap[g]? = some (.cells (spl cur.toList (0 + i * 3) news).toArray 242 (0, 0)) := by
    rw [hW1, hrow]; exact setRow_heap w.drew g cur _ _ _ hh
  have hl1 : (spl cur.toList (0 + i * 3) news).length = cap * 3 := by rw [spl_len (by omega)]; exact hrl
  have hcl : ∀ ty, (Builtin.clear_ #[162] ty #[.slice (some ⟨g, (K.length - 1) * 3, none⟩) 1 (cap - (K.length - 1))]).run Tryz.prog W1 = .ok (.tuple #[]) (W1.setRow g (spl (spl cur.toList (0 + i * 3) news) ((K.length - 1) * 3) zeE).toArray) := fun ty => by
    have := run_clearS (P := Tryz.prog) W1 162 242 ty (.agg #[.string ⟨#[]⟩, .int .i64 0, .int .i64 0]) zeE Tryz.underlying162 (by simp [zeroValue, typeInfo, hi0, hz0]) g ((K.length - 1) * 3) 1 (cap - (K.length - 1)) (by omega) zeE_one (by intro v hv; simp [zeE] at hv; rcases hv with rfl | rfl | rfl <;> rfl) _ _ hg1 (by rw [List.size_toArray, hl1]; simp [zeE]; omega)
    simpa using this
  have X : Hid (OwnK (W1.setRow g (spl (spl cur.toList (0 + i * 3) news) ((K.length - 1) * 3) zeE).toArray) B (.slice (some ⟨g, 0, none⟩) (K.length - 1) cap) (cutN i true K) ∧ Kept (fun k => k = g) w (W1.setRow g (spl (spl cur.toList (0 + i * 3) news) ((K.length - 1) * 3) zeE).toArray)) := hide (by
    have hln : (cutN i true K).length = K.length - 1 := by have := cutN_len hi; omega
    refine ⟨?_, ?_⟩
    · rw [← hln]
      refine OwnK.mk' hbg (setRow_heap W1 g _ _ _ _ hg1) (by omega) hc2 ?_ ?_
      · rw [List.size_toArray, spl_len (by rw [hl1]; simp [zeE]; omega)]; exact hl1
      · rw [hln, hnews, Nat.zero_add]
        exact del_row ht hi
    · rw [hW1, hrow]
      exact ((kept_drewR (fun k => k = g) w).trans (kept_row _ _ _) (fun _ _ h => h) (fun _ _ h => h)).trans (kept_row _ _ _) (fun _ _ h => h) (fun _ _ h => h))
  have hW : Hid (W1 = w.drew.setCells g (0 + i * 3) news) := hide hW1
  have e1 : i + (K.length - (i + 1)) = K.length - 1 := by omega
  have e2 : K.length - (K.length - 1) = 1 := by omega
  have e3 : ¬ cap = K.length - 1 := by omega
  have e4 : K.length - 1 ≤ cap := by omega
  have e5 : ((K.length - 1 : Nat) : Int) ≤ ((K.length : Nat) : Int) := by omega
  clear hW1 hg1 hl1 hrow hnews hnl hrl h hh ht hs
  go_enter Tryz.func128, Tryz.ntmps128
  go_wp2_with fail
  go_region_law_o (refine step_append_room rfl (.tmp 22) (.tmp 25) 162 rfl 242 i0 3 Tryz.underlying162 hi0 hz1 g 0 i cap (by simp [Act.eval, Act.put]) A (K.length - (i + 1)) (cap - (i + 1)) news (by simp [Act.eval, Act.put]) s1.out hsrc.out s2.out (by omega) s3.out ?_; rw [← hW.out])
  go_wp2
  go_ret
  exact ⟨rfl, by have h := X.out; rw [Nat.zero_add] at h; exact h⟩
end Go.Proofs.YtkiijdcpfbnacaaGreatDoor
