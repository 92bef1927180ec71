/-
  The contract of provisoref06.One. Conditions: lengths fit.
-/
import Derived.Test.YthejnhdabokhjaaCr6
import Derived.Test.YthejnhdabokhjaaCr9
import Derived.Deep.Cut
namespace Go.Proofs.Ythejnhdabokhjaa
open Go.RowKit

def oneV (L : List UInt8) (lo p : Nat) (ahead : Int) : Value := if (oneE L lo p ahead).2 = 0 then .tuple #[.agg (enA (oneX L lo p)), .int .i64 (oneN L lo p : Int), .int .i64 0] else .tuple #[.agg (enA enZ), .int .i64 ((oneE L lo p ahead).1 : Int), .int .i64 (oneE L lo p ahead).2]
theorem oneV_bad {L : List UInt8} {lo p : Nat} {ahead : Int} {x : Nat} {e : Int} (h : oneE L lo p ahead = (x, e)) (he : e ≠ 0) : oneV L lo p ahead = .tuple #[.agg (enA enZ), .int .i64 (x : Int), .int .i64 e] := by
  unfold oneV
  rw [h, if_neg he]
theorem oneV_good {L : List UInt8} {lo p : Nat} {ahead : Int} (h : (oneE L lo p ahead).2 = 0) : oneV L lo p ahead = .tuple #[.agg (enA (oneX L lo p)), .int .i64 (oneN L lo p : Int), .int .i64 0] := by
  unfold oneV
  rw [if_pos h]
theorem results_en_v3 {fn : Func} {p u v : Tmp} (h : fn.results = #[.cell p 44, .tmp u, .tmp v]) (tmps : Array Value) (W : World) (g : Nat) (x : En) (hx : FrOk x.fr) (a b : Value)
    (hp : tmps.getD p undef = .pointer (some ⟨g, 0, none⟩)) (hu : tmps.getD u undef = a) (hv : tmps.getD v undef = b) (hg : EAt W g x) :
    (results fn tmps).run Try.prog W = .ok (.tuple #[.agg (enA x), a, b]) W := by
  rw [results_cell_tmp2 h, hp, hu, hv, run_addr, Result.andThen_ok, run_loadVar_row W g 44 44 (enA x) (0, 0) _ hg Try.underlying44 rfl (sizeEn hx), Result.andThen_ok]

theorem fold_set : ∀ (vs old pre : List Value) (k : Nat), old.length = vs.length → pre.length = 2 + k → (vs.zipIdx k).foldl (fun cs x => cs.setIfInBounds (2 + x.2) x.1) (pre ++ old).toArray = (pre ++ vs).toArray
  | [], old, pre, k, hl, _ => by
    have : old = [] := List.eq_nil_of_length_eq_zero hl
    subst this
    rfl
  | v :: vs, [], pre, k, hl, _ => by simp at hl
  | v :: vs, u :: old, pre, k, hl, hp => by
    rw [List.zipIdx_cons, List.foldl_cons]
    have e1 : (pre ++ u :: old).toArray.setIfInBounds (2 + k) v = ((pre ++ [v]) ++ old).toArray := by rw [← hp]; simp
    rw [e1, fold_set vs old (pre ++ [v]) (k + 1) (by simpa using hl) (by simp [hp]; omega)]
    simp
theorem build_fold (a : Int) {f : Fr} (hf : FrOk f) : Array.foldl (fun cs (x : Value × Nat) => cs.setIfInBounds (2 + x.snd) x.fst) (#[.int .i64 a, .bool false, .int .i64 0, .int .i64 0, .int .u8 0, .int .u8 0, .int .u8 0, .int .u8 0, .int .u8 0, .int .u8 0, .int .u8 0, .int .u8 0, .int .u8 0, .int .u8 0, .int .u8 0, .int .u8 0, .int .u8 0, .int .u8 0, .int .u8 0, .int .u8 0, .int .u8 0, .int .u8 0, .int .u8 0, .int .u8 0, .int .u8 0, .int .u8 0, .int .u8 0, .int .u8 0] : Array Value) (frA f).zipIdx 0 26 = enA ⟨a, false, f⟩ := by
  have hz : ((frA f).zipIdx).size = 26 := by simp [frA_size hf]
  have h1 : Array.foldl (fun cs (x : Value × Nat) => cs.setIfInBounds (2 + x.snd) x.fst) (#[.int .i64 a, .bool false, .int .i64 0, .int .i64 0, .int .u8 0, .int .u8 0, .int .u8 0, .int .u8 0, .int .u8 0, .int .u8 0, .int .u8 0, .int .u8 0, .int .u8 0, .int .u8 0, .int .u8 0, .int .u8 0, .int .u8 0, .int .u8 0, .int .u8 0, .int .u8 0, .int .u8 0, .int .u8 0, .int .u8 0, .int .u8 0, .int .u8 0, .int .u8 0, .int .u8 0, .int .u8 0] : Array Value) (frA f).zipIdx 0 26 = Array.foldl (fun cs (x : Value × Nat) => cs.setIfInBounds (2 + x.snd) x.fst) (#[.int .i64 a, .bool false, .int .i64 0, .int .i64 0, .int .u8 0, .int .u8 0, .int .u8 0, .int .u8 0, .int .u8 0, .int .u8 0, .int .u8 0, .int .u8 0, .int .u8 0, .int .u8 0, .int .u8 0, .int .u8 0, .int .u8 0, .int .u8 0, .int .u8 0, .int .u8 0, .int .u8 0, .int .u8 0, .int .u8 0, .int .u8 0, .int .u8 0, .int .u8 0, .int .u8 0, .int .u8 0] : Array Value) (frA f).zipIdx := by rw [hz]
  rw [h1, ← Array.foldl_toList, Array.toList_zipIdx]
  exact fold_set (frL f) (frL frZ) [.int .i64 a, .bool false] 0 (by rw [frL_len hf, frL_len frZ_ok]) rfl

set_option maxRecDepth 20000 in
set_option maxHeartbeats 4000000 in
theorem refOne_any (ao : Option Addr) (c : Nat) (L : List UInt8) (lo p : Nat) (ahead : Int) (w : World) (hb : BAt w ao L) (hl : L.length ≤ 140737488355328) (hlo : lo ≤ 16) (hp : p ≤ L.length) :
    Calls Try.prog 45 #[.slice ao L.length c, .int .i64 (lo : Int), .int .i64 (p : Int), .int .i64 ahead] w fun e w' => e = .returned (oneV L lo p ahead) ∧ Below w.heap.size w w' := by
  have HBt := hide hb
  have hal := ((Below.refl w.heap.size w).alloc (Nat.le_refl _) (.cells (enA enZ) 44))
  have hal2 := hal.alloc (by simp) (.cells (enA enZ) 44)
  have HE8 : Hid (EAt ((w.alloc (.cells (enA enZ) 44)).alloc (.cells (enA enZ) 44)) w.heap.size enZ) := hide ((EAt.new w enZ).below ((Below.refl _ _).alloc (Nat.le_refl _) _) (by simp))
  have HE11 : Hid (EAt ((w.alloc (.cells (enA enZ) 44)).alloc (.cells (enA enZ) 44)) (w.heap.size + 1) enZ) := hide (by
    have := EAt.new (w.alloc (.cells (enA enZ) 44)) enZ
    rw [World.size_alloc] at this
    exact this)
  have HB := hide hal2
  clear hal hal2 hb
  go_enter Try.func45, Try.ntmps45
  go_upto_region 2 with fail
  rw [enZ_eq]
  generalize ((w.alloc (.cells (enA enZ) 44)).alloc (.cells (enA enZ) 44)) = W0 at HE8 HE11 HB ⊢
  by_cases hlen : L.length < p + 2
  · have e1 : (p : Int) + 1 ≥ ((L.length : Nat) : Int) := by omega
    have HE : Hid (oneE L lo p ahead = (L.length, 2)) := hide (if_pos hlen)
    clear hlen
    have E8' := hide ((unhide HE8).row enZ)
    have B' := hide (below_setRow' (unhide HB) (Nat.le_refl _) (enA enZ))
    go_wp2_with (first | (refine wpList_load_row rfl 44 (.tmp 11) rfl (w.heap.size + 1) rfl 44 (enA enZ) (0, 0) _ (unhide HE11) Try.underlying44 rfl (sizeEn enZ_ok) ?_) | (refine wpList_store_row rfl 44 (.tmp 8) _ rfl w.heap.size (enA enZ) rfl rfl 44 (enA enZ) (unhide HE8) (sizeEn enZ_ok) rfl (enA_one _) ?_))
    exact bodyPost_ret (v := .tuple #[.agg (enA enZ), .int .i64 ((L.length : Nat) : Int), .int .i64 2]) (results_en_v3 rfl _ _ w.heap.size enZ enZ_ok _ _ rfl rfl rfl (unhide E8')) rfl ⟨by rw [oneV_bad (unhide HE) (by first | decide | assumption)], unhide B'⟩
  have e1 : ¬ (p : Int) + 1 ≥ ((L.length : Nat) : Int) := by omega
  have HE : Hid (oneE L lo p ahead = if aftD (wdD L p) ahead ≠ 0 then (p, aftD (wdD L p) ahead) else if L.length = p + 2 then (L.length, 2) else if at8 L (p + 2) = 0 then (0, 0) else if at8 L (p + 2) = 1 then frE L lo (p + 3) else (p + 2, 63)) := hide (if_neg hlen)
  obtain ⟨b, off, rfl, hc⟩ := ((unhide HBt).below' (unhide HB)).head (by omega)
  have c0 : W0.cell? ⟨b, off + p, none⟩ = some (.int .u8 (at8 L p)) := hc p (by omega)
  have c1 : W0.cell? ⟨b, off + (p + 1), none⟩ = some (.int .u8 (at8 L (p + 1))) := hc (p + 1) (by omega)
  have l0 := at8_lo L p
  have u0 := at8_hi L p
  have l1 := at8_lo L (p + 1)
  have u1 := at8_hi L (p + 1)
  have n0 : p < L.length := by omega
  have i0 : (p : Int) < ((L.length : Nat) : Int) := by omega
  have i1 : (p : Int) + 1 < ((L.length : Nat) : Int) := by omega
  obtain ⟨a, HA⟩ : ∃ a, Hid (wdD L p = a) := ⟨_, hide rfl⟩
  have HA2 : Hid (256 * at8 L p + at8 L (p + 1) = a) := hide (by rw [← unhide HA]; unfold wdD; omega)
  have hab : 0 ≤ a ∧ a ≤ 65535 := by rw [← unhide HA]; exact wdD_bounds L p
  rw [unhide HA] at HE
  generalize at8 L p = x0 at c0 l0 u0 HA2
  generalize at8 L (p + 1) = x1 at c1 l1 u1 HA2
  clear hc
  go_wp2_with fail
  go_quiet (fail)
  rw [unhide HA2]
  clear c0 c1 l0 u0 l1 u1 HA2
  have HE8 : Hid (EAt (W0.drewN nq) w.heap.size enZ) := hide (unhide HE8)
  have HE11 : Hid (EAt (W0.drewN nq) (w.heap.size + 1) enZ) := hide (unhide HE11)
  have HB : Hid (Below w.heap.size w (W0.drewN nq)) := hide (belowD (unhide HB) nq)
  generalize W0.drewN nq = W1 at HE8 HE11 HB ⊢
  obtain ⟨er, HER⟩ : ∃ er, Hid (aftD a ahead = er) := ⟨_, hide rfl⟩
  rw [unhide HER] at HE
  go_wp2_with fail
  refine (refAfter_any a ahead _).mono ?_
  rintro e W1' ⟨rfl, hq⟩
  rw [hq, unhide HER]
  clear hq W1'
  by_cases her : er = 0
  rotate_left
  · have HE3 : Hid (oneE L lo p ahead = (p, er)) := hide (by rw [unhide HE, if_pos her])
    have b1 : (er != 0) = true := bne_t her
    have E8' := hide ((unhide HE8).row enZ)
    have B' := hide (below_setRow' (unhide HB) (Nat.le_refl _) (enA enZ))
    go_wp2_with (first | (refine wpList_load_row rfl 44 (.tmp 11) rfl (w.heap.size + 1) rfl 44 (enA enZ) (0, 0) _ (unhide HE11) Try.underlying44 rfl (sizeEn enZ_ok) ?_) | (refine wpList_store_row rfl 44 (.tmp 8) _ rfl w.heap.size (enA enZ) rfl rfl 44 (enA enZ) (unhide HE8) (sizeEn enZ_ok) rfl (enA_one _) ?_))
    exact bodyPost_ret (v := .tuple #[.agg (enA enZ), .int .i64 (p : Int), .int .i64 er]) (results_en_v3 rfl _ _ w.heap.size enZ enZ_ok _ _ rfl rfl rfl (unhide E8')) rfl ⟨by rw [oneV_bad (unhide HE3) (by first | decide | assumption)], unhide B'⟩
  have HE : Hid (oneE L lo p ahead = if L.length = p + 2 then (L.length, 2) else if at8 L (p + 2) = 0 then (0, 0) else if at8 L (p + 2) = 1 then frE L lo (p + 3) else (p + 2, 63)) := hide (by rw [unhide HE, if_neg (by rw [her]; simp)])
  have b1 : (er != 0) = false := bne_f her
  by_cases hl2 : L.length = p + 2
  · have HE3 : Hid (oneE L lo p ahead = (L.length, 2)) := hide (by rw [unhide HE, if_pos hl2])
    have e2 : (p : Int) + 2 ≥ ((L.length : Nat) : Int) := by omega
    clear hl2 her hlen e1 n0 i0 i1
    have E8' := hide ((unhide HE8).row enZ)
    have B' := hide (below_setRow' (unhide HB) (Nat.le_refl _) (enA enZ))
    go_wp2_with (first | (refine wpList_load_row rfl 44 (.tmp 11) rfl (w.heap.size + 1) rfl 44 (enA enZ) (0, 0) _ (unhide HE11) Try.underlying44 rfl (sizeEn enZ_ok) ?_) | (refine wpList_store_row rfl 44 (.tmp 8) _ rfl w.heap.size (enA enZ) rfl rfl 44 (enA enZ) (unhide HE8) (sizeEn enZ_ok) rfl (enA_one _) ?_))
    exact bodyPost_ret (v := .tuple #[.agg (enA enZ), .int .i64 ((L.length : Nat) : Int), .int .i64 2]) (results_en_v3 rfl _ _ w.heap.size enZ enZ_ok _ _ rfl rfl rfl (unhide E8')) rfl ⟨by rw [oneV_bad (unhide HE3) (by first | decide | assumption)], unhide B'⟩
  have e2 : ¬ (p : Int) + 2 ≥ ((L.length : Nat) : Int) := by omega
  have hq : p + 2 < L.length := by omega
  have i2 : (p : Int) + 2 < ((L.length : Nat) : Int) := by omega
  obtain ⟨y, HY⟩ : ∃ y, Hid (at8 L (p + 2) = y) := ⟨_, hide rfl⟩
  have hy0 : 0 ≤ y := by rw [← unhide HY]; exact at8_lo L (p + 2)
  have hy1 : y ≤ 255 := by rw [← unhide HY]; exact at8_hi L (p + 2)
  have cy : W1.cell? ⟨b, off + (p + 2), none⟩ = some (.int .u8 y) := by
    obtain ⟨b2, off2, e3, hc⟩ := ((unhide HBt).below' (unhide HB)).head (by omega)
    injection e3 with e3
    injection e3 with e3 e4
    subst e3 e4
    rw [← unhide HY]
    exact hc (p + 2) hq
  have HE : Hid (oneE L lo p ahead = if y = 0 then (0, 0) else if y = 1 then frE L lo (p + 3) else (p + 2, 63)) := hide (by rw [unhide HE, if_neg hl2, unhide HY])
  clear hl2 her hlen e1
  by_cases y2 : y > 1
  · have HE3 : Hid (oneE L lo p ahead = (p + 2, 63)) := hide (by rw [unhide HE, if_neg (by omega), if_neg (by omega)])
    have E8' := hide ((unhide HE8).row enZ)
    have B' := hide (below_setRow' (unhide HB) (Nat.le_refl _) (enA enZ))
    go_wp2_with (first | (refine wpList_load_row rfl 44 (.tmp 11) rfl (w.heap.size + 1) rfl 44 (enA enZ) (0, 0) _ (unhide HE11) Try.underlying44 rfl (sizeEn enZ_ok) ?_) | (refine wpList_store_row rfl 44 (.tmp 8) _ rfl w.heap.size (enA enZ) rfl rfl 44 (enA enZ) (unhide HE8) (sizeEn enZ_ok) rfl (enA_one _) ?_))
    exact bodyPost_ret (v := .tuple #[.agg (enA enZ), .int .i64 ((p : Int) + 2), .int .i64 63]) (results_en_v3 rfl _ _ w.heap.size enZ enZ_ok _ _ rfl rfl rfl (unhide E8')) rfl ⟨by rw [oneV_bad (unhide HE3) (by first | decide | assumption)]; rw [show ((p + 2 : Nat) : Int) = (p : Int) + 2 by omega], unhide B'⟩
  by_cases y0 : y = 0
  · subst y0
    have HE3 : Hid ((oneE L lo p ahead).2 = 0) := hide (by rw [unhide HE, if_pos rfl])
    have HX1 : Hid (oneX L lo p = ⟨a, true, frZ⟩ ∧ oneN L lo p = p + 3) := hide (by unfold oneX oneN; rw [unhide HY, unhide HA, if_pos rfl, if_pos rfl]; exact ⟨rfl, rfl⟩)
    have E8' := hide ((unhide HE8).row ⟨a, true, frZ⟩)
    have B' := hide (below_setRow' (unhide HB) (Nat.le_refl _) (enA ⟨a, true, frZ⟩))
    go_wp2_with (refine wpList_store_row rfl 44 (.tmp 8) (.tmp 71) rfl w.heap.size (enA ⟨a, true, frZ⟩) rfl rfl 44 (enA enZ) (unhide HE8) (sizeEn frZ_ok) (sizeEqEn enZ_ok frZ_ok) (enA_one _) ?_)
    exact bodyPost_ret (v := .tuple #[.agg (enA ⟨a, true, frZ⟩), .int .i64 ((p : Int) + 3), .int .i64 0]) (results_en_v3 rfl _ _ w.heap.size ⟨a, true, frZ⟩ frZ_ok _ _ rfl rfl rfl (unhide E8')) rfl ⟨by rw [oneV_good (unhide HE3), (unhide HX1).1, (unhide HX1).2, show ((p + 3 : Nat) : Int) = (p : Int) + 3 by omega], unhide B'⟩
  have y1 : y = 1 := by omega
  subst y1
  clear y0 y2
  have HE : Hid (oneE L lo p ahead = frE L lo (p + 3)) := hide (by rw [unhide HE, if_neg (by decide), if_pos rfl])
  have HX1 : Hid (oneX L lo p = ⟨a, false, frX L lo (p + 3)⟩ ∧ oneN L lo p = frN L lo (p + 3)) := hide ⟨by unfold oneX; rw [unhide HY, unhide HA, if_neg (by decide)], by unfold oneN; rw [unhide HY, if_neg (by decide)]⟩
  by_cases hl3 : L.length ≤ p + 3
  · have HE3 : Hid (oneE L lo p ahead = (L.length, 2)) := hide (by rw [unhide HE]; exact if_pos hl3)
    have e3 : (p : Int) + 3 ≥ ((L.length : Nat) : Int) := by omega
    clear hl3
    have E8' := hide ((unhide HE8).row enZ)
    have B' := hide (below_setRow' (unhide HB) (Nat.le_refl _) (enA enZ))
    go_wp2_with (first | (refine wpList_load_row rfl 44 (.tmp 11) rfl (w.heap.size + 1) rfl 44 (enA enZ) (0, 0) _ (unhide HE11) Try.underlying44 rfl (sizeEn enZ_ok) ?_) | (refine wpList_store_row rfl 44 (.tmp 8) _ rfl w.heap.size (enA enZ) rfl rfl 44 (enA enZ) (unhide HE8) (sizeEn enZ_ok) rfl (enA_one _) ?_))
    exact bodyPost_ret (v := .tuple #[.agg (enA enZ), .int .i64 ((L.length : Nat) : Int), .int .i64 2]) (results_en_v3 rfl _ _ w.heap.size enZ enZ_ok _ _ rfl rfl rfl (unhide E8')) rfl ⟨by rw [oneV_bad (unhide HE3) (by first | decide | assumption)], unhide B'⟩
  have e3 : ¬ (p : Int) + 3 ≥ ((L.length : Nat) : Int) := by omega
  have i3 : (p : Int) + 3 < ((L.length : Nat) : Int) := by omega
  have n3 : p + 3 < L.length := by omega
  obtain ⟨xn, HX⟩ : ∃ xn, Hid ((L.getD (p + 3) 0).toNat = xn) := ⟨_, hide rfl⟩
  have HXA : Hid (at8 L (p + 3) = (xn : Int)) := hide (by unfold at8; rw [unhide HX])
  have hx1 : xn ≤ 255 := by have := at8_hi L (p + 3); rw [unhide HXA] at this; omega
  have cx : W1.cell? ⟨b, off + (p + 3), none⟩ = some (.int .u8 (xn : Int)) := by
    obtain ⟨b2, off2, e4, hc⟩ := ((unhide HBt).below' (unhide HB)).head (by omega)
    injection e4 with e4
    injection e4 with e4 e5
    subst e4 e5
    rw [← unhide HXA]
    exact hc (p + 3) n3
  have HE : Hid (oneE L lo p ahead = if (24 : Int) - lo < (xn : Int) then (p + 3, 65) else sltE L (lo + xn) (p + 3 + 1)) := hide (by rw [unhide HE, ← unhide HXA, ← unhide HX]; exact if_neg (by omega))
  have HFX : Hid (frX L lo (p + 3) = ⟨lo, xn, sltD L (p + 3 + 1) (lo + xn)⟩ ∧ frN L lo (p + 3) = p + 3 + 1 + (lo + xn)) := hide (by unfold frX frN; rw [unhide HXA, unhide HX]; exact ⟨rfl, rfl⟩)
  by_cases h24 : (24 : Int) - lo < (xn : Int)
  · have HE3 : Hid (oneE L lo p ahead = (p + 3, 65)) := hide (by rw [unhide HE, if_pos h24])
    have j24 : (xn : Int) > 24 - (lo : Int) := h24
    have E8' := hide ((unhide HE8).row enZ)
    have B' := hide (below_setRow' (unhide HB) (Nat.le_refl _) (enA enZ))
    go_wp2_with (first | (refine wpList_load_row rfl 44 (.tmp 11) rfl (w.heap.size + 1) rfl 44 (enA enZ) (0, 0) _ (unhide HE11) Try.underlying44 rfl (sizeEn enZ_ok) ?_) | (refine wpList_store_row rfl 44 (.tmp 8) _ rfl w.heap.size (enA enZ) rfl rfl 44 (enA enZ) (unhide HE8) (sizeEn enZ_ok) rfl (enA_one _) ?_))
    exact bodyPost_ret (v := .tuple #[.agg (enA enZ), .int .i64 ((p : Int) + 3), .int .i64 65]) (results_en_v3 rfl _ _ w.heap.size enZ enZ_ok _ _ rfl rfl rfl (unhide E8')) rfl ⟨by rw [oneV_bad (unhide HE3) (by first | decide | assumption)]; rw [show ((p + 3 : Nat) : Int) = (p : Int) + 3 by omega], unhide B'⟩
  have j24 : ¬ (xn : Int) > 24 - (lo : Int) := h24
  obtain ⟨n, HN⟩ : ∃ n, Hid (lo + xn = n) := ⟨_, hide rfl⟩
  have hn24 : n ≤ 24 := by rw [← unhide HN]; omega
  rw [unhide HN] at HFX
  have HE5 : Hid (oneE L lo p ahead = sltE L n (p + 4)) := hide (by rw [unhide HE, if_neg h24, unhide HN])
  have hadd : (lo : Int) + (xn : Int) = (n : Int) := by rw [← unhide HN]; omega
  have hf0 : FrOk ⟨lo, xn, List.replicate 24 0⟩ := ⟨by simp, fun t ht => by rw [List.eq_of_mem_replicate ht]; omega, ⟨by show _ ≤ (lo : Int); omega, by show (lo : Int) ≤ _; omega⟩, ⟨by show _ ≤ (xn : Int); omega, by show (xn : Int) ≤ _; omega⟩⟩
  have hal : Below W1.heap.size W1 (W1.alloc (.cells (frA frZ) 42)) := (Below.refl _ _).alloc (Nat.le_refl _) _
  have HF15 : Hid (FAt (W1.alloc (.cells (frA frZ) 42)) W1.heap.size frZ) := hide (FAt.new W1 frZ)
  have o8 : w.heap.size < W1.heap.size := (unhide HE8).lt
  have o11 : w.heap.size + 1 < W1.heap.size := (unhide HE11).lt
  have HF15b := hide ((unhide HF15).row ⟨lo, xn, List.replicate 24 0⟩)
  have HE8b := hide (((unhide HE8).below hal (unhide HE8).lt).rowOther (frA ⟨lo, xn, List.replicate 24 0⟩) (show w.heap.size ≠ W1.heap.size by omega))
  have HE11b := hide (((unhide HE11).below hal (unhide HE11).lt).rowOther (frA ⟨lo, xn, List.replicate 24 0⟩) (show w.heap.size + 1 ≠ W1.heap.size by omega))
  have HBb := hide (below_setRow' ((unhide HB).trans (hal.mono (unhide HB).size)) (show w.heap.size ≤ W1.heap.size by omega) (frA ⟨lo, xn, List.replicate 24 0⟩))
  clear hal h24
  go_upto_region 20 with (refine wpList_store_row rfl 42 (.tmp 15) (.tmp 97) rfl W1.heap.size (frA ⟨lo, xn, List.replicate 24 0⟩) rfl rfl 42 (frA frZ) (unhide HF15) (sizeFr hf0) (sizeEq frZ_ok hf0) (frA_one _) ?_)
  rw [frZ_eq]
  clear cx cy HE8 HE11 HB HF15
  have HF15 : Hid (FAt ((W1.alloc (.cells (frA frZ) 42)).setRow W1.heap.size (frA ⟨lo, xn, List.replicate 24 0⟩)) W1.heap.size ⟨lo, xn, sltD L (p + 4) 0⟩) := hide (by rw [sltD_zero]; exact unhide HF15b)
  clear HF15b
  generalize ((W1.alloc (.cells (frA frZ) 42)).setRow W1.heap.size (frA ⟨lo, xn, List.replicate 24 0⟩)) = W2 at HF15 HE8b HE11b HBb ⊢
  generalize W1.heap.size = g15 at HF15 o8 o11 ⊢
  go_wp2
  go_loopw [16] (fun i wr => ∃ k : Nat, k ≤ n ∧ i = .int .i64 (k : Int) ∧ p + 4 + k ≤ L.length ∧ Hid (oneE L lo p ahead = sltE L (n - k) (p + 4 + k)) ∧ Hid (FAt wr g15 ⟨lo, xn, sltD L (p + 4) k⟩) ∧ Hid (EAt wr w.heap.size enZ) ∧ Hid (EAt wr (w.heap.size + 1) enZ) ∧ Hid (Below w.heap.size w wr)) (fun i _ => n - (intOf i).toNat)
  case atStart => exact ⟨0, by omega, rfl, by omega, HE5, HF15, HE8b, HE11b, HBb⟩
  case round =>
    clear HF15 HE8b HE11b HBb HE5
    obtain ⟨k, hk, rfl, hpk, HE, HF15, HE8, HE11, HB⟩ := hrel
    by_cases hkn : k < n
    · have j1 : ((k : Nat) : Int) < ((n : Nat) : Int) := by omega
      by_cases hlen : L.length ≤ p + 4 + k
      · have HE3 : Hid (oneE L lo p ahead = (L.length, 2)) := hide (by
          rw [unhide HE, show n - k = (n - k - 1) + 1 by omega]
          exact if_pos hlen)
        have e5 : (p : Int) + 4 + (k : Int) ≥ ((L.length : Nat) : Int) := by omega
        clear hlen hpk
        have E8' := hide ((unhide HE8).row enZ)
        have B' := hide (below_setRow' (unhide HB) (Nat.le_refl _) (enA enZ))
        go_wp2_with (first | (refine wpList_load_row rfl 44 (.tmp 11) rfl (w.heap.size + 1) rfl 44 (enA enZ) (0, 0) _ (unhide HE11) Try.underlying44 rfl (sizeEn enZ_ok) ?_) | (refine wpList_store_row rfl 44 (.tmp 8) _ rfl w.heap.size (enA enZ) rfl rfl 44 (enA enZ) (unhide HE8) (sizeEn enZ_ok) rfl (enA_one _) ?_))
        exact bodyPost_ret (v := .tuple #[.agg (enA enZ), .int .i64 ((L.length : Nat) : Int), .int .i64 2]) (results_en_v3 rfl _ _ w.heap.size enZ enZ_ok _ _ rfl rfl rfl (unhide E8')) rfl ⟨by rw [oneV_bad (unhide HE3) (by first | decide | assumption)], unhide B'⟩
      · have e5 : ¬ (p : Int) + 4 + (k : Int) ≥ ((L.length : Nat) : Int) := by omega
        have hq4 : p + 4 + k < L.length := by omega
        have i5 : (p : Int) + 4 + (k : Int) < ((L.length : Nat) : Int) := by omega
        obtain ⟨yn, HYN⟩ : ∃ yn, Hid ((L.getD (p + 4 + k) 0).toNat = yn) := ⟨_, hide rfl⟩
        have hy256 : yn < 256 := by rw [← unhide HYN]; exact (L.getD (p + 4 + k) 0).toNat_lt
        have cz : wr.cell? ⟨b, off + (p + 4 + k), none⟩ = some (.int .u8 (yn : Int)) := by
          obtain ⟨b2, off2, e4, hc⟩ := ((unhide HBt).below' (unhide HB)).head (by omega)
          injection e4 with e4
          injection e4 with e4 e6
          subst e4 e6
          have := hc (p + 4 + k) hq4
          unfold at8 at this
          rw [this, unhide HYN]
        have HEs : Hid (sltE L (n - k) (p + 4 + k) = if isCd (yn : Int) = false then (p + 4 + k, 62) else sltE L (n - (k + 1)) (p + 4 + (k + 1))) := hide (by
          rw [show n - k = (n - (k + 1)) + 1 by omega]
          show (if L.length ≤ p + 4 + k then _ else if isCd (at8 L (p + 4 + k)) = false then _ else _) = _
          rw [if_neg hlen, show at8 L (p + 4 + k) = (yn : Int) by unfold at8; rw [unhide HYN]]
          rfl)
        go_wp2_with fail
        refine (refIsCode_any (yn : Int) _).mono ?_
        rintro e wr' ⟨rfl, hqq⟩
        rw [hqq]
        clear hqq wr'
        cases hcd : isCd (yn : Int)
        · have HE3 : Hid (oneE L lo p ahead = (p + 4 + k, 62)) := hide (by rw [unhide HE, unhide HEs, if_pos hcd])
          have E8' := hide ((unhide HE8).row enZ)
          have B' := hide (below_setRow' (unhide HB) (Nat.le_refl _) (enA enZ))
          go_wp2_with (first | (refine wpList_load_row rfl 44 (.tmp 11) rfl (w.heap.size + 1) rfl 44 (enA enZ) (0, 0) _ (unhide HE11) Try.underlying44 rfl (sizeEn enZ_ok) ?_) | (refine wpList_store_row rfl 44 (.tmp 8) _ rfl w.heap.size (enA enZ) rfl rfl 44 (enA enZ) (unhide HE8) (sizeEn enZ_ok) rfl (enA_one _) ?_))
          exact bodyPost_ret (v := .tuple #[.agg (enA enZ), .int .i64 ((p : Int) + 4 + (k : Int)), .int .i64 62]) (results_en_v3 rfl _ _ w.heap.size enZ enZ_ok _ _ rfl rfl rfl (unhide E8')) rfl ⟨by rw [oneV_bad (unhide HE3) (by first | decide | assumption)]; rw [show ((p + 4 + k : Nat) : Int) = (p : Int) + 4 + (k : Int) by omega], unhide B'⟩
        · have HE3 : Hid (oneE L lo p ahead = sltE L (n - (k + 1)) (p + 4 + (k + 1))) := hide (by rw [unhide HE, unhide HEs, if_neg (by rw [hcd]; simp)])
          have hz : (sltD L (p + 4) k)[k]? = some 0 := by
            have hl2 : (((L.drop (p + 4)).take k).map UInt8.toNat).length = k := by simp; omega
            unfold sltD
            rw [List.getElem?_append_right (by omega), hl2, Nat.sub_self, List.getElem?_replicate, if_pos (by omega)]
          have ck := (unhide HF15).slot (i := k) hz
          have zk := (unhide HF15).frozen (2 + k)
          have k24 : ((k : Nat) : Int) < 24 := by omega
          have HF15' : Hid (FAt (wr.setCell ⟨g15, 2 + k, none⟩ (.int .u8 (yn : Int))) g15 ⟨lo, xn, sltD L (p + 4) (k + 1)⟩) := hide (by
            have := (unhide HF15).set k yn
            rw [← unhide HYN] at this ⊢
            rw [← sltD_step (by omega) (by omega)]
            exact this)
          have HE8' := hide ((unhide HE8).cellOther ⟨g15, 2 + k, none⟩ (.int .u8 (yn : Int)) (show w.heap.size ≠ g15 by omega))
          have HE11' := hide ((unhide HE11).cellOther ⟨g15, 2 + k, none⟩ (.int .u8 (yn : Int)) (show w.heap.size + 1 ≠ g15 by omega))
          have HB' := hide ((unhide HB).setCell (p := ⟨g15, 2 + k, none⟩) (show w.heap.size ≤ g15 by omega) (.int .u8 (yn : Int)))
          clear hz hcd HEs HE
          go_wp2
          go_roundw
          case rel => exact ⟨k + 1, by omega, by go_num, by omega, HE3, HF15', HE8', HE11', HB'⟩
          case measure => simp [intOf]; omega
    · have j1 : ¬ ((k : Nat) : Int) < ((n : Nat) : Int) := by omega
      have ek : k = n := by omega
      subst ek
      have HE3 : Hid ((oneE L lo p ahead).2 = 0) := hide (by rw [unhide HE, Nat.sub_self]; rfl)
      have hfx : FrOk ⟨lo, xn, sltD L (p + 4) k⟩ := ⟨sltD_len (by omega) (by omega), sltD_byte, ⟨by show _ ≤ (lo : Int); omega, by show (lo : Int) ≤ _; omega⟩, ⟨by show _ ≤ (xn : Int); omega, by show (xn : Int) ≤ _; omega⟩⟩
      have HX2 : Hid (oneX L lo p = ⟨a, false, ⟨lo, xn, sltD L (p + 4) k⟩⟩ ∧ oneN L lo p = p + 4 + k) := hide ⟨by rw [(unhide HX1).1, (unhide HFX).1], by rw [(unhide HX1).2, (unhide HFX).2]⟩
      obtain ⟨f, HFF⟩ : ∃ f : Fr, Hid ((⟨lo, xn, sltD L (p + 4) k⟩ : Fr) = f) := ⟨_, hide rfl⟩
      rw [unhide HFF] at hfx HF15 HX2
      have E8' := hide ((unhide HE8).row ⟨a, false, f⟩)
      have B' := hide (below_setRow' (unhide HB) (Nat.le_refl _) (enA ⟨a, false, f⟩))
      have hsz := frA_size hfx
      have hbf := build_fold a hfx
      go_wp2_with (first | (refine wpList_load_row rfl 42 (.tmp 15) rfl g15 rfl 42 (frA f) (0, 0) _ (unhide HF15) Try.underlying42 rfl (sizeFr hfx) ?_) | (refine wpList_store_row rfl 44 (.tmp 8) (.tmp 133) rfl w.heap.size (enA ⟨a, false, f⟩) rfl (by first | rfl | exact congrArg Value.agg hbf) 44 (enA enZ) (unhide HE8) (sizeEn hfx) (sizeEqEn enZ_ok hfx) (enA_one _) ?_))
      refine bodyPost_ret (v := .tuple #[.agg (enA ⟨a, false, f⟩), .int .i64 ((p : Int) + 4 + (lo : Int) + (xn : Int)), .int .i64 0]) (results_en_v3 rfl _ _ w.heap.size ⟨a, false, f⟩ hfx _ _ rfl rfl rfl (unhide E8')) rfl ⟨?_, unhide B'⟩
      rw [oneV_good (unhide HE3), (unhide HX2).1, (unhide HX2).2, show ((p + 4 + k : Nat) : Int) = (p : Int) + 4 + (lo : Int) + (xn : Int) by omega]
end Go.Proofs.Ythejnhdabokhjaa
