/-
  The contract of provisoref06.Told, where the head is well. Conditions: lengths fit.
-/
import Derived.Test.YthejnhdabokhjaaCrb
import Derived.Deep.Cut
namespace Go.Proofs.Ythejnhdabokhjaa
open Go.RowKit

def enS (A : List (En × Nat)) : List En := A.map Prod.fst
def plS (A : List (En × Nat)) : List Int := A.map fun x => (x.2 : Int)
def Apart (v u : Value) : Prop := ∀ g, v.ownBlock = some g → u.ownBlock ≠ some g
theorem OwnE.below {w w' : World} {base : Nat} {v : Value} {l : List En} (h : OwnE w base v l) (hb : Below w.heap.size w w') : OwnE w' base v l := rowBelowJ h hb
theorem OwnE.slice {w : World} {base : Nat} {v : Value} {l : List En} (h : OwnE w base v l) : ∃ ao cap, v = .slice ao l.length cap := by
  rcases h.2 with ⟨h1, h2⟩ | ⟨g, cap, cur, hv, _⟩
  · exact ⟨none, 0, by rw [h1, h2]⟩
  · exact ⟨_, cap, hv⟩
theorem fold_row : ∀ (vs old pre : List Value) (k : Nat), old.length = vs.length → pre.length = k → (vs.zipIdx k).foldl (fun cs x => cs.setIfInBounds x.2 x.1) (pre ++ old).toArray = (pre ++ vs).toArray
  | [], old, pre, k, hl, _ => by
    have : old = [] := List.eq_nil_of_length_eq_zero hl
    subst this
    rfl
  | v :: vs, [], pre, k, hl, _ => by simp at hl
  | v :: vs, u :: old, pre, k, hl, hp => by
    rw [List.zipIdx_cons, List.foldl_cons]
    have e1 : (pre ++ u :: old).toArray.setIfInBounds k v = ((pre ++ [v]) ++ old).toArray := by rw [← hp]; simp
    rw [e1, fold_row vs old (pre ++ [v]) (k + 1) (by simpa using hl) (by simp [hp])]
    simp
theorem slice_fold {x : En} (hx : FrOk x.fr) : Array.foldl (fun cs (x : Value × Nat) => cs.setIfInBounds x.snd x.fst) (#[.int .i64 0, .bool false, .int .i64 0, .int .i64 0, .int .u8 0, .int .u8 0, .int .u8 0, .int .u8 0, .int .u8 0, .int .u8 0, .int .u8 0, .int .u8 0, .int .u8 0, .int .u8 0, .int .u8 0, .int .u8 0, .int .u8 0, .int .u8 0, .int .u8 0, .int .u8 0, .int .u8 0, .int .u8 0, .int .u8 0, .int .u8 0, .int .u8 0, .int .u8 0, .int .u8 0, .int .u8 0] : Array Value) (enA x).zipIdx 0 28 = enA x := by
  have hz : ((enA x).zipIdx).size = 28 := by simp [enA_size hx]
  have h1 : Array.foldl (fun cs (x : Value × Nat) => cs.setIfInBounds x.snd x.fst) (#[.int .i64 0, .bool false, .int .i64 0, .int .i64 0, .int .u8 0, .int .u8 0, .int .u8 0, .int .u8 0, .int .u8 0, .int .u8 0, .int .u8 0, .int .u8 0, .int .u8 0, .int .u8 0, .int .u8 0, .int .u8 0, .int .u8 0, .int .u8 0, .int .u8 0, .int .u8 0, .int .u8 0, .int .u8 0, .int .u8 0, .int .u8 0, .int .u8 0, .int .u8 0, .int .u8 0, .int .u8 0] : Array Value) (enA x).zipIdx 0 28 = Array.foldl (fun cs (x : Value × Nat) => cs.setIfInBounds x.snd x.fst) (#[.int .i64 0, .bool false, .int .i64 0, .int .i64 0, .int .u8 0, .int .u8 0, .int .u8 0, .int .u8 0, .int .u8 0, .int .u8 0, .int .u8 0, .int .u8 0, .int .u8 0, .int .u8 0, .int .u8 0, .int .u8 0, .int .u8 0, .int .u8 0, .int .u8 0, .int .u8 0, .int .u8 0, .int .u8 0, .int .u8 0, .int .u8 0, .int .u8 0, .int .u8 0, .int .u8 0, .int .u8 0] : Array Value) (enA x).zipIdx := by rw [hz]
  rw [h1, ← Array.foldl_toList, Array.toList_zipIdx]
  exact fold_row (enL x) (enL enZ) [] 0 (by rw [enL_len hx, enL_len enZ_ok]) rfl
theorem slt_ok {L : List UInt8} : ∀ n q, (sltE L n q).2 = 0 → q ≤ L.length → q + n ≤ L.length
  | 0, q, _, h => by omega
  | n + 1, q, h, hq => by
    have e : sltE L (n + 1) q = if L.length ≤ q then (L.length, 2) else if isCd (at8 L q) = false then (q, 62) else sltE L n (q + 1) := rfl
    rw [e] at h
    split at h
    · simp at h
    · split at h
      · simp at h
      · have := slt_ok n (q + 1) h (by omega)
        omega
theorem one_ok {L : List UInt8} {lo p : Nat} {ahead : Int} (h : (oneE L lo p ahead).2 = 0) (hlo : lo ≤ 16) : FrOk (oneX L lo p).fr ∧ oneN L lo p ≤ L.length := by
  unfold oneE at h
  split at h
  · simp at h
  · split at h
    · rename_i h1
      exact absurd h h1
    · split at h
      · simp at h
      · rename_i h1 _ h2
        unfold oneX oneN
        split at h
        · rename_i h3
          rw [if_pos h3, if_pos h3]
          exact ⟨frZ_ok, by omega⟩
        · rename_i h3
          rw [if_neg h3, if_neg h3]
          split at h
          · unfold frE at h
            split at h
            · simp at h
            · split at h
              · simp at h
              · rename_i h5 h6
                have hx : at8 L (p + 3) = ((L.getD (p + 3) 0).toNat : Int) := rfl
                have hb := (L.getD (p + 3) 0).toNat_lt
                have hs := slt_ok _ _ h (by omega)
                refine ⟨⟨sltD_len (by omega) (by omega), sltD_byte, ⟨by show _ ≤ (lo : Int); omega, by show (lo : Int) ≤ _; omega⟩, ⟨by show _ ≤ at8 L (p + 3); omega, by show at8 L (p + 3) ≤ _; omega⟩⟩, ?_⟩
                unfold frN
                omega
          · simp at h
theorem rows_grown {w w' : World} {base : Nat} {t : TypeId} {s : Nat} {v : Value} {n : Nat} {cs : List Value} {row : Option Nat} (h : w.ownsRow base t s v n cs) (hg : w.grownBy w' row) (hne : ∀ g, v.ownBlock = some g → row ≠ some g) : w'.ownsRow base t s v n cs := by
  refine ⟨h.1, ?_⟩
  rcases h.2 with h1 | ⟨g, cap, cur, hv, hbg, hh, r⟩
  · exact Or.inl h1
  · refine Or.inr ⟨g, cap, cur, hv, hbg, ?_, r⟩
    rw [hg.block g (Array.getElem?_eq_some_iff.1 hh).1 (fun e => hne g (by rw [hv]; rfl) e.symm)]
    exact hh
theorem tol_end {L : List UInt8} {lo p : Nat} {ahead : Int} : tolD L lo 0 p ahead = ([], if p < L.length then (p, 3) else (0, 0)) := rfl
theorem tol_good {L : List UInt8} {lo n p : Nat} {ahead : Int} (h : (oneE L lo p ahead).2 = 0) : tolD L lo (n + 1) p ahead = ((oneX L lo p, oneN L lo p) :: (tolD L lo n (oneN L lo p) (oneX L lo p).at_).1, (tolD L lo n (oneN L lo p) (oneX L lo p).at_).2) := if_pos h
theorem tol_bad {L : List UInt8} {lo n p : Nat} {ahead : Int} (h : (oneE L lo p ahead).2 ≠ 0) : tolD L lo (n + 1) p ahead = ([], oneE L lo p ahead) := if_neg h

set_option maxRecDepth 20000 in
set_option maxHeartbeats 4000000 in
theorem Told_any (ao : Option Addr) (c : Nat) (L : List UInt8) (lo n : Nat) (w : World) (hb : BAt w ao L) (hl : L.length ≤ 140737488355328) (hh : (hdE L).2 = 0) (h3 : at8 L 3 = lo) (h4 : wdD L 4 = n) (hlo : lo ≤ 16) (hn : n ≤ 4096) (h6 : 6 ≤ L.length) :
    Calls Try.prog 24 #[.slice ao L.length c] w fun e w' => ∃ v1 v2, e = .returned (.tuple #[v1, v2, .int .i64 ((tolD L lo n 6 (-1)).2.1 : Int), .int .i64 (tolD L lo n 6 (-1)).2.2]) ∧ OwnE w' w.heap.size v1 (enS (tolD L lo n 6 (-1)).1) ∧ EsOk (enS (tolD L lo n 6 (-1)).1) ∧ OwnJ w' w.heap.size v2 (plS (tolD L lo n 6 (-1)).1) ∧ Below w.heap.size w w' := by
  obtain ⟨j0, hi, hz0, hz1, hz2⟩ := info_parts infoJ
  obtain ⟨i0, ei, ez0, ez1, ez2⟩ := info_parts infoE
  have HBt := hide hb
  have HHD : Hid (∀ W, Below w.heap.size w W → Calls Try.prog 23 #[.slice ao L.length c] W fun e w' => e = .returned (.tuple #[.int .i64 (lo : Int), .int .i64 (n : Int), .int .i64 0, .int .i64 0]) ∧ Below W.heap.size W w') := hide (fun W h => by
    have := refHead_any ao c L W (hb.below' h) hl
    rw [hdV, if_pos hh, h3, h4] at this
    exact this)
  clear hb hh h3 h4
  go_enter Try.func24, Try.ntmps24
  go_wp2_with fail
  refine (unhide HHD _ (Below.refl _ _)).mono ?_
  rintro e W1 ⟨rfl, hB1⟩
  have HB1 := hide hB1
  clear hB1 HHD
  go_wp2
  go_loopw [8, 10, 11, 12, 13] (fun pv v1 v2 av i wr => ∃ (k p : Nat) (ahead : Int) (A : List (En × Nat)), k ≤ n ∧ i = .int .i64 (k : Int) ∧ pv = .int .i64 (p : Int) ∧ av = .int .i64 ahead ∧ p ≤ L.length ∧ A.length ≤ k ∧ Hid (tolD L lo n 6 (-1) = (A ++ (tolD L lo (n - k) p ahead).1, (tolD L lo (n - k) p ahead).2)) ∧ Hid (OwnE wr w.heap.size v1 (enS A)) ∧ Hid (EsOk (enS A)) ∧ Hid (OwnJ wr w.heap.size v2 (plS A)) ∧ Hid (Apart v1 v2) ∧ Hid (Below w.heap.size w wr)) (fun _ _ _ _ i _ => n - (intOf i).toNat)
  case atStart => exact ⟨0, 6, -1, [], by omega, rfl, rfl, rfl, h6, by simp, hide (by simp), hide (OwnE.nil _ _), hide (fun x hx => by simp [enS] at hx), hide (OwnJ.nil _ _), hide (fun g h => by simp [Value.ownBlock] at h), HB1⟩
  case round =>
    obtain ⟨k, p, ahead, A, hk, rfl, rfl, rfl, hp, hA, HT, HOE, HES, HOJ, HAP, HB⟩ := hrel
    obtain ⟨oa, oc, rfl⟩ := (unhide HOE).slice
    obtain ⟨ja, jc, rfl, _, _⟩ := (unhide HOJ).at
    by_cases hkn : k < n
    · have j1 : ((k : Nat) : Int) < ((n : Nat) : Int) := by omega
      go_wp2_with fail
      refine (refOne_any ao c L lo p ahead _ ((unhide HBt).below' (unhide HB)) hl hlo hp).mono ?_
      rintro e W2 ⟨rfl, hB2⟩
      have HOE := hide ((unhide HOE).below hB2)
      have HOJ := hide ((unhide HOJ).below hB2)
      have HB := hide ((unhide HB).trans (hB2.mono (unhide HB).size))
      clear hB2
      by_cases he : (oneE L lo p ahead).2 = 0
      · obtain ⟨hxo, hmo⟩ := one_ok he hlo
        rw [oneV_good he]
        have HT2 : Hid (tolD L lo n 6 (-1) = ((A ++ [(oneX L lo p, oneN L lo p)]) ++ (tolD L lo (n - (k + 1)) (oneN L lo p) (oneX L lo p).at_).1, (tolD L lo (n - (k + 1)) (oneN L lo p) (oneX L lo p).at_).2)) := hide (by
          have h1 := unhide HT
          rw [show n - k = (n - (k + 1)) + 1 by omega, tol_good he] at h1
          rw [h1]
          simp)
        obtain ⟨x, HX⟩ : ∃ x, Hid (oneX L lo p = x) := ⟨_, hide rfl⟩
        obtain ⟨m, HM⟩ : ∃ m, Hid (oneN L lo p = m) := ⟨_, hide rfl⟩
        rw [unhide HX, unhide HM] at HT2
        rw [unhide HX] at hxo
        rw [unhide HM] at hmo
        rw [unhide HX, unhide HM]
        clear he HT
        have HE14 : Hid (EAt (W2.alloc (.cells (enA enZ) 44)) W2.heap.size enZ) := hide (EAt.new W2 enZ)
        have bx : Below W2.heap.size W2 ((W2.alloc (.cells (enA enZ) 44)).setRow W2.heap.size (enA x)) := below_setRow' ((Below.refl _ _).alloc (Nat.le_refl _) _) (Nat.le_refl _) _
        have HL1 := hide (unhide HOE).lt
        have HL2 := hide (unhide HOJ).lt
        have HOE2 := hide ((unhide HOE).below bx)
        have HOJ2 := hide ((unhide HOJ).below bx)
        have HB2 := hide ((unhide HB).trans (bx.mono (unhide HB).size))
        have HE14b := hide ((unhide HE14).row x)
        clear bx
        go_upto_region 12 with (refine wpList_store_row rfl 44 (.tmp 14) (.tmp 39) rfl W2.heap.size (enA x) rfl rfl 44 (enA enZ) (unhide HE14) (sizeEn hxo) (sizeEqEn enZ_ok hxo) (enA_one _) ?_)
        rw [enZ_eq]
        generalize ((W2.alloc (.cells (enA enZ) 44)).setRow W2.heap.size (enA x)) = W3 at HOE2 HOJ2 HB2 HE14b ⊢
        generalize W2.heap.size = g14 at HL1 HL2 HE14b ⊢
        have hsf := slice_fold hxo
        have hss := enA_size hxo
        have HRE := hide ((unhide HOE2).alloc (.cells (enA x) 44))
        have HRJ := hide ((unhide HOJ2).alloc (.cells (enA x) 44))
        have hAl : (enS A).length ≤ 4096 := by unfold enS; rw [List.length_map]; omega
        have hJl : (plS A).length ≤ 4096 := by unfold plS; rw [List.length_map]; omega
        go_upto_region 15 with (first | (refine wpList_load_row rfl 44 (.tmp 14) rfl g14 rfl 44 (enA x) (0, 0) _ (unhide HE14b) Try.underlying44 rfl (sizeEn hxo) ?_) | (at_builtin; (refine wpList_append_own_at _ rfl _ _ 22 rfl w.heap.size 44 i0 (.agg #[.int .i64 0, .bool false, .int .i64 0, .int .i64 0, .int .u8 0, .int .u8 0, .int .u8 0, .int .u8 0, .int .u8 0, .int .u8 0, .int .u8 0, .int .u8 0, .int .u8 0, .int .u8 0, .int .u8 0, .int .u8 0, .int .u8 0, .int .u8 0, .int .u8 0, .int .u8 0, .int .u8 0, .int .u8 0, .int .u8 0, .int .u8 0, .int .u8 0, .int .u8 0, .int .u8 0, .int .u8 0]) 28 56 Try.underlying22 ei ez0 ez1 ez2 rfl (by decide) _ (enS A).length (evals (enS A)) rfl (unhide HRE) ⟨W3.heap.size, 0, none⟩ 1 1 (enL x) rfl (by rw [enL_len hxo]) (cell_new_en _ _) (by have := evals_one [x]; simpa [evals] using this) ?a3 ?a4 ?a5 ?_)))
        case a3 => unfold maxLen; omega
        case a4 => omega
        case a5 => have := (unhide HB2).size; simp; omega
        intro v1 W4 hO4 hG4 _ hnew
        have hl14 := (unhide HE14b).lt
        have HOE4 : Hid (OwnE W4 w.heap.size v1 (enS (A ++ [(x, m)]))) := hide (by
          unfold OwnE
          have e1 : enS (A ++ [(x, m)]) = enS A ++ [x] := by simp [enS]
          rw [e1, List.length_append, evals_append]
          have e2 : evals [x] = enL x := by simp [evals]
          rw [e2]
          exact hO4)
        have HOJ4 : Hid (OwnJ W4 w.heap.size (.slice ja (plS A).length jc) (plS A)) := hide (rows_grown (unhide HRJ) hG4 (fun g hg e => unhide HAP g e hg))
        have HE4 : Hid (EAt W4 g14 x) := hide ((hG4.block g14 (by simp; omega) (fun e => by have := (unhide HL1 g14 e.symm).2; omega)).trans ((unhide HE14b).below ((Below.refl _ _).alloc (Nat.le_refl _) (.cells (enA x) 44)) hl14))
        have HAP4 : Hid (Apart v1 (.slice ja (plS A).length jc)) := hide (fun g hg e2 => by
          rcases hnew with h | h
          · rw [h] at hg; exact unhide HAP g hg e2
          · rw [h] at hg
            injection hg with hg
            have := ((unhide HOJ2).lt g e2).2
            omega)
        have HB4 : Hid (Below w.heap.size w W4) := hide (((unhide HB2).alloc (unhide HB2).size _).grown hG4 (by have := (unhide HB2).size; simp; omega) (fun q e => (unhide HL1 q e).1))
        have HS4 := hide hG4.size
        clear hO4 hG4 hnew HRE HRJ HOE2 HOJ2 HB2 hsf hss
        have HRJ4 := hide ((unhide HOJ4).alloc (.cells #[.int .i64 (m : Int)] 3))
        have HRE4 := hide ((unhide HOE4).alloc (.cells #[.int .i64 (m : Int)] 3))
        go_upto_region 16 with (at_builtin; refine wpList_append_own_at _ rfl _ _ 55 rfl w.heap.size 3 j0 (.int .i64 0) 1 8 Try.underlying55 hi hz0 hz1 hz2 rfl (by decide) _ (plS A).length (jvals (plS A)) rfl (unhide HRJ4) ⟨W4.heap.size, 0, none⟩ 1 1 [.int .i64 (m : Int)] rfl rfl (cell_one_newJ _ _ _) (by simp [Value.oneCell']) ?b3 ?b4 ?b5 ?_)
        case b3 => unfold maxLen; omega
        case b4 => omega
        case b5 => have := (unhide HB4).size; simp; omega
        intro v2 W5 hO5 hG5 _ hnew2
        have hl14' := (unhide HE4).lt
        have HOJ5 : Hid (OwnJ W5 w.heap.size v2 (plS (A ++ [(x, m)]))) := hide (by
          unfold OwnJ
          have e1 : plS (A ++ [(x, m)]) = plS A ++ [(m : Int)] := by simp [plS]
          rw [e1, List.length_append]
          unfold jvals
          rw [List.map_append]
          exact hO5)
        have HOE5 : Hid (OwnE W5 w.heap.size v1 (enS (A ++ [(x, m)]))) := hide (rows_grown (unhide HRE4) hG5 (fun g hg e => unhide HAP4 g hg e))
        have HE5 : Hid (EAt W5 g14 x) := hide ((hG5.block g14 (by simp; omega) (fun e => by have := (unhide HL2 g14 e.symm).2; omega)).trans ((unhide HE4).below ((Below.refl _ _).alloc (Nat.le_refl _) (.cells #[.int .i64 (m : Int)] 3)) hl14'))
        have HAP5 : Hid (Apart v1 v2) := hide (fun g hg e2 => by
          rcases hnew2 with h | h
          · rw [h] at e2; exact unhide HAP4 g hg e2
          · rw [h] at e2
            injection e2 with e2
            have := ((unhide HOE4).lt g hg).2
            omega)
        have HB5 : Hid (Below w.heap.size w W5) := hide (((unhide HB4).alloc (unhide HB4).size _).grown hG5 (by have := (unhide HB4).size; simp; omega) (fun q e => (unhide HL2 q e).1))
        have HES5 : Hid (EsOk (enS (A ++ [(x, m)]))) := hide (fun y hy => by
          have e1 : enS (A ++ [(x, m)]) = enS A ++ [x] := by simp [enS]
          rw [e1, List.mem_append] at hy
          rcases hy with hy | hy
          · exact unhide HES y hy
          · simp at hy
            rw [hy]
            exact hxo)
        have c0 := (unhide HE5).c0
        clear hO5 hG5 hnew2 HRJ4 HRE4 HOE4 HOJ4 HB4 HS4 HE4
        have hA2 : (A ++ [(x, m)]).length ≤ k + 1 := by simp; omega
        go_wp2
        go_roundw
        case rel => exact ⟨k + 1, m, x.at_, A ++ [(x, m)], by omega, by go_num, rfl, rfl, hmo, hA2, HT2, HOE5, HES5, HOJ5, HAP5, HB5⟩
        case measure => simp [intOf]; omega
      · obtain ⟨x, er, HE⟩ : ∃ x er, Hid (oneE L lo p ahead = (x, er)) := ⟨_, _, hide rfl⟩
        rw [unhide HE] at he
        rw [oneV_bad (unhide HE) he]
        have HT2 : Hid (tolD L lo n 6 (-1) = (A, (x, er))) := hide (by
          have h1 := unhide HT
          rw [show n - k = (n - k - 1) + 1 by omega, tol_bad (by rw [unhide HE]; exact he), unhide HE] at h1
          rw [h1]
          simp)
        have b1 : (er != 0) = true := bne_t he
        have HE14 : Hid (EAt (W2.alloc (.cells (enA enZ) 44)) W2.heap.size enZ) := hide (EAt.new W2 enZ)
        have bx : Below W2.heap.size W2 ((W2.alloc (.cells (enA enZ) 44)).setRow W2.heap.size (enA enZ)) := below_setRow' ((Below.refl _ _).alloc (Nat.le_refl _) _) (Nat.le_refl _) _
        have HOE := hide ((unhide HOE).below bx)
        have HOJ := hide ((unhide HOJ).below bx)
        have HB := hide ((unhide HB).trans (bx.mono (unhide HB).size))
        clear bx he
        go_wp2_with (refine wpList_store_row rfl 44 (.tmp 14) (.tmp 39) rfl W2.heap.size (enA enZ) rfl rfl 44 (enA enZ) (unhide HE14) (sizeEn enZ_ok) rfl (enA_one _) ?_)
        have hT := unhide HT2
        refine bodyPost_ret (results_tmp4 rfl _ _ _) rfl ⟨_, _, by rw [hT]; rfl, ?_, ?_, ?_, unhide HB⟩
        · rw [hT]; exact unhide HOE
        · rw [hT]; exact unhide HES
        · rw [hT]; exact unhide HOJ
    · have j1 : ¬ ((k : Nat) : Int) < ((n : Nat) : Int) := by omega
      have HT2 : Hid (tolD L lo n 6 (-1) = (A, if p < L.length then (p, 3) else (0, 0))) := hide (by
        have h1 := unhide HT
        rw [show n - k = 0 by omega, tol_end] at h1
        rw [h1]
        simp)
      have hT := unhide HT2
      by_cases hpl : p < L.length
      · have i1 : (p : Int) < ((L.length : Nat) : Int) := by omega
        rw [if_pos hpl] at hT
        have HT3 := hide hT
        clear hT hpl
        go_wp2
        have hT := unhide HT3
        refine bodyPost_ret (results_tmp4 rfl _ _ _) rfl ⟨_, _, by rw [hT]; rfl, ?_, ?_, ?_, unhide HB⟩
        · rw [hT]; exact unhide HOE
        · rw [hT]; exact unhide HES
        · rw [hT]; exact unhide HOJ
      · have i1 : ¬ (p : Int) < ((L.length : Nat) : Int) := by omega
        rw [if_neg hpl] at hT
        have HT3 := hide hT
        clear hT hpl
        go_wp2
        have hT := unhide HT3
        refine bodyPost_ret (results_tmp4 rfl _ _ _) rfl ⟨_, _, by rw [hT]; rfl, ?_, ?_, ?_, unhide HB⟩
        · rw [hT]; exact unhide HOE
        · rw [hT]; exact unhide HES
        · rw [hT]; exact unhide HOJ
end Go.Proofs.Ythejnhdabokhjaa
