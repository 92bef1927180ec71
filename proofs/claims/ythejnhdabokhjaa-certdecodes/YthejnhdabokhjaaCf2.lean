/-
  The reference's At and Find of a certificate; what is found first is what is found last, since addresses rise. Conditions: lengths fit.
-/
import Derived.Test.YthejnhdabokhjaaCf1
import Derived.Test.YthejnhdabokhjaaCe4
namespace Go.Proofs.Ythejnhdabokhjaa
open Go.RowKit

def fstD : List En → Int → En × Bool
  | [], _ => (enZ, false)
  | x :: l, a => if x.at_ = a then (x, true) else fstD l a
theorem results_cell_tmp1 {fn : Func} {p u : Tmp} {ty : TypeId} (h : fn.results = #[.cell p ty, .tmp u]) (tmps : Array Value) (P : Program) (w : World) :
    (results fn tmps).run P w = ((asAddr (tmps.getD p undef)).run P w).andThen fun a w₁ => ((loadVar ty a).run P w₁).andThen fun x w₂ => .ok (.tuple #[x, tmps.getD u undef]) w₂ := by
  simp only [results, h]
  simp [Sem.run_bind, Result.andThen]
theorem results_en2 {fn : Func} {p u : Tmp} (h : fn.results = #[.cell p 44, .tmp u]) (tmps : Array Value) (W : World) (g : Nat) (x : En) (hx : FrOk x.fr) (hp : tmps.getD p undef = .pointer (some ⟨g, 0, none⟩)) (hg : EAt W g x) :
    (results fn tmps).run Try.prog W = .ok (.tuple #[.agg (enA x), tmps.getD u undef]) W := by
  rw [results_cell_tmp1 h, hp, run_addr, Result.andThen_ok, run_loadVar_row W g 44 44 (enA x) (0, 0) _ hg Try.underlying44 rfl (sizeEn hx), Result.andThen_ok]

set_option maxRecDepth 20000 in
set_option maxHeartbeats 2000000 in
theorem refAt_any (l0 : Int) (v : Value) (es : List En) (at_ : Int) (w : World) {base : Nat} (h : OwnE w base v es) (ho : EsOk es) (hl : es.length ≤ 4096) :
    Calls Try.prog 44 #[.agg #[.int .i64 l0, v], .int .i64 at_] w fun e w' => e = .returned (.tuple #[.agg (enA (fstD es at_).1), .bool (fstD es at_).2]) ∧ Below w.heap.size w w' := by
  obtain ⟨oa, oc, rfl⟩ := h.slice
  have al := ((Below.refl w.heap.size w).alloc (Nat.le_refl _) (.cells #[.int .i64 l0, .slice oa es.length oc] 24)).alloc (by simp) (.cells (enA enZ) 44)
  have HB := hide al
  have HO := hide (h.below al)
  have n1 := heap_alloc_new w (.cells #[.int .i64 l0, .slice oa es.length oc] 24)
  have n2 := heap_alloc_new (w.alloc (.cells #[.int .i64 l0, .slice oa es.length oc] 24)) (.cells (enA enZ) 44)
  rw [World.size_alloc] at n2
  have HC : Hid (CAt ((w.alloc (.cells #[.int .i64 l0, .slice oa es.length oc] 24)).alloc (.cells (enA enZ) 44)) w.heap.size l0 (.slice oa es.length oc)) := hide ((((Below.refl _ _).alloc (Nat.le_refl _) _).block w.heap.size (by simp)).trans n1)
  have HE : Hid (EAt ((w.alloc (.cells #[.int .i64 l0, .slice oa es.length oc] 24)).alloc (.cells (enA enZ) 44)) (w.heap.size + 1) enZ) := hide n2
  clear al h n1 n2
  obtain ⟨R, HR⟩ : ∃ R, Hid (fstD es at_ = R) := ⟨_, hide rfl⟩
  rw [unhide HR]
  go_enter Try.func44, Try.ntmps44
  go_wp2
  rw [enZ_eq]
  generalize ((w.alloc (.cells #[.int .i64 l0, .slice oa es.length oc] 24)).alloc (.cells (enA enZ) 44)) = W1 at HB HO HC HE ⊢
  have c1 := (unhide HC).c1
  go_loopw [6] (fun i wr => ∃ k : Nat, k ≤ es.length ∧ i = .int .i64 (k : Int) ∧ Hid (fstD (es.drop k) at_ = R) ∧ wr = W1) (fun i _ => es.length - (intOf i).toNat)
  case atStart => exact ⟨0, by omega, rfl, hide (unhide HR), rfl⟩
  case round =>
    clear HR
    obtain ⟨k, hk, rfl, HR, rfl⟩ := hrel
    by_cases hkl : k < es.length
    · have j1 : ((k : Nat) : Int) < ((es.length : Nat) : Int) := by omega
      obtain ⟨x, hx⟩ : ∃ x, es[k]? = some x := ⟨_, List.getElem?_eq_getElem hkl⟩
      have hxo : FrOk x.fr := ho x (List.mem_of_getElem? hx)
      obtain ⟨g, cp, hv, hrg⟩ := (unhide HO).range ho hx
      injection hv with hv1 _ hv3
      subst hv1 hv3
      have hll := enL_len hxo
      have c2 : wr.cell? ⟨g, k * 28, none⟩ = some (.int .i64 x.at_) := hrg 0 _ rfl
      have HRG := hide hrg
      have hd : es.drop k = x :: es.drop (k + 1) := by
        rw [List.drop_eq_getElem_cons hkl]
        rw [List.getElem?_eq_getElem hkl] at hx
        injection hx with hx
        rw [hx]
      rw [hd] at HR
      clear hrg hd hx
      by_cases hat : x.at_ = at_
      · have b1 : (x.at_ == at_) = true := beq_t hat
        have HR2 : Hid ((x, true) = R) := hide (by have := unhide HR; unfold fstD at this; rw [if_pos hat] at this; exact this)
        rw [← unhide HR2]
        have HE2 := hide ((unhide HE).row x)
        clear hat HR
        go_wp2_with (first | (refine wpList_load_mid rfl 44 (.tmp 25) rfl g (k * 28) rfl (enL x) _ (unhide HRG) Try.underlying44 rfl (by rw [hll]; kernel_rfl) ?_) | (refine wpList_store_row rfl 44 (.tmp 4) (.tmp 26) rfl (w.heap.size + 1) (enA x) rfl rfl 44 (enA enZ) (unhide HE) (sizeEn hxo) (sizeEqEn enZ_ok hxo) (enA_one _) ?_))
        refine bodyPost_ret (results_en2 rfl _ _ (w.heap.size + 1) x hxo rfl (unhide HE2)) rfl ⟨by rw [← unhide HR2]; rfl, below_setRow' (unhide HB) (by omega) _⟩
      · have b1 : (x.at_ == at_) = false := beq_f hat
        have HR2 : Hid (fstD (es.drop (k + 1)) at_ = R) := hide (by have := unhide HR; unfold fstD at this; rw [if_neg hat] at this; exact this)
        clear hat HR
        go_wp2
        go_roundw
        case rel => exact ⟨k + 1, by omega, by go_num, HR2, trivial⟩
        case measure => simp [intOf]; omega
    · obtain rfl : k = es.length := by omega
      have HR2 : Hid ((enZ, false) = R) := hide (by have := unhide HR; rw [List.drop_length] at this; exact this)
      have HE2 := hide ((unhide HE).row enZ)
      clear HR
      go_wp2_with (refine wpList_store_row rfl 44 (.tmp 4) (.tmp 27) rfl (w.heap.size + 1) (enA enZ) rfl rfl 44 (enA enZ) (unhide HE) (sizeEn enZ_ok) rfl (enA_one _) ?_)
      refine bodyPost_ret (results_en2 rfl _ _ (w.heap.size + 1) enZ enZ_ok rfl (unhide HE2)) rfl ⟨by rw [← unhide HR2]; rfl, below_setRow' (unhide HB) (by omega) _⟩
theorem cd_head {L : List UInt8} {lo n : Nat} (h : (cdE L lo n).2 = 0) : (hdE L).2 = 0 := by
  unfold cdE at h
  by_cases hh : (hdE L).2 = 0
  · exact hh
  · rw [if_pos hh] at h
    exact h
theorem cdS_len {L : List UInt8} {lo n : Nat} (hn4 : wdD L 4 = n) : (cdS L lo n).length ≤ 4096 := by
  unfold cdS
  split
  · rename_i h
    have h1 := (mkE_good 3 0 (cd_head h)).2.2
    have h2 := tol_len (L := L) (lo := lo) n 6 (-1)
    unfold enS
    rw [List.length_map]
    omega
  · simp
/-- Addresses rise. -/
theorem tol_rise {L : List UInt8} {lo : Nat} : ∀ (n p : Nat) (ahead : Int), (∀ a ∈ (tolD L lo n p ahead).1, ahead < a.1.at_) ∧ (tolD L lo n p ahead).1.Pairwise (fun a b => a.1.at_ < b.1.at_)
  | 0, p, ahead => by rw [tol_end]; exact ⟨(fun a ha => by cases ha), List.Pairwise.nil⟩
  | n + 1, p, ahead => by
    by_cases he : (oneE L lo p ahead).2 = 0
    · rw [tol_good he]
      obtain ⟨h1, h2⟩ := tol_rise (L := L) (lo := lo) n (oneN L lo p) (oneX L lo p).at_
      have h3 : ahead < (oneX L lo p).at_ := by
        have h4 : aftD (wdD L p) ahead = 0 := by
          refine Decidable.byContradiction fun h4 => ?_
          by_cases hle : L.length < p + 2
          · rw [oneE, if_pos hle] at he
            simp at he
          · rw [oneE, if_neg hle, if_pos h4] at he
            exact h4 he
        have h5 : (oneX L lo p).at_ = wdD L p := by unfold oneX; split <;> rfl
        rw [h5]
        unfold aftD at h4
        split at h4
        · omega
        · split at h4
          · omega
          · split at h4
            · omega
            · omega
      exact ⟨fun a ha => by
        rcases List.mem_cons.1 ha with rfl | ha
        · exact h3
        · exact Int.lt_trans h3 (h1 a ha), List.Pairwise.cons (fun a ha => h1 a ha) h2⟩
    · rw [tol_bad he]
      exact ⟨(fun a ha => by cases ha), List.Pairwise.nil⟩
theorem fold_none {at_ : Int} : ∀ (A : List (En × Nat)) (acc : En × Bool), (∀ a ∈ A, a.1.at_ ≠ at_) → (ysA A).foldl (fun acc y => if y.1.at_ = at_ then (y.1, true) else acc) acc = acc
  | [], _, _ => rfl
  | a :: A, acc, h => by
    show (ysA A).foldl _ (if a.1.at_ = at_ then (a.1, true) else acc) = acc
    rw [if_neg (h a (List.mem_cons_self ..))]
    exact fold_none A acc (fun b hb => h b (List.mem_cons_of_mem _ hb))
theorem fold_first {at_ : Int} : ∀ (A : List (En × Nat)), A.Pairwise (fun a b => a.1.at_ < b.1.at_) → fndY at_ (ysA A) = fstD (enS A) at_
  | [], _ => rfl
  | a :: A, h => by
    obtain ⟨h1, h2⟩ := List.pairwise_cons.1 h
    show (ysA A).foldl _ (if a.1.at_ = at_ then (a.1, true) else (enZ, false)) = (if a.1.at_ = at_ then (a.1, true) else fstD (enS A) at_)
    by_cases hat : a.1.at_ = at_
    · rw [if_pos hat, if_pos hat]
      exact fold_none A _ (fun b hb => by have := h1 b hb; omega)
    · rw [if_neg hat, if_neg hat]
      exact fold_first A h2
theorem fnd_same (L : List UInt8) (lo n : Nat) (at_ : Int) : fndR L lo n at_ = (fstD (cdS L lo n) at_, (cdE L lo n).2) := by
  unfold fndR
  by_cases hh : (hdE L).2 = 0
  · rw [if_neg (by omega)]
    by_cases he : (tolD L lo n 6 (-1)).2.2 = 0
    · have hc : cdE L lo n = (0, 0) := by unfold cdE; rw [if_neg (by omega), if_neg (by omega)]
      rw [if_neg (by omega), hc, fold_first _ (tol_rise n 6 (-1)).2]
      unfold cdS
      rw [hc, if_pos rfl]
    · have hc : cdE L lo n = (tolD L lo n 6 (-1)).2 := by unfold cdE; rw [if_neg (by omega), if_pos he]
      rw [if_pos he, hc]
      unfold cdS
      rw [hc, if_neg he]
      rfl
  · have hc : cdE L lo n = hdE L := by unfold cdE; rw [if_pos hh]
    rw [if_pos hh, hc]
    unfold cdS
    rw [hc, if_neg hh]
    rfl
theorem fst_ok {at_ : Int} : ∀ {l : List En}, EsOk l → FrOk (fstD l at_).1.fr
  | [], _ => enZ_ok
  | x :: l, h => by
    unfold fstD
    split
    · exact h x (List.mem_cons_self ..)
    · exact fst_ok (fun y hy => h y (List.mem_cons_of_mem _ hy))

set_option maxRecDepth 20000 in
set_option maxHeartbeats 2000000 in
theorem refFind_any (ao : Option Addr) (c : Nat) (L : List UInt8) (lo n : Nat) (at_ : Int) (w : World) (hb : BAt w ao L) (hl : L.length ≤ 140737488355328) (hlo : at8 L 3 = lo) (hn4 : wdD L 4 = n) :
    Calls Try.prog 21 #[.slice ao L.length c, .int .i64 at_] w fun e w' => (∃ x b, FrOk x.fr ∧ fndR L lo n at_ = ((x, b), (cdE L lo n).2) ∧ e = .returned (.tuple #[.agg (enA x), .bool b, .int .i64 (cdE L lo n).2])) ∧ Below w.heap.size w w' := by
  have hln := cdS_len (lo := lo) hn4
  have HFS := hide (fnd_same L lo n at_)
  have HEM : Hid ((cdE L lo n).2 ≠ 0 → cdS L lo n = []) := hide (fun h => by unfold cdS; rw [if_neg h])
  have al := ((Below.refl w.heap.size w).alloc (Nat.le_refl _) (.cells (enA enZ) 44))
  have HD := hide (refDecode_any ao c L lo n _ (hb.below' al) hl hlo hn4)
  have HE : Hid (EAt (w.alloc (.cells (enA enZ) 44)) w.heap.size enZ) := hide (EAt.new w enZ)
  have HB := hide al
  have hsz : (w.alloc (.cells (enA enZ) 44)).heap.size = w.heap.size + 1 := by simp
  clear al hb hlo hn4
  generalize cdS L lo n = es at HFS HD hln HEM
  generalize cdE L lo n = ce at HFS HD HEM ⊢
  obtain ⟨cp, cr⟩ := ce
  generalize cdL L lo n = cl at HD
  simp only at HFS HD HEM
  go_enter Try.func21, Try.ntmps21
  go_wp2_with fail
  rw [enZ_eq]
  generalize (w.alloc (.cells (enA enZ) 44)) = W0 at HD HE HB hsz ⊢
  refine (unhide HD).mono ?_
  rintro e W1 ⟨v, rfl, hO, hEs, hB1⟩
  obtain ⟨oa, oc, rfl⟩ := hO.slice
  have HO := hide hO
  have HES := hide hEs
  have HE1 : Hid (EAt W1 w.heap.size enZ) := hide ((hB1.block w.heap.size (by omega)).trans (unhide HE))
  have HB1 := hide ((unhide HB).trans (hB1.mono (unhide HB).size))
  have hs1 : W0.heap.size ≤ W1.heap.size := hB1.size
  clear hO hEs hB1 HD HE HB
  by_cases he : cr = 0
  · subst he
    have al := ((Below.refl W1.heap.size W1).alloc (Nat.le_refl _) (.cells #[.int .i64 cl, .slice oa es.length oc] 24))
    have HC2 : Hid (CAt (W1.alloc (.cells #[.int .i64 cl, .slice oa es.length oc] 24)) W1.heap.size cl (.slice oa es.length oc)) := hide (heap_alloc_new W1 _)
    have HAt := hide (refAt_any cl (.slice oa es.length oc) es at_ _ ((unhide HO).below al) (unhide HES) hln)
    have HE2 := hide ((unhide HE1).below al (by omega))
    have HB2 := hide ((unhide HB1).trans (al.mono (unhide HB1).size))
    have hs2 : (W1.alloc (.cells #[.int .i64 cl, .slice oa es.length oc] 24)).heap.size = W1.heap.size + 1 := by simp
    have hfo := fst_ok (at_ := at_) (unhide HES)
    clear al HO HE1 HB1
    generalize fstD es at_ = r at HFS HAt hfo
    go_wp2_with (refine wpList_load_row rfl 24 (.tmp 7) rfl W1.heap.size rfl 24 #[.int .i64 cl, .slice oa es.length oc] (0, 0) _ (unhide HC2) Try.underlying24 rfl (by kernel_rfl) ?_)
    generalize (W1.alloc (.cells #[.int .i64 cl, .slice oa es.length oc] 24)) = W2 at HC2 HAt HE2 HB2 hs2 ⊢
    refine (unhide HAt).mono ?_
    rintro e W3 ⟨rfl, hB3⟩
    have HE3 := hide ((unhide HE2).below hB3 (by omega))
    have HB3 := hide ((unhide HB2).trans (hB3.mono (unhide HB2).size))
    have hs3 : W2.heap.size ≤ W3.heap.size := hB3.size
    have HX4 : Hid (EAt (W3.alloc (.cells (enA enZ) 44)) W3.heap.size enZ) := hide (EAt.new W3 enZ)
    have HX5 := hide ((unhide HX4).row r.1)
    have bl5 : Below W3.heap.size W3 ((W3.alloc (.cells (enA enZ) 44)).setRow W3.heap.size (enA r.1)) := below_setRow' ((Below.refl _ _).alloc (Nat.le_refl _) _) (Nat.le_refl _) _
    have HE5 := hide ((unhide HE3).below bl5 (by omega))
    have HB5 := hide ((unhide HB3).trans (bl5.mono (unhide HB3).size))
    have HE6 := hide ((unhide HE5).row r.1)
    clear bl5 hB3 HAt HE2 HB2 HC2 HE3 HB3
    go_wp2_with (first | (refine wpList_store_row rfl 44 (.tmp 10) (.tmp 26) rfl W3.heap.size (enA r.1) rfl rfl 44 (enA enZ) (unhide HX4) (sizeEn hfo) (sizeEqEn enZ_ok hfo) (enA_one _) ?_) | (rw [enZ_eq]; refine wpList_load_row rfl 44 (.tmp 10) rfl W3.heap.size rfl 44 (enA r.1) (0, 0) _ (unhide HX5) Try.underlying44 rfl (sizeEn hfo) ?_) | (refine wpList_store_row rfl 44 (.tmp 4) (.tmp 28) rfl w.heap.size (enA r.1) rfl rfl 44 (enA enZ) (unhide HE5) (sizeEn hfo) (sizeEqEn enZ_ok hfo) (enA_one _) ?_))
    refine bodyPost_ret (results_en3 rfl _ _ w.heap.size r.1 r.2 0 hfo rfl rfl rfl (unhide HE6)) rfl ⟨⟨r.1, r.2, hfo, unhide HFS, rfl⟩, below_setRow' (unhide HB5) (Nat.le_refl _) _⟩
  · have b1 : (cr != 0) = true := bne_t he
    obtain rfl : es = [] := unhide HEM he
    have HE2 : Hid (EAt (W1.alloc (.cells #[.int .i64 cl, .slice oa 0 oc] 24)) w.heap.size enZ) := hide ((unhide HE1).below ((Below.refl W1.heap.size W1).alloc (Nat.le_refl _) _) (by omega))
    have HE3 := hide ((unhide HE2).row enZ)
    have HB2 : Hid (Below w.heap.size w (W1.alloc (.cells #[.int .i64 cl, .slice oa 0 oc] 24))) := hide ((unhide HB1).alloc (unhide HB1).size _)
    clear he HO HES HE1 HB1
    go_wp2_with (refine wpList_store_row rfl 44 (.tmp 4) (.tmp 20) rfl w.heap.size (enA enZ) rfl rfl 44 (enA enZ) (unhide HE2) (sizeEn enZ_ok) rfl (enA_one _) ?_)
    refine bodyPost_ret (results_en3 rfl _ _ w.heap.size enZ false cr enZ_ok rfl rfl rfl (unhide HE3)) rfl ⟨⟨enZ, false, enZ_ok, unhide HFS, rfl⟩, below_setRow' (unhide HB2) (Nat.le_refl _) _⟩
end Go.Proofs.Ythejnhdabokhjaa
