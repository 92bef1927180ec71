/-
  The document's heap: Leads. Conditions: the objects are the table's records, or rows.
-/
import Derived.Test.YtbbfnampjbdnbaaDoorJHA
import Derived.Test.YtbbfnampjbdnbaaDoorJHB
import Derived.Test.YtbbfnampjbdnbaaDoorKHq12
import Derived.Test.YtbbfnampjbdnbaaDoorJRF
namespace Go.Proofs.YtbbfnampjbdnbaaDoor
open Go.RowKit
set_option maxRecDepth 20000
set_option linter.unusedVariables false
set_option linter.unusedSimpArgs false

/-- The objects are the table's records, or rows. -/
def RpCls (T : List Cl) (R : List Rb) : Prop := ∀ x ∈ R, x.t = true → x.c = -1 ∨ ∃ k : Nat, x.c = (k : Int) ∧ k < T.length ∧ x.ps.length = (fieldsB T (k : Int)).length
/-- Of a list of places those that lead on, as far as the marks go. -/
def goL (R : List Rb) : List Bool → List Int → List Int
  | b :: bs, v :: ps => (if b = true ∧ (thrD R v).isSome = true then [v] else []) ++ goL R bs ps
  | _, _ => []
def leadsR (T : List Cl) (R : List Rb) (ref : Int) : List Int := match thrD R ref with | some x => if x.c = -1 then [] else goL R (ldsD T x.c.toNat) x.ps | none => []
theorem goL_mem : ∀ {R : List Rb} {bs : List Bool} {ps : List Int} {v : Int}, v ∈ goL R bs ps ↔ (thrD R v).isSome = true ∧ ∃ j : Nat, bs[j]? = some true ∧ ps[j]? = some v
  | R, [], ps, v => by simp [goL]
  | R, b :: bs, [], v => by simp [goL]
  | R, b :: bs, u :: ps, v => by
    rw [goL, List.mem_append, goL_mem (bs := bs)]
    constructor
    · rintro (h | ⟨h, j, h1, h2⟩)
      · split at h
        · rename_i hc
          rw [List.mem_singleton] at h
          subst h
          exact ⟨hc.2, 0, by simp [hc.1], by simp⟩
        · cases h
      · exact ⟨h, j + 1, by simpa using h1, by simpa using h2⟩
    · rintro ⟨h, j, h1, h2⟩
      cases j with
      | zero =>
        have e1 : b = true := by simpa using h1
        have e2 : u = v := by simpa using h2
        subst e2
        left
        rw [if_pos ⟨e1, h⟩]
        simp
      | succ j => exact Or.inr ⟨h, j, by simpa using h1, by simpa using h2⟩
theorem goL_len : ∀ (R : List Rb) (bs : List Bool) (ps : List Int), (goL R bs ps).length ≤ bs.length
  | R, [], ps => by simp [goL]
  | R, b :: bs, [] => by simp [goL]
  | R, b :: bs, u :: ps => by
    have := goL_len R bs ps
    rw [goL, List.length_append, List.length_cons]
    split <;> simp <;> omega
theorem goL_snoc : ∀ {R : List Rb} {bs : List Bool} {ps : List Int} {j : Nat} {b : Bool} {v : Int}, bs[j]? = some b → ps[j]? = some v → goL R (bs.take (j + 1)) ps = goL R (bs.take j) ps ++ (if b = true ∧ (thrD R v).isSome = true then [v] else [])
  | R, [], ps, j, b, v, h, _ => by simp at h
  | R, a :: bs, [], j, b, v, _, h => by simp at h
  | R, a :: bs, u :: ps, 0, b, v, h1, h2 => by
    have e1 : a = b := by simpa using h1
    have e2 : u = v := by simpa using h2
    subst e1 e2
    simp [goL]
  | R, a :: bs, u :: ps, j + 1, b, v, h1, h2 => by
    have ih := goL_snoc (R := R) (bs := bs) (ps := ps) (j := j) (b := b) (v := v) (by simpa using h1) (by simpa using h2)
    rw [List.take_succ_cons, goL, ih, List.take_succ_cons, goL, List.append_assoc]
theorem leads_here {T : List Cl} {R : List Rb} {i k : Nat} {x : Rb} (hx : R[i]? = some x) (ht : x.t = true) (hc : x.c = (k : Int)) : leadsR T R ((i : Int) + 1) = goL R (ldsD T k) x.ps := by
  unfold leadsR
  rw [thr_at hx, ht, if_pos rfl]
  show (if x.c = -1 then [] else _) = _
  rw [if_neg (by omega), hc]
  rfl
theorem leads_not {T : List Cl} {R : List Rb} {ref : Int} (h : clsB R ref = false) : leadsR T R ref = [] := by
  unfold clsB at h
  unfold leadsR
  cases hx : thrD R ref with
  | none => rfl
  | some x =>
    rw [hx] at h
    have h : decide (x.c ≠ -1) = false := h
    have h2 : x.c = -1 := by simpa using h
    show (if x.c = -1 then [] else _) = _
    rw [if_pos h2]
set_option maxRecDepth 20000 in
set_option maxHeartbeats 4000000 in
theorem refLeads_any (B g : Nat) (p : Rp) (ref : Int) (ao : Option Addr) (cap : Nat) (T : List Cl) (w : World) (H : RpAt B w g p) (hlv : p.lv = .slice ao T.length cap) (hT : TabAt w ao T) (hz : T.length * 48 ≤ 140737488351232) (hm : madeD T = true) (hcl : RpCls T p.R) (hl : p.R.length ≤ 4611686018427387900) :
    Calls Tryd.prog 52 #[.pointer (some ⟨g, 0, none⟩), .int .i64 ref] w fun e w' => ∃ v, e = .returned v ∧ OwnJ w' w.heap.size v (leadsR T p.R ref) ∧ Below w.heap.size w w' := by
  obtain ⟨i0, hi, hz0, hz1, hz2⟩ := info_parts infoJ
  have HC := hide (refClass_any B g p ref w H (by omega))
  cases hb : clsB p.R ref with
  | false =>
    have HN : Hid (leadsR T p.R ref = []) := hide (leads_not hb)
    rw [hb] at HC
    clear H hT
    go_enter Tryd.func52, Tryd.ntmps52
    go_wp2_with (go_at_call 35; refine (unhide HC).mono ?_; rintro e w9 ⟨rfl, hw⟩; rw [hw]; clear hw)
    go_ret
    rw [unhide HN]
    exact ⟨_, rfl, OwnJ.nil _ _, Below.refl _ _⟩
  | true =>
    rw [hb] at HC
    have hb' := hb
    unfold clsB at hb'
    cases hx : thrD p.R ref with
    | none => rw [hx] at hb'; cases hb'
    | some x =>
      rw [hx] at hb'
      have hc1 : x.c ≠ -1 := by simpa using hb'
      obtain ⟨r1, r2, r3⟩ := thr_some.1 hx
      obtain ⟨i, hir⟩ : ∃ i : Nat, ref = (i : Int) + 1 := ⟨(ref - 1).toNat, by omega⟩
      have hii : (ref - 1).toNat = i := by omega
      rw [hii] at r2
      subst hir
      have hcc := hcl x (List.mem_of_getElem? r2) r3
      rcases hcc with e | ⟨k, hck, hkT, hpl⟩
      · exact absurd e hc1
      · have hcv : clsC p.R ((i : Int) + 1) = (k : Int) := by
          unfold clsC
          rw [hx]
          show (if x.c = -1 then (0 : Int) else x.c) = _
          rw [if_neg hc1, hck]
        rw [hcv] at HC
        have HLD := hide (leads_here (T := T) r2 r3 hck)
        rw [unhide HLD]
        have HF := hide (refFieldsR cap hT hz hm hkT)
        have hfl := fieldsB_le hm (c := (k : Int)) (by omega)
        have HLS : Hid (ldsD T k = (fieldsB T (k : Int)).map (fun f => isRefD f.ty)) := hide rfl
        generalize fieldsB T (k : Int) = FB at HF hfl HLS hpl
        obtain ⟨L, HL⟩ : ∃ L, Hid (ldsD T k = L) := ⟨_, hide rfl⟩
        rw [unhide HL] at HLS ⊢
        obtain ⟨b, ocap, pa, pc, hov, q0, q1, q2, hpv⟩ := H.there r2
        have HOV := hide hov
        have HPV := hide hpv
        have HX := hide r2
        have HH := hide H
        have hil : i < p.R.length := (List.getElem?_eq_some_iff.1 r2).1
        have hi2 : ((i : Nat) : Int) < ((p.R.length : Nat) : Int) := by omega
        have c0 := H.box.c 0 (v := p.lv) rfl
        rw [hlv] at c0
        have HPL : Hid (x.ps.length = FB.length) := hide hpl
        obtain ⟨N, HN⟩ : ∃ N, Hid (p.R.length = N) := ⟨_, hide rfl⟩
        rw [unhide HN] at hi2 hl
        clear H hT hm hz hcl hov hpv r1 r2 r3 hx hb hb' hcv hck hkT hpl q0 q1 q2 hil hii hlv
        go_enter Tryd.func52, Tryd.ntmps52
        go_wp2_with (first | (go_at_call 35; refine (unhide HC).mono ?_; rintro e w9 ⟨rfl, hw⟩; rw [hw]; clear hw) | (go_at_call 45; refine (unhide HF).mono ?_; rintro e W2 ⟨fa, fc, rfl, hF, hB2⟩))
        have HFS := hide hF
        have HH2 := hide ((unhide HH).below hB2)
        have HB2 := hide hB2
        clear hF hB2 HF c0 HC HH
        go_wp2
        go_loopw [5, 9] (fun v i' wr => ∃ (j : Nat) (X : List Int), j ≤ FB.length ∧ i' = .int .i64 (j : Int) ∧ X.length ≤ j ∧ Hid (X = goL p.R (L.take j) x.ps) ∧ Hid (OwnJ wr W2.heap.size v X) ∧ Hid (Below W2.heap.size W2 wr)) (fun _ i' _ => FB.length - (intOf i').toNat)
        case atStart => exact ⟨0, [], by omega, rfl, by simp, hide (by simp [goL]), hide (OwnJ.nil _ _), hide (Below.refl _ _)⟩
        case round =>
          obtain ⟨j, X, hj, rfl, hXl, HXE, HO, HB⟩ := hrel
          obtain ⟨va, vc, rfl, _⟩ := (unhide HO).at
          by_cases hjl : j < FB.length
          · have j1 : ((j : Nat) : Int) < ((FB.length : Nat) : Int) := by omega
            have hf := List.getElem?_eq_getElem hjl
            generalize FB[j] = f at hf
            obtain ⟨fb, fo, rfl, hfa⟩ := (unhide HFS).below (unhide HB) j f hf
            have f1 := hfa.c1
            have HHr := hide ((unhide HH2).below (unhide HB))
            have hjp : j < x.ps.length := by rw [unhide HPL]; exact hjl
            have hv := List.getElem?_eq_getElem hjp
            generalize x.ps[j] = v at hv
            obtain ⟨b', ocap', pa', pc', hov', q0, q1, q2, hpv'⟩ := (unhide HHr).there (unhide HX)
            rw [unhide HOV] at hov'
            rw [unhide HPV] at hpv'
            obtain ⟨rfl, rfl⟩ : b = b' ∧ ocap = ocap' := by injection hov' with e1 _ e3; injection e1 with e1; injection e1 with e1; exact ⟨e1, e3⟩
            obtain ⟨rfl, rfl⟩ : pa = pa' ∧ pc = pc' := by injection hpv' with e1 _ e3; exact ⟨e1, e3⟩
            have c2 := (unhide HHr).box.c 2 (v := p.ov) rfl
            rw [unhide HOV, unhide HN] at c2
            have hpls := (unhide HHr).pls x (List.mem_of_getElem? (unhide HX))
            rw [unhide HPV] at hpls
            obtain ⟨pa2, pc2, hpe, hja, _⟩ := hpls.at
            obtain rfl : pa = pa2 := by injection hpe
            obtain ⟨pb, po, rfl, hcv⟩ := hja j v hv
            rw [unhide HPL] at q2
            have HTH := hide (refThere_any B g p v wr (unhide HHr) (by rw [unhide HN]; omega))
            have HLJ : Hid (L[j]? = some (isRefD f.ty)) := hide (by rw [unhide HLS, List.getElem?_map, hf]; rfl)
            have HST := hide (goL_snoc (R := p.R) (unhide HLJ) hv)
            obtain ⟨t, HTT⟩ : ∃ t, Hid ((thrD p.R v).isSome = t) := ⟨_, hide rfl⟩
            obtain ⟨r, HRR⟩ : ∃ r, Hid (isRefD f.ty = r) := ⟨_, hide rfl⟩
            rw [unhide HTT] at HTH HST
            rw [unhide HRR] at HST
            have HIR := hide (refIsRef_any f.ty wr)
            rw [unhide HRR] at HIR
            have hws : W2.heap.size ≤ wr.heap.size := (unhide HB).size
            clear hov' hpv' hpls hja hpe hf hv hfa q0 q1
            cases r with
            | false =>
              have HX1 : Hid (X = goL p.R (L.take (j + 1)) x.ps) := hide (by rw [unhide HST, ← unhide HXE]; simp)
              go_wp2_with (first | (go_at_call 69; refine (unhide HIR).mono ?_; rintro e w9 ⟨rfl, hw⟩; rw [hw]; clear hw) | (go_at_call 36; refine (unhide HTH).mono ?_; rintro e w9 ⟨rfl, hw⟩; rw [hw]; clear hw))
              go_roundw
              case rel => exact ⟨j + 1, X, by omega, by go_num, by omega, HX1, HO, HB⟩
              case measure => simp [intOf]; omega
            | true =>
              cases t with
              | false =>
                have HX1 : Hid (X = goL p.R (L.take (j + 1)) x.ps) := hide (by rw [unhide HST, ← unhide HXE]; simp)
                go_wp2_with (first | (go_at_call 69; refine (unhide HIR).mono ?_; rintro e w9 ⟨rfl, hw⟩; rw [hw]; clear hw) | (go_at_call 36; refine (unhide HTH).mono ?_; rintro e w9 ⟨rfl, hw⟩; rw [hw]; clear hw))
                go_roundw
                case rel => exact ⟨j + 1, X, by omega, by go_num, by omega, HX1, HO, HB⟩
                case measure => simp [intOf]; omega
              | true =>
                have HX1 : Hid (X ++ [v] = goL p.R (L.take (j + 1)) x.ps) := hide (by rw [unhide HST, ← unhide HXE]; simp)
                have HR1 := hide ((unhide HO).alloc (.cells #[.int .i64 v] 3))
                go_wp2_with (first | (go_at_call 69; refine (unhide HIR).mono ?_; rintro e w9 ⟨rfl, hw⟩; rw [hw]; clear hw) | (go_at_call 36; refine (unhide HTH).mono ?_; rintro e w9 ⟨rfl, hw⟩; rw [hw]; clear hw) | (at_builtin; refine wpList_append_own _ rfl _ _ 42 rfl (W2.heap.size) 3 i0 (.int .i64 0) 1 8 Tryd.underlying42 hi hz0 hz1 hz2 rfl (by decide) _ X.length (jvals X) rfl (unhide HR1) ⟨wr.heap.size, 0, none⟩ 1 1 [.int .i64 v] rfl rfl (cell_one_newJ _ _ _) (by simp [Value.oneCell']) ?a3 ?a4 ?a5 ?_))
                case a3 => unfold maxLen; omega
                case a4 => omega
                case a5 => simp; omega
                intro v1 w1 hO1 hG1 _
                have HO1 : Hid (OwnJ w1 (W2.heap.size) v1 (X ++ [v])) := hide (by unfold OwnJ jvals; rw [List.map_append, List.length_append]; exact hO1)
                have HB1 : Hid (Below W2.heap.size W2 w1) := hide (((unhide HB).alloc hws _).grown hG1 (by simp; omega) (fun q e => ((unhide HO).lt q e).1))
                have hx1 : (X ++ [v]).length ≤ j + 1 := by simp; omega
                clear hO1 hG1
                go_wp2
                go_roundw
                case rel => exact ⟨j + 1, X ++ [v], by omega, by go_num, hx1, HX1, HO1, HB1⟩
                case measure => simp [intOf]; omega
          · have j1 : ¬ ((j : Nat) : Int) < ((FB.length : Nat) : Int) := by omega
            have HE : Hid (goL p.R (L.take j) x.ps = goL p.R L x.ps) := hide (by rw [List.take_of_length_le (by rw [unhide HLS, List.length_map]; omega)])
            have HBE := hide ((unhide HB2).trans ((unhide HB).mono (unhide HB2).size))
            go_wp2
            go_ret
            exact ⟨_, rfl, by rw [← unhide HE, ← unhide HXE]; exact rowMono (unhide HO) (unhide HB2).size, unhide HBE⟩
end Go.Proofs.YtbbfnampjbdnbaaDoor
