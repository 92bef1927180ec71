/-
  The document's heap: Reach, the walk. Conditions: lengths fit; the objects are the table's records, or rows.
-/
import Derived.Test.YtbbfnampjbdnbaaDoorKHr7
import Derived.Deep.AppendLies
namespace Go.Proofs.YtbbfnampjbdnbaaDoor
open Go.RowKit
set_option maxRecDepth 20000
set_option linter.unusedVariables false
set_option linter.unusedSimpArgs false

theorem make_boR {N : Nat} (hN : N ≤ 3000000000001) (W : World) : (Instr.makeSlice 56 (.int .i64 ((N : Int) + 1)) (.int .i64 ((N : Int) + 1))).run Tryd.prog W = .ok (.slice (some ⟨W.heap.size, 0, none⟩) (N + 1) (N + 1)) (W.alloc (.cells (Array.replicate (N + 1) (Value.bool false)) 4)) := by
  obtain ⟨i, hi, hz0, hz1, hz2⟩ := info_parts infoBoH
  have h := run_make (P := Tryd.prog) W 56 4 i (.bool false) Tryd.underlying56 hi hz0 .i64 .i64 (((N + 1 : Nat)) : Int) (((N + 1 : Nat)) : Int) (by omega) (by omega) (by rw [hz2]; omega) (by omega)
  rw [hz1, show (((N + 1 : Nat)) : Int).toNat = N + 1 from by simp, Nat.mul_one] at h
  rw [show ((N : Int) + 1) = (((N + 1 : Nat)) : Int) by omega, h]
  show Result.ok _ (W.alloc (.cells (madeCells #[.bool false] (N + 1)) _)) = _
  rw [made_oneH]
  simp
theorem own_grownJ {W w3 : World} {base : Nat} {v : Value} {l : List Int} {row : Option Nat} (h : OwnJ W base v l) (hg : W.grownBy w3 row) (hne : ∀ k, v.ownBlock = some k → row ≠ some k) : OwnJ w3 base v l := by
  refine ⟨h.1, ?_⟩
  rcases h.2 with h' | ⟨g, cap, cur, h1, h2, h3, h4⟩
  · exact Or.inl h'
  · refine Or.inr ⟨g, cap, cur, h1, h2, ?_, h4⟩
    exact (hg.block g (Array.getElem?_eq_some_iff.1 h3).1 (fun e => hne g (by rw [h1]; rfl) e.symm)).trans h3
theorem own_lenJ {W : World} {base : Nat} {v : Value} {l : List Int} (h : OwnJ W base v l) : l.length ≤ 9223372036854775807 := by
  rcases h.2 with ⟨_, h2⟩ | ⟨g, cap, cur, _, _, _, h4, h5, _⟩
  · omega
  · unfold maxLen at h5; omega
/-- Memory while it is gone through: the marks, what is next. -/
structure RS (w0 : World) (cb : Nat) (W : World) (C : List Bool) (nv : Value) (N : List Int) : Prop where
  bel : Below w0.heap.size w0 W
  row : Bx W cb 4 (C.map (fun b => Value.bool b)).toArray
  ah : OwnJ W w0.heap.size nv N
  gc : w0.heap.size ≤ cb
theorem RS.below {w0 : World} {cb : Nat} {W W' : World} {C : List Bool} {nv : Value} {N : List Int} (h : RS w0 cb W C nv N) (hb : Below W.heap.size W W') : RS w0 cb W' C nv N :=
  ⟨h.bel.trans (hb.mono h.bel.size), h.row.below hb, h.ah.below hb, h.gc⟩
theorem RS.mark {w0 : World} {cb : Nat} {W : World} {C : List Bool} {nv : Value} {N : List Int} (h : RS w0 cb W C nv N) (k : Nat) : RS w0 cb (W.setCell ⟨cb, k, none⟩ (.bool true)) (C.set k true) nv N ∧ Kp w0.heap.size [4] W (W.setCell ⟨cb, k, none⟩ (.bool true)) := by
  have hk : Kp w0.heap.size [4] W (W.setCell ⟨cb, k, none⟩ (.bool true)) := Kp.set h.row h.gc (by simp) k _
  refine ⟨⟨h.bel.trans hk.bel, h.row.set k _ ?_, own_kp h.ah hk (by decide), h.gc⟩, hk⟩
  show _ = _
  apply Array.ext'
  rw [Array.toList_setIfInBounds]
  simp [List.map_set]
theorem RS.push {w0 : World} {cb : Nat} {W w3 : World} {C : List Bool} {nv v : Value} {N : List Int} {k : Int} {obj : Obj} (h : RS w0 cb W C nv N) (hown : w3.ownsRow w0.heap.size 3 1 v (N.length + 1) (jvals N ++ [.int .i64 k])) (hg : (W.alloc obj).grownBy w3 nv.ownBlock) : RS w0 cb w3 C v (N ++ [k]) := by
  have al : Below W.heap.size W (W.alloc obj) := (Below.refl _ _).alloc (Nat.le_refl _) obj
  have h1 := h.below al
  have k1 : Kp w0.heap.size [3] (W.alloc obj) w3 := Kp.of_grown hg (Nat.le_trans h.bel.size al.size) (own_block h1.ah)
  refine ⟨h1.bel.trans k1.bel, h1.row.kp k1 (by decide), ?_, h.gc⟩
  unfold OwnJ jvals
  rw [List.map_append, List.length_append]
  exact hown
/-- What the document's Reach answers. -/
def ReachIs (T : List Cl) (R : List Rb) (Q : List Int) (B : Nat) (W : World) (e : Ending) : Prop :=
  (e = .returned (.tuple #[.slice none 0 0, .int .i64 141]) ∧ badRR R Q) ∨ (¬ badRR R Q ∧ ∃ v C, e = .returned (.tuple #[v, .int .i64 0]) ∧ MrkR T R Q C ∧ OwnJ W B v (outT C (R.length + 1)))
set_option maxRecDepth 20000 in
set_option maxHeartbeats 8000000 in
theorem refReach_any (B g : Nat) (p : Rp) (qo : Option Addr) (qc : Nat) (Q : List Int) (ao : Option Addr) (cap : Nat) (T : List Cl) (w : World) (H : RpAt B w g p) (hlv : p.lv = .slice ao T.length cap) (hT : TabAt w ao T) (hz : T.length * 48 ≤ 140737488351232) (hm : madeD T = true) (hcl : RpCls T p.R) (hl : p.R.length ≤ 3000000000000) (hQ : JsAt w qo Q) (hQl : Q.length * 8 ≤ 140737488351232) :
    Calls Tryd.prog 27 #[.pointer (some ⟨g, 0, none⟩), .slice qo Q.length qc] w fun e w' => ReachIs T p.R Q w.heap.size w' e ∧ Below w.heap.size w w' := by
  obtain ⟨i0, hi, hz0, hz1, hz2⟩ := info_parts infoJ
  obtain ⟨oa, oc, hov⟩ := H.ovs
  have c2 := H.box.c 2 (v := p.ov) rfl
  rw [hov] at c2
  have HOV := hide hov
  have HH := hide H
  have HTT := hide hT
  have HQ := hide hQ
  obtain ⟨n, HN⟩ : ∃ n, Hid (p.R.length = n) := ⟨_, hide rfl⟩
  have HTH := hide (fun (W : World) (r : Int) (hb : Below w.heap.size w W) => refThere_any B g p r W (H.below hb) (by omega))
  have HLD := hide (fun (W : World) (r : Int) (hb : Below w.heap.size w W) => refLeads_any B g p r ao cap T W (H.below hb) hlv (hT.below hb) hz hm hcl (by omega))
  rw [unhide HN] at c2 hl
  have hQn : Q.length ≤ 17592186043904 := by omega
  have hmk := make_boR (N := n) (by omega) w
  have hbx : Hid (Bx (w.alloc (.cells (Array.replicate (n + 1) (Value.bool false)) 4)) w.heap.size 4 (Array.replicate (n + 1) (Value.bool false))) := hide (heap_alloc_new w _)
  have HI0 : Hid (RIv T p.R Q [] (List.replicate (n + 1) false) []) := hide (by have := RIv.start T p.R Q; rw [unhide HN] at this; exact this)
  have HS0 : Hid (RS w w.heap.size (w.alloc (.cells (Array.replicate (n + 1) (Value.bool false)) 4)) (List.replicate (n + 1) false) (.slice none 0 0) []) := hide ⟨(Below.refl _ _).alloc (Nat.le_refl _) _, by have := unhide hbx; simpa using this, OwnJ.nil _ _, Nat.le_refl _⟩
  clear H hT hQ hlv hz hm hcl hov hbx hQl
  go_enter Tryd.func27, Tryd.ntmps27
  go_upto_region 2 with fail
  clear hmk c2
  generalize w.alloc (.cells (Array.replicate (n + 1) (Value.bool false)) 4) = W1 at HS0 ⊢
  obtain ⟨cb, HCB⟩ : ∃ cb, cb = w.heap.size := ⟨_, rfl⟩
  rw [← HCB] at HS0 ⊢
  clear HCB
  go_wp2_with fail
  go_loopw [7, 8] (fun nv i wr => ∃ (k : Nat) (C : List Bool) (N : List Int), k ≤ Q.length ∧ i = .int .i64 (k : Int) ∧ Hid (RS w cb wr C nv N) ∧ Hid (RIv T p.R Q (Q.take k) C N) ∧ Hid (∀ r ∈ Q.take k, r ≠ 0 → (thrD p.R r).isSome = true)) (fun _ i _ => Q.length - (intOf i).toNat)
  case atStart => exact ⟨0, _, _, by omega, rfl, HS0, HI0, hide (fun r hr => (by simp at hr))⟩
  case round =>
    obtain ⟨k, C, N, hk, rfl, HS, HI, HG⟩ := hrel
    clear HS0 HI0
    obtain ⟨va, vc, rfl, _⟩ := (unhide HS).ah.at
    by_cases hlt : k < Q.length
    · have i1 : ((k : Nat) : Int) < ((Q.length : Nat) : Int) := by omega
      have hx := List.getElem?_eq_getElem hlt
      generalize Q[k] = r at hx
      obtain ⟨b, off, hqo, hc⟩ := (unhide HQ).below (unhide HS).bel k _ hx
      have HQO := hide hqo
      rw [hqo]
      have HX := hide hx
      have HT0 := hide (unhide HTH wr r (unhide HS).bel)
      clear hx hqo
      by_cases h0 : r = 0
      · have t0 : (r == 0) = true := beq_t h0
        have HI2 : Hid (RIv T p.R Q (Q.take (k + 1)) C N) := hide (by rw [take_step (unhide HX)]; exact (unhide HI).root (fun e => absurd h0 e))
        have HG2 : Hid (∀ r ∈ Q.take (k + 1), r ≠ 0 → (thrD p.R r).isSome = true) := hide (by
          rw [take_step (unhide HX)]
          intro y hy h1
          rcases List.mem_append.1 hy with hy | hy
          · exact unhide HG y hy h1
          · rw [List.mem_singleton] at hy; subst hy; exact absurd h0 h1)
        clear h0
        go_wp2
        go_roundw
        case rel => exact ⟨k + 1, C, N, by omega, by go_num, HS, HI2, HG2⟩
        case measure => simp [intOf]; omega
      · have t0 : (r == 0) = false := beq_f h0
        have HR0 := hide h0
        clear h0
        cases hth : (thrD p.R r).isSome with
        | false =>
          rw [hth] at HT0
          have HBAD : Hid (badRR p.R Q) := hide ⟨r, List.mem_of_getElem? (unhide HX), unhide HR0, by cases hh : thrD p.R r with
            | none => rfl
            | some x => rw [hh] at hth; cases hth⟩
          clear hth
          go_wp2_with (go_at_call 36; refine (unhide HT0).mono ?_; rintro e w9 ⟨rfl, hw⟩; rw [hw]; clear hw)
          go_ret2
          exact ⟨Or.inl ⟨rfl, unhide HBAD⟩, (unhide HS).bel⟩
        | true =>
          rw [hth] at HT0
          obtain ⟨hr1, hr2⟩ := thr_range hth
          obtain ⟨m, hm⟩ : ∃ m : Nat, r = (m : Int) := ⟨r.toNat, by omega⟩
          subst hm
          have HTR := hide hth
          have hmn : m < n + 1 := by rw [unhide HN] at hr2; omega
          have hml : m < C.length := by rw [(unhide HI).len, unhide HN]; exact hmn
          have hcm := List.getElem?_eq_getElem hml
          generalize C[m] = bb at hcm
          have HCM := hide hcm
          have ck : wr.cell? ⟨cb, m, none⟩ = some (.bool bb) := (unhide HS).row.c m (by simp [hcm])
          have i2 : ((m : Nat) : Int) < ((n + 1 : Nat) : Int) := by omega
          have HG2 : Hid (∀ r ∈ Q.take (k + 1), r ≠ 0 → (thrD p.R r).isSome = true) := hide (by
            rw [take_step (unhide HX)]
            intro y hy h1
            rcases List.mem_append.1 hy with hy | hy
            · exact unhide HG y hy h1
            · rw [List.mem_singleton] at hy; subst hy; exact unhide HTR)
          have hNl : N.length ≤ n + 1 := by have := (unhide HI).bnd; rw [unhide HN] at this; omega
          clear hth hml hcm hr1 hr2
          cases bb with
          | true =>
            have HI2 : Hid (RIv T p.R Q (Q.take (k + 1)) C N) := hide (by rw [take_step (unhide HX)]; exact (unhide HI).root (fun _ => (unhide HI).cin m (unhide HCM)))
            go_wp2_with (go_at_call 36; refine (unhide HT0).mono ?_; rintro e w9 ⟨rfl, hw⟩; rw [hw]; clear hw)
            go_roundw
            case rel => exact ⟨k + 1, C, N, by omega, by go_num, HS, HI2, HG2⟩
            case measure => simp [intOf]; omega
          | false =>
            have HI2 : Hid (RIv T p.R Q (Q.take (k + 1)) (C.set m true) (N ++ [(m : Int)])) := hide (by
              rw [take_step (unhide HX)]
              have h1 := (unhide HI).mark (unhide HCM) (RchR.root (List.mem_of_getElem? (unhide HX)) (unhide HTR))
              exact h1.root (fun _ => by simp))
            have HS3 := hide ((unhide HS).mark m).1
            have f2 := (unhide HS).row.f m
            go_upto_region 11 with (go_at_call 36; refine (unhide HT0).mono ?_; rintro e w9 ⟨rfl, hw⟩; rw [hw]; clear hw)
            clear ck f2 HS hc HT0
            generalize wr.setCell ⟨cb, m, none⟩ (.bool true) = W3 at HS3 ⊢
            obtain ⟨b', off', hqo', hc⟩ := (unhide HQ).below (unhide HS3).bel k _ (unhide HX)
            rw [unhide HQO] at hqo'
            injection hqo' with hqo'
            injection hqo' with e1 e2
            subst e1 e2
            have HR1 := hide ((unhide HS3).ah.alloc (.cells #[.int .i64 (m : Int)] 3))
            have hws : w.heap.size ≤ W3.heap.size := (unhide HS3).bel.size
            go_wp2_with (at_builtin; refine wpList_append_lies _ rfl _ _ 42 rfl (w.heap.size) 3 i0 (.int .i64 0) 1 8 Tryd.underlying42 hi hz0 hz1 hz2 rfl (by decide) _ N.length (jvals N) rfl (unhide HR1) ⟨W3.heap.size, 0, none⟩ 1 1 [.int .i64 (m : Int)] rfl rfl (cell_one_newJ _ _ _) (by simp [Value.oneCell']) (by omega) ?a3 ?a4 ?a5 (W3.heap.size + 1) ?a6 ?_)
            case a3 => unfold maxLen; omega
            case a4 => omega
            case a5 => exact Nat.le_trans hws (by simp)
            intro g3 cap3 w1 hO1 hG1 _ _
            have HS4 := hide ((unhide HS3).push (obj := .cells #[.int .i64 (m : Int)] 3) hO1 hG1)
            clear hO1 hG1 hc HR1
            go_wp2
            go_roundw
            case rel => exact ⟨k + 1, _, _, by omega, by go_num, HS4, HI2, HG2⟩
            case measure => simp [intOf]; omega
    · obtain rfl : k = Q.length := by omega
      have HNB : Hid (¬ badRR p.R Q) := hide (by
        rintro ⟨r, h1, h2, h3⟩
        have := unhide HG r (by rw [List.take_of_length_le (Nat.le_refl _)]; exact h1) h2
        rw [h3] at this
        cases this)
      rw [List.take_of_length_le (Nat.le_refl _)] at HI
      clear HG
      have hNl : N.length ≤ n + 1 := by have := (unhide HI).bnd; rw [unhide HN] at this; omega
      go_wp2_with fail
      go_loopw [7, 9] (fun nv i wr => ∃ (m : Nat) (C : List Bool) (N : List Int), m ≤ N.length ∧ N.length ≤ n + 1 ∧ i = .int .i64 (m : Int) ∧ Hid (RS w cb wr C nv N) ∧ Hid (RIv T p.R Q Q C N) ∧ Hid (GoneT T p.R N m)) (fun _ i _ => n + 1 - (intOf i).toNat)
      case atStart => exact ⟨0, C, N, by omega, hNl, rfl, HS, HI, hide (fun j x hj => absurd hj (Nat.not_lt_zero _))⟩
      case round =>
        clear HS HI hNl
        obtain ⟨m, C, N, hm, hNn, rfl, HS, HI, HGN⟩ := hrel
        obtain ⟨va2, vc2, rfl, hjn, _⟩ := (unhide HS).ah.at
        by_cases hmt : m < N.length
        · have i1 : ((m : Nat) : Int) < ((N.length : Nat) : Int) := by omega
          have hx := List.getElem?_eq_getElem hmt
          generalize N[m] = x at hx
          obtain ⟨nb, noff, rfl, hcx⟩ := hjn m x hx
          have HX := hide hx
          have HL := hide (unhide HLD wr x (unhide HS).bel)
          have hlow : ∀ k, (Value.slice (some ⟨nb, noff, none⟩) N.length vc2).ownBlock = some k → k < wr.heap.size := fun k hk => ((unhide HS).ah.lt k hk).2
          have HLOW := hide hlow
          clear hx hjn hlow
          go_wp2_with (go_at_call 52; refine (unhide HL).mono ?_; rintro e W4 ⟨lv, rfl, hO, hb4⟩)
          obtain ⟨la, lc, rfl, _⟩ := hO.at
          have HS4 := hide ((unhide HS).below hb4)
          have HDJ : Hid (∀ k, (Value.slice la (leadsR T p.R x).length lc).ownBlock = some k → (Value.slice (some ⟨nb, noff, none⟩) N.length vc2).ownBlock ≠ some k) := hide (fun k hk e => by
            have h1 := (hO.lt k hk).1
            have h2 := unhide HLOW k e
            omega)
          obtain ⟨LL, HLL⟩ : ∃ LL, Hid (leadsR T p.R x = LL) := ⟨_, hide rfl⟩
          have HLO := hide hO
          rw [unhide HLL] at HLO HDJ ⊢
          obtain ⟨wb, HWB⟩ : ∃ wb, Hid (wr.heap.size = wb) := ⟨_, hide rfl⟩
          rw [unhide HWB] at HLO
          have hll := own_lenJ (unhide HLO)
          clear hO hb4 HL hcx HLOW
          go_wp2_with fail
          go_loopw [7, 11] (fun nv i wr => ∃ (j : Nat) (C' : List Bool) (M : List Int), j ≤ LL.length ∧ M.length ≤ n + 1 ∧ i = .int .i64 (j : Int) ∧ Hid (∃ S, M = N ++ S) ∧ Hid (RS w cb wr C' nv M) ∧ Hid (RIv T p.R Q Q C' M) ∧ Hid (∀ v ∈ LL.take j, v ∈ M) ∧ Hid (OwnJ wr wb (.slice la LL.length lc) LL) ∧ Hid (∀ k, (Value.slice la LL.length lc).ownBlock = some k → nv.ownBlock ≠ some k)) (fun _ i _ => LL.length - (intOf i).toNat)
          case atStart => exact ⟨0, C, N, by omega, hNn, rfl, hide ⟨[], (List.append_nil N).symm⟩, HS4, HI, hide (fun v hv => (by simp at hv)), HLO, HDJ⟩
          case round =>
            clear HS4 HLO HDJ HS
            obtain ⟨j, C', M, hj, hSn, rfl, HMN, HS5, HI5, HJ5, HL5, HD5⟩ := hrel
            obtain ⟨va3, vc3, rfl, _⟩ := (unhide HS5).ah.at
            by_cases hjl : j < LL.length
            · have i2 : ((j : Nat) : Int) < ((LL.length : Nat) : Int) := by omega
              have hv := List.getElem?_eq_getElem hjl
              generalize LL[j] = v at hv
              obtain ⟨la', lc', hle, hja, _⟩ := (unhide HL5).at
              obtain rfl : la = la' := by injection hle
              obtain ⟨lb, lo, rfl, hcv⟩ := hja j v hv
              have HV := hide hv
              have hvl : v ∈ leadsR T p.R x := by rw [unhide HLL]; exact List.mem_of_getElem? hv
              obtain ⟨hr1, hr2⟩ := thr_range (leads_there hvl)
              obtain ⟨t, ht⟩ : ∃ t : Nat, v = (t : Int) := ⟨v.toNat, by omega⟩
              subst ht
              have HVL := hide hvl
              have htn : t < n + 1 := by rw [unhide HN] at hr2; omega
              have htl : t < C'.length := by rw [(unhide HI5).len, unhide HN]; exact htn
              have hct := List.getElem?_eq_getElem htl
              generalize C'[t] = bb at hct
              have HCT := hide hct
              have ck : wr.cell? ⟨cb, t, none⟩ = some (.bool bb) := (unhide HS5).row.c t (by simp [hct])
              have i3 : ((t : Nat) : Int) < ((n + 1 : Nat) : Int) := by omega
              clear hv hle hja hvl hr1 hr2 htl hct
              cases bb with
              | true =>
                have HJ6 : Hid (∀ v ∈ LL.take (j + 1), v ∈ M) := hide (by
                  rw [take_step (unhide HV)]
                  intro u hu
                  rcases List.mem_append.1 hu with hu | hu
                  · exact unhide HJ5 u hu
                  · rw [List.mem_singleton] at hu; subst hu; exact (unhide HI5).cin t (unhide HCT))
                go_wp2
                go_roundw
                case rel => exact ⟨j + 1, C', M, by omega, hSn, by go_num, HMN, HS5, HI5, HJ6, HL5, HD5⟩
                case measure => simp [intOf]; omega
              | false =>
                have HMN6 : Hid (∃ S, M ++ [(t : Int)] = N ++ S) := hide (by
                  obtain ⟨S, e⟩ := unhide HMN
                  exact ⟨S ++ [(t : Int)], by rw [e, List.append_assoc]⟩)
                have HI6 : Hid (RIv T p.R Q Q (C'.set t true) (M ++ [(t : Int)])) := hide (by
                  exact (unhide HI5).mark (unhide HCT) (RchR.step ((unhide HI).nin x (List.mem_of_getElem? (unhide HX))).2 (unhide HVL)))
                have HJ6 : Hid (∀ v ∈ LL.take (j + 1), v ∈ M ++ [(t : Int)]) := hide (by
                  rw [take_step (unhide HV)]
                  intro u hu
                  rcases List.mem_append.1 hu with hu | hu
                  · exact List.mem_append.2 (Or.inl (unhide HJ5 u hu))
                  · rw [List.mem_singleton] at hu; subst hu; simp)
                have hSn2 : (M ++ [(t : Int)]).length ≤ n + 1 := by have := (unhide HI6).bnd; rw [unhide HN] at this; omega
                have HS6 := hide ((unhide HS5).mark t).1
                have HL6 := hide (own_kp (unhide HL5) ((unhide HS5).mark t).2 (by decide))
                have f2 := (unhide HS5).row.f t
                go_upto_region 21 with fail
                clear ck f2 HS5 hcv HL5
                generalize wr.setCell ⟨cb, t, none⟩ (.bool true) = W3 at HS6 HL6 ⊢
                obtain ⟨la', lc', hle, hja, _⟩ := OwnJ.at (unhide HL6)
                obtain rfl : some ⟨lb, lo, none⟩ = la' := by injection hle
                obtain ⟨lb', lo', hlab, hcv⟩ := hja j _ (unhide HV)
                injection hlab with hlab
                injection hlab with e1 e2
                subst e1 e2
                have HR1 := hide ((unhide HS6).ah.alloc (.cells #[.int .i64 (t : Int)] 3))
                have hws : w.heap.size ≤ W3.heap.size := (unhide HS6).bel.size
                clear hle hja
                go_wp2_with (at_builtin; refine wpList_append_lies _ rfl _ _ 42 rfl (w.heap.size) 3 i0 (.int .i64 0) 1 8 Tryd.underlying42 hi hz0 hz1 hz2 rfl (by decide) _ M.length (jvals M) rfl (unhide HR1) ⟨W3.heap.size, 0, none⟩ 1 1 [.int .i64 (t : Int)] rfl rfl (cell_one_newJ _ _ _) (by simp [Value.oneCell']) (by omega) ?b3 ?b4 ?b5 (W3.heap.size + 1) ?b6 ?_)
                case b3 => unfold maxLen; omega
                case b4 => omega
                case b5 => exact Nat.le_trans hws (by simp)
                intro g3 cap3 w1 hO1 hG1 hat _
                have HS7 := hide ((unhide HS6).push (obj := .cells #[.int .i64 (t : Int)] 3) hO1 hG1)
                have HL7 := hide (own_grownJ (World.ownsRow.alloc (unhide HL6) (.cells #[.int .i64 (t : Int)] 3)) hG1 (fun k hk e => unhide HD5 k hk e))
                have HD7 : Hid (∀ k, (Value.slice (some ⟨lb, lo, none⟩) LL.length lc).ownBlock = some k → (Value.slice (some ⟨g3, 0, none⟩) (M.length + 1) cap3).ownBlock ≠ some k) := hide (fun k hk e => by
                  have e : g3 = k := by injection e
                  subst e
                  rcases hat with h1 | h1
                  · exact unhide HD5 _ hk h1
                  · have := (World.ownsRow.lt (unhide HL6) _ hk).2
                    omega)
                clear hO1 hG1 hcv HR1 hat
                go_wp2
                go_roundw
                case rel => exact ⟨j + 1, _, M ++ [(t : Int)], by omega, hSn2, by go_num, HMN6, HS7, HI6, HJ6, HL7, HD7⟩
                case measure => simp [intOf]; omega
            · have i2 : ¬ ((j : Nat) : Int) < ((LL.length : Nat) : Int) := by omega
              have HGN2 : Hid (GoneT T p.R M (m + 1)) := hide (by
                obtain ⟨S, e⟩ := unhide HMN
                have h5 := unhide HJ5
                rw [List.take_of_length_le (by omega)] at h5
                rw [e] at h5 ⊢
                exact (unhide HGN).next (unhide HX) (by rw [unhide HLL]; exact h5))
              have hm2 : m + 1 ≤ M.length := by
                obtain ⟨S, e⟩ := unhide HMN
                rw [e, List.length_append]; omega
              go_wp2
              go_roundw
              case rel => exact ⟨m + 1, C', M, hm2, hSn, by go_num, HS5, HI5, HGN2⟩
              case measure => simp [intOf]; omega
        · obtain rfl : m = N.length := by omega
          have HMK := hide ((unhide HI).fin (unhide HGN))
          have HBX := hide (unhide HS).row
          have HBL := hide (unhide HS).bel
          have HCL : Hid (C.length = n + 1) := hide (by rw [(unhide HI).len, unhide HN])
          have hcb := (unhide HS).gc
          clear HS HI HGN hjn
          go_wp2_with fail
          go_loopw [12, 13] (fun ov i wr => ∃ (k : Nat) (X : List Int), 1 ≤ k ∧ k ≤ n + 1 ∧ i = .int .i64 (k : Int) ∧ X.length ≤ k ∧ Hid (X = outT C k) ∧ Hid (OwnJ wr w.heap.size ov X) ∧ Hid (Bx wr cb 4 (C.map (fun b => Value.bool b)).toArray) ∧ Hid (Below w.heap.size w wr)) (fun _ i _ => n + 1 - (intOf i).toNat)
          case atStart => exact ⟨1, [], by omega, by omega, rfl, by simp, hide (outT_one C).symm, hide (OwnJ.nil _ _), HBX, HBL⟩
          case round =>
            clear HBX HBL
            obtain ⟨k, X, hk1, hk, rfl, hXl, HXE, HO, HBX, HBL⟩ := hrel
            obtain ⟨xa, xc, rfl, _⟩ := (unhide HO).at
            by_cases hkl : k < n + 1
            · have i2 : ((k : Nat) : Int) < ((n + 1 : Nat) : Int) := by omega
              have hcl : k < C.length := by rw [unhide HCL]; exact hkl
              have hck := List.getElem?_eq_getElem hcl
              generalize C[k] = bb at hck
              have ck : wr.cell? ⟨cb, k, none⟩ = some (.bool bb) := (unhide HBX).c k (by simp [hck])
              have HST := hide (outT_step hk1 hck)
              clear hck hcl
              cases bb with
              | false =>
                have HX1 : Hid (X = outT C (k + 1)) := hide (by rw [unhide HST, ← unhide HXE]; simp)
                go_wp2
                go_roundw
                case rel => exact ⟨k + 1, X, by omega, by omega, by go_num, by omega, HX1, HO, HBX, HBL⟩
                case measure => simp [intOf]; omega
              | true =>
                have HX1 : Hid (X ++ [(k : Int)] = outT C (k + 1)) := hide (by rw [unhide HST, ← unhide HXE]; simp)
                have HR1 := hide ((unhide HO).alloc (.cells #[.int .i64 (k : Int)] 3))
                have hws : w.heap.size ≤ wr.heap.size := (unhide HBL).size
                go_wp2_with (at_builtin; refine wpList_append_own _ rfl _ _ 42 rfl (w.heap.size) 3 i0 (.int .i64 0) 1 8 Tryd.underlying42 hi hz0 hz1 hz2 rfl (by decide) _ X.length (jvals X) rfl (unhide HR1) ⟨wr.heap.size, 0, none⟩ 1 1 [.int .i64 (k : Int)] rfl rfl (cell_one_newJ _ _ _) (by simp [Value.oneCell']) ?c3 ?c4 ?c5 ?_)
                case c3 => unfold maxLen; omega
                case c4 => omega
                case c5 => exact Nat.le_trans hws (by simp)
                intro v1 w1 hO1 hG1 _
                have al : Below wr.heap.size wr (wr.alloc (.cells #[.int .i64 (k : Int)] 3)) := (Below.refl _ _).alloc (Nat.le_refl _) _
                have hkp : Kp w.heap.size [3] (wr.alloc (.cells #[.int .i64 (k : Int)] 3)) w1 := Kp.of_grown hG1 (Nat.le_trans hws al.size) (own_block (unhide HR1))
                have HO2 : Hid (OwnJ w1 w.heap.size v1 (X ++ [(k : Int)])) := hide (by unfold OwnJ jvals; rw [List.map_append, List.length_append]; exact hO1)
                have HBX2 := hide (((unhide HBX).below al).kp hkp (by decide))
                have HBL2 := hide (((unhide HBL).trans (al.mono hws)).trans hkp.bel)
                have hx1 : (X ++ [(k : Int)]).length ≤ k + 1 := by simp; omega
                clear hO1 hG1 al hkp HR1
                go_wp2
                go_roundw
                case rel => exact ⟨k + 1, X ++ [(k : Int)], by omega, by omega, by go_num, hx1, HX1, HO2, HBX2, HBL2⟩
                case measure => simp [intOf]; omega
            · obtain rfl : k = n + 1 := by omega
              have i2 : ¬ (((n + 1 : Nat) : Nat) : Int) < ((n + 1 : Nat) : Int) := by omega
              go_wp2
              go_ret2
              exact ⟨Or.inr ⟨unhide HNB, _, C, rfl, unhide HMK, by rw [unhide HN, ← unhide HXE]; exact unhide HO⟩, unhide HBL⟩
end Go.Proofs.YtbbfnampjbdnbaaDoor
