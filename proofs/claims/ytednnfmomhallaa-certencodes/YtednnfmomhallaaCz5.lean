/-
  Copies of certificates: slices.Clone of entries, the law's own 'copied'; and the reference's Same of two that say the same. Conditions: the entries lie there; lengths fit.
-/
import Derived.Test.YtednnfmomhallaaCz3
import Derived.Test.YtednnfmomhallaaCe5
namespace Go.Proofs.Ytednnfmomhallaa
open Go.RowKit

set_option maxRecDepth 20000 in
set_option maxHeartbeats 4000000 in
theorem SameE_at (l : Int) (oa pa : Option Addr) (oc pc : Nat) (es : List En) (w : World) (h1 : EsAt w oa es) (h2 : EsAt w pa es) (ho : EsOk es) (hl : es.length ≤ 4398046511104) :
    Calls Try.prog 11 #[.agg #[.int .i64 l, .slice oa es.length oc], .agg #[.int .i64 l, .slice pa es.length pc]] w fun e w' => e = .returned (.bool true) ∧ Below w.heap.size w w' := by
  have al := ((Below.refl w.heap.size w).alloc (Nat.le_refl _) (.cells #[.int .i64 l, .slice oa es.length oc] 24)).alloc (by simp) (.cells #[.int .i64 l, .slice pa es.length pc] 24)
  have HB := hide al
  have HO1 := hide (h1.below rfl al)
  have HO2 := hide (h2.below rfl al)
  have n1 := heap_alloc_new w (.cells #[.int .i64 l, .slice oa es.length oc] 24)
  have n2 := heap_alloc_new (w.alloc (.cells #[.int .i64 l, .slice oa es.length oc] 24)) (.cells #[.int .i64 l, .slice pa es.length pc] 24)
  rw [World.size_alloc] at n2
  have HC1 : Hid (CAt ((w.alloc (.cells #[.int .i64 l, .slice oa es.length oc] 24)).alloc (.cells #[.int .i64 l, .slice pa es.length pc] 24)) w.heap.size l (.slice oa es.length oc)) := hide ((((Below.refl _ _).alloc (Nat.le_refl _) _).block w.heap.size (by simp)).trans n1)
  have HC2 : Hid (CAt ((w.alloc (.cells #[.int .i64 l, .slice oa es.length oc] 24)).alloc (.cells #[.int .i64 l, .slice pa es.length pc] 24)) (w.heap.size + 1) l (.slice pa es.length pc)) := hide n2
  clear al h1 h2 n1 n2
  go_enter Try.func11, Try.ntmps11
  go_wp2_with fail
  generalize ((w.alloc (.cells #[.int .i64 l, .slice oa es.length oc] 24)).alloc (.cells #[.int .i64 l, .slice pa es.length pc] 24)) = W1 at HB HO1 HO2 HC1 HC2 ⊢
  go_loopw [5] (fun i wr => ∃ k d : Nat, k ≤ es.length ∧ i = .int .i64 (k : Int) ∧ wr = W1.drewN d) (fun i _ => es.length - (intOf i).toNat)
  case atStart => exact ⟨0, 0, by omega, rfl, rfl⟩
  case round =>
    obtain ⟨k, d, hk, rfl, hw⟩ := hrel
    have D1 : Hid (CAt wr w.heap.size l (.slice oa es.length oc)) := hide (by rw [hw]; exact unhide HC1)
    have D2 : Hid (CAt wr (w.heap.size + 1) l (.slice pa es.length pc)) := hide (by rw [hw]; exact unhide HC2)
    have R1 : Hid (EsAt wr oa es) := hide (by rw [hw]; exact unhide HO1)
    have R2 : Hid (EsAt wr pa es) := hide (by rw [hw]; exact unhide HO2)
    have BW : Hid (Below w.heap.size w wr) := hide (by rw [hw]; exact belowD (unhide HB) _)
    have HW := hide hw
    clear hw
    have c1 := (unhide D1).c1
    by_cases hkl : k < es.length
    · have j1 : ((k : Nat) : Int) < ((es.length : Nat) : Int) := by omega
      obtain ⟨x, hx⟩ : ∃ x, es[k]? = some x := ⟨_, List.getElem?_eq_getElem hkl⟩
      have hxo : FrOk x.fr := ho x (List.mem_of_getElem? hx)
      obtain ⟨g, f1, rfl, hrg⟩ := (unhide R1) k x hx
      obtain ⟨g2, f2, rfl, hrg2⟩ := (unhide R2) k x hx
      have hll := enL_len hxo
      have HS : Hid (CAt wr.drew w.heap.size l (.slice (some ⟨g, f1, none⟩) es.length oc) ∧ CAt wr.drew (w.heap.size + 1) l (.slice (some ⟨g2, f2, none⟩) es.length pc) ∧ wr.drew.rangeAt g (f1 + k * 28) (enL x) ∧ wr.drew.rangeAt g2 (f2 + k * 28) (enL x)) := hide ⟨unhide D1, unhide D2, (World.rangeAt_drew _ _ _ _).2 hrg, (World.rangeAt_drew _ _ _ _).2 hrg2⟩
      have hq := fun W => run_neqEn W hxo hxo
      rw [enEq_refl] at hq
      clear hrg hrg2 hx D1 D2 R1 R2
      go_upto_region 6 with fail
      refine wp_region_held_drew (S := fun w' => CAt w' w.heap.size l (.slice (some ⟨g, f1, none⟩) es.length oc) ∧ CAt w' (w.heap.size + 1) l (.slice (some ⟨g2, f2, none⟩) es.length pc) ∧ w'.rangeAt g (f1 + k * 28) (enL x) ∧ w'.rangeAt g2 (f2 + k * 28) (enL x)) (by kernel_rfl) (unhide HS) (fun hS => ?_)
      have HW2 : Hid (wr.drew = W1.drewN (d + 1)) := hide (by rw [unhide HW]; rfl)
      generalize wr.drew = V at hS HW2 ⊢
      clear HS HW c1 BW
      refine wpAnyH_take (i := 0) (v := .pointer (some ⟨w.heap.size, 1, none⟩)) rfl (by kernel_rfl) (by kernel_rfl) (by kernel_rfl) (fun _ _ _ h => h) (Or.inl ⟨by rfl, fun w _ => by go_simp⟩) hS ?_
      refine wpAnyH_take (i := 1) (v := .slice (some ⟨g, f1, none⟩) es.length oc) rfl (by kernel_rfl) (by kernel_rfl) (by kernel_rfl) (fun _ _ _ h => h) (Or.inl ⟨by rfl, fun w hS => by have h0 := hS.1.c1; go_simp⟩) hS ?_
      refine wpAnyH_take (i := 2) (v := .int .i64 (k : Int)) rfl (by kernel_rfl) (by kernel_rfl) (by kernel_rfl) (fun _ _ _ h => h) (Or.inl ⟨by rfl, fun w _ => by go_simp⟩) hS ?_
      refine wpAnyH_take (i := 3) (v := .pointer (some ⟨g, f1 + k * 28, none⟩)) rfl (by kernel_rfl) (by kernel_rfl) (by kernel_rfl) (fun _ _ _ h => h) (Or.inl ⟨by rfl, fun w _ => by go_simp⟩) hS ?_
      refine wpAnyH_take (i := 4) (v := .agg (enA x)) rfl (by kernel_rfl) (by kernel_rfl) (by kernel_rfl) (fun _ _ _ h => h) (yieldsIf_load_mid (by rfl) 42 _ rfl g (f1 + k * 28) rfl (enL x) _ (fun _ h => h.2.2.1) Try.underlying42 rfl (by rw [hll]; kernel_rfl)) hS ?_
      refine wpAnyH_take (i := 5) (v := .pointer (some ⟨w.heap.size + 1, 1, none⟩)) rfl (by kernel_rfl) (by kernel_rfl) (by kernel_rfl) (fun _ _ _ h => h) (Or.inl ⟨by rfl, fun w _ => by go_simp⟩) hS ?_
      go_simp
      refine wpAnyH_take (i := 6) (v := .slice (some ⟨g2, f2, none⟩) es.length pc) rfl (by kernel_rfl) (by kernel_rfl) (by kernel_rfl) (fun _ _ _ h => h) (Or.inl ⟨by rfl, fun w hS => by have h0 := hS.2.1.c1; go_simp⟩) hS ?_
      refine wpAnyH_take (i := 7) (v := .int .i64 (k : Int)) rfl (by kernel_rfl) (by kernel_rfl) (by kernel_rfl) (fun _ _ _ h => h) (Or.inl ⟨by rfl, fun w _ => by go_simp⟩) hS ?_
      refine wpAnyH_take (i := 8) (v := .pointer (some ⟨g2, f2 + k * 28, none⟩)) rfl (by kernel_rfl) (by kernel_rfl) (by kernel_rfl) (fun _ _ _ h => h) (Or.inl ⟨by rfl, fun w _ => by go_simp⟩) hS ?_
      refine wpAnyH_take (i := 9) (v := .agg (enA x)) rfl (by kernel_rfl) (by kernel_rfl) (by kernel_rfl) (fun _ _ _ h => h) (yieldsIf_load_mid (by rfl) 42 _ rfl g2 (f2 + k * 28) rfl (enL x) _ (fun _ h => h.2.2.2) Try.underlying42 rfl (by rw [hll]; kernel_rfl)) hS ?_
      refine wpAnyH_take (i := 10) (v := .bool false) rfl (by kernel_rfl) (by kernel_rfl) (by kernel_rfl) (fun _ _ _ h => h) (Or.inl ⟨by rfl, fun w _ => by have := hq w; go_simp⟩) hS ?_
      refine wpAnyH_done (by kernel_rfl) ?_ _
      clear hS hq hll
      go_wp2
      go_roundw
      case rel => exact ⟨k + 1, d + 1, by omega, by go_num, unhide HW2⟩
      case measure => simp [intOf]; omega
    · obtain rfl : k = es.length := by omega
      go_wp2
      go_ret
      exact ⟨rfl, unhide BW⟩

theorem evals_at {w : World} {b off : Nat} {es : List En} (ho : EsOk es) (h : ∀ (i : Nat) x, es[i]? = some x → w.rangeAt b (off + i * 28) (enL x)) (j : Nat) (u : Value) (hu : (evals es)[j]? = some u) : w.cell? ⟨b, off + j, none⟩ = some u := by
  have hj := (List.getElem?_eq_some_iff.1 hu).1
  rw [evals_length ho] at hj
  have hi : j / 28 < es.length := Nat.div_lt_of_lt_mul (by omega)
  have hx := List.getElem?_eq_getElem hi
  have h1 := evals_get ho hx (j % 28) (Nat.mod_lt _ (by omega))
  have e : j / 28 * 28 + j % 28 = j := Nat.div_add_mod' j 28
  rw [e, hu] at h1
  have := h (j / 28) _ hx (j % 28) u h1.symm
  rwa [Nat.add_assoc, e] at this

set_option maxRecDepth 20000 in
set_option maxHeartbeats 1000000 in
theorem CloneE_any (ao : Option Addr) (c : Nat) (es : List En) (w : World) (hl : EsAt w ao es) (ho : EsOk es) (hn : ao = none → es = []) (hb : es.length * 56 ≤ 140737488355328) :
    Calls Try.prog 18 #[.slice ao es.length c] w fun e w' => ∃ v, e = .returned v ∧ OwnE w' w.heap.size v es ∧ Below w.heap.size w w' := by
  have q22 : ∀ (w : World) (a : Option Addr) (n c n' c' : Nat), (binOp .eql 22 (.slice a n c) (.slice none n' c')).run Try.prog w = .ok (.bool a.isNone) w := fun w a n c n' c' => Lib.run_eql_slice_nil w _ _ a n c n' c' Try.underlying22
  obtain ⟨i0, hi, hz0, hz1, hz2⟩ := info_parts infoE
  cases ao with
  | none =>
    have hl0 := hn rfl
    subst hl0
    go_enter Try.func18, Try.ntmps18
    go_wp2
    go_ret
    exact ⟨_, rfl, World.ownsRow_nil _ _ _ _, Below.refl _ _⟩
  | some x =>
    go_enter Try.func18, Try.ntmps18
    go_wp2_with (at_builtin; refine wpList_append_own _ rfl _ _ 22 rfl w.heap.size 42 i0 (.agg #[.int .i64 0, .bool false, .int .i64 0, .int .i64 0, .int .u8 0, .int .u8 0, .int .u8 0, .int .u8 0, .int .u8 0, .int .u8 0, .int .u8 0, .int .u8 0, .int .u8 0, .int .u8 0, .int .u8 0, .int .u8 0, .int .u8 0, .int .u8 0, .int .u8 0, .int .u8 0, .int .u8 0, .int .u8 0, .int .u8 0, .int .u8 0, .int .u8 0, .int .u8 0, .int .u8 0, .int .u8 0]) 28 56 Try.underlying22 hi hz0 hz1 hz2 rfl (by decide) _ 0 [] rfl (World.ownsRow_made w #[] 0 (Nat.le_refl _) (by decide) rfl) x es.length c (evals es) rfl ?c0 ?c1 ?c2 ?c3 ?c4 ?c5 ?_)
    case c0 => rw [evals_length ho]
    case c1 =>
      intro j u hj
      have hjl := (List.getElem?_eq_some_iff.1 hj).1
      rw [evals_length ho] at hjl
      obtain ⟨b, off, e, _⟩ := hl 0 _ (List.getElem?_eq_getElem (by omega))
      injection e with e
      subst e
      have hcell := evals_at ho (fun i f hf => by
        obtain ⟨b', off', e', h'⟩ := hl i f hf
        injection e' with e'
        injection e' with e1 e2
        subst e1 e2
        exact h') j u hj
      have hlt := World.block_lt_of_cell? w _ hcell
      rw [Addr.add_lit]
      exact (((Below.refl w.heap.size w).alloc (Nat.le_refl _) _).cell (p := ⟨b, off + j, none⟩) hlt).trans hcell
    case c2 => exact evals_one es
    case c3 => unfold maxLen; omega
    case c4 => omega
    case c5 => simp
    · intro v' w1 hown hgrow _
      have HX : Hid (OwnE w1 w.heap.size v' es) := hide hown
      have HB : Hid (Below w.heap.size w w1) := hide (((Below.refl w.heap.size w).alloc (Nat.le_refl _) _).trans (below_grown hgrow (by simp) (fun k e => by simp [Value.ownBlock] at e; omega)))
      clear hown hgrow hl
      go_wp2
      go_ret
      exact ⟨_, rfl, unhide HX, unhide HB⟩

theorem results_c1 {fn : Func} {p : Tmp} (h : fn.results = #[.cell p 24]) (tmps : Array Value) (W : World) (g : Nat) (l : Int) (s : Value) (hp : tmps.getD p undef = .pointer (some ⟨g, 0, none⟩)) (hg : CAt W g l s) :
    (results fn tmps).run Try.prog W = .ok (.agg #[.int .i64 l, s]) W := by
  rw [results_cell1 h, hp, run_addr, Result.andThen_ok, run_loadC hg]
set_option maxRecDepth 20000 in
set_option maxHeartbeats 1000000 in
theorem copiedC_any (lo : Int) (ao : Option Addr) (c : Nat) (es : List En) (w : World) (hl : EsAt w ao es) (ho : EsOk es) (hn : ao = none → es = []) (hb : es.length * 56 ≤ 140737488355328) :
    Calls Try.prog 8 #[.agg #[.int .i64 lo, .slice ao es.length c]] w fun e w' => ∃ v, e = .returned (.agg #[.int .i64 lo, v]) ∧ OwnE w' w.heap.size v es ∧ Below w.heap.size w w' := by
  have al1 := (Below.refl w.heap.size w).alloc (Nat.le_refl _) (.cells #[.int .i64 lo, .slice ao es.length c] 24)
  have al := al1.alloc (by simp) (.cells #[.int .i64 0, .slice none 0 0] 24)
  have HB := hide al
  have n1 := heap_alloc_new w (.cells #[.int .i64 lo, .slice ao es.length c] 24)
  have n2 := heap_alloc_new (w.alloc (.cells #[.int .i64 lo, .slice ao es.length c] 24)) (.cells #[.int .i64 0, .slice none 0 0] 24)
  rw [World.size_alloc] at n2
  have HC1 : Hid (CAt ((w.alloc (.cells #[.int .i64 lo, .slice ao es.length c] 24)).alloc (.cells #[.int .i64 0, .slice none 0 0] 24)) w.heap.size lo (.slice ao es.length c)) := hide ((((Below.refl _ _).alloc (Nat.le_refl _) _).block w.heap.size (by simp)).trans n1)
  have HC2 : Hid (CAt ((w.alloc (.cells #[.int .i64 lo, .slice ao es.length c] 24)).alloc (.cells #[.int .i64 0, .slice none 0 0] 24)) (w.heap.size + 1) 0 (.slice none 0 0)) := hide n2
  have HCl := hide (CloneE_any ao c es _ (hl.below rfl al) ho hn hb)
  have hsz : ((w.alloc (.cells #[.int .i64 lo, .slice ao es.length c] 24)).alloc (.cells #[.int .i64 0, .slice none 0 0] 24)).heap.size = w.heap.size + 2 := by simp
  clear al1 al n1 n2 hl
  go_enter Try.func8, Try.ntmps8
  go_upto_region 1 with fail
  generalize ((w.alloc (.cells #[.int .i64 lo, .slice ao es.length c] 24)).alloc (.cells #[.int .i64 0, .slice none 0 0] 24)) = W1 at HB HC1 HC2 HCl hsz ⊢
  have k1 := (unhide HC1).c1
  go_wp2_with fail
  refine (unhide HCl).mono ?_
  rintro e W2 ⟨v, rfl, hO, hB2⟩
  obtain ⟨va, vc, rfl⟩ := hO.slice
  have HD1 : Hid (CAt W2 w.heap.size lo (.slice ao es.length c)) := hide ((hB2.block _ (by omega)).trans (unhide HC1))
  have HD2 : Hid (CAt W2 (w.heap.size + 1) 0 (.slice none 0 0)) := hide ((hB2.block _ (by omega)).trans (unhide HC2))
  have HB2 := hide ((unhide HB).trans (hB2.mono (unhide HB).size))
  have HO := hide hO
  have k2 := (unhide HD1).c1
  have k3 := (unhide HD1).f 1
  have HD3 := hide ((unhide HD1).set1 (.slice va es.length vc))
  clear hO hB2 k1 HC1 HC2
  go_upto_region 2 with fail
  have HB3 : Hid (Below w.heap.size w (W2.setCell ⟨w.heap.size, 1, none⟩ (.slice va es.length vc))) := hide ((unhide HB2).setCell (p := ⟨w.heap.size, 1, none⟩) (Nat.le_refl _) (.slice va es.length vc))
  have HD4 : Hid (CAt (W2.setCell ⟨w.heap.size, 1, none⟩ (.slice va es.length vc)) (w.heap.size + 1) 0 (.slice none 0 0)) := hide ((Below.heap_setCell W2 ⟨w.heap.size, 1, none⟩ (.slice va es.length vc) (w.heap.size + 1) (by simp)).trans (unhide HD2))
  have HO3 : Hid (OwnE (W2.setCell ⟨w.heap.size, 1, none⟩ (.slice va es.length vc)) W1.heap.size (.slice va es.length vc) es) := hide (rows_grown (unhide HO) (grown_setCell W2 w.heap.size 1 (.slice va es.length vc)) (fun g e e2 => by have := ((unhide HO).lt g e).1; injection e2 with e2; omega))
  generalize W2.setCell ⟨w.heap.size, 1, none⟩ (.slice va es.length vc) = W3 at HB3 HD3 HD4 HO3 ⊢
  have HD5 : Hid (CAt (W3.setRow (w.heap.size + 1) #[.int .i64 lo, .slice va es.length vc]) (w.heap.size + 1) lo (.slice va es.length vc)) := hide (setRow_heap _ _ _ _ _ _ (unhide HD4))
  have HO5 : Hid (OwnE (W3.setRow (w.heap.size + 1) #[.int .i64 lo, .slice va es.length vc]) W1.heap.size (.slice va es.length vc) es) := hide ((unhide HO3).rowBelow (by omega) _)
  go_wp2_with (first | (refine wpList_load_rowG (by kernel_rfl) 24 (.tmp 1) rfl w.heap.size rfl 24 #[.int .i64 lo, .slice va es.length vc] (0, 0) _ (unhide HD3) Try.underlying24 rfl (by kernel_rfl) ?_) | (refine wpList_store_row rfl 24 (.tmp 2) (.tmp 7) rfl (w.heap.size + 1) #[.int .i64 lo, .slice va es.length vc] rfl rfl 24 #[.int .i64 0, .slice none 0 0] (unhide HD4) (by kernel_rfl) rfl (by simp [Value.oneCell']) ?_))
  refine bodyPost_ret (results_c1 rfl _ _ (w.heap.size + 1) lo (.slice va es.length vc) rfl (unhide HD5)) rfl ⟨_, rfl, OwnE.mono (unhide HO5) (by omega), below_setRow' (unhide HB3) (by omega) _⟩
end Go.Proofs.Ytednnfmomhallaa
