/-
  flow.leading: where blocks begin.
-/
import Derived.Test.YtdpfinnclnapbaaDoorBk1
namespace Go.Proofs.YtdpfinnclnapbaaDoor
open Go.RowKit Go.Maps
set_option maxRecDepth 20000

/-- Does a block begin with an instruction? -/
def ldB (l : List Ix) (i : Nat) : Bool := match l[i]? with
  | none => false
  | some x => decide (x.p ∈ tgs l) || decide (i = 0) || (match l[i - 1]? with | some y => prtD y.op | none => false)
def ldN (l : List Ix) (k : Nat) : List Nat := (List.range k).filter (ldB l)
def jn (q : List Nat) : List Int := q.map (fun n => Int.ofNat n)
theorem ldN_yes {l : List Ix} {k : Nat} (h : ldB l k = true) : ldN l (k + 1) = ldN l k ++ [k] := by
  unfold ldN
  rw [List.range_succ, List.filter_append]
  simp [h]
theorem ldN_no {l : List Ix} {k : Nat} (h : ldB l k = false) : ldN l (k + 1) = ldN l k := by
  unfold ldN
  rw [List.range_succ, List.filter_append]
  simp [h]
theorem ldN_len (l : List Ix) (k : Nat) : (ldN l k).length ≤ k := by
  unfold ldN
  have := List.length_filter_le (ldB l) (List.range k)
  simpa using this

theorem ownJ_mono {w : World} {b b' : Nat} {v : Value} {l : List Int} (h : OwnJ w b v l) (hb : b' ≤ b) : OwnJ w b' v l := by
  rcases h with ⟨h1, h2 | ⟨g, cap, cur, a, h3, rest⟩⟩
  · exact ⟨h1, .inl h2⟩
  · exact ⟨h1, .inr ⟨g, cap, cur, a, Nat.le_trans hb h3, rest⟩⟩
set_option maxRecDepth 20000 in
set_option maxHeartbeats 4000000 in
theorem leading_any (ao : Option Addr) (c : Nat) (l : List Ix) (w : World) (hx : XsAt w ao l) (hz : l.length ≤ 4400000000000) (hbd : ∀ x ∈ l, (-9223372036854775808 ≤ x.a ∧ x.a ≤ 9223372036854775807) ∧ (-9223372036854775808 ≤ x.p ∧ x.p ≤ 9223372036854775807)) :
    Calls Tryd.prog 27 #[.slice ao l.length c] w fun e w' => ∃ v, e = .returned v ∧ OwnJ w' w.heap.size v (jn (ldN l l.length)) ∧ Below w.heap.size w w' := by
  obtain ⟨i0, hi, hz0, hz1, hz2⟩ := info_parts infoJ
  have HT := hide (targets_any ao c l w hx hz (fun x h => (hbd x h).1))
  have HX := hide hx
  have HBD := hide hbd
  clear hx hbd
  go_enter Tryd.func27, Tryd.ntmps27
  go_upto_region 2 with (go_at_call 40; refine (unhide HT).mono ?_; rintro e w2 ⟨rfl, hS, hB⟩)
  have HS := hide hS
  have HB := hide hB
  have HX2 := hide ((unhide HX).below hB)
  clear hS hB HT HX
  go_wp2
  go_loopw [4, 13] (fun v i wr => ∃ (k : Nat), k ≤ l.length ∧ i = .int .i64 (k : Int) ∧ Hid (OwnJ wr w2.heap.size v (jn (ldN l k))) ∧ Hid (Below w2.heap.size w2 wr)) (fun _ i _ => l.length - (intOf i).toNat)
  case atStart => exact ⟨0, by omega, rfl, hide (OwnJ.nil _ _), hide (Below.refl _ _)⟩
  case round =>
    obtain ⟨k, hk, rfl, HO, HR⟩ := hrel
    by_cases hlt : k < l.length
    · have j1 : ((k : Nat) : Int) < ((l.length : Nat) : Int) := by omega
      have hx := List.getElem?_eq_getElem hlt
      have hwf := wf_of (unhide HBD _ (List.getElem_mem hlt)).2
      obtain ⟨b, off, rfl, hxa⟩ := (unhide HX2).below (unhide HR) k _ hx
      have HXX := hide hx
      generalize l[k] = x at hxa HXX hwf
      obtain ⟨c0, c1, c2, c3, ho⟩ := hxa
      have hal : Below wr.heap.size wr (wr.alloc (.cells #[.int .i64 x.p, .int .u8 (x.op : Int), .int .i64 x.a, .int .i64 x.b] 31)) := (Below.refl _ _).alloc (Nat.le_refl _) _
      have I1 : Hid (IAt (wr.alloc (.cells #[.int .i64 x.p, .int .u8 (x.op : Int), .int .i64 x.a, .int .i64 x.b] 31)) wr.heap.size x.p x.op x.a x.b) := hide (heap_alloc_new wr _)
      have HB4 := hide ((unhide HR).trans (hal.mono (unhide HR).size))
      have HO4 := hide ((unhide HO).below hal)
      clear hx hal
      go_upto_region 6 with fail
      generalize (wr.alloc (.cells #[.int .i64 x.p, .int .u8 (x.op : Int), .int .i64 x.a, .int .i64 x.b] 31)) = w4 at I1 HB4 HO4 ⊢
      generalize wr.heap.size = gi at I1 ⊢
      have HS4 : Hid (SetAt w4 w.heap.size l.length (tgs l)) := hide (World.ownsMap.kept (unhide HS) (grownX (unhide HB4)) (fun e => by cases e))
      clear c0 c1 c2 c3 HO HR
      have d0 := (unhide I1).c0
      go_upto_region 7 with (at_lookup; go_loud (refine wpList_lookup_own_unit _ rfl _ _ 65 rfl 3 68 lawK Tryd.underlying65 (zeroU _) w.heap.size l.length _ rfl (unhide HS4) _ _ rfl (keyOf_int_mk Tryd.underlying3 hwf) ?_))
      rw [has_setD]
      have hal5 : Below w4.heap.size w4 (w4.alloc (.cells #[] 68)) := (Below.refl _ _).alloc (Nat.le_refl _) _
      have HO5 := hide ((unhide HO4).below hal5)
      have HB5 := hide ((unhide HB4).trans (hal5.mono (unhide HB4).size))
      clear hal5 HS4 HO4 HB4 d0 I1
      generalize w4.heap.size = gz
      generalize (w4.alloc (.cells #[] 68)) = w5 at HO5 HB5 ⊢
      have HLN := hide (Nat.le_trans (ldN_len l k) hk)
      by_cases hin : x.p ∈ tgs l
      · rw [decide_eq_true hin]
        have HLD : Hid (ldB l k = true) := hide (by unfold ldB; rw [unhide HXX]; simp only; rw [decide_eq_true hin]; rfl)
        have HO7 : Hid (OwnJ (w5.alloc (.cells #[.int .i64 ((k : Nat) : Int)] 3)) w2.heap.size u4 (jn (ldN l k))) := hide ((unhide HO5).below ((Below.refl _ _).alloc (Nat.le_refl _) _))
        rw [show OwnJ (w5.alloc (.cells #[.int .i64 ((k : Nat) : Int)] 3)) w2.heap.size u4 (jn (ldN l k)) = (w5.alloc (.cells #[.int .i64 ((k : Nat) : Int)] 3)).ownsRow w2.heap.size 3 1 u4 (ldN l k).length (jvals (jn (ldN l k))) from by unfold OwnJ jn; rw [List.length_map]] at HO7
        clear hin
        go_wp2_with (at_builtin; refine wpList_append_own _ rfl _ _ 32 rfl (w2.heap.size) 3 i0 (.int .i64 0) 1 8 Tryd.underlying32 hi hz0 hz1 hz2 rfl (by decide) _ (ldN l k).length (jvals (jn (ldN l k))) rfl (unhide HO7) ⟨w5.heap.size, 0, none⟩ 1 1 [.int .i64 ((k : Nat) : Int)] rfl rfl (cell_one_newJ _ _ _) (by simp [Value.oneCell']) ?a3 ?a4 ?a5 ?_)
        case a3 => have := unhide HLN; unfold maxLen; omega
        case a4 => have := unhide HLN; omega
        case a5 => rw [World.size_alloc]; have := (unhide HB5).size; omega
        intro v8 w8 hO8 hG8 _
        have HO8 : Hid (OwnJ w8 w2.heap.size v8 (jn (ldN l (k + 1)))) := hide (by
          rw [ldN_yes (unhide HLD)]
          unfold OwnJ jn jvals at *
          simp only [List.length_map, List.length_append, List.map_append] at hO8 ⊢
          exact hO8)
        have HB8 := hide (((unhide HB5).alloc (unhide HB5).size (.cells #[.int .i64 ((k : Nat) : Int)] 3)).grown hG8 (by rw [World.size_alloc]; have := (unhide HB5).size; omega) (fun q e => (World.ownsRow.lt (unhide HO7) q e).1))
        clear hO8 hG8
        go_wp2
        go_roundw
        case rel => exact ⟨k + 1, by omega, by go_num, HO8, HB8⟩
        case measure => simp [intOf]; omega
      · rw [decide_eq_false hin]
        by_cases hk0 : k = 0
        · have HLD : Hid (ldB l k = true) := hide (by unfold ldB; rw [unhide HXX]; simp only; rw [decide_eq_true hk0]; simp)
          have b0 : (((k : Nat) : Int) == 0) = true := by simp; omega
          have HO7 : Hid (OwnJ (w5.alloc (.cells #[.int .i64 ((k : Nat) : Int)] 3)) w2.heap.size u4 (jn (ldN l k))) := hide ((unhide HO5).below ((Below.refl _ _).alloc (Nat.le_refl _) _))
          rw [show OwnJ (w5.alloc (.cells #[.int .i64 ((k : Nat) : Int)] 3)) w2.heap.size u4 (jn (ldN l k)) = (w5.alloc (.cells #[.int .i64 ((k : Nat) : Int)] 3)).ownsRow w2.heap.size 3 1 u4 (ldN l k).length (jvals (jn (ldN l k))) from by unfold OwnJ jn; rw [List.length_map]] at HO7
          clear hin hk0
          go_wp2_with (at_builtin; refine wpList_append_own _ rfl _ _ 32 rfl (w2.heap.size) 3 i0 (.int .i64 0) 1 8 Tryd.underlying32 hi hz0 hz1 hz2 rfl (by decide) _ (ldN l k).length (jvals (jn (ldN l k))) rfl (unhide HO7) ⟨w5.heap.size, 0, none⟩ 1 1 [.int .i64 ((k : Nat) : Int)] rfl rfl (cell_one_newJ _ _ _) (by simp [Value.oneCell']) ?a3 ?a4 ?a5 ?_)
          case a3 => have := unhide HLN; unfold maxLen; omega
          case a4 => have := unhide HLN; omega
          case a5 => rw [World.size_alloc]; have := (unhide HB5).size; omega
          intro v8 w8 hO8 hG8 _
          have HO8 : Hid (OwnJ w8 w2.heap.size v8 (jn (ldN l (k + 1)))) := hide (by
            rw [ldN_yes (unhide HLD)]
            unfold OwnJ jn jvals at *
            simp only [List.length_map, List.length_append, List.map_append] at hO8 ⊢
            exact hO8)
          have HB8 := hide (((unhide HB5).alloc (unhide HB5).size (.cells #[.int .i64 ((k : Nat) : Int)] 3)).grown hG8 (by rw [World.size_alloc]; have := (unhide HB5).size; omega) (fun q e => (World.ownsRow.lt (unhide HO7) q e).1))
          clear hO8 hG8
          go_wp2
          go_roundw
          case rel => exact ⟨k + 1, by omega, by go_num, HO8, HB8⟩
          case measure => simp [intOf]; omega
        · have b0 : (((k : Nat) : Int) == 0) = false := by simp; omega
          have hkm : ((k : Nat) : Int) - 1 = ((k - 1 : Nat) : Int) := by omega
          have hlm : k - 1 < l.length := by omega
          have jm : ((k - 1 : Nat) : Int) < ((l.length : Nat) : Int) := by omega
          have hy := List.getElem?_eq_getElem hlm
          obtain ⟨b', off', e, hya⟩ := (unhide HX2).below (unhide HB5) (k - 1) _ hy
          injection e with e
          injection e with e1 e2
          subst e1 e2
          have HYY := hide hy
          generalize l[k - 1] = y at hya HYY
          have c1 := hya.c1
          have HLD0 : Hid (ldB l k = prtD y.op) := hide (by unfold ldB; rw [unhide HXX]; simp only; rw [decide_eq_false hin, decide_eq_false hk0, unhide HYY]; rfl)
          obtain ⟨m, HMk⟩ : ∃ m, Hid (k - 1 = m) := ⟨_, hide rfl⟩
          rw [unhide HMk] at hkm jm c1
          clear hin hy hya HYY HMk
          have HP := hide (parts_any y.op w5)
          go_wp2_with fail
          refine (unhide HP).mono ?_
          rintro e w6 ⟨rfl, rfl⟩
          cases hp : prtD y.op
          · have HLD : Hid (ldB l k = false) := hide (by rw [unhide HLD0, hp])
            have HO8 : Hid (OwnJ w6 w2.heap.size u4 (jn (ldN l (k + 1)))) := hide (by rw [ldN_no (unhide HLD)]; exact unhide HO5)
            clear hp
            go_wp2
            go_roundw
            case rel => exact ⟨k + 1, by omega, by go_num, HO8, HB5⟩
            case measure => simp [intOf]; omega
          · have HLD : Hid (ldB l k = true) := hide (by rw [unhide HLD0, hp])
            clear hp
            rename World => w5
            have HO7 : Hid (OwnJ (w5.alloc (.cells #[.int .i64 ((k : Nat) : Int)] 3)) w2.heap.size u4 (jn (ldN l k))) := hide ((unhide HO5).below ((Below.refl _ _).alloc (Nat.le_refl _) _))
            rw [show OwnJ (w5.alloc (.cells #[.int .i64 ((k : Nat) : Int)] 3)) w2.heap.size u4 (jn (ldN l k)) = (w5.alloc (.cells #[.int .i64 ((k : Nat) : Int)] 3)).ownsRow w2.heap.size 3 1 u4 (ldN l k).length (jvals (jn (ldN l k))) from by unfold OwnJ jn; rw [List.length_map]] at HO7
            go_wp2_with (at_builtin; refine wpList_append_own _ rfl _ _ 32 rfl (w2.heap.size) 3 i0 (.int .i64 0) 1 8 Tryd.underlying32 hi hz0 hz1 hz2 rfl (by decide) _ (ldN l k).length (jvals (jn (ldN l k))) rfl (unhide HO7) ⟨w5.heap.size, 0, none⟩ 1 1 [.int .i64 ((k : Nat) : Int)] rfl rfl (cell_one_newJ _ _ _) (by simp [Value.oneCell']) ?a3 ?a4 ?a5 ?_)
            case a3 => have := unhide HLN; unfold maxLen; omega
            case a4 => have := unhide HLN; omega
            case a5 => rw [World.size_alloc]; have := (unhide HB5).size; omega
            intro v8 w8 hO8 hG8 _
            have HO8 : Hid (OwnJ w8 w2.heap.size v8 (jn (ldN l (k + 1)))) := hide (by
              rw [ldN_yes (unhide HLD)]
              unfold OwnJ jn jvals at *
              simp only [List.length_map, List.length_append, List.map_append] at hO8 ⊢
              exact hO8)
            have HB8 := hide (((unhide HB5).alloc (unhide HB5).size (.cells #[.int .i64 ((k : Nat) : Int)] 3)).grown hG8 (by rw [World.size_alloc]; have := (unhide HB5).size; omega) (fun q e => (World.ownsRow.lt (unhide HO7) q e).1))
            clear hO8 hG8
            go_wp2
            go_roundw
            case rel => exact ⟨k + 1, by omega, by go_num, HO8, HB8⟩
            case measure => simp [intOf]; omega
    · have j1 : ¬ ((k : Nat) : Int) < ((l.length : Nat) : Int) := by omega
      have ek : k = l.length := by omega
      subst ek
      have HBF := hide ((unhide HB).trans ((unhide HR).mono (unhide HB).size))
      have HBS := hide (unhide HB).size
      go_wp2
      go_ret
      exact ⟨_, rfl, ownJ_mono (unhide HO) (unhide HBS), unhide HBF⟩
end Go.Proofs.YtdpfinnclnapbaaDoor
