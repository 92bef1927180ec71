/-
  flow.rises and parts: what the plain functions say.
  flow.leading: where blocks begin.
  flow.among: those of a row of numbers at which an instruction stands; slices.IndexFunc and DeleteFunc with its closure.
  Rows of blocks; flow.Blocks.
-/
import Derived.Test.YtdpfinnclnapbaaDoorSc1
import Derived.Lib.SliceRun
import Derived.Deep.AppendLies
import Derived.Deep.RegionHeld3
import Derived.Deep.Cut
namespace Go.Proofs.YtdpfinnclnapbaaDoor
open Go.RowKit Go.Maps
set_option maxRecDepth 20000

/-- Each instruction stands behind the one ahead of it. -/
def rsP (l : List Ix) : Prop := ∀ (i : Nat) (x y : Ix), l[i]? = some x → l[i + 1]? = some y → x.p < y.p
/-- So it is up to an instruction. -/
def rsK (l : List Ix) (k : Nat) : Prop := ∀ (i : Nat) (x y : Ix), i + 1 < k → l[i]? = some x → l[i + 1]? = some y → x.p < y.p
def rsB : List Ix → Bool
  | [] => true
  | [_] => true
  | x :: y :: l => decide (x.p < y.p) && rsB (y :: l)
theorem rsB_iff : ∀ l, rsB l = true ↔ rsP l
  | [] => ⟨fun _ i x y hx => by simp at hx, fun _ => rfl⟩
  | [a] => ⟨fun _ i x y hx hy => by simp at hy, fun _ => rfl⟩
  | a :: b :: l => by
    unfold rsB
    rw [Bool.and_eq_true, decide_eq_true_eq, rsB_iff (b :: l)]
    constructor
    · rintro ⟨h1, h2⟩ i x y hx hy
      cases i with
      | zero => simp at hx hy; subst hx hy; exact h1
      | succ i => exact h2 i x y (by simpa using hx) (by simpa using hy)
    · intro h
      exact ⟨h 0 a b rfl rfl, fun i x y hx hy => h (i + 1) x y (by simpa using hx) (by simpa using hy)⟩
def prtD (op : Nat) : Bool := jmpD op || endD op

set_option maxHeartbeats 1000000 in
theorem parts_any (op : Nat) (w : World) : Calls Tryd.prog 49 #[.int .u8 (op : Int)] w fun e w' => e = .returned (.bool (prtD op)) ∧ w' = w := by
  have HJ := hide (Jumps_any op w)
  have HE := hide (Ends_any op w)
  have e1 : (decide (op = 19) || decide (op = 20)) = jmpD op := rfl
  have e2 : (decide (op = 19) || decide (op = 22) || decide (op = 32)) = endD op := rfl
  rw [e1] at HJ
  rw [e2] at HE
  clear e1 e2
  cases hj : jmpD op
  · have HR : Hid (prtD op = endD op) := hide (by unfold prtD; rw [hj]; rfl)
    rw [hj] at HJ
    clear hj
    go_enter Tryd.func49, Tryd.ntmps49
    go_wp2_with fail
    refine (unhide HJ).mono ?_
    rintro e w1 ⟨rfl, rfl⟩
    go_wp2_with fail
    refine (unhide HE).mono ?_
    rintro e w2 ⟨rfl, rfl⟩
    go_wp2
    go_ret
    exact ⟨by rw [unhide HR]; rfl, rfl⟩
  · have HR : Hid (prtD op = true) := hide (by unfold prtD; rw [hj]; rfl)
    rw [hj] at HJ
    clear hj
    go_enter Tryd.func49, Tryd.ntmps49
    go_wp2_with fail
    refine (unhide HJ).mono ?_
    rintro e w1 ⟨rfl, rfl⟩
    go_wp2
    go_ret
    exact ⟨by rw [unhide HR]; rfl, rfl⟩

set_option maxRecDepth 20000 in
set_option maxHeartbeats 2000000 in
theorem rises_any (ao : Option Addr) (c : Nat) (l : List Ix) (w : World) (hx : XsAt w ao l) (hz : l.length ≤ 4400000000000) :
    Calls Tryd.prog 24 #[.slice ao l.length c] w fun e w' => e = .returned (.bool (rsB l)) ∧ Below w.heap.size w w' := by
  have HX := hide hx
  clear hx
  go_enter Tryd.func24, Tryd.ntmps24
  go_wp2
  go_loopw [3] (fun i wr => ∃ k : Nat, i = .int .i64 (k : Int) ∧ 1 ≤ k ∧ (k ≤ l.length ∨ k = 1) ∧ Hid (rsK l k) ∧ Hid (Below w.heap.size w wr)) (fun i _ => l.length + 1 - (intOf i).toNat)
  case atStart => exact ⟨1, rfl, by omega, .inr rfl, hide (fun i x y h => by omega), hide (Below.refl _ _)⟩
  case round =>
    obtain ⟨k, rfl, hk1, hk, HK, HB⟩ := hrel
    by_cases hlt : k < l.length
    · have j1 : ((k : Nat) : Int) < ((l.length : Nat) : Int) := by omega
      obtain ⟨m, rfl⟩ : ∃ m, k = m + 1 := ⟨k - 1, by omega⟩
      have j2 : ((m + 1 : Nat) : Int) - 1 = ((m : Nat) : Int) := by omega
      have j3 : ((m : Nat) : Int) < ((l.length : Nat) : Int) := by omega
      have hx := List.getElem?_eq_getElem hlt
      have hlt2 : m < l.length := by omega
      have hy := List.getElem?_eq_getElem hlt2
      obtain ⟨b, off, rfl, hxa⟩ := (unhide HX).below (unhide HB) (m + 1) _ hx
      obtain ⟨b', off', e, hya⟩ := (unhide HX).below (unhide HB) m _ hy
      injection e with e
      injection e with e1 e2
      subst e1 e2
      have c0 := hxa.c0
      have d0 := hya.c0
      have HXX := hide hx
      have HYY := hide hy
      generalize l[m + 1] = x at c0 HXX
      generalize l[m] = y at d0 HYY
      have HI : Hid (rsP l → y.p < x.p) := hide (fun h => h m y x (unhide HYY) (unhide HXX))
      have HN : Hid (y.p < x.p → rsK l (m + 1 + 1)) := hide (fun h i a b' hi ha hb => by
        by_cases e : i = m
        · subst e
          rw [unhide HYY] at ha
          rw [unhide HXX] at hb
          injection ha with ha
          injection hb with hb
          subst ha hb
          exact h
        · exact unhide HK i a b' (by omega) ha hb)
      clear hx hy hxa hya HXX HYY
      by_cases hp : x.p ≤ y.p
      · have HR : Hid (rsB l = false) := hide (by
          cases hq : rsB l
          · rfl
          · have := unhide HI ((rsB_iff l).1 hq)
            omega)
        go_wp2
        go_quiet (fail)
        go_wp2
        go_ret
        exact ⟨by rw [unhide HR]; rfl, belowD (unhide HB) _⟩
      · have HN2 := hide (unhide HN (by omega))
        go_wp2
        go_quiet (fail)
        go_wp2
        go_roundw
        case rel => exact ⟨m + 1 + 1, by go_num, by omega, .inl (by omega), HN2, hide (belowD (unhide HB) _)⟩
        case measure => simp [intOf]; omega
    · have j1 : ¬ ((k : Nat) : Int) < ((l.length : Nat) : Int) := by omega
      have HR : Hid (rsB l = true) := hide ((rsB_iff l).2 (fun i x y hx hy => unhide HK i x y (by have := (List.getElem?_eq_some_iff.1 hy).1; omega) hx hy))
      go_wp2
      go_ret
      exact ⟨by rw [unhide HR]; rfl, unhide HB⟩
/-- Does a block begin with an instruction? -/
def ldB (l : List Ix) (i : Nat) : Bool := match l[i]? with
  | none => false
  | some x => decide (x.p ∈ tgs l) || decide (i = 0) || (match l[i - 1]? with | some y => prtD y.op | none => false)
def ldN (l : List Ix) (k : Nat) : List Nat := (List.range k).filter (ldB l)
def jn (q : List Nat) : List Int := q.map (fun n => Int.ofNat n)
theorem ldN_yes {l : List Ix} {k : Nat} (h : ldB l k = true) : ldN l (k + 1) = ldN l k ++ [k] := by
  unfold ldN
  rw [List.range_succ, List.filter_append]
  simp [h]
theorem ldN_no {l : List Ix} {k : Nat} (h : ldB l k = false) : ldN l (k + 1) = ldN l k := by
  unfold ldN
  rw [List.range_succ, List.filter_append]
  simp [h]
theorem ldN_len (l : List Ix) (k : Nat) : (ldN l k).length ≤ k := by
  unfold ldN
  have := List.length_filter_le (ldB l) (List.range k)
  simpa using this

theorem ownJ_mono {w : World} {b b' : Nat} {v : Value} {l : List Int} (h : OwnJ w b v l) (hb : b' ≤ b) : OwnJ w b' v l := by
  rcases h with ⟨h1, h2 | ⟨g, cap, cur, a, h3, rest⟩⟩
  · exact ⟨h1, .inl h2⟩
  · exact ⟨h1, .inr ⟨g, cap, cur, a, Nat.le_trans hb h3, rest⟩⟩
set_option maxRecDepth 20000 in
set_option maxHeartbeats 4000000 in
theorem leading_any (ao : Option Addr) (c : Nat) (l : List Ix) (w : World) (hx : XsAt w ao l) (hz : l.length ≤ 4400000000000) (hbd : ∀ x ∈ l, (-9223372036854775808 ≤ x.a ∧ x.a ≤ 9223372036854775807) ∧ (-9223372036854775808 ≤ x.p ∧ x.p ≤ 9223372036854775807)) :
    Calls Tryd.prog 27 #[.slice ao l.length c] w fun e w' => ∃ v, e = .returned v ∧ OwnJ w' w.heap.size v (jn (ldN l l.length)) ∧ Below w.heap.size w w' := by
  obtain ⟨i0, hi, hz0, hz1, hz2⟩ := info_parts infoJ
  have HT := hide (targets_any ao c l w hx hz (fun x h => (hbd x h).1))
  have HX := hide hx
  have HBD := hide hbd
  clear hx hbd
  go_enter Tryd.func27, Tryd.ntmps27
  go_upto_region 2 with (go_at_call 40; refine (unhide HT).mono ?_; rintro e w2 ⟨rfl, hS, hB⟩)
  have HS := hide hS
  have HB := hide hB
  have HX2 := hide ((unhide HX).below hB)
  clear hS hB HT HX
  go_wp2
  go_loopw [4, 13] (fun v i wr => ∃ (k : Nat), k ≤ l.length ∧ i = .int .i64 (k : Int) ∧ Hid (OwnJ wr w2.heap.size v (jn (ldN l k))) ∧ Hid (Below w2.heap.size w2 wr)) (fun _ i _ => l.length - (intOf i).toNat)
  case atStart => exact ⟨0, by omega, rfl, hide (OwnJ.nil _ _), hide (Below.refl _ _)⟩
  case round =>
    obtain ⟨k, hk, rfl, HO, HR⟩ := hrel
    by_cases hlt : k < l.length
    · have j1 : ((k : Nat) : Int) < ((l.length : Nat) : Int) := by omega
      have hx := List.getElem?_eq_getElem hlt
      have hwf := wf_of (unhide HBD _ (List.getElem_mem hlt)).2
      obtain ⟨b, off, rfl, hxa⟩ := (unhide HX2).below (unhide HR) k _ hx
      have HXX := hide hx
      generalize l[k] = x at hxa HXX hwf
      obtain ⟨c0, c1, c2, c3, ho⟩ := hxa
      have hal : Below wr.heap.size wr (wr.alloc (.cells #[.int .i64 x.p, .int .u8 (x.op : Int), .int .i64 x.a, .int .i64 x.b] 31)) := (Below.refl _ _).alloc (Nat.le_refl _) _
      have I1 : Hid (IAt (wr.alloc (.cells #[.int .i64 x.p, .int .u8 (x.op : Int), .int .i64 x.a, .int .i64 x.b] 31)) wr.heap.size x.p x.op x.a x.b) := hide (heap_alloc_new wr _)
      have HB4 := hide ((unhide HR).trans (hal.mono (unhide HR).size))
      have HO4 := hide ((unhide HO).below hal)
      clear hx hal
      go_upto_region 6 with fail
      generalize (wr.alloc (.cells #[.int .i64 x.p, .int .u8 (x.op : Int), .int .i64 x.a, .int .i64 x.b] 31)) = w4 at I1 HB4 HO4 ⊢
      generalize wr.heap.size = gi at I1 ⊢
      have HS4 : Hid (SetAt w4 w.heap.size l.length (tgs l)) := hide (World.ownsMap.kept (unhide HS) (grownX (unhide HB4)) (fun e => by cases e))
      clear c0 c1 c2 c3 HO HR
      have d0 := (unhide I1).c0
      go_upto_region 7 with (at_lookup; go_loud (refine wpList_lookup_own_unit _ rfl _ _ 65 rfl 3 68 lawK Tryd.underlying65 (zeroU _) w.heap.size l.length _ rfl (unhide HS4) _ _ rfl (keyOf_int_mk Tryd.underlying3 hwf) ?_))
      rw [has_setD]
      have hal5 : Below w4.heap.size w4 (w4.alloc (.cells #[] 68)) := (Below.refl _ _).alloc (Nat.le_refl _) _
      have HO5 := hide ((unhide HO4).below hal5)
      have HB5 := hide ((unhide HB4).trans (hal5.mono (unhide HB4).size))
      clear hal5 HS4 HO4 HB4 d0 I1
      generalize w4.heap.size = gz
      generalize (w4.alloc (.cells #[] 68)) = w5 at HO5 HB5 ⊢
      have HLN := hide (Nat.le_trans (ldN_len l k) hk)
      by_cases hin : x.p ∈ tgs l
      · rw [decide_eq_true hin]
        have HLD : Hid (ldB l k = true) := hide (by unfold ldB; rw [unhide HXX]; simp only; rw [decide_eq_true hin]; rfl)
        have HO7 : Hid (OwnJ (w5.alloc (.cells #[.int .i64 ((k : Nat) : Int)] 3)) w2.heap.size u4 (jn (ldN l k))) := hide ((unhide HO5).below ((Below.refl _ _).alloc (Nat.le_refl _) _))
        rw [show OwnJ (w5.alloc (.cells #[.int .i64 ((k : Nat) : Int)] 3)) w2.heap.size u4 (jn (ldN l k)) = (w5.alloc (.cells #[.int .i64 ((k : Nat) : Int)] 3)).ownsRow w2.heap.size 3 1 u4 (ldN l k).length (jvals (jn (ldN l k))) from by unfold OwnJ jn; rw [List.length_map]] at HO7
        clear hin
        go_wp2_with (at_builtin; refine wpList_append_own _ rfl _ _ 32 rfl (w2.heap.size) 3 i0 (.int .i64 0) 1 8 Tryd.underlying32 hi hz0 hz1 hz2 rfl (by decide) _ (ldN l k).length (jvals (jn (ldN l k))) rfl (unhide HO7) ⟨w5.heap.size, 0, none⟩ 1 1 [.int .i64 ((k : Nat) : Int)] rfl rfl (cell_one_newJ _ _ _) (by simp [Value.oneCell']) ?a3 ?a4 ?a5 ?_)
        case a3 => have := unhide HLN; unfold maxLen; omega
        case a4 => have := unhide HLN; omega
        case a5 => rw [World.size_alloc]; have := (unhide HB5).size; omega
        intro v8 w8 hO8 hG8 _
        have HO8 : Hid (OwnJ w8 w2.heap.size v8 (jn (ldN l (k + 1)))) := hide (by
          rw [ldN_yes (unhide HLD)]
          unfold OwnJ jn jvals at *
          simp only [List.length_map, List.length_append, List.map_append] at hO8 ⊢
          exact hO8)
        have HB8 := hide (((unhide HB5).alloc (unhide HB5).size (.cells #[.int .i64 ((k : Nat) : Int)] 3)).grown hG8 (by rw [World.size_alloc]; have := (unhide HB5).size; omega) (fun q e => (World.ownsRow.lt (unhide HO7) q e).1))
        clear hO8 hG8
        go_wp2
        go_roundw
        case rel => exact ⟨k + 1, by omega, by go_num, HO8, HB8⟩
        case measure => simp [intOf]; omega
      · rw [decide_eq_false hin]
        by_cases hk0 : k = 0
        · have HLD : Hid (ldB l k = true) := hide (by unfold ldB; rw [unhide HXX]; simp only; rw [decide_eq_true hk0]; simp)
          have b0 : (((k : Nat) : Int) == 0) = true := by simp; omega
          have HO7 : Hid (OwnJ (w5.alloc (.cells #[.int .i64 ((k : Nat) : Int)] 3)) w2.heap.size u4 (jn (ldN l k))) := hide ((unhide HO5).below ((Below.refl _ _).alloc (Nat.le_refl _) _))
          rw [show OwnJ (w5.alloc (.cells #[.int .i64 ((k : Nat) : Int)] 3)) w2.heap.size u4 (jn (ldN l k)) = (w5.alloc (.cells #[.int .i64 ((k : Nat) : Int)] 3)).ownsRow w2.heap.size 3 1 u4 (ldN l k).length (jvals (jn (ldN l k))) from by unfold OwnJ jn; rw [List.length_map]] at HO7
          clear hin hk0
          go_wp2_with (at_builtin; refine wpList_append_own _ rfl _ _ 32 rfl (w2.heap.size) 3 i0 (.int .i64 0) 1 8 Tryd.underlying32 hi hz0 hz1 hz2 rfl (by decide) _ (ldN l k).length (jvals (jn (ldN l k))) rfl (unhide HO7) ⟨w5.heap.size, 0, none⟩ 1 1 [.int .i64 ((k : Nat) : Int)] rfl rfl (cell_one_newJ _ _ _) (by simp [Value.oneCell']) ?a3 ?a4 ?a5 ?_)
          case a3 => have := unhide HLN; unfold maxLen; omega
          case a4 => have := unhide HLN; omega
          case a5 => rw [World.size_alloc]; have := (unhide HB5).size; omega
          intro v8 w8 hO8 hG8 _
          have HO8 : Hid (OwnJ w8 w2.heap.size v8 (jn (ldN l (k + 1)))) := hide (by
            rw [ldN_yes (unhide HLD)]
            unfold OwnJ jn jvals at *
            simp only [List.length_map, List.length_append, List.map_append] at hO8 ⊢
            exact hO8)
          have HB8 := hide (((unhide HB5).alloc (unhide HB5).size (.cells #[.int .i64 ((k : Nat) : Int)] 3)).grown hG8 (by rw [World.size_alloc]; have := (unhide HB5).size; omega) (fun q e => (World.ownsRow.lt (unhide HO7) q e).1))
          clear hO8 hG8
          go_wp2
          go_roundw
          case rel => exact ⟨k + 1, by omega, by go_num, HO8, HB8⟩
          case measure => simp [intOf]; omega
        · have b0 : (((k : Nat) : Int) == 0) = false := by simp; omega
          have hkm : ((k : Nat) : Int) - 1 = ((k - 1 : Nat) : Int) := by omega
          have hlm : k - 1 < l.length := by omega
          have jm : ((k - 1 : Nat) : Int) < ((l.length : Nat) : Int) := by omega
          have hy := List.getElem?_eq_getElem hlm
          obtain ⟨b', off', e, hya⟩ := (unhide HX2).below (unhide HB5) (k - 1) _ hy
          injection e with e
          injection e with e1 e2
          subst e1 e2
          have HYY := hide hy
          generalize l[k - 1] = y at hya HYY
          have c1 := hya.c1
          have HLD0 : Hid (ldB l k = prtD y.op) := hide (by unfold ldB; rw [unhide HXX]; simp only; rw [decide_eq_false hin, decide_eq_false hk0, unhide HYY]; rfl)
          obtain ⟨m, HMk⟩ : ∃ m, Hid (k - 1 = m) := ⟨_, hide rfl⟩
          rw [unhide HMk] at hkm jm c1
          clear hin hy hya HYY HMk
          have HP := hide (parts_any y.op w5)
          go_wp2_with fail
          refine (unhide HP).mono ?_
          rintro e w6 ⟨rfl, rfl⟩
          cases hp : prtD y.op
          · have HLD : Hid (ldB l k = false) := hide (by rw [unhide HLD0, hp])
            have HO8 : Hid (OwnJ w6 w2.heap.size u4 (jn (ldN l (k + 1)))) := hide (by rw [ldN_no (unhide HLD)]; exact unhide HO5)
            clear hp
            go_wp2
            go_roundw
            case rel => exact ⟨k + 1, by omega, by go_num, HO8, HB5⟩
            case measure => simp [intOf]; omega
          · have HLD : Hid (ldB l k = true) := hide (by rw [unhide HLD0, hp])
            clear hp
            rename World => w5
            have HO7 : Hid (OwnJ (w5.alloc (.cells #[.int .i64 ((k : Nat) : Int)] 3)) w2.heap.size u4 (jn (ldN l k))) := hide ((unhide HO5).below ((Below.refl _ _).alloc (Nat.le_refl _) _))
            rw [show OwnJ (w5.alloc (.cells #[.int .i64 ((k : Nat) : Int)] 3)) w2.heap.size u4 (jn (ldN l k)) = (w5.alloc (.cells #[.int .i64 ((k : Nat) : Int)] 3)).ownsRow w2.heap.size 3 1 u4 (ldN l k).length (jvals (jn (ldN l k))) from by unfold OwnJ jn; rw [List.length_map]] at HO7
            go_wp2_with (at_builtin; refine wpList_append_own _ rfl _ _ 32 rfl (w2.heap.size) 3 i0 (.int .i64 0) 1 8 Tryd.underlying32 hi hz0 hz1 hz2 rfl (by decide) _ (ldN l k).length (jvals (jn (ldN l k))) rfl (unhide HO7) ⟨w5.heap.size, 0, none⟩ 1 1 [.int .i64 ((k : Nat) : Int)] rfl rfl (cell_one_newJ _ _ _) (by simp [Value.oneCell']) ?a3 ?a4 ?a5 ?_)
            case a3 => have := unhide HLN; unfold maxLen; omega
            case a4 => have := unhide HLN; omega
            case a5 => rw [World.size_alloc]; have := (unhide HB5).size; omega
            intro v8 w8 hO8 hG8 _
            have HO8 : Hid (OwnJ w8 w2.heap.size v8 (jn (ldN l (k + 1)))) := hide (by
              rw [ldN_yes (unhide HLD)]
              unfold OwnJ jn jvals at *
              simp only [List.length_map, List.length_append, List.map_append] at hO8 ⊢
              exact hO8)
            have HB8 := hide (((unhide HB5).alloc (unhide HB5).size (.cells #[.int .i64 ((k : Nat) : Int)] 3)).grown hG8 (by rw [World.size_alloc]; have := (unhide HB5).size; omega) (fun q e => (World.ownsRow.lt (unhide HO7) q e).1))
            clear hO8 hG8
            go_wp2
            go_roundw
            case rel => exact ⟨k + 1, by omega, by go_num, HO8, HB8⟩
            case measure => simp [intOf]; omega
    · have j1 : ¬ ((k : Nat) : Int) < ((l.length : Nat) : Int) := by omega
      have ek : k = l.length := by omega
      subst ek
      have HBF := hide ((unhide HB).trans ((unhide HR).mono (unhide HB).size))
      have HBS := hide (unhide HB).size
      go_wp2
      go_ret
      exact ⟨_, rfl, ownJ_mono (unhide HO) (unhide HBS), unhide HBF⟩
/-- The closure's box, and the map that it names. -/
structure Std (W : World) (B m : Nat) (l : List Ix) : Prop where
  box : W.cell? ⟨B, 0, none⟩ = some (.map (some m))
  map : MapAt W m l.length (bks l)
theorem Std.grown {W w : World} {B m : Nat} {row : Option Nat} {l : List Ix} (h : Std W B m l) (hg : W.grownBy w row) (hB : some B ≠ row) (hm : some m ≠ row) : Std w B m l :=
  ⟨(hg.cell_far ⟨B, 0, none⟩ (World.block_lt_of_cell? W _ h.box) hB).trans h.box, World.ownsMap.kept h.map hg hm⟩
theorem grown_two {a b c : World} {row : Option Nat} (h1 : a.grownBy b row) (h2 : b.grownBy c row) : a.grownBy c row :=
  ⟨h2.os.trans h1.os, h2.tape.trans h1.tape, h2.output.trans h1.output, Nat.le_trans h1.size h2.size, fun k hk hn => (h2.block k (Nat.lt_of_lt_of_le hk h1.size) hn).trans (h1.block k hk hn)⟩
theorem grown_same (a : World) (row : Option Nat) : a.grownBy a row := ⟨rfl, rfl, rfl, Nat.le_refl _, fun _ _ _ => rfl⟩

set_option maxRecDepth 20000 in
set_option maxHeartbeats 1000000 in
theorem among1_any (a : Int) (B m : Nat) (l : List Ix) (w : World) (h : Std w B m l) (ha : -9223372036854775808 ≤ a ∧ a ≤ 9223372036854775807) :
    Calls Tryd.prog 51 #[.int .i64 a, .pointer (some ⟨B, 0, none⟩)] w fun e w' => e = .returned (.bool (!hasP l a)) ∧ w' = w := by
  have hwf := wf_of ha
  have k0 := h.box
  have HM := hide h.map
  clear h
  go_enter Tryd.func51, Tryd.ntmps51
  go_upto_region 2 with (at_lookup; refine wpList_lookup_own_ok_int _ rfl _ _ 55 rfl 3 3 .i64 lawK Tryd.underlying55 Tryd.underlying3 (zeroX _) m l.length (fMap (bks l)) rfl (unhide HM) _ _ rfl (keyOf_int_mk Tryd.underlying3 hwf) ?_; intro cc hat hwc; clear hat hwc)
  rw [has_fMap]
  go_wp2
  go_ret
  exact ⟨rfl, rfl⟩

set_option maxRecDepth 20000 in
set_option maxHeartbeats 1000000 in
theorem IndexFuncJ_any (oa : Option Addr) (oc : Nat) (L : List Int) (B m : Nat) (l : List Ix) (w : World) (hO : JsAt w oa L) (hz : L.length ≤ 4400000000000) (hs : Std w B m l) (hb : ∀ a ∈ L, -9223372036854775808 ≤ a ∧ a ≤ 9223372036854775807) :
    Calls Tryd.prog 59 #[.slice oa L.length oc, .func (.func 51) #[] #[.pointer (some ⟨B, 0, none⟩)]] w fun e w' => (∃ i : Int, e = .returned (.int .i64 i) ∧ ((i = -1 ∧ ∀ a ∈ L, hasP l a = true) ∨ ∃ k : Nat, i = (k : Int) ∧ k < L.length ∧ (∀ a ∈ L.take k, hasP l a = true) ∧ ∀ a, L[k]? = some a → hasP l a = false)) ∧ w' = w := by
  have HT := hide hO
  have HS := hide hs
  have HB := hide hb
  clear hO hs hb
  go_enter Tryd.func59, Tryd.ntmps59
  go_wp2
  go_loopw [5, 8] (fun _ i wr => ∃ k : Nat, k ≤ L.length ∧ i = .int .i64 (k : Int) ∧ Hid (∀ a ∈ L.take k, hasP l a = true) ∧ Hid (wr = w)) (fun _ i _ => L.length - (intOf i).toNat)
  case atStart => exact ⟨0, by omega, rfl, hide (fun a h => by simp at h), hide rfl⟩
  case round =>
    obtain ⟨k, hk, rfl, HK, HW⟩ := hrel
    by_cases hlt : k < L.length
    · have i1 : ((k : Nat) : Int) < ((L.length : Nat) : Int) := by omega
      have hx := List.getElem?_eq_getElem hlt
      obtain ⟨b, off, rfl, hc⟩ := unhide HT k _ hx
      rw [← unhide HW] at hc
      have hbd := unhide HB _ (List.getElem_mem hlt)
      have HX := hide hx
      have HTK : Hid (L.take (k + 1) = L.take k ++ [L[k]]) := hide (List.take_append_getElem hlt).symm
      generalize L[k] = a at hc hbd HX HTK
      have HC := hide (among1_any a B m l wr (by rw [unhide HW]; exact unhide HS) hbd)
      clear hx hbd
      go_wp2_with fail
      refine (unhide HC).mono ?_
      rintro e w2 ⟨rfl, rfl⟩
      cases hh : hasP l a
      · have HR : Hid (∀ y, L[k]? = some y → hasP l y = false) := hide (fun y hy => by rw [unhide HX] at hy; injection hy with hy; rw [← hy]; exact hh)
        clear hh
        go_wp2
        go_ret
        exact ⟨⟨_, rfl, .inr ⟨k, rfl, hlt, unhide HK, unhide HR⟩⟩, unhide HW⟩
      · have HK2 : Hid (∀ y ∈ L.take (k + 1), hasP l y = true) := hide (fun y hy => by
          rw [unhide HTK] at hy
          rcases List.mem_append.1 hy with h | h
          · exact unhide HK y h
          · simp at h; rw [h]; exact hh)
        clear hh HTK
        go_wp2
        go_roundw
        case rel => exact ⟨k + 1, by omega, by go_num, HK2, HW⟩
        case measure => simp [intOf]; omega
    · have i1 : ¬ ((k : Nat) : Int) < ((L.length : Nat) : Int) := by omega
      have HR : Hid (∀ a ∈ L, hasP l a = true) := hide (by have := unhide HK; rwa [List.take_of_length_le (by omega)] at this)
      go_wp2
      go_ret
      exact ⟨⟨_, rfl, .inl ⟨rfl, unhide HR⟩⟩, unhide HW⟩

/-! ### A row cut short -/
theorem own_cut {w : World} {base g n cap i : Nat} {xs : List Value} (h : w.ownsRow base 3 1 (.slice (some ⟨g, 0, none⟩) n cap) n xs) (hi : i ≤ n) : w.ownsRow base 3 1 (.slice (some ⟨g, 0, none⟩) i cap) i (xs.take i) := by
  rcases h with ⟨hl, ⟨h1, _⟩ | ⟨g', cap', cur, hv, hb, hh, hn, hm, hs, ht⟩⟩
  · simp at h1
  · injection hv with e1 _ e2
    injection e1 with e1
    injection e1 with e1
    subst e1 e2
    refine ⟨by simp; omega, Or.inr ⟨g, cap, cur, rfl, hb, hh, by omega, hm, hs, ?_⟩⟩
    rw [← ht, List.take_take, Nat.mul_one, Nat.mul_one, Nat.min_eq_left hi]
theorem own_clear {base g n cap : Nat} {z : Value} : ∀ (m i : Nat) (w : World) (xs : List Value), w.ownsRow base 3 1 (.slice (some ⟨g, 0, none⟩) n cap) n xs → ∃ ys, (w.setCells g i (List.replicate m z)).ownsRow base 3 1 (.slice (some ⟨g, 0, none⟩) n cap) n ys ∧ ys.take i = xs.take i ∧ w.grownBy (w.setCells g i (List.replicate m z)) (some g)
  | 0, i, w, xs, h => ⟨xs, h, rfl, ⟨rfl, rfl, rfl, Nat.le_refl _, fun _ _ _ => rfl⟩⟩
  | m + 1, i, w, xs, h => by
    obtain ⟨h1, h2⟩ := h.stored i z
    obtain ⟨ys, h3, h4, h5⟩ := own_clear m (i + 1) _ _ h1
    refine ⟨ys, h3, ?_, ⟨h5.os.trans h2.os, h5.tape.trans h2.tape, h5.output.trans h2.output, Nat.le_trans h2.size h5.size, fun k hk hn => (h5.block k (Nat.lt_of_lt_of_le hk h2.size) hn).trans (h2.block k hk hn)⟩⟩
    have := congrArg (List.take i) h4
    rw [List.take_take, List.take_take, Nat.min_eq_left (by omega)] at this
    rw [this]
    exact List.take_set_of_le (by omega)

/-- While a row is thinned out: the first i of C are what is kept of the first j of L, the rest is as it was. -/
structure Thn (L C : List Int) (p : Int → Bool) (i j : Nat) : Prop where
  len : C.length = L.length
  le : i < j
  ahead : C.take i = (L.take j).filter p
  rest : C.drop j = L.drop j
theorem Thn.skip {L C : List Int} {p : Int → Bool} {i j : Nat} {a : Int} (h : Thn L C p i j) (ha : L[j]? = some a) (hp : p a = false) : Thn L C p i (j + 1) := by
  have hj := (List.getElem?_eq_some_iff.1 ha).1
  refine ⟨h.len, by have := h.le; omega, ?_, ?_⟩
  · rw [← List.take_append_getElem hj, List.filter_append, h.ahead]
    have : L[j] = a := by rw [List.getElem?_eq_getElem hj] at ha; injection ha
    simp [this, hp]
  · have := congrArg (List.drop 1) h.rest
    rwa [List.drop_drop, List.drop_drop] at this
theorem Thn.keep {L C : List Int} {p : Int → Bool} {i j : Nat} {a : Int} (h : Thn L C p i j) (ha : L[j]? = some a) (hp : p a = true) : Thn L (C.set i a) p (i + 1) (j + 1) := by
  have hj := (List.getElem?_eq_some_iff.1 ha).1
  have hl := h.len
  have hle := h.le
  refine ⟨by simp [h.len], by omega, ?_, ?_⟩
  · rw [← List.take_append_getElem hj, List.filter_append, ← h.ahead]
    have : L[j] = a := by rw [List.getElem?_eq_getElem hj] at ha; injection ha
    have hi : i < (C.set i a).length := by simp; omega
    rw [← List.take_append_getElem hi]
    simp [this, hp]
    exact List.take_set_of_le (Nat.le_refl _)
  · rw [List.drop_set_of_lt (by omega)]
    have := congrArg (List.drop 1) h.rest
    rwa [List.drop_drop, List.drop_drop] at this
theorem Thn.at {L C : List Int} {p : Int → Bool} {i j : Nat} (h : Thn L C p i j) {a : Int} (ha : L[j]? = some a) : C[j]? = some a := by
  have h1 : (C.drop j)[0]? = (L.drop j)[0]? := by rw [h.rest]
  rw [List.getElem?_drop, List.getElem?_drop] at h1
  simpa [ha] using h1

theorem jvals_set (C : List Int) (i : Nat) (a : Int) : jvals (C.set i a) = (jvals C).set i (.int .i64 a) := by unfold jvals; rw [List.map_set]
set_option maxRecDepth 20000 in
set_option maxHeartbeats 4000000 in
theorem DeleteFuncJ_any (v : Value) (base : Nat) (L : List Int) (B m : Nat) (l : List Ix) (w : World) (hO : OwnJ w base v L) (hbs : base ≤ w.heap.size) (hz : L.length ≤ 4400000000000) (hs : Std w B m l) (hB : some B ≠ v.ownBlock) (hm : some m ≠ v.ownBlock) (hb : ∀ a ∈ L, -9223372036854775808 ≤ a ∧ a ≤ 9223372036854775807) :
    Calls Tryd.prog 50 #[v, .func (.func 51) #[] #[.pointer (some ⟨B, 0, none⟩)]] w fun e w' => ∃ v', e = .returned v' ∧ OwnJ w' base v' (L.filter (hasP l)) ∧ w.grownBy w' v.ownBlock := by
  obtain ⟨oa, oc, rfl, hJ, _⟩ := hO.at
  have HIX := hide (IndexFuncJ_any oa oc L B m l w hJ hz hs hb)
  have HO := hide hO
  have HS := hide hs
  have HBD := hide hb
  clear hO hs hJ hb
  go_enter Tryd.func50, Tryd.ntmps50
  go_wp2_with fail
  refine (unhide HIX).mono ?_
  rintro e w1 ⟨⟨i, rfl, hi⟩, rfl⟩
  rcases hi with ⟨rfl, hall⟩ | ⟨k, rfl, hk, hah, hat⟩
  · have HF : Hid (L.filter (hasP l) = L) := hide (List.filter_eq_self.2 hall)
    clear hall HIX
    go_wp2
    go_ret
    exact ⟨_, rfl, by rw [unhide HF]; exact unhide HO, grown_same _ _⟩
  have ht0 : Thn L L (hasP l) k (k + 1) := ⟨rfl, by omega, by
    rw [← List.take_append_getElem hk, List.filter_append, List.filter_eq_self.2 hah]
    simp [hat _ (List.getElem?_eq_getElem hk)], rfl⟩
  have HT0 := hide ht0
  have b1 : (((k : Nat) : Int) == -1) = false := by simp
  clear ht0 hah hat HIX
  rcases (unhide HO).shape with ⟨h1, h2⟩ | ⟨g, cap, hv, hgb, hgl, hcap, hcell, hfz⟩
  · rw [h2] at hk; simp at hk
  injection hv with e1 e2 e3
  subst e1 e3
  clear hcell hfz e2
  go_wp2_with fail
  go_loopw [5, 6] (fun vi vj wr => ∃ (i j : Nat) (C : List Int), vi = .int .i64 (i : Int) ∧ vj = .int .i64 (j : Int) ∧ j ≤ L.length ∧ Hid (Thn L C (hasP l) i j) ∧ Hid (wr.ownsRow base 3 1 (.slice (some ⟨g, 0, none⟩) L.length oc) L.length (jvals C)) ∧ Hid (w1.grownBy wr (some g))) (fun _ vj _ => L.length - (intOf vj).toNat)
  case atStart => exact ⟨k, k + 1, L, rfl, by go_num, by omega, HT0, HO, hide (grown_same _ _)⟩
  case round =>
    obtain ⟨i, j, C, rfl, rfl, hj, HT, HR, HBW⟩ := hrel
    have hij := (unhide HT).le
    by_cases hlt : j < L.length
    · have j1 : ((j : Nat) : Int) < ((L.length : Nat) : Int) := by omega
      have j2 : ((i : Nat) : Int) < ((L.length : Nat) : Int) := by omega
      have hx := List.getElem?_eq_getElem hlt
      have hbd := unhide HBD _ (List.getElem_mem hlt)
      generalize L[j] = a at hx hbd
      have hcj : wr.cell? ⟨g, j, none⟩ = some (.int .i64 a) := by
        rw [World.ownsRow.cellAt (unhide HR) j (by omega)]
        unfold jvals
        rw [List.getElem?_map, (unhide HT).at hx]
        rfl
      have hci : ∃ y, wr.cell? ⟨g, i, none⟩ = some y := by
        rw [World.ownsRow.cellAt (unhide HR) i (by omega)]
        have : i < (jvals C).length := by unfold jvals; rw [List.length_map, (unhide HT).len]; omega
        exact ⟨_, List.getElem?_eq_getElem this⟩
      obtain ⟨y, hci⟩ := hci
      have hfi := World.ownsRow.frozenAt (unhide HR) i
      have HC := hide (among1_any a B m l wr ((unhide HS).grown (unhide HBW) hB hm) hbd)
      go_wp2_with fail
      refine (unhide HC).mono ?_
      rintro e w2 ⟨rfl, rfl⟩
      cases hh : hasP l a
      · have HT2 := hide ((unhide HT).skip hx hh)
        clear hh hx
        go_wp2
        go_roundw
        case rel => exact ⟨i, j + 1, C, rfl, by go_num, by omega, HT2, HR, HBW⟩
        case measure => simp [intOf]; omega
      · have HT2 := hide ((unhide HT).keep hx hh)
        have hst := World.ownsRow.stored (unhide HR) i (.int .i64 a)
        rw [← jvals_set] at hst
        have HR2 := hide hst.1
        have HB2 := hide (grown_two (unhide HBW) hst.2)
        clear hh hx hst
        go_wp2
        go_roundw
        case rel => exact ⟨i + 1, j + 1, C.set i a, by go_num, by go_num, by omega, HT2, HR2, HB2⟩
        case measure => simp [intOf]; omega
    · have j1 : ¬ ((j : Nat) : Int) < ((L.length : Nat) : Int) := by omega
      have hjl : j = L.length := by omega
      subst hjl
      have p1 : ((i : Nat) : Int) ≤ ((L.length : Nat) : Int) := by omega
      have p0 : (0 : Int) ≤ ((i : Nat) : Int) := by omega
      have p2 : ((L.length : Nat) : Int) ≤ ((oc : Nat) : Int) := by omega
      have p3 : ((i : Nat) : Int) ≤ ((oc : Nat) : Int) := by omega
      have p4 : ¬ oc = i := by omega
      have hlen : (jvals C).length = L.length := by unfold jvals; rw [List.length_map, (unhide HT).len]
      have hclr : (Builtin.clear_ #[32] 0 #[.slice (some ⟨g, i, none⟩) (L.length - i) (oc - i)]).run Tryd.prog wr = .ok (.tuple #[]) (wr.setCells g i (List.replicate (L.length - i) (.int .i64 0))) :=
        Lib.run_clear_slice wr 32 3 0 (.int .i64 0) Tryd.underlying32 zeroX rfl rfl g i (L.length - i) (oc - i) (by omega) (fun q hq => by
          rw [World.ownsRow.cellAt (unhide HR) (i + q) (by omega), List.getElem?_eq_getElem (by rw [hlen]; omega)]
          rfl) (fun q _ => World.ownsRow.frozenAt (unhide HR) (i + q))
      obtain ⟨ys, hO9, hys, hG9⟩ := own_clear (z := .int .i64 0) (L.length - i) i wr _ (unhide HR)
      have hcut := own_cut hO9 (show i ≤ L.length by omega)
      rw [hys, show (jvals C).take i = jvals (L.filter (hasP l)) from by
        unfold jvals
        rw [← List.map_take, (unhide HT).ahead, List.take_of_length_le (Nat.le_refl _)]] at hcut
      have hfl : (L.filter (hasP l)).length = i := by
        have := congrArg List.length (unhide HT).ahead
        rw [List.length_take, List.take_of_length_le (Nat.le_refl _), (unhide HT).len] at this
        omega
      have HO9 : Hid (OwnJ (wr.setCells g i (List.replicate (L.length - i) (.int .i64 0))) base (.slice (some ⟨g, 0, none⟩) i oc) (L.filter (hasP l))) := hide (by unfold OwnJ; rw [hfl]; exact hcut)
      have HB9 : Hid (w1.grownBy (wr.setCells g i (List.replicate (L.length - i) (.int .i64 0))) (some g)) := hide (grown_two (unhide HBW) hG9)
      generalize wr.setCells g i (List.replicate (L.length - i) (.int .i64 0)) = W9 at hclr HO9 HB9
      clear hO9 hys hG9 hcut hfl hlen HT HR
      go_wp2
      go_ret
      exact ⟨_, rfl, unhide HO9, unhide HB9⟩

set_option maxRecDepth 20000 in
set_option maxHeartbeats 1000000 in
theorem among_any (v : Value) (base : Nat) (L : List Int) (m : Nat) (l : List Ix) (w : World) (hO : OwnJ w base v L) (hbs : base ≤ w.heap.size) (hz : L.length ≤ 4400000000000) (hs : MapAt w m l.length (bks l)) (hm : some m ≠ v.ownBlock) (hb : ∀ a ∈ L, -9223372036854775808 ≤ a ∧ a ≤ 9223372036854775807) :
    Calls Tryd.prog 28 #[.map (some m), v] w fun e w' => ∃ v', e = .returned v' ∧ OwnJ w' base v' (L.filter (hasP l)) ∧ w.grownBy w' v.ownBlock := by
  have n1 := heap_alloc_new w (.cells #[.map (some m)] 55)
  have HD := hide (DeleteFuncJ_any v base L w.heap.size m l (w.alloc (.cells #[.map (some m)] 55)) (hO.below ((Below.refl _ _).alloc (Nat.le_refl _) _)) (by simp; omega) hz ⟨cell_of_row _ _ 0 _ _ _ n1, World.ownsMap.alloc hs _⟩ (fun e => by have := (World.ownsRow.lt hO _ e.symm).2; omega) hm hb)
  have HG : Hid (w.grownBy (w.alloc (.cells #[.map (some m)] 55)) v.ownBlock) := hide (World.grownBy_alloc w _ _)
  obtain ⟨oa, oc, rfl, _, _⟩ := hO.at
  clear n1 hO hs hm hb
  go_enter Tryd.func28, Tryd.ntmps28
  go_wp2_with fail
  refine (unhide HD).mono ?_
  rintro e w2 ⟨v2, rfl, hO2, hG2⟩
  have HO2 := hide hO2
  have HG2 := hide (grown_two (unhide HG) hG2)
  clear hO2 hG2
  go_wp2
  go_ret
  exact ⟨_, rfl, unhide HO2, unhide HG2⟩
structure Bx where
  fr : Int
  la : Int
  no : Option Addr
  nc : Nat
  nx : List Int
def Bx.pl (y : Bx) : Int × Int × List Int := (y.fr, y.la, y.nx)
def kcells (y : Bx) : List Value := [.int .i64 y.fr, .int .i64 y.la, .slice y.no y.nx.length y.nc]
def kvals (G : List Bx) : List Value := G.flatMap kcells
theorem kvals_length (l : List Bx) : (kvals l).length = l.length * 3 := by
  unfold kvals
  induction l with
  | nil => rfl
  | cons f l ih => rw [List.flatMap_cons, List.length_append, ih]; simp [kcells]; omega
theorem kvals_snoc (l : List Bx) (y : Bx) : kvals (l ++ [y]) = kvals l ++ kcells y := by unfold kvals; simp
theorem kvals_get : ∀ {l : List Bx} {i : Nat} {f : Bx}, l[i]? = some f → (kvals l)[i * 3]? = some (.int .i64 f.fr) ∧ (kvals l)[i * 3 + 1]? = some (.int .i64 f.la) ∧ (kvals l)[i * 3 + 2]? = some (.slice f.no f.nx.length f.nc)
  | [], i, f, h => by simp at h
  | g :: l, 0, f, h => by
    simp at h
    subst h
    unfold kvals
    rw [List.flatMap_cons]
    exact ⟨rfl, rfl, rfl⟩
  | g :: l, i + 1, f, h => by
    have h' : l[i]? = some f := by simpa using h
    obtain ⟨h1, h2, h3⟩ := kvals_get h'
    unfold kvals at h1 h2 h3 ⊢
    rw [List.flatMap_cons]
    refine ⟨?_, ?_, ?_⟩
    · rw [List.getElem?_append_right (by simp [kcells]; omega)]
      rw [← h1]; congr 1; simp [kcells]; omega
    · rw [List.getElem?_append_right (by simp [kcells]; omega)]
      rw [← h2]; congr 1; simp [kcells]; omega
    · rw [List.getElem?_append_right (by simp [kcells]; omega)]
      rw [← h3]; congr 1; simp [kcells]; omega
theorem kcells_one (y : Bx) : ∀ u ∈ kcells y, u.oneCell' = true := by
  intro u hu
  simp only [kcells, List.mem_cons, List.mem_nil_iff, or_false] at hu
  rcases hu with rfl | rfl | rfl <;> rfl
theorem infoBk : (Tryd.prog.info? 34).map (fun i => (i.zero, i.size, i.bytes)) = some (some (.agg #[.int .i64 0, .int .i64 0, .slice none 0 0]), 3, 40) := by kernel_rfl
def OwnK (w : World) (base : Nat) (v : Value) (G : List Bx) : Prop := w.ownsRow base 34 3 v G.length (kvals G)
def NxOwn (w : World) (base : Nat) (y : Bx) : Prop := OwnJ w base (.slice y.no y.nx.length y.nc) y.nx
theorem rowTyB {w : World} {B : Nat} {t : TypeId} {s : Nat} {v : Value} {n : Nat} {cs : List Value} (h : w.ownsRow B t s v n cs) : ∀ k, v.ownBlock = some k → ∃ cur, w.heap[k]? = some (.cells cur t (0, 0)) := by
  intro k hk
  rcases h.2 with ⟨rfl, _⟩ | ⟨g, cap, cur, rfl, _, hh, _⟩
  · cases hk
  · cases hk; exact ⟨cur, hh⟩
theorem rows_grownB {w w' : World} {base : Nat} {t : TypeId} {s : Nat} {v : Value} {n : Nat} {cs : List Value} {row : Option Nat} (h : w.ownsRow base t s v n cs) (hg : w.grownBy w' row) (hne : ∀ g, v.ownBlock = some g → row ≠ some g) : w'.ownsRow base t s v n cs := by
  refine ⟨h.1, ?_⟩
  rcases h.2 with h1 | ⟨g, cap, cur, hv, hbg, hh, r⟩
  · exact Or.inl h1
  · refine Or.inr ⟨g, cap, cur, hv, hbg, ?_, r⟩
    rw [hg.block g (Array.getElem?_eq_some_iff.1 hh).1 (fun e => hne g (by rw [hv]; rfl) e.symm)]
    exact hh
theorem NxOwn.grown {w w' : World} {base b2 : Nat} {y : Bx} {v : Value} {n : Nat} {cs : List Value} (h : NxOwn w base y) (hv : w.ownsRow b2 34 3 v n cs) (hg : w.grownBy w' v.ownBlock) : NxOwn w' base y := by
  refine rows_grownB h hg ?_
  intro g hb e
  obtain ⟨c1, g1⟩ := rowTyB h g hb
  obtain ⟨c2, g2⟩ := rowTyB hv g e
  rw [g1] at g2
  simp at g2
theorem NxOwn.below {w w' : World} {base : Nat} {y : Bx} (h : NxOwn w base y) (hb : Below w.heap.size w w') : NxOwn w' base y := rowBelowJ h hb

/-! ### What Blocks tells -/
def pD (l : List Ix) (i : Nat) : Int := match l[i]? with | some x => x.p | none => 0
def nxD (l : List Ix) (i : Nat) : List Int := match l[i]? with | some x => (nextD x.p x.op x.a).filter (hasP l) | none => []
def endN (l : List Ix) (ls : List Nat) (k : Nat) : Nat := if k + 1 < ls.length then ls.getD (k + 1) 0 else l.length
def blkN (l : List Ix) (ls : List Nat) (k : Nat) : Int × Int × List Int := (pD l (ls.getD k 0), pD l (endN l ls k - 1), nxD l (endN l ls k - 1))
def bkD (l : List Ix) : List (Int × Int × List Int) := if rsB l = true then (List.range (ldN l l.length).length).map (blkN l (ldN l l.length)) else []
theorem ldN_mem {l : List Ix} {k x : Nat} (h : x ∈ ldN l k) : x < k := by
  unfold ldN at h
  have := (List.mem_filter.1 h).1
  simpa using this
theorem ldN_pair (l : List Ix) (k : Nat) : (ldN l k).Pairwise (· < ·) := List.Pairwise.filter _ List.pairwise_lt_range
theorem endN_in {l : List Ix} {k : Nat} (h : k < (ldN l l.length).length) : (ldN l l.length)[k] < endN l (ldN l l.length) k ∧ endN l (ldN l l.length) k ≤ l.length := by
  unfold endN
  have hm := ldN_mem (List.getElem_mem h)
  split
  · rename_i h2
    rw [List.getD_eq_getElem?_getD, List.getElem?_eq_getElem h2]
    have h3 := ldN_mem (List.getElem_mem h2)
    have h4 := List.pairwise_iff_getElem.1 (ldN_pair l l.length) k (k + 1) h h2 (by omega)
    simp only [Option.getD_some]
    omega
  · omega
end Go.Proofs.YtdpfinnclnapbaaDoor
