/-
  meaning.comesFromOutside, meaning.Admits and provisoref15.Admits: whether a function takes arguments, as the plain function says; nothing old is turned. slices.Clone and Equal of numbers. Conditions: lengths fit.
-/
import Derived.Test.YtplfpcbheijdlaaSg1
import Derived.Test.YtplfpcbheijdlaaJs
import Derived.Test.YtplfpcbheijdlaaLayEq
import Derived.Shelf.Slices.Equal
namespace Go.Proofs.Ytplfpcbheijdlaa
open Go.RowKit

/-- Whether a number is a value of a type ahead of a run. -/
def outD (t : Nat) (x : Int) : Bool := if t = 1 then (decide (x ≥ -2147483648) && decide (x ≤ 2147483647)) else if t = 2 then (x == 0 || x == 1) else false
/-- Whether a function takes arguments. -/
def admD (ps : List Nat) (xs : List Int) : Bool := decide (xs.length = ps.length) && (ps.zip xs).all fun y => outD y.1 y.2
theorem admD_len {ps : List Nat} {xs : List Int} (h : xs.length ≠ ps.length) : admD ps xs = false := by unfold admD; simp [h]
theorem admD_no {ps : List Nat} {xs : List Int} {j t : Nat} {x : Int} (ha : ps[j]? = some t) (hb : xs[j]? = some x) (h : outD t x = false) : admD ps xs = false := by
  unfold admD
  have : ((ps.zip xs).all fun y => outD y.1 y.2) = false := by
    rw [List.all_eq_false]
    refine ⟨(t, x), List.mem_of_getElem? (i := j) ?_, by rw [h]; simp⟩
    rw [List.getElem?_zip_eq_some]
    exact ⟨ha, hb⟩
  rw [this, Bool.and_false]
theorem admD_yes {ps : List Nat} {xs : List Int} (hl : xs.length = ps.length) (h : ∀ (j t : Nat) (x : Int), ps[j]? = some t → xs[j]? = some x → outD t x = true) : admD ps xs = true := by
  unfold admD
  have : ((ps.zip xs).all fun y => outD y.1 y.2) = true := by
    rw [List.all_eq_true]
    intro y hy
    obtain ⟨j, hj, e⟩ := List.mem_iff_getElem.1 hy
    have e2 := List.getElem?_eq_getElem hj
    rw [e, List.getElem?_zip_eq_some] at e2
    exact h j y.1 y.2 e2.1 e2.2
  rw [this]; simp [hl]
theorem comes_any (t : Nat) (x : Int) (w : World) : Calls Try.prog 11 #[.int .u8 (t : Int), .int .i64 x] w fun e w' => e = .returned (.bool (outD t x)) ∧ w' = w := by
  by_cases h1 : t = 1
  · have t1 : (((t : Nat) : Int) == 1) = true := beq_t (by omega)
    by_cases a : x ≥ -2147483648
    · by_cases b : x ≤ 2147483647
      · have HR : Hid (outD t x = true) := hide (by unfold outD; simp [h1, a, b])
        clear h1
        go_enter Try.func11, Try.ntmps11
        go_wp2
        go_ret
        exact ⟨ret_bool (unhide HR).symm, rfl⟩
      · have HR : Hid (outD t x = false) := hide (by unfold outD; simp [h1]; omega)
        clear h1
        go_enter Try.func11, Try.ntmps11
        go_wp2
        go_ret
        exact ⟨ret_bool (unhide HR).symm, rfl⟩
    · have HR : Hid (outD t x = false) := hide (by unfold outD; simp [h1]; omega)
      clear h1
      go_enter Try.func11, Try.ntmps11
      go_wp2
      go_ret
      exact ⟨ret_bool (unhide HR).symm, rfl⟩
  have t1 : (((t : Nat) : Int) == 1) = false := beq_f (by omega)
  by_cases h2 : t = 2
  · have t2 : (((t : Nat) : Int) == 2) = true := beq_t (by omega)
    by_cases a : x = 0
    · have a1 : (x == 0) = true := by simp [a]
      have HR : Hid (outD t x = true) := hide (by unfold outD; simp [h2, a])
      clear h1 h2 a
      go_enter Try.func11, Try.ntmps11
      go_wp2
      go_ret
      exact ⟨ret_bool (unhide HR).symm, rfl⟩
    have a1 : (x == 0) = false := beq_f a
    by_cases b : x = 1
    · have b1 : (x == 1) = true := by simp [b]
      have HR : Hid (outD t x = true) := hide (by unfold outD; simp [h2, b])
      clear h1 h2 a b
      go_enter Try.func11, Try.ntmps11
      go_wp2
      go_ret
      exact ⟨ret_bool (unhide HR).symm, rfl⟩
    · have b1 : (x == 1) = false := beq_f b
      have HR : Hid (outD t x = false) := hide (by unfold outD; simp [h2, a, b])
      clear h1 h2 a b
      go_enter Try.func11, Try.ntmps11
      go_wp2
      go_ret
      exact ⟨ret_bool (unhide HR).symm, rfl⟩
  · have t2 : (((t : Nat) : Int) == 2) = false := beq_f (by omega)
    have HR : Hid (outD t x = false) := hide (by unfold outD; simp [h1, h2])
    clear h1 h2
    go_enter Try.func11, Try.ntmps11
    go_wp2
    go_ret
    exact ⟨ret_bool (unhide HR).symm, rfl⟩

set_option maxHeartbeats 2000000 in
theorem Admits_any (po : Option Addr) (pc : Nat) (ps : List Nat) (rt : Nat) (ao : Option Addr) (c : Nat) (xs : List Int) (w : World) (hp : PAt w po ps) (hx : JsAt w ao xs) (hn : ps.length ≤ 140737488351232) :
    Calls Try.prog 6 #[.agg #[.slice po ps.length pc, .int .u8 (rt : Int)], .slice ao xs.length c] w fun e w' => e = .returned (.bool (admD ps xs)) ∧ Below w.heap.size w w' := by
  have al := (Below.refl w.heap.size w).alloc (Nat.le_refl _) (.cells #[.slice po ps.length pc, .int .u8 (rt : Int)] 25)
  have HB := hide al
  have HS : Hid (SBx (w.alloc (.cells #[.slice po ps.length pc, .int .u8 (rt : Int)] 25)) w.heap.size (.slice po ps.length pc) rt) := hide (heap_alloc_new w _)
  have HP := hide (hp.below al)
  have HX : Hid (JsAt (w.alloc (.cells #[.slice po ps.length pc, .int .u8 (rt : Int)] 25)) ao xs) := hide (hx.below al)
  clear al hp hx
  go_enter Try.func6, Try.ntmps6
  go_upto_region 1 with fail
  generalize (w.alloc (.cells #[.slice po ps.length pc, .int .u8 (rt : Int)] 25)) = W1 at HB HS HP HX ⊢
  have k0 := (unhide HS).c0
  by_cases hl : xs.length = ps.length
  rotate_left
  · have HR : Hid (admD ps xs = false) := hide (admD_len hl)
    have b1 : (((xs.length : Nat) : Int) != ((ps.length : Nat) : Int)) = true := bne_t (by omega)
    clear hl
    go_wp2
    go_ret
    exact ⟨ret_bool (unhide HR).symm, unhide HB⟩
  have HL := hide hl
  have b1 : (((xs.length : Nat) : Int) != ((ps.length : Nat) : Int)) = false := bne_f (by omega)
  clear hl
  go_wp2_with fail
  go_loopw [16] (fun i wr => ∃ (j : Nat), j ≤ ps.length ∧ i = .int .i64 (j : Int) ∧ wr = W1 ∧ Hid (∀ (i t : Nat) (x : Int), i < j → ps[i]? = some t → xs[i]? = some x → outD t x = true)) (fun i _ => ps.length - (intOf i).toNat)
  case atStart => exact ⟨0, by omega, rfl, rfl, hide (fun i a b h => by omega)⟩
  case round =>
    obtain ⟨j, hj, rfl, rfl, HA⟩ := hrel
    by_cases hlt : j < ps.length
    · have j1 : ((j : Nat) : Int) < ((ps.length : Nat) : Int) := by omega
      have j2 : ((j : Nat) : Int) < ((xs.length : Nat) : Int) := by have := unhide HL; omega
      have j0 : (0 : Int) ≤ ((j : Nat) : Int) := by omega
      have ha := List.getElem?_eq_getElem hlt
      have hb := List.getElem?_eq_getElem (show j < xs.length by have := unhide HL; omega)
      obtain ⟨b, off, ep, hc⟩ := unhide HP j _ ha
      obtain ⟨b2, off2, ep2, hc2⟩ := unhide HX j _ hb
      generalize ps[j] = t at ha hc
      generalize xs[j] = x at hb hc2
      have HY := hide ha
      have HZ := hide hb
      rw [ep, ep2]
      rw [ep] at k0
      clear ha hb
      go_wp2_with fail
      refine (comes_any t x _).mono ?_
      rintro e w2 ⟨rfl, rfl⟩
      cases hq : outD t x
      · have HE : Hid (admD ps xs = false) := hide (admD_no (unhide HY) (unhide HZ) hq)
        clear hq
        go_wp2
        go_ret
        exact ⟨ret_bool (unhide HE).symm, unhide HB⟩
      · have HA2 : Hid (∀ (i t : Nat) (x : Int), i < j + 1 → ps[i]? = some t → xs[i]? = some x → outD t x = true) := hide (fun i a b h h1 h2 => by
          by_cases e : i = j
          · rw [e, unhide HY] at h1
            rw [e, unhide HZ] at h2
            injection h1 with h1
            injection h2 with h2
            rw [← h1, ← h2]; exact hq
          · exact unhide HA i a b (by omega) h1 h2)
        clear hq HA
        go_wp2
        go_roundw
        case rel => exact ⟨j + 1, by omega, by go_num, trivial, HA2⟩
        case measure => simp [intOf]; omega
    · have j1 : ¬ ((j : Nat) : Int) < ((ps.length : Nat) : Int) := by omega
      have HE : Hid (admD ps xs = true) := hide (admD_yes (unhide HL) (fun i a b h1 h2 => unhide HA i a b (by have := (List.getElem?_eq_some_iff.1 h1).1; omega) h1 h2))
      clear HA
      go_wp2
      go_ret
      exact ⟨ret_bool (unhide HE).symm, unhide HB⟩

set_option maxHeartbeats 4000000 in
theorem refAdmits_any (po : Option Addr) (pc : Nat) (ps : List Nat) (rt : Nat) (ao : Option Addr) (c : Nat) (xs : List Int) (w : World) (hp : PAt w po ps) (hx : JsAt w ao xs) (hn : ps.length ≤ 140737488351232) :
    Calls Try.prog 7 #[.agg #[.slice po ps.length pc, .int .u8 (rt : Int)], .slice ao xs.length c] w fun e w' => e = .returned (.bool (admD ps xs)) ∧ Below w.heap.size w w' := by
  have al := (Below.refl w.heap.size w).alloc (Nat.le_refl _) (.cells #[.slice po ps.length pc, .int .u8 (rt : Int)] 25)
  have HB := hide al
  have HS : Hid (SBx (w.alloc (.cells #[.slice po ps.length pc, .int .u8 (rt : Int)] 25)) w.heap.size (.slice po ps.length pc) rt) := hide (heap_alloc_new w _)
  have HP := hide (hp.below al)
  have HX : Hid (JsAt (w.alloc (.cells #[.slice po ps.length pc, .int .u8 (rt : Int)] 25)) ao xs) := hide (hx.below al)
  clear al hp hx
  go_enter Try.func7, Try.ntmps7
  go_upto_region 1 with fail
  generalize (w.alloc (.cells #[.slice po ps.length pc, .int .u8 (rt : Int)] 25)) = W1 at HB HS HP HX ⊢
  have k0 := (unhide HS).c0
  by_cases hl : xs.length = ps.length
  rotate_left
  · have HR : Hid (admD ps xs = false) := hide (admD_len hl)
    have b1 : (((xs.length : Nat) : Int) != ((ps.length : Nat) : Int)) = true := bne_t (by omega)
    clear hl
    go_wp2
    go_ret
    exact ⟨ret_bool (unhide HR).symm, unhide HB⟩
  have HL := hide hl
  have b1 : (((xs.length : Nat) : Int) != ((ps.length : Nat) : Int)) = false := bne_f (by omega)
  clear hl
  go_wp2_with fail
  go_loopw [17] (fun i wr => ∃ (j : Nat), j ≤ ps.length ∧ i = .int .i64 (j : Int) ∧ wr = W1 ∧ Hid (∀ (i t : Nat) (x : Int), i < j → ps[i]? = some t → xs[i]? = some x → outD t x = true)) (fun i _ => ps.length - (intOf i).toNat)
  case atStart => exact ⟨0, by omega, rfl, rfl, hide (fun i a b h => by omega)⟩
  case round =>
    obtain ⟨j, hj, rfl, rfl, HA⟩ := hrel
    by_cases hlt : j < ps.length
    · have j1 : ((j : Nat) : Int) < ((ps.length : Nat) : Int) := by omega
      have j2 : ((j : Nat) : Int) < ((xs.length : Nat) : Int) := by have := unhide HL; omega
      have j0 : (0 : Int) ≤ ((j : Nat) : Int) := by omega
      have ha := List.getElem?_eq_getElem hlt
      have hb := List.getElem?_eq_getElem (show j < xs.length by have := unhide HL; omega)
      obtain ⟨b, off, ep, hc⟩ := unhide HP j _ ha
      obtain ⟨b2, off2, ep2, hc2⟩ := unhide HX j _ hb
      generalize ps[j] = t at ha hc
      generalize xs[j] = x at hb hc2
      have HNO : Hid (outD t x = false → admD ps xs = false) := hide (fun hq => admD_no ha hb hq)
      have HA2 : Hid (outD t x = true → ∀ (i t : Nat) (x : Int), i < j + 1 → ps[i]? = some t → xs[i]? = some x → outD t x = true) := hide (fun hq i a b h h1 h2 => by
        by_cases e : i = j
        · rw [e, ha] at h1
          rw [e, hb] at h2
          injection h1 with h1
          injection h2 with h2
          rw [← h1, ← h2]; exact hq
        · exact unhide HA i a b (by omega) h1 h2)
      rw [ep, ep2]
      rw [ep] at k0
      clear ha hb HA
      by_cases h1 : t = 1
      · have t1 : (((t : Nat) : Int) == 1) = true := beq_t (by omega)
        by_cases a : x < -2147483648
        · have HE : Hid (admD ps xs = false) := hide (unhide HNO (by unfold outD; simp [h1]; omega))
          clear h1
          go_wp2
          go_ret
          exact ⟨ret_bool (unhide HE).symm, unhide HB⟩
        by_cases b : x > 2147483647
        · have HE : Hid (admD ps xs = false) := hide (unhide HNO (by unfold outD; simp [h1]; omega))
          clear h1
          go_wp2
          go_ret
          exact ⟨ret_bool (unhide HE).symm, unhide HB⟩
        · have HA3 := hide (unhide HA2 (by unfold outD; simp [h1]; omega))
          clear h1
          go_wp2
          go_roundw
          case rel => exact ⟨j + 1, by omega, by go_num, trivial, HA3⟩
          case measure => simp [intOf]; omega
      have t1 : (((t : Nat) : Int) == 1) = false := beq_f (by omega)
      by_cases h2 : t = 2
      · have t2 : (((t : Nat) : Int) == 2) = true := beq_t (by omega)
        by_cases a : x = 0
        · have a1 : (x != 0) = false := bne_f a
          have HA3 := hide (unhide HA2 (by unfold outD; simp [h2, a]))
          clear h1 h2 a
          go_wp2
          go_roundw
          case rel => exact ⟨j + 1, by omega, by go_num, trivial, HA3⟩
          case measure => simp [intOf]; omega
        have a1 : (x != 0) = true := bne_t a
        by_cases b : x = 1
        · have b1 : (x != 1) = false := bne_f b
          have HA3 := hide (unhide HA2 (by unfold outD; simp [h2, b]))
          clear h1 h2 a b
          go_wp2
          go_roundw
          case rel => exact ⟨j + 1, by omega, by go_num, trivial, HA3⟩
          case measure => simp [intOf]; omega
        · have b1 : (x != 1) = true := bne_t b
          have HE : Hid (admD ps xs = false) := hide (unhide HNO (by unfold outD; simp [h2, a, b]))
          clear h1 h2 a b
          go_wp2
          go_ret
          exact ⟨ret_bool (unhide HE).symm, unhide HB⟩
      · have t2 : (((t : Nat) : Int) == 2) = false := beq_f (by omega)
        have HE : Hid (admD ps xs = false) := hide (unhide HNO (by unfold outD; simp [h1, h2]))
        clear h1 h2
        go_wp2
        go_ret
        exact ⟨ret_bool (unhide HE).symm, unhide HB⟩
    · have j1 : ¬ ((j : Nat) : Int) < ((ps.length : Nat) : Int) := by omega
      have HE : Hid (admD ps xs = true) := hide (admD_yes (unhide HL) (fun i a b h1 h2 => unhide HA i a b (by have := (List.getElem?_eq_some_iff.1 h1).1; omega) h1 h2))
      clear HA
      go_wp2
      go_ret
      exact ⟨ret_bool (unhide HE).symm, unhide HB⟩
theorem jvals_one (l : List Int) : ∀ u ∈ jvals l, u.oneCell' = true := by
  intro u hu
  unfold jvals at hu
  obtain ⟨x, _, rfl⟩ := List.mem_map.1 hu
  rfl
set_option maxHeartbeats 400000 in
theorem CloneJ_any (ao : Option Addr) (c : Nat) (l : List Int) (w : World) (hl : JsAt w ao l) (hn : ao = none → l = []) (hb : l.length ≤ 17592186043904) :
    Calls Try.prog 5 #[.slice ao l.length c] w fun e w' => ∃ v, e = .returned v ∧ OwnJ w' w.heap.size v l ∧ Below w.heap.size w w' := by
  have q22 : ∀ (w : World) (a : Option Addr) (n c n' c' : Nat), (binOp .eql 26 (.slice a n c) (.slice none n' c')).run Try.prog w = .ok (.bool a.isNone) w := fun w a n c n' c' => Lib.run_eql_slice_nil w _ _ a n c n' c' Try.underlying26
  obtain ⟨i0, hi, hz0, hz1, hz2⟩ := info_parts infoJ
  cases ao with
  | none =>
    have hl0 := hn rfl
    subst hl0
    go_enter Try.func5, Try.ntmps5
    go_wp2
    go_ret
    exact ⟨_, rfl, World.ownsRow_nil _ _ _ _, Below.refl _ _⟩
  | some x =>
    go_enter Try.func5, Try.ntmps5
    go_wp2_with (at_builtin; refine wpList_append_own _ rfl _ _ 26 rfl w.heap.size 3 i0 (.int .i64 0) 1 8 Try.underlying26 hi hz0 hz1 hz2 rfl (by decide) _ 0 [] rfl (World.ownsRow_made w #[] 0 (Nat.le_refl _) (by decide) rfl) x l.length c (jvals l) rfl ?c0 ?c1 ?c2 ?c3 ?c4 ?c5 ?_)
    case c0 => simp [jvals]
    case c1 =>
      intro j u hj
      unfold jvals at hj
      rw [List.getElem?_map] at hj
      obtain ⟨a, ha, rfl⟩ := Option.map_eq_some_iff.1 hj
      obtain ⟨b, off, e, hcell⟩ := hl j a ha
      injection e with e
      subst e
      have hlt := World.block_lt_of_cell? w _ hcell
      rw [Addr.add_lit]
      exact (((Below.refl w.heap.size w).alloc (Nat.le_refl _) _).cell (p := ⟨b, off + j, none⟩) hlt).trans hcell
    case c2 => exact jvals_one l
    case c3 => unfold maxLen; omega
    case c4 => omega
    case c5 => simp
    · intro v' w1 hown hgrow _
      have HX : Hid (OwnJ w1 w.heap.size v' l) := hide (by simpa [OwnJ] using hown)
      have HB : Hid (Below w.heap.size w w1) := hide (((Below.refl w.heap.size w).alloc (Nat.le_refl _) _).trans (below_grown hgrow (by simp) (fun k e => by simp [Value.ownBlock] at e; omega)))
      clear hown hgrow hl
      go_wp2
      go_ret
      exact ⟨_, rfl, unhide HX, unhide HB⟩

theorem EqualJ_same {w : World} {a1 a2 : Option Addr} {c d : Nat} {l : List Int} (h1 : JsAt w a1 l) (h2 : JsAt w a2 l) (hl : l.length ≤ 17592186044416) :
    Calls Try.prog 9 #[.slice a1 l.length c, .slice a2 l.length d] w fun e w' => e = .returned (.bool true) ∧ ∃ q, w' = w.drewN q := by
  cases l with
  | nil =>
    refine (Any.slices_Equal_int_empty Try.laysEq a1 a2 c 0 d w (by omega)).mono ?_
    rintro e w' ⟨rfl, rfl⟩
    exact ⟨rfl, 0, rfl⟩
  | cons x l =>
    obtain ⟨b1, o1, rfl, _⟩ := h1 0 x rfl
    obtain ⟨b2, o2, rfl, _⟩ := h2 0 x rfl
    refine (Any.slices_Equal_int Try.laysEq b1 o1 (x :: l).length c b2 o2 (x :: l).length d (x :: l) (x :: l) w (Nat.le_refl _) (Nat.le_refl _) (by omega) (by omega) (fun j hj => ?_) (fun j hj => ?_)).mono ?_
    · obtain ⟨b, off, e, hc⟩ := h1 j _ (List.getElem?_eq_getElem hj)
      injection e with e
      injection e with e1 e2
      subst e1 e2
      rw [hc, List.getD_eq_getElem?_getD, List.getElem?_eq_getElem hj]
      rfl
    · obtain ⟨b, off, e, hc⟩ := h2 j _ (List.getElem?_eq_getElem hj)
      injection e with e
      injection e with e1 e2
      subst e1 e2
      rw [hc, List.getD_eq_getElem?_getD, List.getElem?_eq_getElem hj]
      rfl
    · rintro e w' ⟨rfl, q, rfl⟩
      exact ⟨by simp, q, rfl⟩
end Go.Proofs.Ytplfpcbheijdlaa
