/-
  slices.Clone and slices.Equal at parameters; provisoplain.SameExpr of an expression and its copy. Conditions: lengths fit.
-/
import Derived.Test.YtjccomjgmejnhaaKTr2
import Derived.Deep.RegionHeld
namespace Go.Proofs.Ytjccomjgmejnhaa
open Go.RowKit

theorem infoPm : (Try.prog.info? 34).map (fun i => (i.zero, i.size, i.bytes)) = some (some (.agg #[.int .i64 0, .string ⟨#[]⟩, .string ⟨#[]⟩, .int .u8 0]), 4, 48) := by kernel_rfl
theorem pmC_one (L : List Pm) : ∀ u ∈ vals pmN L, u.oneCell' = true := by
  intro u hu
  obtain ⟨x, _, hx⟩ := List.mem_flatMap.1 hu
  have hx : u ∈ pmC x := hx
  simp only [pmC, List.mem_cons, List.mem_nil_iff, or_false] at hx
  rcases hx with rfl | rfl | rfl | rfl <;> rfl
theorem row_cells {α : Type} {N : Nd α} {W : World} {b off : Nat} {L : List α} (h : RowAt N W (some ⟨b, off, none⟩) L) : ∀ (j : Nat) u, (vals N L)[j]? = some u → W.cell? ⟨b, off + j, none⟩ = some u := by
  intro j u hu
  have hj := (List.getElem?_eq_some_iff.1 hu).1
  rw [vals_length] at hj
  have hpos := N.pos
  have hi : j / N.s < L.length := (Nat.div_lt_iff_lt_mul hpos).2 hj
  obtain ⟨b2, off2, e2, hr, _⟩ := h (j / N.s) _ (List.getElem?_eq_getElem hi)
  injection e2 with e2
  injection e2 with e3 e4
  subst e3 e4
  have hm := Nat.mod_lt j hpos
  have hd := Nat.div_add_mod j N.s
  rw [Nat.mul_comm] at hd
  have := vals_get N (List.getElem?_eq_getElem hi) (j % N.s) hm
  rw [hd, hu] at this
  have := hr (j % N.s) u this.symm
  rw [Nat.add_assoc, hd] at this
  exact this
set_option maxHeartbeats 2000000 in
theorem clonePm_any (fo : Option Addr) (fc : Nat) (fs : List Pm) (w : World) (h : RowAt pmN w fo fs) (hn : fo = none → fs = []) (hb : fs.length * 48 ≤ 140737488351232) :
    Calls Try.prog 8 #[.slice fo fs.length fc] w fun e w' => ∃ v, e = .returned v ∧ Bld pmN w' w.heap.size v fs ∧ Below w.heap.size w w' := by
  have q36 : ∀ (w : World) (a : Option Addr) (n c n' c' : Nat), (binOp .eql 28 (.slice a n c) (.slice none n' c')).run Try.prog w = .ok (.bool a.isNone) w := fun w a n c n' c' => Lib.run_eql_slice_nil w _ _ a n c n' c' Try.underlying28
  obtain ⟨i0, hi, hz0, hz1, hz2⟩ := info_parts infoPm
  cases fo with
  | none =>
    have hl0 := hn rfl
    subst hl0
    go_enter Try.func8, Try.ntmps8
    go_wp2
    go_ret
    exact ⟨_, rfl, Bld.nil _ _ _, Below.refl _ _⟩
  | some x =>
    have HOK : Hid (∀ y ∈ fs, POk y) := hide (fun y hy => by
      obtain ⟨i, hi, e⟩ := List.mem_iff_getElem.1 hy
      obtain ⟨_, _, _, _, h2⟩ := h i y (by rw [← e]; exact List.getElem?_eq_getElem hi)
      exact h2)
    have hsrc : ∀ (i : Nat) u, (vals pmN fs)[i]? = some u → (w.alloc (.cells #[] 34)).cell? (x.add i) = some u := by
      intro i u hu
      have hp : 0 < fs.length := by
        have := (List.getElem?_eq_some_iff.1 hu).1
        rw [vals_length] at this
        exact Nat.pos_of_ne_zero (fun e => by rw [e] at this; simp at this)
      obtain ⟨b2, off2, e2, hr, _⟩ := h 0 _ (List.getElem?_eq_getElem hp)
      injection e2 with e2
      subst e2
      have hlt := range_lt hr (by rw [pmN.len]; exact pmN.pos)
      rw [Addr.add_lit]
      exact (((Below.refl w.heap.size w).alloc (Nat.le_refl _) _).cell (p := ⟨b2, off2 + i, none⟩) hlt).trans (row_cells h i u hu)
    have HSr := hide hsrc
    clear hsrc h hn
    go_enter Try.func8, Try.ntmps8
    go_wp2_with (at_builtin; refine wpList_append_own _ rfl _ _ 28 rfl w.heap.size 34 i0 (.agg #[.int .i64 0, .string ⟨#[]⟩, .string ⟨#[]⟩, .int .u8 0]) 4 48 Try.underlying28 hi hz0 hz1 hz2 rfl (by decide) _ 0 [] rfl (World.ownsRow_made w #[] 0 (Nat.le_refl _) (by decide) rfl) x fs.length fc (vals pmN fs) rfl (vals_length pmN fs) (unhide HSr) (pmC_one fs) ?c3 ?c4 ?c5 ?_)
    case c3 => unfold maxLen; omega
    case c4 => omega
    case c5 => simp
    · intro v' w1 hown hgrow hnil
      go_wp2
      go_ret
      refine ⟨_, rfl, ⟨?_, unhide HOK, fun _ _ => trivial, fun _ _ _ _ => trivial⟩, ?_⟩
      · have h2 : w1.ownsRow w.heap.size 34 4 v' fs.length (vals pmN fs) := by simpa using hown
        exact h2
      · exact ((Below.refl w.heap.size w).alloc (Nat.le_refl _) _).trans (below_grown hgrow (by simp) (fun k e => by simp [Value.ownBlock] at e; omega))
set_option maxHeartbeats 2000000 in
theorem equalPm_yes (fo go : Option Addr) (fc gc : Nat) (fs : List Pm) (w : World) (h : RowAt pmN w fo fs) (hg : RowAt pmN w go fs) (hb : fs.length * 48 ≤ 140737488351232) :
    Calls Try.prog 16 #[.slice fo fs.length fc, .slice go fs.length gc] w fun e w' => e = .returned (.bool true) ∧ ∃ k, w' = w.drewN k := by
  have e0 : (((fs.length : Nat) : Int) != ((fs.length : Nat) : Int)) = false := by simp
  have hb' : fs.length < 9223372036854775000 := by omega
  clear hb
  go_enter Try.func16, Try.ntmps16
  go_wp2
  go_loopw [13] (fun i wr => ∃ k : Nat, k ≤ fs.length ∧ i = .int .i64 (k : Int) ∧ ∃ q, wr = w.drewN q) (fun i _ => fs.length - (intOf i).toNat)
  case atStart => exact ⟨0, by omega, rfl, 0, rfl⟩
  case round =>
    obtain ⟨k, hk, rfl, q, rfl⟩ := hrel
    by_cases hlt : k < fs.length
    · have i1 : ((k : Nat) : Int) < ((fs.length : Nat) : Int) := by omega
      obtain ⟨b, off, rfl, hx, _⟩ := h k _ (List.getElem?_eq_getElem hlt)
      obtain ⟨b', off', rfl, hy, _⟩ := hg k _ (List.getElem?_eq_getElem hlt)
      generalize fs[k] = f at hx hy
      have hx : w.rangeAt b (off + k * 4) (pmC f) := hx
      have hy : w.rangeAt b' (off' + k * 4) (pmC f) := hy
      have d0 := hx 0 _ rfl
      have d1 := hx 1 _ rfl
      have d2 := hx 2 _ rfl
      have d3 := hx 3 _ rfl
      have g0 := hy 0 _ rfl
      have g1 := hy 1 _ rfl
      have g2 := hy 2 _ rfl
      have g3 := hy 3 _ rfl
      rw [Nat.add_zero] at d0 g0
      clear hx hy h hg
      go_wp2
      go_quiet (fail)
      go_wp2
      go_roundw
      case rel => exact ⟨k + 1, by omega, by go_num, _, rfl⟩
      case measure => simp [intOf]; omega
    · have i1 : ¬ ((k : Nat) : Int) < ((fs.length : Nat) : Int) := by omega
      go_wp2
      go_ret
      exact ⟨rfl, _, rfl⟩
end Go.Proofs.Ytjccomjgmejnhaa
