/-
  The contracts of talk.Unpack and talk.Heard. Conditions: lengths fit.
-/
import Derived.Test.YtghdefhbncejjaaTk3
import Derived.Deep.RegionWith
import Derived.Handy
namespace Go.Proofs.Ytghdefhbncejjaa
open Go.RowKit
set_option linter.unusedVariables false

theorem opE_zero {l : List UInt8} {mk : Int} {hd : Nat} (h : opE l mk hd = 0) : at8 l 0 = mk ∧ l.length = opN l hd + 4 ∧ s32 (beN (l.drop (opN l hd))) = s32 (sumOf (l.take (opN l hd))) := by
  unfold opE at h
  by_cases h0 : l.length = 0
  · rw [if_pos h0] at h; omega
  rw [if_neg h0] at h
  by_cases hm : at8 l 0 ≠ mk
  · rw [if_pos hm] at h; omega
  rw [if_neg hm] at h
  by_cases h1 : l.length < hd
  · rw [if_pos h1] at h; omega
  rw [if_neg h1] at h
  by_cases h2 : l.length < opN l hd + 4
  · rw [if_pos h2] at h; omega
  rw [if_neg h2] at h
  by_cases h3 : opN l hd + 4 < l.length
  · rw [if_pos h3] at h; omega
  rw [if_neg h3] at h
  by_cases h4 : s32 (beN (l.drop (opN l hd))) ≠ s32 (sumOf (l.take (opN l hd)))
  · rw [if_pos h4] at h; omega
  exact ⟨Decidable.not_not.1 hm, by omega, Decidable.not_not.1 h4⟩
theorem opN_ge (l : List UInt8) (hd : Nat) : hd ≤ opN l hd := by unfold opN; omega
def unC (l : List UInt8) : Int := if opE l 80 5 = 0 then at8 l 1 else 0
def unN (l : List UInt8) : Int := if opE l 80 5 = 0 then wdT l 2 else 0
def heS (l : List UInt8) : Int := if opE l 112 4 = 0 then wdT l 1 else 0
/-- What Unpack, and Heard, answers. -/
def UnPost (w : World) (code c n : Int) (L : List UInt8) (e : Ending) (w' : World) : Prop := ∃ v, e = .returned (.tuple #[.agg #[.int .i64 c, .int .i64 n, v], .int .i64 code]) ∧ OwnB w' w.heap.size v L ∧ Below w.heap.size w w'
def HePost (w : World) (code s : Int) (L : List UInt8) (e : Ending) (w' : World) : Prop := ∃ v, e = .returned (.tuple #[.agg #[.int .i64 s, v], .int .i64 code]) ∧ OwnB w' w.heap.size v L ∧ Below w.heap.size w w'
theorem results_cell_tmpT {fn : Func} {p u : Tmp} {ty : TypeId} (h : fn.results = #[.cell p ty, .tmp u]) (tmps : Array Value) (P : Program) (w : World) :
    (results fn tmps).run P w = ((asAddr (tmps.getD p undef)).run P w).andThen fun a w₁ => ((loadVar ty a).run P w₁).andThen fun x w₂ => .ok (.tuple #[x, tmps.getD u undef]) w₂ := by
  simp only [results, h]
  simp [Sem.run_bind, Result.andThen]
theorem run_addrT (g : Nat) (w : World) : (asAddr (.pointer (some ⟨g, 0, none⟩))).run Try.prog w = .ok ⟨g, 0, none⟩ w := rfl
theorem results_rqT {fn : Func} {q u : Tmp} (h : fn.results = #[.cell q 24, .tmp u]) (tmps : Array Value) (W : World) (g : Nat) (v x0 x1 x2 : Value) (hp : tmps.getD q undef = .pointer (some ⟨g, 0, none⟩)) (hu : tmps.getD u undef = v) (hg : Bx W g 24 #[x0, x1, x2]) :
    (results fn tmps).run Try.prog W = .ok (.tuple #[.agg #[x0, x1, x2], v]) W := by
  rw [results_cell_tmpT h, hp, hu, run_addrT, Result.andThen_ok, run_loadVar_row W g 24 24 #[x0, x1, x2] (0, 0) _ hg Try.underlying24 rfl (by kernel_rfl), Result.andThen_ok]
theorem results_anT {fn : Func} {q u : Tmp} (h : fn.results = #[.cell q 26, .tmp u]) (tmps : Array Value) (W : World) (g : Nat) (v x0 x1 : Value) (hp : tmps.getD q undef = .pointer (some ⟨g, 0, none⟩)) (hu : tmps.getD u undef = v) (hg : Bx W g 26 #[x0, x1]) :
    (results fn tmps).run Try.prog W = .ok (.tuple #[.agg #[x0, x1], v]) W := by
  rw [results_cell_tmpT h, hp, hu, run_addrT, Result.andThen_ok, run_loadVar_row W g 26 26 #[x0, x1] (0, 0) _ hg Try.underlying26 rfl (by kernel_rfl), Result.andThen_ok]
theorem Bx.chain3 {W : World} {g : Nat} {t : TypeId} {x0 x1 x2 : Value} (h : Bx W g t #[x0, x1, x2]) (y0 y1 y2 : Value) : Bx (((W.setCell ⟨g, 0, none⟩ y0).setCell ⟨g, 1, none⟩ y1).setCell ⟨g, 2, none⟩ y2) g t #[y0, y1, y2] := ((h.set 0 y0 rfl).set 1 y1 rfl).set 2 y2 rfl
theorem Bx.chain2 {W : World} {g : Nat} {t : TypeId} {x0 x1 : Value} (h : Bx W g t #[x0, x1]) (y0 y1 : Value) : Bx ((W.setCell ⟨g, 0, none⟩ y0).setCell ⟨g, 1, none⟩ y1) g t #[y0, y1] := (h.set 0 y0 rfl).set 1 y1 rfl
theorem OwnB.setT {w : World} {B g i : Nat} {v y : Value} {l : List UInt8} (h : OwnB w B v l) (hv : ∀ k, v.ownBlock = some k → k ≠ g) : OwnB (w.setCell ⟨g, i, none⟩ y) B v l := h.keep (kept_setCell w ⟨g, i, none⟩ y) (fun k e e2 => hv k e e2)
theorem OwnB.drewT {w : World} {B n : Nat} {v : Value} {l : List UInt8} (h : OwnB w B v l) : OwnB (w.drewN n) B v l := h
theorem wrap_byteT {x : Int} (h0 : 0 ≤ x) (h1 : x ≤ 255) : IntKind.i64.wrap x = x := by simp [IntKind.wrap, IntKind.bits, IntKind.signed]; omega
set_option maxHeartbeats 4000000 in
theorem Unpack_any (ao : Option Addr) (c : Nat) (l : List UInt8) (w : World) (hb : BAt w ao l) (hlc : l.length ≤ c) (hl : l.length ≤ 140737488355328) :
    Calls Try.prog 15 #[.slice ao l.length c] w (UnPost w (opE l 80 5) (unC l) (unN l) (opL l 80 5)) := by
  have HA : Hid (Below w.heap.size w (w.alloc (.cells #[.int .i64 0, .int .i64 0, .slice none 0 0] 24))) := hide ((Below.refl _ w).alloc (Nat.le_refl _) _)
  have HX : Hid (Bx (w.alloc (.cells #[.int .i64 0, .int .i64 0, .slice none 0 0] 24)) w.heap.size 24 #[.int .i64 0, .int .i64 0, .slice none 0 0]) := hide (heap_alloc_new w _)
  have HB := hide (hb.below' (unhide HA))
  clear hb
  go_enter Try.func15, Try.ntmps15
  go_upto_region 1 with fail
  generalize (w.alloc (.cells #[.int .i64 0, .int .i64 0, .slice none 0 0] 24)) = W0 at HA HX HB ⊢
  have HO := hide (opened_any ao c l 80 5 W0 (unhide HB) hlc hl (by omega) (by omega))
  go_wp2_with fail
  refine (unhide HO).mono ?_
  rintro e W1 ⟨v, rfl, hO1, hb1⟩
  have HB1 := hide ((unhide HA).trans (hb1.mono (unhide HA).size))
  have HO1 := hide (hO1.mono (unhide HA).size)
  have HX1 := hide ((unhide HX).below hb1)
  have HBb := hide ((unhide HB).below' hb1)
  have hvb : ∀ k, v.ownBlock = some k → k ≠ w.heap.size := fun k e => by have := (World.ownsRow.lt hO1 k e).1; have := (unhide HX).lt; omega
  have HVB := hide hvb
  obtain ⟨va, vc, hve, -⟩ := (unhide HO1).at
  obtain ⟨LL, hLL⟩ : ∃ LL, LL = opL l 80 5 := ⟨_, rfl⟩
  rw [← hLL] at hve HO1
  have HLL := hide hLL
  subst hve
  clear hO1 hb1 HO hvb HX HB hLL
  have k0 := (unhide HX1).c 0 rfl
  have k1 := (unhide HX1).c 1 rfl
  have k2 := (unhide HX1).c 2 rfl
  have f0 := (unhide HX1).f 0
  have f1 := (unhide HX1).f 1
  have f2 := (unhide HX1).f 2
  by_cases he : opE l 80 5 = 0
  · obtain ⟨z1, z2, z3⟩ := opE_zero he
    have z4 := opN_ge l 5
    have HC := hide (show unC l = at8 l 1 by unfold unC; rw [if_pos he])
    have HN := hide (show unN l = wdT l 2 by unfold unN; rw [if_pos he])
    have h9 : 9 ≤ l.length := by omega
    obtain ⟨b, off, rfl, hc⟩ := (unhide HBb).head (by omega)
    have c1 := hc 1 (by omega)
    have i1 : (1 : Int) < ((l.length : Nat) : Int) := by omega
    have hz := hide he
    have HWd : Hid (Calls Try.prog 35 #[.slice (some ⟨b, off, none⟩) l.length c, .int .i64 2] W1.drew fun e w' => e = .returned (.int .i64 (wdT l 2)) ∧ ∃ k, w' = W1.drew.drewN k) := hide (wordAt_any (some ⟨b, off, none⟩) c l 2 W1.drew (unhide HBb) (by omega) (by omega))
    obtain ⟨x, hx⟩ : ∃ x, x = at8 l 1 := ⟨_, rfl⟩
    obtain ⟨y, hy⟩ : ∃ y, y = wdT l 2 := ⟨_, rfl⟩
    rw [← hx] at c1 HC
    rw [← hy] at HN HWd
    have xl : 0 ≤ x := by rw [hx]; exact at8_lo _ _
    have xh : x ≤ 255 := by rw [hx]; exact at8_hi _ _
    clear z1 z2 z3 z4 hc hx hy he
    obtain ⟨E, hE⟩ : ∃ E, E = opE l 80 5 := ⟨_, rfl⟩
    rw [← hE] at hz ⊢
    have hE0 := bne_f (unhide hz)
    have HE := hide hE
    clear hE
    go_wp2_with fail
    have hxw := wrap_byteT xl xh
    go_region_with (go_at_call 35; refine (unhide HWd).mono ?_; rintro e w2 ⟨rfl, k, rfl⟩)
    all_goals
      go_wp2
      refine bodyPost_ret (results_rqT rfl _ _ w.heap.size (.int .i64 0) _ _ _ rfl rfl (Bx.chain3 (unhide HX1) _ _ _)) rfl ⟨.slice va LL.length vc, ?_, ?_, ?_⟩
      · rw [unhide HC, unhide HN, ← unhide HE, unhide hz]
      · rw [← unhide HLL]
        exact (((unhide HO1).setT (unhide HVB)).setT (unhide HVB)).setT (unhide HVB)
      · exact (((belowD (unhide HB1) _).setCell (p := ⟨w.heap.size, 0, none⟩) (Nat.le_refl _) _).setCell (p := ⟨w.heap.size, 1, none⟩) (Nat.le_refl _) _).setCell (p := ⟨w.heap.size, 2, none⟩) (Nat.le_refl _) _
  · have HC := hide (show unC l = 0 by unfold unC; rw [if_neg he])
    have HN := hide (show unN l = 0 by unfold unN; rw [if_neg he])
    have HL0 : Hid (LL = []) := hide (by rw [unhide HLL]; unfold opL; rw [if_neg he])
    have hE0 := bne_t he
    clear he
    go_wp2
    refine bodyPost_ret (results_rqT rfl _ _ w.heap.size (.int .i64 (opE l 80 5)) _ _ _ rfl rfl (Bx.chain3 (unhide HX1) _ _ _)) rfl ⟨.slice none 0 0, ?_, ?_, ?_⟩
    · rw [unhide HC, unhide HN]
    · rw [← unhide HLL, unhide HL0]
      exact World.ownsRow_nil _ _ _ _
    · exact ((((unhide HB1)).setCell (p := ⟨w.heap.size, 0, none⟩) (Nat.le_refl _) _).setCell (p := ⟨w.heap.size, 1, none⟩) (Nat.le_refl _) _).setCell (p := ⟨w.heap.size, 2, none⟩) (Nat.le_refl _) _
set_option maxHeartbeats 4000000 in
theorem Heard_any (ao : Option Addr) (c : Nat) (l : List UInt8) (w : World) (hb : BAt w ao l) (hlc : l.length ≤ c) (hl : l.length ≤ 140737488355328) :
    Calls Try.prog 18 #[.slice ao l.length c] w (HePost w (opE l 112 4) (heS l) (opL l 112 4)) := by
  have HA : Hid (Below w.heap.size w (w.alloc (.cells #[.int .i64 0, .slice none 0 0] 26))) := hide ((Below.refl _ w).alloc (Nat.le_refl _) _)
  have HX : Hid (Bx (w.alloc (.cells #[.int .i64 0, .slice none 0 0] 26)) w.heap.size 26 #[.int .i64 0, .slice none 0 0]) := hide (heap_alloc_new w _)
  have HB := hide (hb.below' (unhide HA))
  clear hb
  go_enter Try.func18, Try.ntmps18
  go_upto_region 1 with fail
  generalize (w.alloc (.cells #[.int .i64 0, .slice none 0 0] 26)) = W0 at HA HX HB ⊢
  have HO := hide (opened_any ao c l 112 4 W0 (unhide HB) hlc hl (by omega) (by omega))
  go_wp2_with fail
  refine (unhide HO).mono ?_
  rintro e W1 ⟨v, rfl, hO1, hb1⟩
  have HB1 := hide ((unhide HA).trans (hb1.mono (unhide HA).size))
  have HO1 := hide (hO1.mono (unhide HA).size)
  have HX1 := hide ((unhide HX).below hb1)
  have HBb := hide ((unhide HB).below' hb1)
  have hvb : ∀ k, v.ownBlock = some k → k ≠ w.heap.size := fun k e => by have := (World.ownsRow.lt hO1 k e).1; have := (unhide HX).lt; omega
  have HVB := hide hvb
  obtain ⟨va, vc, hve, -⟩ := (unhide HO1).at
  obtain ⟨LL, hLL⟩ : ∃ LL, LL = opL l 112 4 := ⟨_, rfl⟩
  rw [← hLL] at hve HO1
  have HLL := hide hLL
  subst hve
  clear hO1 hb1 HO hvb HX HB hLL
  have k0 := (unhide HX1).c 0 rfl
  have k1 := (unhide HX1).c 1 rfl
  have f0 := (unhide HX1).f 0
  have f1 := (unhide HX1).f 1
  by_cases he : opE l 112 4 = 0
  · obtain ⟨z1, z2, z3⟩ := opE_zero he
    have z4 := opN_ge l 4
    have HN := hide (show heS l = wdT l 1 by unfold heS; rw [if_pos he])
    have h9 : 8 ≤ l.length := by omega
    obtain ⟨b, off, rfl, hc⟩ := (unhide HBb).head (by omega)
    have i1 : (1 : Int) < ((l.length : Nat) : Int) := by omega
    have hz := hide he
    have HWd : Hid (Calls Try.prog 35 #[.slice (some ⟨b, off, none⟩) l.length c, .int .i64 1] W1 fun e w' => e = .returned (.int .i64 (wdT l 1)) ∧ ∃ k, w' = W1.drewN k) := hide (wordAt_any (some ⟨b, off, none⟩) c l 1 W1 (unhide HBb) (by omega) (by omega))
    obtain ⟨y, hy⟩ : ∃ y, y = wdT l 1 := ⟨_, rfl⟩
    rw [← hy] at HN HWd
    clear z1 z2 z3 z4 hc hy he
    obtain ⟨E, hE⟩ : ∃ E, E = opE l 112 4 := ⟨_, rfl⟩
    rw [← hE] at hz ⊢
    have hE0 := bne_f (unhide hz)
    have HE := hide hE
    clear hE
    go_wp2_with fail
    refine (unhide HWd).mono ?_
    rintro e w2 ⟨rfl, k, rfl⟩
    go_wp2
    refine bodyPost_ret (results_anT rfl _ _ w.heap.size (.int .i64 0) _ _ rfl rfl (Bx.chain2 (unhide HX1) _ _)) rfl ⟨.slice va LL.length vc, ?_, ?_, ?_⟩
    · rw [unhide HN, ← unhide HE, unhide hz]
    · rw [← unhide HLL]
      exact ((unhide HO1).setT (unhide HVB)).setT (unhide HVB)
    · exact ((belowD (unhide HB1) _).setCell (p := ⟨w.heap.size, 0, none⟩) (Nat.le_refl _) _).setCell (p := ⟨w.heap.size, 1, none⟩) (Nat.le_refl _) _
  · have HN := hide (show heS l = 0 by unfold heS; rw [if_neg he])
    have HL0 : Hid (LL = []) := hide (by rw [unhide HLL]; unfold opL; rw [if_neg he])
    have hE0 := bne_t he
    clear he
    go_wp2
    refine bodyPost_ret (results_anT rfl _ _ w.heap.size (.int .i64 (opE l 112 4)) _ _ rfl rfl (Bx.chain2 (unhide HX1) _ _)) rfl ⟨.slice none 0 0, ?_, ?_, ?_⟩
    · rw [unhide HN]
    · rw [← unhide HLL, unhide HL0]
      exact World.ownsRow_nil _ _ _ _
    · exact (((unhide HB1)).setCell (p := ⟨w.heap.size, 0, none⟩) (Nat.le_refl _) _).setCell (p := ⟨w.heap.size, 1, none⟩) (Nat.le_refl _) _
end Go.Proofs.Ytghdefhbncejjaa
