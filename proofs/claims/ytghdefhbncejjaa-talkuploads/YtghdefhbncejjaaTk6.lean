/-
  The contracts of the document's Unpack and Heard: what talk's own answer. Conditions: lengths fit.
-/
import Derived.Test.YtghdefhbncejjaaTk5
namespace Go.Proofs.Ytghdefhbncejjaa
open Go.RowKit
set_option linter.unusedVariables false

theorem wp_appendBT {w : World} {o : Oper} {a : Act} {K : Act → World → Prop} {Q : Exit → Act → World → Prop} (s x : Operand)
    (ho : o.op = .call { callee := .builtin .append, args := #[s, x], argTypes := #[22, 22] })
    (base : Nat) (v : Value) (l : List UInt8) (hs : a.eval s = v) (hown : OwnB w base v l) (b : Value) (m : List UInt8) (hx : a.eval x = b) (hb : SrcB w b m) (hfit : l.length + m.length ≤ 140737488355328) (hbase : base ≤ w.heap.size)
    (h : ∀ v' w', OwnB w' base v' (l ++ m) → w.grownBy w' v.ownBlock → K (a.put o.dst v') w') : o.wp Try.prog a w K Q := by
  obtain ⟨i0, hi, hz0, hz1, hz2⟩ := info_parts info8
  rcases hb with ⟨rfl, rfl⟩ | ⟨y, c, rfl, hb⟩
  · have hrun := run_append_owned_none (P := Try.prog) (w := w) base 22 o.type 5 i0 1 Try.underlying22 hi v l.length (bvals l) hown
    unfold Oper.wp
    simp [execOp, ho, resolve, invoke, builtin, hs, hx, hrun, Result.andThen]
    exact h v w (by rw [List.append_nil]; exact hown) (World.grownBy.refl _ _)
  · refine wp_append_own w s x 22 ho base 5 i0 (.int .u8 0) 1 1 Try.underlying22 hi hz0 hz1 hz2 rfl (by decide) v l.length (bvals l) hs hown y m.length c (bvals m) hx (by rw [bvals_length]; omega) hb.cells (bvals_one m) (by unfold maxLen; omega) (by omega) hbase ?_
    intro v' w' h1 h2 _
    refine h v' w' ?_ h2
    unfold OwnB
    rw [bvals_append, List.length_append] at *
    exact h1
theorem wrap_T {x : Int} (h0 : 0 ≤ x) (h1 : x ≤ 140737488355328) : IntKind.i64.wrap x = x := by simp [IntKind.wrap, IntKind.bits, IntKind.signed]; omega
set_option maxHeartbeats 8000000 in
theorem refUnpack_any (ao : Option Addr) (c : Nat) (l : List UInt8) (w : World) (hb : BAt w ao l) (hlc : l.length ≤ c) (hl : l.length ≤ 140737488351232) :
    Calls Try.prog 16 #[.slice ao l.length c] w (UnPost w (opE l 80 5) (unC l) (unN l) (opL l 80 5)) := by
  have HA : Hid (Below w.heap.size w (w.alloc (.cells #[.int .i64 0, .int .i64 0, .slice none 0 0] 24))) := hide ((Below.refl _ w).alloc (Nat.le_refl _) _)
  have HX : Hid (Bx (w.alloc (.cells #[.int .i64 0, .int .i64 0, .slice none 0 0] 24)) w.heap.size 24 #[.int .i64 0, .int .i64 0, .slice none 0 0]) := hide (heap_alloc_new w _)
  have HW := hide hb
  have HB := hide (hb.below' (unhide HA))
  clear hb
  go_enter Try.func16, Try.ntmps16
  go_upto_region 1 with fail
  generalize (w.alloc (.cells #[.int .i64 0, .int .i64 0, .slice none 0 0] 24)) = W0 at HA HX HB ⊢
  have HO : Hid (Calls Try.prog 36 #[.slice ao l.length c, .int .u8 80, .int .i64 4] W0 fun e w' => e = .returned (.int .i64 (opE l 80 5)) ∧ Below W0.heap.size W0 w') := hide (framed_any ao c l 80 4 W0 (unhide HB) hlc hl (by omega))
  go_wp2_with fail
  refine (unhide HO).mono ?_
  rintro e W1 ⟨rfl, hb1⟩
  have HB1 := hide ((unhide HA).trans (hb1.mono (unhide HA).size))
  have HX1 := hide ((unhide HX).below hb1)
  clear hb1 HO HX HB
  have k0 := (unhide HX1).c 0 rfl
  have f0 := (unhide HX1).f 0
  have k1 := (unhide HX1).c 1 rfl
  have f1 := (unhide HX1).f 1
  have k2 := (unhide HX1).c 2 rfl
  have f2 := (unhide HX1).f 2
  by_cases he : opE l 80 5 = 0
  · obtain ⟨z1, z2, z3⟩ := opE_zero he
    have z4 := opN_ge l 5
    have HC := hide (show unC l = at8 l 1 by unfold unC; rw [if_pos he])
    have HN := hide (show unN l = wdT l 2 by unfold unN; rw [if_pos he])
    have HL0 := hide (show opL l 80 5 = (l.take (opN l 5)).drop 5 by unfold opL; rw [if_pos he])
    obtain ⟨N, hN⟩ : ∃ N, N = opN l 5 := ⟨_, rfl⟩
    rw [← hN] at z2 z4 HL0
    have h9 : 9 ≤ l.length := by omega
    obtain ⟨b, off, rfl, hc⟩ := (unhide HW).head (by omega)
    have hbw : b < w.heap.size := (unhide HW).lt (by omega)
    have HBb := hide ((unhide HW).below' (unhide HB1))
    obtain ⟨b', off', eb, hc'⟩ := (unhide HBb).head (by omega)
    injection eb with eb
    injection eb with eb1 eb2
    subst eb1 eb2
    have c1 := hc' 1 (by omega)
    obtain ⟨x, hx⟩ : ∃ x, x = at8 l 1 := ⟨_, rfl⟩
    rw [← hx] at c1
    have xl : 0 ≤ x := by rw [hx]; exact at8_lo _ _
    have xh : x ≤ 255 := by rw [hx]; exact at8_hi _ _
    have xw := wrap_T xl (by omega : x ≤ 140737488355328)
    have Hx := hide hx
    have c2 := hc' 2 (by omega)
    obtain ⟨y, hy⟩ : ∃ x, x = at8 l 2 := ⟨_, rfl⟩
    rw [← hy] at c2
    have yl : 0 ≤ y := by rw [hy]; exact at8_lo _ _
    have yh : y ≤ 255 := by rw [hy]; exact at8_hi _ _
    have yw := wrap_T yl (by omega : y ≤ 140737488355328)
    have Hy := hide hy
    have c3 := hc' 3 (by omega)
    obtain ⟨u, hu⟩ : ∃ x, x = at8 l 3 := ⟨_, rfl⟩
    rw [← hu] at c3
    have ul : 0 ≤ u := by rw [hu]; exact at8_lo _ _
    have uh : u ≤ 255 := by rw [hu]; exact at8_hi _ _
    have uw := wrap_T ul (by omega : u ≤ 140737488355328)
    have Hu := hide hu
    have wyz := wrap_T (x := 256 * y) (by omega) (by omega)
    have wyz2 := wrap_T (x := 256 * y + u) (by omega) (by omega)
    have j1 : (1 : Int) < ((l.length : Nat) : Int) := by omega
    have j2 : (2 : Int) < ((l.length : Nat) : Int) := by omega
    have j3 : (3 : Int) < ((l.length : Nat) : Int) := by omega
    have hNl : ((l.length : Nat) : Int) - 4 = ((N : Nat) : Int) := by omega
    have wN := wrap_T (x := ((N : Nat) : Int)) (by omega) (by omega)
    have hN5 : (5 : Int) ≤ ((N : Nat) : Int) := by omega
    have hNc : ((N : Nat) : Int) ≤ ((c : Nat) : Int) := by omega
    have hN5' : 5 ≤ N := by omega
    have hNc' : N ≤ c := by omega
    have hc5 : ¬ c = 5 := by omega
    have HSS : Hid (∀ w', Below W1.heap.size W1 w' → w'.cell? ⟨b, off + 1, none⟩ = some (.int .u8 x) ∧ w'.cell? ⟨b, off + 2, none⟩ = some (.int .u8 y) ∧ w'.cell? ⟨b, off + 3, none⟩ = some (.int .u8 u)) := hide (fun w' hb => ⟨(hb.cell (p := ⟨b, off + 1, none⟩) (World.block_lt_of_cell? W1 _ c1)).trans c1, (hb.cell (p := ⟨b, off + 2, none⟩) (World.block_lt_of_cell? W1 _ c2)).trans c2, (hb.cell (p := ⟨b, off + 3, none⟩) (World.block_lt_of_cell? W1 _ c3)).trans c3⟩)
    obtain ⟨m, hm⟩ : ∃ m, m = (l.take N).drop 5 := ⟨_, rfl⟩
    have hml : m.length = N - 5 := by rw [hm, List.length_drop, List.length_take]; omega
    rw [← hm] at HL0
    have HMb : Hid (BAt W1 (some ⟨b, off + 5, none⟩) m) := hide (by rw [hm]; exact ((unhide HBb).frontT N).dropT 5)
    have HML := hide hml
    have hz := hide he
    obtain ⟨E, hE⟩ : ∃ E, E = opE l 80 5 := ⟨_, rfl⟩
    rw [← hE] at hz ⊢
    have hE0 := bne_f (unhide hz)
    have HE := hide hE
    clear z1 z2 z3 z4 hc hc' hm hml he hN hE hx hy hu
    go_wp2_with fail
    have mixed := mixedT
    have HD : Hid (Below W1.heap.size W1 W1.drew) := hide ⟨rfl, rfl, rfl, Nat.le_refl _, fun _ _ => rfl⟩
    have HXd := hide ((unhide HX1).below (unhide HD))
    have HBd := hide ((unhide HB1).trans ((unhide HD).mono (unhide HB1).size))
    refine wp_region_held_drew (S := fun w' => w'.cell? ⟨b, off + 1, none⟩ = some (.int .u8 x) ∧ w'.cell? ⟨b, off + 2, none⟩ = some (.int .u8 y) ∧ w'.cell? ⟨b, off + 3, none⟩ = some (.int .u8 u)) mixed (unhide HSS _ (unhide HD)) (fun hS => ?_)
    generalize W1.drew = Wd at hS HD HXd HBd ⊢
    refine wpAnyH_take (i := 0) (v := .slice (some ⟨b, off, none⟩) l.length c) rfl (by kernel_rfl) (by kernel_rfl) (by kernel_rfl) (fun _ _ _ h => h) (Or.inl ⟨by rfl, fun W _ => by go_simp⟩) hS ?_
    go_simp
    refine wpAnyH_take (i := 1) (v := .pointer (some ⟨b, off + 1, none⟩)) rfl (by kernel_rfl) (by kernel_rfl) (by kernel_rfl) (fun _ _ _ h => h) (Or.inl ⟨by rfl, fun W _ => by go_simp⟩) hS ?_
    go_simp
    refine wpAnyH_take (i := 2) (v := .int .u8 x) rfl (by kernel_rfl) (by kernel_rfl) (by kernel_rfl) (fun _ _ _ h => h) (Or.inl ⟨by rfl, fun W h => by have h0 := h.1; go_simp⟩) hS ?_
    go_simp
    refine wpAnyH_take (i := 3) (v := .int .i64 x) rfl (by kernel_rfl) (by kernel_rfl) (by kernel_rfl) (fun _ _ _ h => h) (Or.inl ⟨by rfl, fun W _ => by go_simp⟩) hS ?_
    go_simp
    refine wpAnyH_take (i := 4) (v := .slice (some ⟨b, off, none⟩) l.length c) rfl (by kernel_rfl) (by kernel_rfl) (by kernel_rfl) (fun _ _ _ h => h) (Or.inl ⟨by rfl, fun W _ => by go_simp⟩) hS ?_
    go_simp
    refine wpAnyH_take (i := 5) (v := .pointer (some ⟨b, off + 2, none⟩)) rfl (by kernel_rfl) (by kernel_rfl) (by kernel_rfl) (fun _ _ _ h => h) (Or.inl ⟨by rfl, fun W _ => by go_simp⟩) hS ?_
    go_simp
    refine wpAnyH_take (i := 6) (v := .int .u8 y) rfl (by kernel_rfl) (by kernel_rfl) (by kernel_rfl) (fun _ _ _ h => h) (Or.inl ⟨by rfl, fun W h => by have h0 := h.2.1; go_simp⟩) hS ?_
    go_simp
    refine wpAnyH_take (i := 7) (v := .int .i64 y) rfl (by kernel_rfl) (by kernel_rfl) (by kernel_rfl) (fun _ _ _ h => h) (Or.inl ⟨by rfl, fun W _ => by go_simp⟩) hS ?_
    go_simp
    refine wpAnyH_take (i := 8) (v := .int .i64 (256 * y)) rfl (by kernel_rfl) (by kernel_rfl) (by kernel_rfl) (fun _ _ _ h => h) (Or.inl ⟨by rfl, fun W _ => by go_simp⟩) hS ?_
    go_simp
    refine wpAnyH_take (i := 9) (v := .slice (some ⟨b, off, none⟩) l.length c) rfl (by kernel_rfl) (by kernel_rfl) (by kernel_rfl) (fun _ _ _ h => h) (Or.inl ⟨by rfl, fun W _ => by go_simp⟩) hS ?_
    go_simp
    refine wpAnyH_take (i := 10) (v := .pointer (some ⟨b, off + 3, none⟩)) rfl (by kernel_rfl) (by kernel_rfl) (by kernel_rfl) (fun _ _ _ h => h) (Or.inl ⟨by rfl, fun W _ => by go_simp⟩) hS ?_
    go_simp
    refine wpAnyH_take (i := 11) (v := .int .u8 u) rfl (by kernel_rfl) (by kernel_rfl) (by kernel_rfl) (fun _ _ _ h => h) (Or.inl ⟨by rfl, fun W h => by have h0 := h.2.2; go_simp⟩) hS ?_
    go_simp
    refine wpAnyH_take (i := 12) (v := .int .i64 u) rfl (by kernel_rfl) (by kernel_rfl) (by kernel_rfl) (fun _ _ _ h => h) (Or.inl ⟨by rfl, fun W _ => by go_simp⟩) hS ?_
    go_simp
    refine wpAnyH_take (i := 13) (v := .int .i64 (256 * y + u)) rfl (by kernel_rfl) (by kernel_rfl) (by kernel_rfl) (fun _ _ _ h => h) (Or.inl ⟨by rfl, fun W _ => by go_simp⟩) hS ?_
    go_simp
    refine wpAnyH_take (i := 14) (v := .slice (some ⟨b, off, none⟩) l.length c) rfl (by kernel_rfl) (by kernel_rfl) (by kernel_rfl) (fun _ _ _ h => h) (Or.inl ⟨by rfl, fun W _ => by go_simp⟩) hS ?_
    go_simp
    refine wpAnyH_take (i := 15) (v := .slice (some ⟨b, off, none⟩) l.length c) rfl (by kernel_rfl) (by kernel_rfl) (by kernel_rfl) (fun _ _ _ h => h) (Or.inl ⟨by rfl, fun W _ => by go_simp⟩) hS ?_
    go_simp
    refine wpAnyH_take (i := 16) (v := .int .i64 ((l.length : Nat) : Int)) rfl (by kernel_rfl) (by kernel_rfl) (by kernel_rfl) (fun _ _ _ h => h) (Or.inl ⟨by rfl, fun W _ => by go_simp⟩) hS ?_
    go_simp
    refine wpAnyH_take (i := 17) (v := .int .i64 ((N : Nat) : Int)) rfl (by kernel_rfl) (by kernel_rfl) (by kernel_rfl) (fun _ _ _ h => h) (Or.inl ⟨by rfl, fun W _ => by go_simp⟩) hS ?_
    go_simp
    refine wpAnyH_take (i := 18) (v := .slice (some ⟨b, off + 5, none⟩) (N - 5) (c - 5)) rfl (by kernel_rfl) (by kernel_rfl) (by kernel_rfl) (fun _ _ _ h => h) (Or.inl ⟨by rfl, fun W _ => by go_simp⟩) hS ?_
    go_simp
    have HSr : Hid (SrcB Wd (.slice (some ⟨b, off + 5, none⟩) (N - 5) (c - 5)) m) := hide (Or.inr ⟨_, _, by rw [unhide HML], (unhide HMb).below' (unhide HD)⟩)
    have HON : Hid (OwnB Wd Wd.heap.size (.slice none 0 0) []) := hide (World.ownsRow_nil _ _ _ _)
    refine wpAnyH_ready (rs := [19]) (by kernel_rfl) (by simp) ?_
    refine AllReadyH.cons rfl (fun K hK => ?_) AllReadyH.nil
    rw [if_pos (by rfl)]
    refine wp_appendBT (.const (.slice none 0 0)) (.tmp 29) rfl Wd.heap.size (.slice none 0 0) [] rfl (unhide HON) (.slice (some ⟨b, off + 5, none⟩) (N - 5) (c - 5)) m rfl (unhide HSr) (by rw [unhide HML]; simp; omega) (Nat.le_refl _) ?_
    intro v4 W4 hO4 hG4
    rw [List.nil_append] at hO4
    have hb4 : Below Wd.heap.size Wd W4 := below_grown hG4 (Nat.le_refl _) (fun k e => by cases e)
    have HD4 := hide ((unhide HD).trans (hb4.mono (unhide HD).size))
    have HX4 := hide ((unhide HXd).below hb4)
    have HB4 := hide ((unhide HBd).trans (hb4.mono (unhide HBd).size))
    have HVB : Hid (∀ k, v4.ownBlock = some k → k ≠ w.heap.size) := hide (fun k e => by have h1 := (World.ownsRow.lt hO4 k e).1; have h2 := (unhide HXd).lt; omega)
    have HO4 := hide (hO4.mono (unhide HBd).size)
    obtain ⟨va, vc, hv4, -⟩ := hO4.at
    subst hv4
    refine hK.out _ _ (unhide HSS _ (unhide HD4)) (fun hS4 => ?_)
    clear hK K hS hO4 hG4 hb4 HSr HON
    refine wpAnyH_take (i := 20) (v := .agg #[.int .i64 x, .int .i64 (256 * y + u), .slice va m.length vc]) rfl (by kernel_rfl) (by kernel_rfl) (by kernel_rfl) (fun _ _ _ h => h) (Or.inl ⟨by rfl, fun W _ => by go_simp⟩) hS4 ?_
    go_simp
    have HS5 : Hid ((fun w' => w'.cell? ⟨b, off + 1, none⟩ = some (.int .u8 x) ∧ w'.cell? ⟨b, off + 2, none⟩ = some (.int .u8 y) ∧ w'.cell? ⟨b, off + 3, none⟩ = some (.int .u8 u)) (W4.setRow w.heap.size #[.int .i64 x, .int .i64 (256 * y + u), .slice va m.length vc])) := hide (by
      have hb5 : ∀ i, (W4.setRow w.heap.size #[.int .i64 x, .int .i64 (256 * y + u), .slice va m.length vc]).cell? ⟨b, i, none⟩ = W4.cell? ⟨b, i, none⟩ := fun i => World.cell?_of_block (setRow_other W4 w.heap.size b #[.int .i64 x, .int .i64 (256 * y + u), .slice va m.length vc] (by omega))
      refine ⟨(hb5 _).trans hS4.1, (hb5 _).trans hS4.2.1, (hb5 _).trans hS4.2.2⟩)
    have HX5 : Hid (Bx (W4.setRow w.heap.size #[.int .i64 x, .int .i64 (256 * y + u), .slice va m.length vc]) w.heap.size 24 #[.int .i64 x, .int .i64 (256 * y + u), .slice va m.length vc]) := hide (setRow_heap _ _ _ _ _ _ (unhide HX4))
    refine wpAnyH_ready (rs := [21]) (by kernel_rfl) (by simp) ?_
    refine AllReadyH.cons rfl (fun K hK => ?_) AllReadyH.nil
    rw [if_pos (by rfl)]
    refine wp_store_row 24 _ _ rfl w.heap.size #[.int .i64 x, .int .i64 (256 * y + u), .slice va m.length vc] rfl rfl 24 #[.int .i64 0, .int .i64 0, .slice none 0 0] (unhide HX4) (by kernel_rfl) rfl (by simp [Value.oneCell']) ?_
    refine hK.out _ _ (unhide HS5) (fun hS5 => ?_)
    clear hK K hS4
    refine wpAnyH_take (i := 22) (v := .int .i64 0) rfl (by kernel_rfl) (by kernel_rfl) (by kernel_rfl) (fun _ _ _ h => h) (Or.inl ⟨by rfl, fun W _ => by go_simp⟩) hS5 ?_
    go_simp
    refine wpAnyH_done (by kernel_rfl) ?_ _
    go_wp2
    refine bodyPost_ret (results_rqT rfl _ _ w.heap.size (.int .i64 0) _ _ _ rfl rfl (unhide HX5)) rfl ⟨.slice va m.length vc, ?_, ?_, ?_⟩
    · rw [unhide HC, unhide HN]
      unfold wdT
      rw [show at8 l 2 * 256 + at8 l (2 + 1) = 256 * at8 l 2 + at8 l 3 by show at8 l 2 * 256 + at8 l 3 = _; omega, ← unhide Hx, ← unhide Hy, ← unhide Hu, ← unhide HE, unhide hz]
    · rw [unhide HL0]
      exact (unhide HO4).keep (S := fun k => k = w.heap.size) ⟨rfl, rfl, rfl, by simp, fun k _ h => setRow_other _ _ _ _ h⟩ (fun k e => unhide HVB k e)
    · exact (unhide HB4).trans ⟨rfl, rfl, rfl, by simp, fun k hk => setRow_other _ _ _ _ (by omega)⟩
  · have HC := hide (show unC l = 0 by unfold unC; rw [if_neg he])
    have HN := hide (show unN l = 0 by unfold unN; rw [if_neg he])
    have HL0 : Hid (opL l 80 5 = []) := hide (by unfold opL; rw [if_neg he])
    have hE0 := bne_t he
    clear he
    go_wp2
    refine bodyPost_ret (results_rqT rfl _ _ w.heap.size (.int .i64 (opE l 80 5)) _ _ _ rfl rfl (Bx.chain3 (unhide HX1) _ _ _)) rfl ⟨.slice none 0 0, ?_, ?_, ?_⟩
    · rw [unhide HC, unhide HN]
    · rw [unhide HL0]
      exact World.ownsRow_nil _ _ _ _
    · exact ((((unhide HB1)).setCell (p := ⟨w.heap.size, 0, none⟩) (Nat.le_refl _) _).setCell (p := ⟨w.heap.size, 1, none⟩) (Nat.le_refl _) _).setCell (p := ⟨w.heap.size, 2, none⟩) (Nat.le_refl _) _
set_option maxHeartbeats 8000000 in
theorem refHeard_any (ao : Option Addr) (c : Nat) (l : List UInt8) (w : World) (hb : BAt w ao l) (hlc : l.length ≤ c) (hl : l.length ≤ 140737488351232) :
    Calls Try.prog 19 #[.slice ao l.length c] w (HePost w (opE l 112 4) (heS l) (opL l 112 4)) := by
  have HA : Hid (Below w.heap.size w (w.alloc (.cells #[.int .i64 0, .slice none 0 0] 26))) := hide ((Below.refl _ w).alloc (Nat.le_refl _) _)
  have HX : Hid (Bx (w.alloc (.cells #[.int .i64 0, .slice none 0 0] 26)) w.heap.size 26 #[.int .i64 0, .slice none 0 0]) := hide (heap_alloc_new w _)
  have HW := hide hb
  have HB := hide (hb.below' (unhide HA))
  clear hb
  go_enter Try.func19, Try.ntmps19
  go_upto_region 1 with fail
  generalize (w.alloc (.cells #[.int .i64 0, .slice none 0 0] 26)) = W0 at HA HX HB ⊢
  have HO : Hid (Calls Try.prog 36 #[.slice ao l.length c, .int .u8 112, .int .i64 3] W0 fun e w' => e = .returned (.int .i64 (opE l 112 4)) ∧ Below W0.heap.size W0 w') := hide (framed_any ao c l 112 3 W0 (unhide HB) hlc hl (by omega))
  go_wp2_with fail
  refine (unhide HO).mono ?_
  rintro e W1 ⟨rfl, hb1⟩
  have HB1 := hide ((unhide HA).trans (hb1.mono (unhide HA).size))
  have HX1 := hide ((unhide HX).below hb1)
  clear hb1 HO HX HB
  have k0 := (unhide HX1).c 0 rfl
  have f0 := (unhide HX1).f 0
  have k1 := (unhide HX1).c 1 rfl
  have f1 := (unhide HX1).f 1
  by_cases he : opE l 112 4 = 0
  · obtain ⟨z1, z2, z3⟩ := opE_zero he
    have z4 := opN_ge l 4
    have HN := hide (show heS l = wdT l 1 by unfold heS; rw [if_pos he])
    have HL0 := hide (show opL l 112 4 = (l.take (opN l 4)).drop 4 by unfold opL; rw [if_pos he])
    obtain ⟨N, hN⟩ : ∃ N, N = opN l 4 := ⟨_, rfl⟩
    rw [← hN] at z2 z4 HL0
    have h9 : 8 ≤ l.length := by omega
    obtain ⟨b, off, rfl, hc⟩ := (unhide HW).head (by omega)
    have hbw : b < w.heap.size := (unhide HW).lt (by omega)
    have HBb := hide ((unhide HW).below' (unhide HB1))
    obtain ⟨b', off', eb, hc'⟩ := (unhide HBb).head (by omega)
    injection eb with eb
    injection eb with eb1 eb2
    subst eb1 eb2
    have c1 := hc' 1 (by omega)
    obtain ⟨y, hy⟩ : ∃ x, x = at8 l 1 := ⟨_, rfl⟩
    rw [← hy] at c1
    have yl : 0 ≤ y := by rw [hy]; exact at8_lo _ _
    have yh : y ≤ 255 := by rw [hy]; exact at8_hi _ _
    have yw := wrap_T yl (by omega : y ≤ 140737488355328)
    have Hy := hide hy
    have c2 := hc' 2 (by omega)
    obtain ⟨u, hu⟩ : ∃ x, x = at8 l 2 := ⟨_, rfl⟩
    rw [← hu] at c2
    have ul : 0 ≤ u := by rw [hu]; exact at8_lo _ _
    have uh : u ≤ 255 := by rw [hu]; exact at8_hi _ _
    have uw := wrap_T ul (by omega : u ≤ 140737488355328)
    have Hu := hide hu
    have wyz := wrap_T (x := 256 * y) (by omega) (by omega)
    have wyz2 := wrap_T (x := 256 * y + u) (by omega) (by omega)
    have j1 : (1 : Int) < ((l.length : Nat) : Int) := by omega
    have j2 : (2 : Int) < ((l.length : Nat) : Int) := by omega
    have j3 : (3 : Int) < ((l.length : Nat) : Int) := by omega
    have hNl : ((l.length : Nat) : Int) - 4 = ((N : Nat) : Int) := by omega
    have wN := wrap_T (x := ((N : Nat) : Int)) (by omega) (by omega)
    have hN5 : (4 : Int) ≤ ((N : Nat) : Int) := by omega
    have hNc : ((N : Nat) : Int) ≤ ((c : Nat) : Int) := by omega
    have hN5' : 4 ≤ N := by omega
    have hNc' : N ≤ c := by omega
    have hc5 : ¬ c = 4 := by omega
    have HSS : Hid (∀ w', Below W1.heap.size W1 w' → w'.cell? ⟨b, off + 1, none⟩ = some (.int .u8 y) ∧ w'.cell? ⟨b, off + 2, none⟩ = some (.int .u8 u)) := hide (fun w' hb => ⟨(hb.cell (p := ⟨b, off + 1, none⟩) (World.block_lt_of_cell? W1 _ c1)).trans c1, (hb.cell (p := ⟨b, off + 2, none⟩) (World.block_lt_of_cell? W1 _ c2)).trans c2⟩)
    obtain ⟨m, hm⟩ : ∃ m, m = (l.take N).drop 4 := ⟨_, rfl⟩
    have hml : m.length = N - 4 := by rw [hm, List.length_drop, List.length_take]; omega
    rw [← hm] at HL0
    have HMb : Hid (BAt W1 (some ⟨b, off + 4, none⟩) m) := hide (by rw [hm]; exact ((unhide HBb).frontT N).dropT 4)
    have HML := hide hml
    have hz := hide he
    obtain ⟨E, hE⟩ : ∃ E, E = opE l 112 4 := ⟨_, rfl⟩
    rw [← hE] at hz ⊢
    have hE0 := bne_f (unhide hz)
    have HE := hide hE
    clear z1 z2 z3 z4 hc hc' hm hml he hN hE hy hu
    go_wp2_with fail
    have mixed := mixedT
    have HD : Hid (Below W1.heap.size W1 W1.drew) := hide ⟨rfl, rfl, rfl, Nat.le_refl _, fun _ _ => rfl⟩
    have HXd := hide ((unhide HX1).below (unhide HD))
    have HBd := hide ((unhide HB1).trans ((unhide HD).mono (unhide HB1).size))
    refine wp_region_held_drew (S := fun w' => w'.cell? ⟨b, off + 1, none⟩ = some (.int .u8 y) ∧ w'.cell? ⟨b, off + 2, none⟩ = some (.int .u8 u)) mixed (unhide HSS _ (unhide HD)) (fun hS => ?_)
    generalize W1.drew = Wd at hS HD HXd HBd ⊢
    refine wpAnyH_take (i := 0) (v := .slice (some ⟨b, off, none⟩) l.length c) rfl (by kernel_rfl) (by kernel_rfl) (by kernel_rfl) (fun _ _ _ h => h) (Or.inl ⟨by rfl, fun W _ => by go_simp⟩) hS ?_
    go_simp
    refine wpAnyH_take (i := 1) (v := .pointer (some ⟨b, off + 1, none⟩)) rfl (by kernel_rfl) (by kernel_rfl) (by kernel_rfl) (fun _ _ _ h => h) (Or.inl ⟨by rfl, fun W _ => by go_simp⟩) hS ?_
    go_simp
    refine wpAnyH_take (i := 2) (v := .int .u8 y) rfl (by kernel_rfl) (by kernel_rfl) (by kernel_rfl) (fun _ _ _ h => h) (Or.inl ⟨by rfl, fun W h => by have h0 := h.1; go_simp⟩) hS ?_
    go_simp
    refine wpAnyH_take (i := 3) (v := .int .i64 y) rfl (by kernel_rfl) (by kernel_rfl) (by kernel_rfl) (fun _ _ _ h => h) (Or.inl ⟨by rfl, fun W _ => by go_simp⟩) hS ?_
    go_simp
    refine wpAnyH_take (i := 4) (v := .int .i64 (256 * y)) rfl (by kernel_rfl) (by kernel_rfl) (by kernel_rfl) (fun _ _ _ h => h) (Or.inl ⟨by rfl, fun W _ => by go_simp⟩) hS ?_
    go_simp
    refine wpAnyH_take (i := 5) (v := .slice (some ⟨b, off, none⟩) l.length c) rfl (by kernel_rfl) (by kernel_rfl) (by kernel_rfl) (fun _ _ _ h => h) (Or.inl ⟨by rfl, fun W _ => by go_simp⟩) hS ?_
    go_simp
    refine wpAnyH_take (i := 6) (v := .pointer (some ⟨b, off + 2, none⟩)) rfl (by kernel_rfl) (by kernel_rfl) (by kernel_rfl) (fun _ _ _ h => h) (Or.inl ⟨by rfl, fun W _ => by go_simp⟩) hS ?_
    go_simp
    refine wpAnyH_take (i := 7) (v := .int .u8 u) rfl (by kernel_rfl) (by kernel_rfl) (by kernel_rfl) (fun _ _ _ h => h) (Or.inl ⟨by rfl, fun W h => by have h0 := h.2; go_simp⟩) hS ?_
    go_simp
    refine wpAnyH_take (i := 8) (v := .int .i64 u) rfl (by kernel_rfl) (by kernel_rfl) (by kernel_rfl) (fun _ _ _ h => h) (Or.inl ⟨by rfl, fun W _ => by go_simp⟩) hS ?_
    go_simp
    refine wpAnyH_take (i := 9) (v := .int .i64 (256 * y + u)) rfl (by kernel_rfl) (by kernel_rfl) (by kernel_rfl) (fun _ _ _ h => h) (Or.inl ⟨by rfl, fun W _ => by go_simp⟩) hS ?_
    go_simp
    refine wpAnyH_take (i := 10) (v := .slice (some ⟨b, off, none⟩) l.length c) rfl (by kernel_rfl) (by kernel_rfl) (by kernel_rfl) (fun _ _ _ h => h) (Or.inl ⟨by rfl, fun W _ => by go_simp⟩) hS ?_
    go_simp
    refine wpAnyH_take (i := 11) (v := .slice (some ⟨b, off, none⟩) l.length c) rfl (by kernel_rfl) (by kernel_rfl) (by kernel_rfl) (fun _ _ _ h => h) (Or.inl ⟨by rfl, fun W _ => by go_simp⟩) hS ?_
    go_simp
    refine wpAnyH_take (i := 12) (v := .int .i64 ((l.length : Nat) : Int)) rfl (by kernel_rfl) (by kernel_rfl) (by kernel_rfl) (fun _ _ _ h => h) (Or.inl ⟨by rfl, fun W _ => by go_simp⟩) hS ?_
    go_simp
    refine wpAnyH_take (i := 13) (v := .int .i64 ((N : Nat) : Int)) rfl (by kernel_rfl) (by kernel_rfl) (by kernel_rfl) (fun _ _ _ h => h) (Or.inl ⟨by rfl, fun W _ => by go_simp⟩) hS ?_
    go_simp
    refine wpAnyH_take (i := 14) (v := .slice (some ⟨b, off + 4, none⟩) (N - 4) (c - 4)) rfl (by kernel_rfl) (by kernel_rfl) (by kernel_rfl) (fun _ _ _ h => h) (Or.inl ⟨by rfl, fun W _ => by go_simp⟩) hS ?_
    go_simp
    have HSr : Hid (SrcB Wd (.slice (some ⟨b, off + 4, none⟩) (N - 4) (c - 4)) m) := hide (Or.inr ⟨_, _, by rw [unhide HML], (unhide HMb).below' (unhide HD)⟩)
    have HON : Hid (OwnB Wd Wd.heap.size (.slice none 0 0) []) := hide (World.ownsRow_nil _ _ _ _)
    refine wpAnyH_ready (rs := [15]) (by kernel_rfl) (by simp) ?_
    refine AllReadyH.cons rfl (fun K hK => ?_) AllReadyH.nil
    rw [if_pos (by rfl)]
    refine wp_appendBT (.const (.slice none 0 0)) (.tmp 25) rfl Wd.heap.size (.slice none 0 0) [] rfl (unhide HON) (.slice (some ⟨b, off + 4, none⟩) (N - 4) (c - 4)) m rfl (unhide HSr) (by rw [unhide HML]; simp; omega) (Nat.le_refl _) ?_
    intro v4 W4 hO4 hG4
    rw [List.nil_append] at hO4
    have hb4 : Below Wd.heap.size Wd W4 := below_grown hG4 (Nat.le_refl _) (fun k e => by cases e)
    have HD4 := hide ((unhide HD).trans (hb4.mono (unhide HD).size))
    have HX4 := hide ((unhide HXd).below hb4)
    have HB4 := hide ((unhide HBd).trans (hb4.mono (unhide HBd).size))
    have HVB : Hid (∀ k, v4.ownBlock = some k → k ≠ w.heap.size) := hide (fun k e => by have h1 := (World.ownsRow.lt hO4 k e).1; have h2 := (unhide HXd).lt; omega)
    have HO4 := hide (hO4.mono (unhide HBd).size)
    obtain ⟨va, vc, hv4, -⟩ := hO4.at
    subst hv4
    refine hK.out _ _ (unhide HSS _ (unhide HD4)) (fun hS4 => ?_)
    clear hK K hS hO4 hG4 hb4 HSr HON
    refine wpAnyH_take (i := 16) (v := .agg #[.int .i64 (256 * y + u), .slice va m.length vc]) rfl (by kernel_rfl) (by kernel_rfl) (by kernel_rfl) (fun _ _ _ h => h) (Or.inl ⟨by rfl, fun W _ => by go_simp⟩) hS4 ?_
    go_simp
    have HS5 : Hid ((fun w' => w'.cell? ⟨b, off + 1, none⟩ = some (.int .u8 y) ∧ w'.cell? ⟨b, off + 2, none⟩ = some (.int .u8 u)) (W4.setRow w.heap.size #[.int .i64 (256 * y + u), .slice va m.length vc])) := hide (by
      have hb5 : ∀ i, (W4.setRow w.heap.size #[.int .i64 (256 * y + u), .slice va m.length vc]).cell? ⟨b, i, none⟩ = W4.cell? ⟨b, i, none⟩ := fun i => World.cell?_of_block (setRow_other W4 w.heap.size b #[.int .i64 (256 * y + u), .slice va m.length vc] (by omega))
      refine ⟨(hb5 _).trans hS4.1, (hb5 _).trans hS4.2⟩)
    have HX5 : Hid (Bx (W4.setRow w.heap.size #[.int .i64 (256 * y + u), .slice va m.length vc]) w.heap.size 26 #[.int .i64 (256 * y + u), .slice va m.length vc]) := hide (setRow_heap _ _ _ _ _ _ (unhide HX4))
    refine wpAnyH_ready (rs := [17]) (by kernel_rfl) (by simp) ?_
    refine AllReadyH.cons rfl (fun K hK => ?_) AllReadyH.nil
    rw [if_pos (by rfl)]
    refine wp_store_row 26 _ _ rfl w.heap.size #[.int .i64 (256 * y + u), .slice va m.length vc] rfl rfl 26 #[.int .i64 0, .slice none 0 0] (unhide HX4) (by kernel_rfl) rfl (by simp [Value.oneCell']) ?_
    refine hK.out _ _ (unhide HS5) (fun hS5 => ?_)
    clear hK K hS4
    refine wpAnyH_take (i := 18) (v := .int .i64 0) rfl (by kernel_rfl) (by kernel_rfl) (by kernel_rfl) (fun _ _ _ h => h) (Or.inl ⟨by rfl, fun W _ => by go_simp⟩) hS5 ?_
    go_simp
    refine wpAnyH_done (by kernel_rfl) ?_ _
    go_wp2
    refine bodyPost_ret (results_anT rfl _ _ w.heap.size (.int .i64 0) _ _ rfl rfl (unhide HX5)) rfl ⟨.slice va m.length vc, ?_, ?_, ?_⟩
    · rw [unhide HN]
      unfold wdT
      rw [show at8 l 1 * 256 + at8 l (1 + 1) = 256 * at8 l 1 + at8 l 2 by show at8 l 1 * 256 + at8 l 2 = _; omega, ← unhide Hy, ← unhide Hu, ← unhide HE, unhide hz]
    · rw [unhide HL0]
      exact (unhide HO4).keep (S := fun k => k = w.heap.size) ⟨rfl, rfl, rfl, by simp, fun k _ h => setRow_other _ _ _ _ h⟩ (fun k e => unhide HVB k e)
    · exact (unhide HB4).trans ⟨rfl, rfl, rfl, by simp, fun k hk => setRow_other _ _ _ _ (by omega)⟩
  · have HN := hide (show heS l = 0 by unfold heS; rw [if_neg he])
    have HL0 : Hid (opL l 112 4 = []) := hide (by unfold opL; rw [if_neg he])
    have hE0 := bne_t he
    clear he
    go_wp2
    refine bodyPost_ret (results_anT rfl _ _ w.heap.size (.int .i64 (opE l 112 4)) _ _ rfl rfl (Bx.chain2 (unhide HX1) _ _)) rfl ⟨.slice none 0 0, ?_, ?_, ?_⟩
    · rw [unhide HN]
    · rw [unhide HL0]
      exact World.ownsRow_nil _ _ _ _
    · exact (((unhide HB1)).setCell (p := ⟨w.heap.size, 0, none⟩) (Nat.le_refl _) _).setCell (p := ⟨w.heap.size, 1, none⟩) (Nat.le_refl _) _
end Go.Proofs.Ytghdefhbncejjaa
