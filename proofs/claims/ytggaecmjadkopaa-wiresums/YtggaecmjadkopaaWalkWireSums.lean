/-
  The walk of the law WireSums: it returns true for every row of bytes and every number, and writes nothing that was there.
-/
import Derived.Test.YtggaecmjadkopaaRoom
import Derived.Test.YtggaecmjadkopaaSum
namespace Go.Proofs.Ytggaecmjadkopaa
open Go.RowKit

set_option maxHeartbeats 1000000 in
theorem walkWireSums {w : World} (ao : Option Addr) (cap : Nat) (l : List UInt8) (h : BAt w ao l) (hn : ao = none → l = []) (hb : l.length ≤ 140737488351232) (at_ : Int) (_hat : (Lit.int .i64 at_).wf = true) :
    Calls Try.prog 6 #[.slice ao l.length cap, .int .i64 at_] w fun e w' => e = .returned (.bool true) ∧ Below w.heap.size w w' := by
  go_enter Try.func6, Try.ntmps6
  go_wp2_with fail
  refine (Roomy_any ao cap l _ h hn hb).mono ?_
  rintro e w1 ⟨g, cp, rfl, hg, hown, hb1⟩
  have hr : BAt w1 (some ⟨g, 0, none⟩) (roomy l) := by
    rcases hown.shape with ⟨h1, _⟩ | ⟨g', cap', hv, _, _, _, _, hbt⟩
    · cases h1
    · injection hv with hv; injection hv with hv; injection hv with hv; subst hv; exact hbt
  have hcp : l.length + 4 ≤ cp := by
    rcases hown.shape with ⟨h1, _⟩ | ⟨g', cap', hv, _, _, hc, _, _⟩
    · cases h1
    · injection hv with _ _ hv; subst hv; rw [roomy_length] at hc; exact hc
  have hgl : g < w1.heap.size := hr.lt (by rw [roomy_length]; omega)
  have hf : w1.frozen? ⟨g, pickN at_ l.length, none⟩ = false := frozen_own hown (roomy_length l).symm _
  have hw1 : BAt w1 ao l := h.below' hb1
  go_wp2_with fail
  refine (Sum_any (some ⟨g, 0, none⟩) cp l _ hr.take (by omega)).mono ?_
  rintro e w2 ⟨rfl, hb2⟩
  have hr2 := hr.below' hb2
  have hw2 := hw1.below' hb2
  have hf2 : w2.frozen? ⟨g, pickN at_ l.length, none⟩ = false := (hb2.frozen (p := ⟨g, _, none⟩) hgl).trans hf
  have hgl2 : g < w2.heap.size := by have := hb2.size; omega
  have hB2 : Below w.heap.size w w2 := hb1.trans (hb2.mono hb1.size)
  clear hf hr hw1 hown
  go_wp2_with fail
  refine (refSum_any ao cap l _ hw2 (by omega)).mono ?_
  rintro e w3 ⟨rfl, rfl⟩
  go_wp2_with fail
  refine (Untouched_yes g cp ao cap l _ hr2 hw2 hcp (by omega)).mono ?_
  rintro e w4 ⟨rfl, k, rfl⟩
  by_cases h0 : l.length = 0
  · have h0' : ((l.length : Int) == 0) = true := beq_t (by omega)
    go_wp2_with fail
    refine (Sum_any (some ⟨w3.heap.size, 0, none⟩) 1 [0] _ (BAt.one (w3.drewN k) 0 0 rfl _) (by simp)).mono ?_
    rintro e w5 ⟨rfl, hb5⟩
    have hB5 : Below w.heap.size w w5 := (((belowD hB2 k).alloc hB2.size _).trans (hb5.mono (by have := hB2.size; simp; omega)))
    go_wp2_with fail
    refine (refSum_any (some ⟨w5.heap.size, 0, none⟩) 1 [0] _ (BAt.one w5 0 0 rfl _) (by simp)).mono ?_
    rintro e w6 ⟨rfl, rfl⟩
    go_wp2
    go_ret
    exact ⟨rfl, hB5.alloc hB5.size _⟩
  · have h0' : ((l.length : Int) == 0) = false := beq_f (by omega)
    go_wp2_with fail
    refine (Clone_any ao cap l _ (hw2.drewN k) hn (by omega)).mono ?_
    rintro e w5 ⟨v, rfl, hown, hb5, hnil⟩
    rcases hown.shape with ⟨_, h2⟩ | ⟨g', cap', hv, hg1, hg2, hg3, hg4, hbat⟩
    · rw [h2] at h0; exact absurd rfl h0
    subst hv
    have hB5 : Below w.heap.size w w5 := (belowD hB2 k).trans (hb5.mono hB2.size)
    have hr5 : BAt w5 (some ⟨g, 0, none⟩) l := (hr2.drewN k).take.below' hb5
    have hf5 : w5.frozen? ⟨g, pickN at_ l.length, none⟩ = false := (hb5.frozen (p := ⟨g, _, none⟩) hgl2).trans hf2
    have hgg : g < g' := Nat.lt_of_lt_of_le hgl2 hg1
    have hf5' : w5.frozen? ⟨g', pickN at_ l.length, none⟩ = false := frozen_own hown rfl _
    have hpl := pickN_lt at_ l.length (by omega)
    have hP := fun w => pick_any at_ l.length w (by omega) (by omega)
    have hi8 := inc8 l (pickN at_ l.length)
    generalize pickN at_ l.length = m at hf2 hf5 hf5' hpl hP hi8
    have c1 : w5.cell? ⟨g', m, none⟩ = some (.int .u8 (at8 l m)) := by
      obtain ⟨b, off, e, hc⟩ := hbat m hpl
      injection e with e; injection e with e1 e2; subst e1 e2
      rw [Nat.zero_add] at hc; exact hc
    have c2 : w5.cell? ⟨g, m, none⟩ = some (.int .u8 (at8 l m)) := by
      obtain ⟨b, off, e, hc⟩ := hr5 m hpl
      injection e with e; injection e with e1 e2; subst e1 e2
      rw [Nat.zero_add] at hc; exact hc
    have i1 : (m : Int) < (l.length : Int) := by omega
    have HP := hide hP
    have HI := hide hi8
    clear hP hi8 hr2 hw2 hf2 hown hnil hb5
    go_wp2_with (go_at_call 12; refine (unhide HP _).mono ?_; rintro e w' ⟨rfl, rfl⟩)
    have hg3' : g ≠ g' := by omega
    have b1 := (hbat.store hpl _ _ (unhide HI)).other ⟨g, m, none⟩ (.int .u8 ((at8 l m + 1) % 256)) (fun b off e _ => by injection e with e; injection e with e; subst e; exact fun h => hg3' h.symm)
    have b2 := (hr5.other ⟨g', m, none⟩ (.int .u8 ((at8 l m + 1) % 256)) (fun b off e _ => by injection e with e; injection e with e; subst e; exact hg3')).store hpl _ _ (unhide HI)
    have hB6 := (hB5.setCell (p := ⟨g', m, none⟩) (Nat.le_trans hB2.size hg1) (.int .u8 ((at8 l m + 1) % 256))).setCell (p := ⟨g, m, none⟩) hg (.int .u8 ((at8 l m + 1) % 256))
    generalize (World.setCell (World.setCell _ ⟨g', m, none⟩ (.int .u8 ((at8 l m + 1) % 256))) ⟨g, m, none⟩ (.int .u8 ((at8 l m + 1) % 256))) = W at b1 b2 hB6 ⊢
    generalize hL : l.set m (l.getD m 0 + 1) = L at b1 b2
    have hlen : L.length = l.length := by rw [← hL]; simp
    rw [← hlen]
    refine (Sum_any (some ⟨g, 0, none⟩) cp L _ b2 (by omega)).mono ?_
    rintro e w7 ⟨rfl, hb7⟩
    rw [hlen]
    go_wp2_with fail
    rw [← hlen]
    refine (refSum_any (some ⟨g', 0, none⟩) cap' L _ (b1.below' hb7) (by omega)).mono ?_
    rintro e w8 ⟨rfl, rfl⟩
    go_wp2
    go_ret
    exact ⟨rfl, hB6.trans (hb7.mono hB6.size)⟩
end Go.Proofs.Ytggaecmjadkopaa
