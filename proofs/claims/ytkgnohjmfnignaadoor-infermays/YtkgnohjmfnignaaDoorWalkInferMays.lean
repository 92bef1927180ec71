/-
  The walk of the law InferMays: it returns true for every environment and number, and writes nothing that was there.
-/
import Derived.Test.YtkgnohjmfnignaaDoorSg2
import Derived.Test.YtkgnohjmfnignaaDoorSg6
import Derived.Test.YtkgnohjmfnignaaDoorShell
namespace Go.Proofs.YtkgnohjmfnignaaDoor
open Go.RowKit
set_option maxRecDepth 20000

theorem beg_one {T G : List Cl} {L M : List Sg} (hs : SameT T G) (hm : SameL L M) {fn lo : Int} {X Y : Fr} {e d : Int} (h1 : Beg G M fn lo X e) (h2 : Beg T L fn lo Y d) : e = d := by
  rcases h1 with ⟨n, h1⟩ | ⟨m1, h1⟩ <;> rcases h2 with ⟨m, h2⟩ | ⟨m2, h2⟩
  · exact (first_one hs (.inr h1) (.inr h2)).2
  · have h := (first_one hs (.inr h1) (.inl ⟨rfl, rfl, m2⟩)).2
    have h3 := h1.2.2.1
    have h4 := h1.2.2.2
    omega
  · have h := (first_one hs (.inl ⟨rfl, rfl, m1⟩) (.inr h2)).2
    have h3 := h2.2.2.1
    have h4 := h2.2.2.2
    omega
  · rw [begD_same hm, hs.1, ← h2] at h1
    injection h1

set_option maxRecDepth 20000 in
set_option maxHeartbeats 4000000 in
theorem walkInferMays {w : World} (hW : WordsAt w) (ao : Option Addr) (cap : Nat) (T : List Cl) (so : Option Addr) (sc : Nat) (L : List Sg) (fn : Int) (hT : TabAt w ao T) (hz : T.length * 48 ≤ 140737488351232) (hL : SgsAt w so L) (hzl : L.length * 32 ≤ 140737488351232) (lo : Int) (hw : (Lit.int .i64 lo).wf = true) :
    Calls Tryd.prog 3 #[.agg #[.slice ao T.length cap, .slice so L.length sc, .int .i64 fn], .int .i64 lo] w fun e w' => e = .returned (.bool true) ∧ Below w.heap.size w w' := by
  have hlo := bounds_i64 hw
  have al := (Below.refl w.heap.size w).alloc (Nat.le_refl _) (.cells #[.slice ao T.length cap, .slice so L.length sc, .int .i64 fn] 25)
  have HB := hide al
  have HC : Hid (EBx (w.alloc (.cells #[.slice ao T.length cap, .slice so L.length sc, .int .i64 fn] 25)) w.heap.size (.slice ao T.length cap) (.slice so L.length sc) fn) := hide (heap_alloc_new w _)
  have HT := hide (hT.below al)
  have HL := hide (hL.below al)
  have HW := hide (hW.below al)
  have HZ := hide hz
  have HZL := hide hzl
  have HLO := hide hlo
  clear al hT hL hz hzl hW hw hlo
  go_enter Tryd.func3, Tryd.ntmps3
  go_upto_region 1 with fail
  generalize (w.alloc (.cells #[.slice ao T.length cap, .slice so L.length sc, .int .i64 fn] 25)) = W1 at HB HC HT HL HW ⊢
  go_wp2_with (first | (refine wpList_load_rowG (by kernel_rfl) 25 (.tmp 2) rfl w.heap.size rfl 25 #[.slice ao T.length cap, .slice so L.length sc, .int .i64 fn] (0, 0) _ (unhide HC) Tryd.underlying25 rfl (by kernel_rfl) ?_) | fail)
  refine (Env_any ao cap T so sc L fn W1 (unhide HT) (unhide HZ) (unhide HL) (unhide HZL)).mono ?_
  rintro e W2 ⟨ga, gc, G, va, vc, M, rfl, hG, hS, hcp, hM, hSm, hB2⟩
  have al2 := (Below.refl W2.heap.size W2).alloc (Nat.le_refl _) (.cells #[.slice ga G.length gc, .slice va M.length vc, .int .i64 fn] 25)
  have hB3 : Below W1.heap.size W1 (W2.alloc (.cells #[.slice ga G.length gc, .slice va M.length vc, .int .i64 fn] 25)) := hB2.trans (al2.mono hB2.size)
  have HB3 := hide ((unhide HB).trans (hB3.mono (unhide HB).size))
  have HC3 : Hid (EBx (W2.alloc (.cells #[.slice ga G.length gc, .slice va M.length vc, .int .i64 fn] 25)) w.heap.size (.slice ao T.length cap) (.slice so L.length sc) fn) := hide ((hB3.block _ (unhide HC).lt).trans (unhide HC))
  have HG3 : Hid (EBx (W2.alloc (.cells #[.slice ga G.length gc, .slice va M.length vc, .int .i64 fn] 25)) W2.heap.size (.slice ga G.length gc) (.slice va M.length vc) fn) := hide (heap_alloc_new W2 _)
  have HT3 := hide ((unhide HT).below hB3)
  have HL3 := hide ((unhide HL).below hB3)
  have HW3 := hide ((unhide HW).below hB3)
  have HTG3 := hide (hG.below al2)
  have HM3 := hide (hM.below al2)
  have HS := hide hS
  have HSM := hide hSm
  have HCP := hide hcp
  have HZG : Hid (G.length * 48 ≤ 140737488351232) := hide (by rw [hS.1]; exact unhide HZ)
  have HZM : Hid (M.length * 32 ≤ 140737488351232) := hide (by rw [hSm.1]; exact unhide HZL)
  clear hG hS hcp hM hSm hB2 hB3 al2 HC HT HL HW HB
  go_upto_region 2 with fail
  generalize (W2.alloc (.cells #[.slice ga G.length gc, .slice va M.length vc, .int .i64 fn] 25)) = W3 at HB3 HC3 HG3 HT3 HL3 HW3 HTG3 HM3 ⊢
  generalize W2.heap.size = g at HG3 ⊢
  clear W1 W2
  have k0 := (unhide HC3).c0
  have k1 := (unhide HC3).c1
  have k2 := (unhide HC3).c2
  have l0 := (unhide HC3).lt
  have g0 := (unhide HG3).c0
  have g1 := (unhide HG3).c1
  have g2 := (unhide HG3).c2
  have l1 := (unhide HG3).lt
  have HD : Hid (Below W3.heap.size W3 W3.drew) := hide (belowD (Below.refl _ _) 1)
  have HM1 := hide (inferMay_any ga gc G va vc M fn lo W3.drew ((unhide HTG3).below (unhide HD)) (unhide HCP) ((unhide HW3).below (unhide HD)) (unhide HZG) ((unhide HM3).below (unhide HD)) (unhide HZM) (unhide HLO))
  have HM2 := hide (fun W (hW : Below W3.heap.size W3 W) => refMay_any ao cap T so sc L fn lo W ((unhide HT3).below hW) (unhide HZ) ((unhide HL3).below hW) (unhide HZL) (unhide HLO))
  have HM4 := hide (fun W (hW : Below W3.heap.size W3 W) => SameEnv_yes ga ao gc cap T G va so vc sc L M fn W ((unhide HTG3).below hW) ((unhide HT3).below hW) (unhide HS) (unhide HZ) ((unhide HM3).below hW) ((unhide HL3).below hW) (unhide HSM) (unhide HZL))
  have HQ : Hid (∀ W, Below W3.heap.size W3 W → W.cell? ⟨w.heap.size, 0, none⟩ = some (.slice ao T.length cap) ∧ W.cell? ⟨w.heap.size, 1, none⟩ = some (.slice so L.length sc) ∧ W.cell? ⟨w.heap.size, 2, none⟩ = some (.int .i64 fn) ∧ W.cell? ⟨g, 0, none⟩ = some (.slice ga G.length gc) ∧ W.cell? ⟨g, 1, none⟩ = some (.slice va M.length vc) ∧ W.cell? ⟨g, 2, none⟩ = some (.int .i64 fn)) := hide (fun W hW => ⟨(hW.cell (p := ⟨w.heap.size, 0, none⟩) l0).trans k0, (hW.cell (p := ⟨w.heap.size, 1, none⟩) l0).trans k1, (hW.cell (p := ⟨w.heap.size, 2, none⟩) l0).trans k2, (hW.cell (p := ⟨g, 0, none⟩) l1).trans g0, (hW.cell (p := ⟨g, 1, none⟩) l1).trans g1, (hW.cell (p := ⟨g, 2, none⟩) l1).trans g2⟩)
  go_region_held3 (fun W => W.cell? ⟨w.heap.size, 0, none⟩ = some (.slice ao T.length cap) ∧ W.cell? ⟨w.heap.size, 1, none⟩ = some (.slice so L.length sc) ∧ W.cell? ⟨w.heap.size, 2, none⟩ = some (.int .i64 fn) ∧ W.cell? ⟨g, 0, none⟩ = some (.slice ga G.length gc) ∧ W.cell? ⟨g, 1, none⟩ = some (.slice va M.length vc) ∧ W.cell? ⟨g, 2, none⟩ = some (.int .i64 fn)) (first | exact unhide HQ _ hB6 | exact unhide HQ _ hB5 | exact unhide HQ _ hB4 | go_keep) (first | (go_at_call 5; refine (unhide HM1).mono ?_; rintro e w4 ⟨⟨X1, er, rfl, hg1⟩, hB4'⟩; have hB4 : Below W3.heap.size W3 w4 := (unhide HD).trans hB4'; clear hB4') | (go_at_call 7; refine (unhide HM4 w5 hB5).mono ?_; rintro e w6 ⟨rfl, hB6'⟩; have hB6 : Below W3.heap.size W3 w6 := hB5.trans (hB6'.mono hB5.size); clear hB6') | (go_at_call 6; refine (unhide HM2 w4 hB4).mono ?_; rintro e w5 ⟨⟨X2, er2, rfl, hg2⟩, hB5'⟩; have hB5 : Below W3.heap.size W3 w5 := hB4.trans (hB5'.mono hB4.size); obtain rfl : er = er2 := beg_one (unhide HS) (unhide HSM) hg1 hg2; have b1 : (er == er) = true := (by simp); clear hB5' hg1 hg2))
  have HB6 := hide ((unhide HB3).trans (hB6.mono (unhide HB3).size))
  clear hB4 hB5 hB6
  go_wp2
  go_ret
  exact ⟨rfl, unhide HB6⟩
end Go.Proofs.YtkgnohjmfnignaaDoor
