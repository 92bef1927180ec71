/-
  The walk of the law FramesChecks: it returns true for every table and every frame, and writes nothing that was there.
-/
import Derived.Test.YtelbajcfdecaoaaDoorTbl
import Derived.Test.YtelbajcfdecaoaaDoorTx4
import Derived.Test.YtelbajcfdecaoaaDoorTx5
import Derived.Test.YtelbajcfdecaoaaDoorTx6
namespace Go.Proofs.YtelbajcfdecaoaaDoor
open Go.RowKit
set_option maxRecDepth 20000

theorem SameT.rankTo {T G : List Cl} (h : SameT T G) (l : List Nat) : ∀ k, rankTo G l k = rankTo T l k
  | 0 => rfl
  | k + 1 => by unfold Proofs.YtelbajcfdecaoaaDoor.rankTo; rw [h.rankTo l k, h.rank]
theorem SameT.rankF {T G : List Cl} (h : SameT T G) (f : Fr) : rankF G f = rankF T f := by
  unfold Proofs.YtelbajcfdecaoaaDoor.rankF
  rw [h.1, h.rankTo]
theorem SameT.text {T G : List Cl} (h : SameT T G) (es : List Nat) : textD G es = textD T es := by
  have : printD G = printD T := funext (fun t => h.print t)
  unfold Proofs.YtelbajcfdecaoaaDoor.textD
  rw [this]
theorem SameT.prD {T G : List Cl} (h : SameT T G) (f : Fr) : prD G f = prD T f := by
  unfold Proofs.YtelbajcfdecaoaaDoor.prD Proofs.YtelbajcfdecaoaaDoor.prF
  rw [h.1, h.text, h.text]
theorem RankG_any {T G : List Cl} (hs : SameT T G) (ao : Option Addr) (cap : Nat) (f : Fr) (w : World) (hT : TabAt w ao G) (hz : T.length * 48 ≤ 140737488351232) (h32 : T.length ≤ 32) (hf : FrOk f) :
    Calls Tryd.prog 13 #[.slice ao G.length cap, .agg (frA f)] w fun e w' => e = .returned (intTwo (rankF T f)) ∧ Below w.heap.size w w' := by
  rw [← hs.rankF f]
  exact RankF_any ao cap G f w hT (by rw [hs.1]; exact hz) (by rw [hs.1]; exact h32) hf
theorem CheckG_any {T G : List Cl} (hs : SameT T G) (ao : Option Addr) (cap : Nat) (f : Fr) (w : World) (hf : FrOk f) :
    Calls Tryd.prog 11 #[.slice ao G.length cap, .agg (frA f)] w fun e w' => e = .returned (.int .i64 (chkF T.length f)) ∧ Below w.heap.size w w' := by
  rw [← hs.1]
  exact CheckF_any ao cap G.length f w hf
theorem PrintG_any {T G : List Cl} (hs : SameT T G) (ao : Option Addr) (cap : Nat) (f : Fr) (w : World) (hT : TabAt w ao G) (hW : WordsAt w) (hf : FrOk f) (hM : ∀ t, (printD T t).size ≤ 1000) :
    Calls Tryd.prog 15 #[.slice ao G.length cap, .agg (frA f)] w fun e w' => e = .returned (.tuple #[.string (prD T f).1, .int .i64 (prD T f).2]) ∧ Below w.heap.size w w' := by
  rw [← hs.prD f]
  exact PrintF_any ao cap G f w hT hW hf (fun t => by rw [hs.print]; exact hM t)

set_option maxRecDepth 100000 in
set_option maxHeartbeats 8000000 in
theorem walkFramesChecks {w : World} (hW : WordsAt w) (ao : Option Addr) (cap : Nat) (T : List Cl) (hT : TabAt w ao T) (hz : T.length * 48 ≤ 140737488351232) (f : Fr) (hf : FrOk f) :
    Calls Tryd.prog 3 #[.slice ao T.length cap, .agg (frA f)] w fun e w' => e = .returned (.bool true) ∧ Below w.heap.size w w' := by
  have HA := hide hf
  have hal1 : Below w.heap.size w (w.alloc (.cells (frA f) 26)) := (Below.refl _ _).alloc (Nat.le_refl _) _
  have F1 := hide (FAt.new w f)
  have HB0 := hide hal1
  have T0 := hide (hT.below hal1)
  have V0 := hide (hW.below hal1)
  have HZ := hide hz
  clear hT hal1 hf hz hW
  go_enter Tryd.func3, Tryd.ntmps3
  go_wp2_with fail
  generalize (w.alloc (.cells (frA f) 26)) = W at F1 T0 V0 HB0 ⊢
  refine (table_any ao cap T _ (unhide T0) (unhide HZ)).mono ?_
  rintro e W21 ⟨rfl, hB22⟩
  have F23 := hide ((unhide F1).below hB22 (unhide F1).lt)
  have T24 := hide ((unhide T0).below hB22)
  have T25 := hide ((unhide V0).below hB22)
  have HB26 := hide ((unhide HB0).trans (hB22.mono (unhide HB0).size))
  clear hB22 F1 T0 V0 HB0 W
  by_cases hmd : madeD T = true
  rotate_left
  · have hmd' : madeD T = false := by simpa using hmd
    rw [hmd']
    clear hmd hmd'
    go_wp2
    go_ret
    exact ⟨rfl, unhide HB26⟩
  have HMD := hide hmd
  have H32 := hide (made_32 hmd)
  have HPS := hide (print_short hmd)
  rw [hmd]
  clear hmd
  go_wp2_with fail
  refine (Classes_any ao cap T _ (unhide T24) (unhide HZ)).mono ?_
  rintro e W27 ⟨ga, gc, G, rfl, hG, hSm, hB28⟩
  have F29 := hide ((unhide F23).below hB28 (unhide F23).lt)
  have T30 := hide ((unhide T24).below hB28)
  have T31 := hide ((unhide T25).below hB28)
  have HB32 := hide ((unhide HB26).trans (hB28.mono (unhide HB26).size))
  clear hB28 F23 T24 T25 HB26 W21
  have TG := hide hG
  have HSm := hide hSm
  clear hG hSm
  go_wp2
  have F33 : Hid (FAt W27.drew w.heap.size f) := hide (unhide F29)
  have T34 := hide ((unhide T30).below (show Below W27.heap.size W27 W27.drew from ⟨rfl, rfl, rfl, Nat.le_refl _, fun _ _ => rfl⟩))
  have T35 := hide ((unhide T31).below (show Below W27.heap.size W27 W27.drew from ⟨rfl, rfl, rfl, Nat.le_refl _, fun _ _ => rfl⟩))
  have T36 := hide ((unhide TG).below (show Below W27.heap.size W27 W27.drew from ⟨rfl, rfl, rfl, Nat.le_refl _, fun _ _ => rfl⟩))
  have HB37 : Hid (Below w.heap.size w W27.drew) := hide ((unhide HB32).trans ⟨rfl, rfl, rfl, Nat.le_refl _, fun _ _ => rfl⟩)
  refine wp_region_held_drew (S := fun w' => FAt w' w.heap.size f) (by kernel_rfl) (unhide F33) (fun hS38 => ?_)
  clear F29 T30 T31 TG HB32
  generalize W27.drew = W39 at F33 T34 T35 T36 HB37 hS38 ⊢
  clear W27
  refine wpAnyH_take (i := 0) (v := .slice ga G.length gc) rfl (by kernel_rfl) (by kernel_rfl) (by kernel_rfl) (fun _ _ _ h => h) (Or.inl ⟨by rfl, fun w _ => by go_simp⟩) hS38 ?_
  refine wpAnyH_take (i := 1) (v := .agg (frA f)) rfl (by kernel_rfl) (by kernel_rfl) (by kernel_rfl) (fun _ _ _ h => h) (yieldsIf_load_fr (by rfl) _ rfl w.heap.size rfl f (unhide HA) (fun _ h => h)) hS38 ?_
  refine wpAnyH_take (i := 3) (v := .slice ao T.length cap) rfl (by kernel_rfl) (by kernel_rfl) (by kernel_rfl) (fun _ _ _ h => h) (Or.inl ⟨by rfl, fun w _ => by go_simp⟩) hS38 ?_
  refine wpAnyH_take (i := 4) (v := .agg (frA f)) rfl (by kernel_rfl) (by kernel_rfl) (by kernel_rfl) (fun _ _ _ h => h) (yieldsIf_load_fr (by rfl) _ rfl w.heap.size rfl f (unhide HA) (fun _ h => h)) hS38 ?_
  refine wpAnyH_ready (rs := [2]) (by kernel_rfl) (by simp) ?_
  refine AllReadyH.cons rfl (fun K hK => ?_) AllReadyH.nil
  go_simp
  go_wp2_with (go_at_call 11; refine (CheckG_any (unhide HSm) ga gc f _ (unhide HA)).mono ?_; rintro e W40 ⟨rfl, hB41⟩)
  have F42 := hide ((unhide F33).below hB41 (unhide F33).lt)
  have T43 := hide ((unhide T34).below hB41)
  have T44 := hide ((unhide T35).below hB41)
  have T45 := hide ((unhide T36).below hB41)
  have HB46 := hide ((unhide HB37).trans (hB41.mono (unhide HB37).size))
  refine hK.out _ _ (unhide F42) (fun hS47 => ?_)
  clear hK K hS38 hB41 F33 T34 T35 T36 HB37 W39
  refine wpAnyH_ready (rs := [5]) (by kernel_rfl) (by simp) ?_
  refine AllReadyH.cons rfl (fun K hK => ?_) AllReadyH.nil
  go_simp
  go_wp2_with (go_at_call 12; refine (refCheckF_any ao cap T.length f _ (unhide HA)).mono ?_; rintro e W48 ⟨rfl, hB49⟩)
  have F50 := hide ((unhide F42).below hB49 (unhide F42).lt)
  have T51 := hide ((unhide T43).below hB49)
  have T52 := hide ((unhide T44).below hB49)
  have T53 := hide ((unhide T45).below hB49)
  have HB54 := hide ((unhide HB46).trans (hB49.mono (unhide HB46).size))
  refine hK.out _ _ (unhide F50) (fun hS55 => ?_)
  clear hK K hS47 hB49 F42 T43 T44 T45 HB46 W40
  refine wpAnyH_take (i := 6) (v := .bool false) rfl (by kernel_rfl) (by kernel_rfl) (by kernel_rfl) (fun _ _ _ h => h) (Or.inl ⟨by rfl, fun w _ => by go_simp⟩) hS55 ?_
  refine wpAnyH_done (by kernel_rfl) ?_ _
  clear hS55
  go_wp2_with (refine wpList_load_row rfl 26 _ rfl w.heap.size rfl 26 (frA f) (0, 0) _ (unhide F50) Tryd.underlying26 rfl (sizeFr (unhide HA)) ?_)
  refine (RankG_any (unhide HSm) ga gc f _ (unhide T53) (unhide HZ) (unhide H32) (unhide HA)).mono ?_
  rintro e W56 ⟨rfl, hB57⟩
  have F58 := hide ((unhide F50).below hB57 (unhide F50).lt)
  have T59 := hide ((unhide T51).below hB57)
  have T60 := hide ((unhide T52).below hB57)
  have T61 := hide ((unhide T53).below hB57)
  have HB62 := hide ((unhide HB54).trans (hB57.mono (unhide HB54).size))
  clear hB57 F50 T51 T52 T53 HB54 W48
  obtain ⟨rk, re, HR⟩ : ∃ rk re, Hid (intTwo (rankF T f) = .tuple #[.int .i64 ((rk : Nat) : Int), .int .i64 re]) := ⟨_, _, hide rfl⟩
  rw [unhide HR]
  go_wp2_with (refine wpList_load_row rfl 26 _ rfl w.heap.size rfl 26 (frA f) (0, 0) _ (unhide F58) Tryd.underlying26 rfl (sizeFr (unhide HA)) ?_)
  refine (refRankF_any ao cap T f _ (unhide T59) (unhide HZ) (unhide HMD) (unhide HA)).mono ?_
  rintro e W63 ⟨rfl, hB64⟩
  have F65 := hide ((unhide F58).below hB64 (unhide F58).lt)
  have T66 := hide ((unhide T59).below hB64)
  have T67 := hide ((unhide T60).below hB64)
  have T68 := hide ((unhide T61).below hB64)
  have HB69 := hide ((unhide HB62).trans (hB64.mono (unhide HB62).size))
  clear hB64 F58 T59 T60 T61 HB62 W56
  rw [unhide HR]
  go_wp2_with (refine wpList_load_row rfl 26 _ rfl w.heap.size rfl 26 (frA f) (0, 0) _ (unhide F65) Tryd.underlying26 rfl (sizeFr (unhide HA)) ?_)
  refine (PrintG_any (unhide HSm) ga gc f _ (unhide T68) (unhide T67) (unhide HA) (unhide HPS)).mono ?_
  rintro e W70 ⟨rfl, hB71⟩
  have F72 := hide ((unhide F65).below hB71 (unhide F65).lt)
  have T73 := hide ((unhide T66).below hB71)
  have T74 := hide ((unhide T67).below hB71)
  have T75 := hide ((unhide T68).below hB71)
  have HB76 := hide ((unhide HB69).trans (hB71.mono (unhide HB69).size))
  clear hB71 F65 T66 T67 T68 HB69 W63
  obtain ⟨ps, pe, HP⟩ : ∃ ps pe, Hid (prD T f = (ps, pe)) := ⟨_, _, hide rfl⟩
  rw [unhide HP]
  go_wp2_with (refine wpList_load_row rfl 26 _ rfl w.heap.size rfl 26 (frA f) (0, 0) _ (unhide F72) Tryd.underlying26 rfl (sizeFr (unhide HA)) ?_)
  refine (refPrintF_any ao cap T f _ (unhide T73) (unhide HA) (unhide HPS)).mono ?_
  rintro e W77 ⟨rfl, hB78⟩
  have F79 := hide ((unhide F72).below hB78 (unhide F72).lt)
  have T80 := hide ((unhide T73).below hB78)
  have T81 := hide ((unhide T74).below hB78)
  have T82 := hide ((unhide T75).below hB78)
  have HB83 := hide ((unhide HB76).trans (hB78.mono (unhide HB76).size))
  clear hB78 F72 T73 T74 T75 HB76 W70
  rw [unhide HP]
  go_wp2_with fail
  refine (Same_yes ga ao gc cap T G _ (unhide T82) (unhide T80) (unhide HSm) (unhide HZ)).mono ?_
  rintro e Wl ⟨rfl, q, rfl⟩
  go_wp2
  go_ret
  exact ⟨by simp, belowD (unhide HB83) _⟩
end Go.Proofs.YtelbajcfdecaoaaDoor
