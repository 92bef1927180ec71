/-
  The walk of the law FramesStarts: it returns true for every table, row of types and number, and writes nothing that was there.
-/
import Derived.Test.YtihkodfcgfnjoaaFrU
import Derived.Test.YtihkodfcgfnjoaaTbl
import Derived.Test.YtihkodfcgfnjoaaShell
namespace Go.Proofs.Ytihkodfcgfnjoaa
open Go.RowKit

theorem StartG_any {T G : List Cl} (hs : SameT T G) (ao : Option Addr) (cap : Nat) (po : Option Addr) (pc : Nat) (ps : List Nat) (lo : Int) (w : World) (hP : PAt w po ps) (hp : ∀ t ∈ ps, t < 256) (hz : ps.length ≤ 140737488351232) (hw : -9223372036854775808 ≤ lo ∧ lo ≤ 9223372036854775807) :
    Calls Try.prog 13 #[.slice ao G.length cap, .slice po ps.length pc, .int .i64 lo] w fun e w' => e = .returned (frTwo (startD T.length ps lo)) ∧ Below w.heap.size w w' := by
  rw [show startD T.length ps lo = startD G.length ps lo from by rw [hs.1]]
  exact Start_any ao cap G.length po pc ps lo w hP hp hz hw
theorem start_ok {n : Nat} {ps : List Nat} (hp : ∀ t ∈ ps, t < 256) (lo : Int) : FrOk (startD n ps lo).1 := by
  unfold startD
  by_cases h : lo < 0 ∨ 16 < lo ∨ 8 < ps.length ∨ lo < (ps.length : Int)
  · rw [if_pos h]; exact frZ_ok
  · rw [if_neg h]
    by_cases h2 : ps.all (storedD n) = true
    · rw [if_pos h2]; exact startTo_ok (by omega) (by omega) hp _
    · rw [if_neg h2]; exact frZ_ok
theorem emptyD_ok (lo : Int) : FrOk (emptyD lo).1 := by
  unfold emptyD
  by_cases h : lo < 0 ∨ 16 < lo
  · rw [if_pos h]; exact frZ_ok
  · rw [if_neg h]; exact empty_ok (by omega) (by omega)

set_option maxRecDepth 100000 in
set_option maxHeartbeats 8000000 in
theorem walkFramesStarts {w : World} (ao : Option Addr) (cap : Nat) (T : List Cl) (hT : TabAt w ao T) (hz : T.length * 48 ≤ 140737488351232) (po : Option Addr) (pc : Nat) (ps : List Nat) (hP : PAt w po ps) (hpn : po = none → ps = []) (hp : ∀ t ∈ ps, t < 256) (hpz : ps.length ≤ 140737488351232) (lo : Int) (hw : (Lit.int .i64 lo).wf = true) :
    Calls Try.prog 3 #[.slice ao T.length cap, .slice po ps.length pc, .int .i64 lo] w fun e w' => e = .returned (.bool true) ∧ Below w.heap.size w w' := by
  have hb := bounds_i64 hw
  have HT := hide hT
  have HZ := hide hz
  have HP := hide hP
  have HPN := hide hpn
  have HPB := hide hp
  have HX1 := hide (emptyD_ok lo)
  have HX2 := hide (start_ok (n := T.length) hp lo)
  have hq1 := fun W => neq_self (unhide HX1) W
  have hq2 := fun W => eql_self (unhide HX2) W
  have HB0 : Hid (Below w.heap.size w w) := hide (Below.refl _ _)
  clear hT hz hP hpn hp hw
  go_enter Try.func3, Try.ntmps3
  go_wp2_with fail
  refine (Empty_any lo _).mono ?_
  rintro e W21 ⟨rfl, hB22⟩
  have HB23 := hide ((unhide HB0).trans (hB22.mono (unhide HB0).size))
  clear hB22 HB0
  have HE : Hid (frTwo (emptyD lo) = .tuple #[.agg (frA (emptyD lo).1), .int .i64 (emptyD lo).2]) := hide rfl
  generalize (emptyD lo).2 = e1 at HE
  generalize (emptyD lo).1 = X1 at HE HX1 hq1
  rw [unhide HE]
  have ow_a : w.heap.size ≤ W21.heap.size := (unhide HB23).size
  have Z24 : Hid (FAt (W21.alloc (.cells (frA frZ) 27)) W21.heap.size frZ) := hide (FAt.new W21 frZ)
  have hal : Below W21.heap.size W21 (W21.alloc (.cells (frA frZ) 27)) := (Below.refl _ _).alloc (Nat.le_refl _) _
  have F25 : Hid (FAt ((W21.alloc (.cells (frA frZ) 27)).setRow W21.heap.size (frA X1)) W21.heap.size X1) := hide ((unhide Z24).row X1)
  have HB26 : Hid (Below w.heap.size w ((W21.alloc (.cells (frA frZ) 27)).setRow W21.heap.size (frA X1))) := hide (below_setRow' ((unhide HB23).trans (hal.mono (unhide HB23).size)) (unhide HB23).size _)
  go_wp2_with (refine wpList_store_row rfl 27 _ _ rfl W21.heap.size (frA X1) rfl rfl 27 (frA frZ) (unhide Z24) (sizeFr (unhide HX1)) (sizeEq frZ_ok (unhide HX1)) (frA_one _) ?_)
  rw [frZ_eq]
  generalize ((W21.alloc (.cells (frA frZ) 27)).setRow W21.heap.size (frA X1)) = W27 at F25 HB26 ⊢
  clear Z24 HB23 hal
  generalize W21.heap.size = g_a at F25 ow_a ⊢
  clear W21
  refine (refEmpty_any lo _).mono ?_
  rintro e W28 ⟨rfl, hB29⟩
  have F30 := hide ((unhide F25).below hB29 (unhide F25).lt)
  have HB31 := hide ((unhide HB26).trans (hB29.mono (unhide HB26).size))
  clear hB29 F25 HB26 W27
  rw [unhide HE]
  have ow_b : w.heap.size ≤ W28.heap.size := (unhide HB31).size
  have o_a_b : g_a < W28.heap.size := (unhide F30).lt
  have Z32 : Hid (FAt (W28.alloc (.cells (frA frZ) 27)) W28.heap.size frZ) := hide (FAt.new W28 frZ)
  have hal : Below W28.heap.size W28 (W28.alloc (.cells (frA frZ) 27)) := (Below.refl _ _).alloc (Nat.le_refl _) _
  have F33 : Hid (FAt ((W28.alloc (.cells (frA frZ) 27)).setRow W28.heap.size (frA X1)) g_a X1) := hide (((unhide F30).below hal (unhide F30).lt).rowOther X1 (Nat.ne_of_lt (unhide F30).lt))
  have F34 : Hid (FAt ((W28.alloc (.cells (frA frZ) 27)).setRow W28.heap.size (frA X1)) W28.heap.size X1) := hide ((unhide Z32).row X1)
  have HB35 : Hid (Below w.heap.size w ((W28.alloc (.cells (frA frZ) 27)).setRow W28.heap.size (frA X1))) := hide (below_setRow' ((unhide HB31).trans (hal.mono (unhide HB31).size)) (unhide HB31).size _)
  go_wp2_with (first | (refine wpList_store_row rfl 27 _ _ rfl W28.heap.size (frA X1) rfl rfl 27 (frA frZ) (unhide Z32) (sizeFr (unhide HX1)) (sizeEq frZ_ok (unhide HX1)) (frA_one _) ?_) | (refine wpList_load_row rfl 27 _ rfl g_a rfl 27 (frA X1) (0, 0) _ (unhide F33) Try.underlying27 rfl (sizeFr (unhide HX1)) ?_) | (refine wpList_load_row rfl 27 _ rfl W28.heap.size rfl 27 (frA X1) (0, 0) _ (unhide F34) Try.underlying27 rfl (sizeFr (unhide HX1)) ?_))
  rw [frZ_eq]
  generalize ((W28.alloc (.cells (frA frZ) 27)).setRow W28.heap.size (frA X1)) = W36 at F33 F34 HB35 ⊢
  clear F30 Z32 HB31 hal
  generalize W28.heap.size = g_b at F34 ow_b o_a_b ⊢
  clear W28
  refine (table_any ao cap T _ ((unhide HT).below (unhide HB35)) (unhide HZ)).mono ?_
  rintro e W37 ⟨rfl, hB38⟩
  have F39 := hide ((unhide F33).below hB38 (unhide F33).lt)
  have F40 := hide ((unhide F34).below hB38 (unhide F34).lt)
  have HB41 := hide ((unhide HB35).trans (hB38.mono (unhide HB35).size))
  clear hB38 F33 F34 HB35 W36
  by_cases hmd : madeD T = true
  rotate_left
  · have hmd' : madeD T = false := by simpa using hmd
    rw [hmd']
    clear hmd hmd'
    go_wp2
    go_ret
    exact ⟨rfl, unhide HB41⟩
  rw [hmd]
  clear hmd
  go_wp2_with fail
  refine (Classes_any ao cap T _ ((unhide HT).below (unhide HB41)) (unhide HZ)).mono ?_
  rintro e W42 ⟨ga, gc, G, rfl, hG, hSm, hB43⟩
  have F44 := hide ((unhide F39).below hB43 (unhide F39).lt)
  have F45 := hide ((unhide F40).below hB43 (unhide F40).lt)
  have HB46 := hide ((unhide HB41).trans (hB43.mono (unhide HB41).size))
  clear hB43 F39 F40 HB41 W37
  have TG := hide hG
  have HSm := hide hSm
  clear hG hSm
  go_wp2_with fail
  refine (cloneP_any po pc ps _ ((unhide HP).below (unhide HB46)) (unhide HPN) hpz).mono ?_
  rintro e W47 ⟨pa, pd, rfl, hPA, hFr, hB48⟩
  have PFa : ∀ b off, pa = some ⟨b, off, none⟩ → b ≠ g_a := fun b off e => by have := hFr b off e; have := (unhide F44).lt; omega
  have PFb : ∀ b off, pa = some ⟨b, off, none⟩ → b ≠ g_b := fun b off e => by have := hFr b off e; have := (unhide F45).lt; omega
  have HPFa := hide PFa
  have HPFb := hide PFb
  clear hFr PFa PFb
  have F49 := hide ((unhide F44).below hB48 (unhide F44).lt)
  have F50 := hide ((unhide F45).below hB48 (unhide F45).lt)
  have T51 := hide ((unhide TG).below hB48)
  have HB52 := hide ((unhide HB46).trans (hB48.mono (unhide HB46).size))
  clear hB48 F44 F45 TG HB46 W42
  have PA := hide hPA
  clear hPA
  go_wp2_with fail
  refine (StartG_any (unhide HSm) ga gc pa pd ps lo _ (unhide PA) (unhide HPB) hpz hb).mono ?_
  rintro e W53 ⟨rfl, hB54⟩
  have F55 := hide ((unhide F49).below hB54 (unhide F49).lt)
  have F56 := hide ((unhide F50).below hB54 (unhide F50).lt)
  have T57 := hide ((unhide T51).below hB54)
  have T58 := hide ((unhide PA).below hB54)
  have HB59 := hide ((unhide HB52).trans (hB54.mono (unhide HB52).size))
  clear hB54 F49 F50 T51 PA HB52 W47
  have HE2 : Hid (frTwo (startD T.length ps lo) = .tuple #[.agg (frA (startD T.length ps lo).1), .int .i64 (startD T.length ps lo).2]) := hide rfl
  generalize (startD T.length ps lo).2 = e2 at HE2
  generalize (startD T.length ps lo).1 = X2 at HE2 HX2 hq2
  rw [unhide HE2]
  have F60 : Hid (FAt (W53.setRow g_a (frA X2)) g_a X2) := hide ((unhide F55).row X2)
  have F61 : Hid (FAt (W53.setRow g_a (frA X2)) g_b X1) := hide ((unhide F56).rowOther X2 (by omega))
  have T62 := hide ((unhide T57).row (unhide F55) (frA X2))
  have T63 := hide ((unhide T58).row (g := g_a) (frA X2) (fun b off e => unhide HPFa b off e))
  have HB64 : Hid (Below w.heap.size w (W53.setRow g_a (frA X2))) := hide (below_setRow' (unhide HB59) (by omega) _)
  go_wp2_with (refine wpList_store_row rfl 27 _ _ rfl g_a (frA X2) rfl rfl 27 (frA X1) (unhide F55) (sizeFr (unhide HX2)) (sizeEq (unhide HX1) (unhide HX2)) (frA_one _) ?_)
  generalize (W53.setRow g_a (frA X2)) = W65 at F60 F61 T62 T63 HB64 ⊢
  clear F55 F56 T57 T58 HB59
  clear W53
  refine (refStart_any ao cap T.length po pc ps lo _ ((unhide HP).below (unhide HB64)) (unhide HPB) hpz hb).mono ?_
  rintro e W66 ⟨rfl, hB67⟩
  have F68 := hide ((unhide F60).below hB67 (unhide F60).lt)
  have F69 := hide ((unhide F61).below hB67 (unhide F61).lt)
  have T70 := hide ((unhide T62).below hB67)
  have T71 := hide ((unhide T63).below hB67)
  have HB72 := hide ((unhide HB64).trans (hB67.mono (unhide HB64).size))
  clear hB67 F60 F61 T62 T63 HB64 W65
  rw [unhide HE2]
  have F73 : Hid (FAt (W66.setRow g_b (frA X2)) g_a X2) := hide ((unhide F68).rowOther X2 (by omega))
  have F74 : Hid (FAt (W66.setRow g_b (frA X2)) g_b X2) := hide ((unhide F69).row X2)
  have T75 := hide ((unhide T70).row (unhide F69) (frA X2))
  have T76 := hide ((unhide T71).row (g := g_b) (frA X2) (fun b off e => unhide HPFb b off e))
  have HB77 : Hid (Below w.heap.size w (W66.setRow g_b (frA X2))) := hide (below_setRow' (unhide HB72) (by omega) _)
  go_wp2_with (first | (refine wpList_store_row rfl 27 _ _ rfl g_b (frA X2) rfl rfl 27 (frA X1) (unhide F69) (sizeFr (unhide HX2)) (sizeEq (unhide HX1) (unhide HX2)) (frA_one _) ?_) | (refine wpList_load_row rfl 27 _ rfl g_a rfl 27 (frA X2) (0, 0) _ (unhide F73) Try.underlying27 rfl (sizeFr (unhide HX2)) ?_) | (refine wpList_load_row rfl 27 _ rfl g_b rfl 27 (frA X2) (0, 0) _ (unhide F74) Try.underlying27 rfl (sizeFr (unhide HX2)) ?_))
  generalize (W66.setRow g_b (frA X2)) = W78 at F73 F74 T75 T76 HB77 ⊢
  clear F68 F69 T70 T71 HB72
  clear W66
  refine (Same_yes ga ao gc cap T G _ (unhide T75) ((unhide HT).below (unhide HB77)) (unhide HSm) (unhide HZ)).mono ?_
  rintro e Wl ⟨rfl, q, rfl⟩
  go_wp2_with fail
  refine (equalP_yes pa po pd pc ps _ (by exact unhide T76) (by exact ((unhide HP).below (belowD (unhide HB77) _))) hpz).mono ?_
  rintro e Wm ⟨rfl, q2, rfl⟩
  go_wp2
  go_ret
  exact ⟨by simp, belowD (unhide HB77) _⟩
end Go.Proofs.Ytihkodfcgfnjoaa
