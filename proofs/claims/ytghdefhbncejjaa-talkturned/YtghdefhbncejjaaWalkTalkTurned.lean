/-
  The walk of the law TalkTurned: a frame with one byte that is another one is refused, and so is each beginning, and what has more behind.
-/
import Derived.Test.YtghdefhbncejjaaTk9
import Derived.Test.YtghdefhbncejjaaWalkTalkBack
import Derived.Test.YtghdefhbncejjaaWalkTalkReads
namespace Go.Proofs.Ytghdefhbncejjaa
open Go.RowKit
set_option linter.unusedVariables false

theorem rq_set {c n : Int} {m : List UInt8} {k : Nat} {x : UInt8} (h : rqE c n m = 0) (hk : k < (rqL c n m).length) : (opE ((rqL c n m).set k x) 80 5 == 0) = decide (x = (rqL c n m).getD k 0) := by
  obtain ⟨h1, h2, h3⟩ := rqE_len h
  have e : rqL c n m = frT (rqH c n) m := by unfold rqL; rw [if_pos h]
  have h0 := (opE_zero (rq_back h).1).1
  rw [e] at h0 hk ⊢
  have hl : (rqH c n).length + 1 = 5 := by rw [rqH_len]
  have := opE_set (x := x) h3 h0 hk
  rw [hl] at this
  rw [Bool.eq_iff_iff, beq_iff_eq, decide_eq_true_iff]
  exact this
theorem an_set {s : Int} {m : List UInt8} {k : Nat} {x : UInt8} (h : anE s m = 0) (hk : k < (anL s m).length) : (opE ((anL s m).set k x) 112 4 == 0) = decide (x = (anL s m).getD k 0) := by
  obtain ⟨h1, h3⟩ := anE_len h
  have e : anL s m = frT (anH s) m := by unfold anL; rw [if_pos h]
  have h0 := (opE_zero (an_back h).1).1
  rw [e] at h0 hk ⊢
  have hl : (anH s).length + 1 = 4 := by rw [anH_len]
  have := opE_set (x := x) h3 h0 hk
  rw [hl] at this
  rw [Bool.eq_iff_iff, beq_iff_eq, decide_eq_true_iff]
  exact this
theorem rq_take {c n : Int} {m : List UInt8} {k : Nat} (h : rqE c n m = 0) (hk : k < (rqL c n m).length) : (opE ((rqL c n m).take k) 80 5 == 0) = false := by
  obtain ⟨h1, h2, h3⟩ := rqE_len h
  have e : rqL c n m = frT (rqH c n) m := by unfold rqL; rw [if_pos h]
  rw [e] at hk ⊢
  have hl : (rqH c n).length + 1 = 5 := by rw [rqH_len]
  have := opE_take (mk := 80) h3 hk
  rw [hl] at this
  exact beq_f this
theorem an_take {s : Int} {m : List UInt8} {k : Nat} (h : anE s m = 0) (hk : k < (anL s m).length) : (opE ((anL s m).take k) 112 4 == 0) = false := by
  obtain ⟨h1, h3⟩ := anE_len h
  have e : anL s m = frT (anH s) m := by unfold anL; rw [if_pos h]
  rw [e] at hk ⊢
  have hl : (anH s).length + 1 = 4 := by rw [anH_len]
  have := opE_take (mk := 112) h3 hk
  rw [hl] at this
  exact beq_f this
theorem rq_more {c n : Int} {m r : List UInt8} (h : rqE c n m = 0) : (opE (rqL c n m ++ r) 80 5 == 0) = decide (r.length = 0) := by
  obtain ⟨h1, h2, h3⟩ := rqE_len h
  have e : rqL c n m = frT (rqH c n) m := by unfold rqL; rw [if_pos h]
  have h0 := (opE_zero (rq_back h).1).1
  rw [e] at h0 ⊢
  have hl : (rqH c n).length + 1 = 5 := by rw [rqH_len]
  have := opE_more (r := r) h3 h0
  rw [hl] at this
  rw [Bool.eq_iff_iff, beq_iff_eq, decide_eq_true_iff]
  exact this
theorem an_more {s : Int} {m r : List UInt8} (h : anE s m = 0) : (opE (anL s m ++ r) 112 4 == 0) = decide (r.length = 0) := by
  obtain ⟨h1, h3⟩ := anE_len h
  have e : anL s m = frT (anH s) m := by unfold anL; rw [if_pos h]
  have h0 := (opE_zero (an_back h).1).1
  rw [e] at h0 ⊢
  have hl : (anH s).length + 1 = 4 := by rw [anH_len]
  have := opE_more (r := r) h3 h0
  rw [hl] at this
  rw [Bool.eq_iff_iff, beq_iff_eq, decide_eq_true_iff]
  exact this
set_option maxHeartbeats 16000000 in
theorem walkTalkTurned {w : World} (cm nu : Int) (ao : Option Addr) (c : Nat) (l : List UInt8) (hd : BAt w ao l) (hn : ao = none → l = [] ∧ c = 0) (hz : l.length ≤ 140737488351232)
    (st : Int) (hst : (Lit.int .u64 st).wf = true) (xn : Nat) (hxn : xn < 256) (mo : Option Addr) (mc : Nat) (r : List UInt8) (gd : BAt w mo r) (gn : mo = none → r = [] ∧ mc = 0) (gz : r.length ≤ 140737488351232) (gc : r.length ≤ mc) :
    Calls Try.prog 7 #[.agg #[.int .i64 cm, .int .i64 nu, .slice ao l.length c], .int .u64 st, .int .u8 (xn : Int), .slice mo r.length mc] w fun e w' => e = .returned (.bool true) ∧ Below w.heap.size w w' := by
  have HA : Hid (Below w.heap.size w (w.alloc (.cells #[.int .i64 cm, .int .i64 nu, .slice ao l.length c] 24))) := hide ((Below.refl _ w).alloc (Nat.le_refl _) _)
  have HR : Hid (Bx (w.alloc (.cells #[.int .i64 cm, .int .i64 nu, .slice ao l.length c] 24)) w.heap.size 24 #[.int .i64 cm, .int .i64 nu, .slice ao l.length c]) := hide (heap_alloc_new w _)
  have HD := hide (hd.below' (unhide HA))
  have HMo := hide (gd.below' (unhide HA))
  have HN := hide hn
  have HGN := hide gn
  have hu := u64_boundsT hst
  clear hd hn hst gd gn
  by_cases hE : rqE cm nu l = 0
  · obtain ⟨r1, r2, r3⟩ := rqE_len hE
    have hAE : anE nu l = 0 := by unfold anE; rw [if_neg r2, if_neg (by omega)]
    have q5 := (rq_back hE).2.2.2.2
    have p4 := (an_back hAE).2.2.2
    obtain ⟨A, rfl⟩ := Int.eq_ofNat_of_zero_le hu.1
    obtain ⟨x, hx⟩ : ∃ x : UInt8, x.toNat = xn := ⟨UInt8.ofNat xn, UInt8.toNat_ofNat_of_lt' hxn⟩
    go_enter Try.func7, Try.ntmps7
    go_upto_region 1 with fail
    generalize (w.alloc (.cells #[.int .i64 cm, .int .i64 nu, .slice ao l.length c] 24)) = W0 at HA HR HD HMo ⊢
    have HM := hide (may_yes cm nu ao c l W0 hE)
    have k0 := (unhide HR).c 0 rfl
    have k1 := (unhide HR).c 1 rfl
    have k2 := (unhide HR).c 2 rfl
    have HPk := hide (fun W hb hc => Pack_any cm nu ao c l W hb hc (by omega))
    have HTo := hide (fun W hb hc => Told_any nu ao c l W hb hc (by omega))
    rw [hE] at HPk
    rw [hAE] at HTo
    have S1 := hide (fun k x hk => rq_set (k := k) (x := x) hE hk)
    have S2 := hide (fun k hk => rq_take (k := k) hE hk)
    have S3 := hide (rq_more (r := r) hE)
    have T1 := hide (fun k x hk => an_set (k := k) (x := x) hAE hk)
    have T2 := hide (fun k hk => an_take (k := k) hAE hk)
    have T3 := hide (an_more (r := r) hAE)
    generalize rqL cm nu l = L at HPk S1 S2 S3 q5
    generalize anL nu l = M at HTo T1 T2 T3 p4
    have hL9 : (9 : Int) ≤ ((L.length : Nat) : Int) := by omega
    have hM8 : (8 : Int) ≤ ((M.length : Nat) : Int) := by omega
    have hLl : L.length ≤ 1000 := by omega
    have hMl : M.length ≤ 1000 := by omega
    have hL1 : 9 ≤ L.length := by omega
    have hM1 : 8 ≤ M.length := by omega
    clear q5 p4 hE hAE r1 r2 hu
    go_wp2_with fail
    refine (unhide HM).mono ?_
    rintro e W1 ⟨rfl, hb1⟩
    have HB1 := hide hb1
    have HP := hide (unhide HPk W1 ((unhide HD).below' hb1) (unhide HN))
    clear k0 k1 k2 hb1 HM
    have k0 := ((unhide HR).below (unhide HB1)).c 0 rfl
    have k1 := ((unhide HR).below (unhide HB1)).c 1 rfl
    have k2 := ((unhide HR).below (unhide HB1)).c 2 rfl
    go_wp2_with fail
    refine (unhide HP).mono ?_
    rintro e W2 ⟨v2, rfl, hO2, hb2⟩
    have HB2 := hide ((unhide HB1).trans (hb2.mono (unhide HB1).size))
    obtain ⟨va, vc, rfl, hva, hvc⟩ := own_capT hO2
    obtain ⟨vb, vo, rfl, -⟩ := hva.head (by omega)
    have HT := hide (unhide HTo W2 ((unhide HD).below' (unhide HB2)) (unhide HN))
    have HVa := hide hva
    clear hO2 hb2 hva HP k0 k1 k2
    have k1 := ((unhide HR).below (unhide HB2)).c 1 rfl
    have k2 := ((unhide HR).below (unhide HB2)).c 2 rfl
    go_wp2_with fail
    refine (unhide HT).mono ?_
    rintro e W3 ⟨v3, rfl, hO3, hb3⟩
    have HB3 := hide ((unhide HB2).trans (hb3.mono (unhide HB2).size))
    obtain ⟨ya, yc, rfl, hya, hyc⟩ := own_capT hO3
    obtain ⟨yb, yo, rfl, -⟩ := hya.head (by omega)
    have HLb := hide ((unhide HVa).below' hb3)
    have HMb := hide hya
    have HMo3 := hide ((unhide HMo).below' (unhide HB3))
    have HC3 : Hid (Below W3.heap.size W3 W3) := hide (Below.refl _ _)
    clear hO3 hb3 hya HT k1 k2 HVa HPk HTo HR HD HMo HN HB1 HB2
    obtain ⟨Ka, hKa⟩ : ∃ K, K = A % L.length := ⟨_, rfl⟩
    have hKla : Ka < L.length := by rw [hKa]; exact Nat.mod_lt _ (by omega)
    have t1a : IntKind.u64.wrap ((L.length : Nat) : Int) = ((L.length : Nat) : Int) := by simp [IntKind.wrap, IntKind.bits, IntKind.signed]; omega
    have t2a : Int.tmod (A : Int) ((L.length : Nat) : Int) = (Ka : Int) := by rw [hKa]; exact (Int.ofNat_tmod A L.length).symm
    have t3a : IntKind.i64.wrap (Ka : Int) = (Ka : Int) := wrap_T (by omega) (by omega)
    have t4a : ((L.length : Nat) : Int) ≠ 0 := by omega
    have t5a : (((L.length : Nat) : Int) == 0) = false := beq_f t4a
    have HKKa := hide hKa
    have iKa : (Ka : Int) < ((L.length : Nat) : Int) := by omega
    have iKca : (Ka : Int) ≤ ((vc : Nat) : Int) := by omega
    clear hKa
    have HCl := hide (Clone_any (some ⟨vb, vo, none⟩) vc L W3 ((unhide HLb).below' (unhide HC3)) (fun e => by cases e) (by omega))
    go_wp2_with fail
    refine (unhide HCl).mono ?_
    rintro e W4 ⟨v4, rfl, hO, hb, -⟩
    have HC4 := hide ((unhide HC3).trans (hb.mono (unhide HC3).size))
    obtain ⟨oga, oca, hv, hg1, hg2, hg3, hg4, hg5⟩ : ∃ g cap, v4 = .slice (some ⟨g, 0, none⟩) L.length cap ∧ W3.heap.size ≤ g ∧ g < W4.heap.size ∧ L.length ≤ cap ∧ True ∧ True := by
      rcases hO.shape with ⟨_, h2⟩ | ⟨g, cap, h3, h4, h5, h6, _, _⟩
      · rw [h2] at hKla; simp at hKla
      · exact ⟨g, cap, h3, h4, h5, h6, trivial, trivial⟩
    subst hv
    have hO' : W4.ownsRow W3.heap.size 5 1 (.slice (some ⟨oga, 0, none⟩) L.length oca) L.length (bvals L) := hO
    have c1 : W4.cell? ⟨oga, Ka, none⟩ = some (.int .u8 (at8 L Ka)) := (hO'.cellAt Ka (by omega)).trans (bvals_get (by omega))
    have f1 := hO'.frozenAt Ka
    have hst := (hO'.stored Ka (.int .u8 (x.toNat : Int))).1
    rw [bvals_setT] at hst
    have HOs : Hid (OwnB (W4.setCell ⟨oga, Ka, none⟩ (.int .u8 (x.toNat : Int))) W3.heap.size (.slice (some ⟨oga, 0, none⟩) L.length oca) (L.set Ka x)) := hide (by unfold OwnB; rw [List.length_set]; exact hst)
    have HC5 := hide ((unhide HC4).setCell (p := ⟨oga, Ka, none⟩) (by show W3.heap.size ≤ oga; have := (unhide HC3).size; omega) (.int .u8 (x.toNat : Int)))
    rw [hx] at HOs HC5
    generalize at8 L Ka = z1 at c1
    clear hst hO' hO hb HCl hg1 hg2 hg4 hg5
    go_upto_region 10 with fail
    generalize (W4.setCell ⟨oga, Ka, none⟩ (.int .u8 (xn : Int))) = W5 at HOs HC5 ⊢
    obtain ⟨sa, sc, es, hsa, hsc⟩ := own_capT (unhide HOs)
    injection es with es1 es2 es3
    subst es1 es3
    have HUn : Hid (Calls Try.prog 15 #[.slice (some ⟨oga, 0, none⟩) L.length oca] W5 fun e w' => ∃ a, e = .returned (.tuple #[.agg a, .int .i64 (opE (L.set Ka x) 80 5)]) ∧ Below W5.heap.size W5 w') := hide (by
      have h := Unpack_any (some ⟨oga, 0, none⟩) oca (L.set Ka x) W5 hsa hsc (by rw [List.length_set]; omega)
      rw [List.length_set] at h
      refine h.mono ?_
      rintro e w' ⟨v, rfl, _, hB⟩
      exact ⟨_, rfl, hB⟩)
    have hq1 := unhide S1 Ka x hKla
    have HQ2 : Hid (((xn : Int) == at8 L Ka) = decide (x = L.getD Ka 0)) := hide (by
      rw [Bool.eq_iff_iff, beq_iff_eq, decide_eq_true_iff, ← hx]
      unfold at8
      constructor
      · intro h; exact UInt8.toNat_inj.1 (by omega)
      · intro h; rw [h])
    generalize opE (L.set Ka x) 80 5 = E1 at HUn hq1
    generalize decide (x = L.getD Ka 0) = P1 at hq1 HQ2
    clear hsa hsc es2 c1 f1 HOs
    go_wp2_with fail
    refine (unhide HUn).mono ?_
    rintro e W6 ⟨ua, rfl, hb⟩
    have HC6 := hide ((unhide HC5).trans (hb.mono (unhide HC5).size))
    obtain ⟨b', off', eb, hcc⟩ := ((unhide HLb).below' (unhide HC6)).head (by omega)
    injection eb with eb
    injection eb with eb1 eb2
    subst eb1 eb2
    have c2 := hcc Ka hKla
    have hq2 := unhide HQ2
    generalize at8 L Ka = z2 at c2 hq2
    have HUt : Hid (Calls Try.prog 15 #[.slice (some ⟨vb, vo, none⟩) Ka vc] W6 fun e w' => ∃ a, e = .returned (.tuple #[.agg a, .int .i64 (opE (L.take Ka) 80 5)]) ∧ Below W6.heap.size W6 w') := hide (by
      have hl' : (L.take Ka).length = Ka := by rw [List.length_take]; omega
      have h := Unpack_any (some ⟨vb, vo, none⟩) vc (L.take Ka) W6 (((unhide HLb).below' (unhide HC6)).frontT Ka) (by omega) (by omega)
      rw [hl'] at h
      refine h.mono ?_
      rintro e w' ⟨v, rfl, _, hB⟩
      exact ⟨_, rfl, hB⟩)
    have hq3 := unhide S2 Ka hKla
    generalize opE (L.take Ka) 80 5 = E2 at HUt hq3
    clear hb hcc HUn HQ2
    go_wp2_with fail
    refine (unhide HUt).mono ?_
    rintro e W7 ⟨ub, rfl, hb⟩
    have HC7 := hide ((unhide HC6).trans (hb.mono (unhide HC6).size))
    clear hb HUt c2 hq1 hq2 t1a t2a t3a t5a iKa iKca
    obtain ⟨Kb, hKb⟩ : ∃ K, K = A % M.length := ⟨_, rfl⟩
    have hKlb : Kb < M.length := by rw [hKb]; exact Nat.mod_lt _ (by omega)
    have t1b : IntKind.u64.wrap ((M.length : Nat) : Int) = ((M.length : Nat) : Int) := by simp [IntKind.wrap, IntKind.bits, IntKind.signed]; omega
    have t2b : Int.tmod (A : Int) ((M.length : Nat) : Int) = (Kb : Int) := by rw [hKb]; exact (Int.ofNat_tmod A M.length).symm
    have t3b : IntKind.i64.wrap (Kb : Int) = (Kb : Int) := wrap_T (by omega) (by omega)
    have t4b : ((M.length : Nat) : Int) ≠ 0 := by omega
    have t5b : (((M.length : Nat) : Int) == 0) = false := beq_f t4b
    have HKKb := hide hKb
    have iKb : (Kb : Int) < ((M.length : Nat) : Int) := by omega
    have iKcb : (Kb : Int) ≤ ((yc : Nat) : Int) := by omega
    clear hKb
    have HCl := hide (Clone_any (some ⟨yb, yo, none⟩) yc M W7 ((unhide HMb).below' (unhide HC7)) (fun e => by cases e) (by omega))
    go_wp2_with fail
    refine (unhide HCl).mono ?_
    rintro e W8 ⟨v8, rfl, hO, hb, -⟩
    have HC8 := hide ((unhide HC7).trans (hb.mono (unhide HC7).size))
    obtain ⟨ogb, ocb, hv, hg1, hg2, hg3, hg4, hg5⟩ : ∃ g cap, v8 = .slice (some ⟨g, 0, none⟩) M.length cap ∧ W7.heap.size ≤ g ∧ g < W8.heap.size ∧ M.length ≤ cap ∧ True ∧ True := by
      rcases hO.shape with ⟨_, h2⟩ | ⟨g, cap, h3, h4, h5, h6, _, _⟩
      · rw [h2] at hKlb; simp at hKlb
      · exact ⟨g, cap, h3, h4, h5, h6, trivial, trivial⟩
    subst hv
    have hO' : W8.ownsRow W7.heap.size 5 1 (.slice (some ⟨ogb, 0, none⟩) M.length ocb) M.length (bvals M) := hO
    have c1 : W8.cell? ⟨ogb, Kb, none⟩ = some (.int .u8 (at8 M Kb)) := (hO'.cellAt Kb (by omega)).trans (bvals_get (by omega))
    have f1 := hO'.frozenAt Kb
    have hst := (hO'.stored Kb (.int .u8 (x.toNat : Int))).1
    rw [bvals_setT] at hst
    have HOs : Hid (OwnB (W8.setCell ⟨ogb, Kb, none⟩ (.int .u8 (x.toNat : Int))) W7.heap.size (.slice (some ⟨ogb, 0, none⟩) M.length ocb) (M.set Kb x)) := hide (by unfold OwnB; rw [List.length_set]; exact hst)
    have HC9 := hide ((unhide HC8).setCell (p := ⟨ogb, Kb, none⟩) (by show W3.heap.size ≤ ogb; have := (unhide HC7).size; omega) (.int .u8 (x.toNat : Int)))
    rw [hx] at HOs HC9
    generalize at8 M Kb = z1 at c1
    clear hst hO' hO hb HCl hg1 hg2 hg4 hg5
    go_upto_region 19 with fail
    generalize (W8.setCell ⟨ogb, Kb, none⟩ (.int .u8 (xn : Int))) = W9 at HOs HC9 ⊢
    obtain ⟨sa, sc, es, hsa, hsc⟩ := own_capT (unhide HOs)
    injection es with es1 es2 es3
    subst es1 es3
    have HUn : Hid (Calls Try.prog 18 #[.slice (some ⟨ogb, 0, none⟩) M.length ocb] W9 fun e w' => ∃ a, e = .returned (.tuple #[.agg a, .int .i64 (opE (M.set Kb x) 112 4)]) ∧ Below W9.heap.size W9 w') := hide (by
      have h := Heard_any (some ⟨ogb, 0, none⟩) ocb (M.set Kb x) W9 hsa hsc (by rw [List.length_set]; omega)
      rw [List.length_set] at h
      refine h.mono ?_
      rintro e w' ⟨v, rfl, _, hB⟩
      exact ⟨_, rfl, hB⟩)
    have hq1 := unhide T1 Kb x hKlb
    have HQ2 : Hid (((xn : Int) == at8 M Kb) = decide (x = M.getD Kb 0)) := hide (by
      rw [Bool.eq_iff_iff, beq_iff_eq, decide_eq_true_iff, ← hx]
      unfold at8
      constructor
      · intro h; exact UInt8.toNat_inj.1 (by omega)
      · intro h; rw [h])
    generalize opE (M.set Kb x) 112 4 = E1 at HUn hq1
    generalize decide (x = M.getD Kb 0) = P1 at hq1 HQ2
    clear hsa hsc es2 c1 f1 HOs
    go_wp2_with fail
    refine (unhide HUn).mono ?_
    rintro e W10 ⟨ua, rfl, hb⟩
    have HC10 := hide ((unhide HC9).trans (hb.mono (unhide HC9).size))
    obtain ⟨b', off', eb, hcc⟩ := ((unhide HMb).below' (unhide HC10)).head (by omega)
    injection eb with eb
    injection eb with eb1 eb2
    subst eb1 eb2
    have c2 := hcc Kb hKlb
    have hq2 := unhide HQ2
    generalize at8 M Kb = z2 at c2 hq2
    have HUt : Hid (Calls Try.prog 18 #[.slice (some ⟨yb, yo, none⟩) Kb yc] W10 fun e w' => ∃ a, e = .returned (.tuple #[.agg a, .int .i64 (opE (M.take Kb) 112 4)]) ∧ Below W10.heap.size W10 w') := hide (by
      have hl' : (M.take Kb).length = Kb := by rw [List.length_take]; omega
      have h := Heard_any (some ⟨yb, yo, none⟩) yc (M.take Kb) W10 (((unhide HMb).below' (unhide HC10)).frontT Kb) (by omega) (by omega)
      rw [hl'] at h
      refine h.mono ?_
      rintro e w' ⟨v, rfl, _, hB⟩
      exact ⟨_, rfl, hB⟩)
    have hq3 := unhide T2 Kb hKlb
    generalize opE (M.take Kb) 112 4 = E2 at HUt hq3
    clear hb hcc HUn HQ2
    go_wp2_with fail
    refine (unhide HUt).mono ?_
    rintro e W11 ⟨ub, rfl, hb⟩
    have HC11 := hide ((unhide HC10).trans (hb.mono (unhide HC10).size))
    clear hb HUt c2 hq1 hq2 t1b t2b t3b t5b iKb iKcb
    have HCl := hide (Clone_any (some ⟨vb, vo, none⟩) vc L W11 ((unhide HLb).below' (unhide HC11)) (fun e => by cases e) (by omega))
    go_wp2_with fail
    refine (unhide HCl).mono ?_
    rintro e W12 ⟨v12, rfl, hO, hb, -⟩
    have HC12 := hide ((unhide HC11).trans (hb.mono (unhide HC11).size))
    obtain ⟨oa, oc, hv, -⟩ := hO.at
    subst hv
    have HOo := hide (hO.mono (unhide HC11).size)
    have HSr := hide (srcT ((unhide HMo3).below' (unhide HC12)) (unhide HGN))
    clear hO hb HCl
    go_wp2_with (at_builtin; refine wpList_appendB rfl (.tmp 122) (.tmp 123) rfl W3.heap.size (.slice oa L.length oc) L rfl (unhide HOo) (.slice mo r.length mc) r rfl (unhide HSr) ?z6c ?z4c ?_)
    case z6c => omega
    try (case z4c => exact (unhide HC12).size)
    intro v13 W13 hO2 hG2 hF2 hF3
    have HC13 := hide ((unhide HC12).grown hG2 (unhide HC12).size (fun q e => (World.ownsRow.lt (unhide HOo) q e).1))
    obtain ⟨sa, sc, hv, hsa, hsc⟩ := own_capT hO2
    subst hv
    have HUn : Hid (Calls Try.prog 15 #[.slice sa (L ++ r).length sc] W13 fun e w' => ∃ a, e = .returned (.tuple #[.agg a, .int .i64 (opE (L ++ r) 80 5)]) ∧ Below W13.heap.size W13 w') := hide (by
      refine (Unpack_any sa sc (L ++ r) W13 hsa hsc (by rw [List.length_append]; omega)).mono ?_
      rintro e w' ⟨v, rfl, _, hB⟩
      exact ⟨_, rfl, hB⟩)
    have g1 := unhide S3
    generalize opE (L ++ r) 80 5 = Ec at HUn g1
    obtain ⟨sl, hsl⟩ : ∃ sl, sl = (L ++ r).length := ⟨_, rfl⟩
    rw [← hsl] at HUn ⊢
    clear hO2 hG2 hF2 hF3 hsa hsc HOo HSr hsl
    go_wp2_with fail
    refine (unhide HUn).mono ?_
    rintro e W14 ⟨uc, rfl, hb⟩
    have HC14 := hide ((unhide HC13).trans (hb.mono (unhide HC13).size))
    clear hb HUn
    have HCl := hide (Clone_any (some ⟨yb, yo, none⟩) yc M W14 ((unhide HMb).below' (unhide HC14)) (fun e => by cases e) (by omega))
    go_wp2_with fail
    refine (unhide HCl).mono ?_
    rintro e W15 ⟨v15, rfl, hO, hb, -⟩
    have HC15 := hide ((unhide HC14).trans (hb.mono (unhide HC14).size))
    obtain ⟨oa, oc, hv, -⟩ := hO.at
    subst hv
    have HOo := hide (hO.mono (unhide HC14).size)
    have HSr := hide (srcT ((unhide HMo3).below' (unhide HC15)) (unhide HGN))
    clear hO hb HCl
    go_wp2_with (at_builtin; refine wpList_appendB rfl (.tmp 130) (.tmp 131) rfl W3.heap.size (.slice oa M.length oc) M rfl (unhide HOo) (.slice mo r.length mc) r rfl (unhide HSr) ?z6d ?z4d ?_)
    case z6d => omega
    try (case z4d => exact (unhide HC15).size)
    intro v16 W16 hO2 hG2 hF2 hF3
    have HC16 := hide ((unhide HC15).grown hG2 (unhide HC15).size (fun q e => (World.ownsRow.lt (unhide HOo) q e).1))
    obtain ⟨sa, sc, hv, hsa, hsc⟩ := own_capT hO2
    subst hv
    have HUn : Hid (Calls Try.prog 18 #[.slice sa (M ++ r).length sc] W16 fun e w' => ∃ a, e = .returned (.tuple #[.agg a, .int .i64 (opE (M ++ r) 112 4)]) ∧ Below W16.heap.size W16 w') := hide (by
      refine (Heard_any sa sc (M ++ r) W16 hsa hsc (by rw [List.length_append]; omega)).mono ?_
      rintro e w' ⟨v, rfl, _, hB⟩
      exact ⟨_, rfl, hB⟩)
    have g2 := unhide T3
    generalize opE (M ++ r) 112 4 = Ed at HUn g2
    obtain ⟨sl, hsl⟩ : ∃ sl, sl = (M ++ r).length := ⟨_, rfl⟩
    rw [← hsl] at HUn ⊢
    clear hO2 hG2 hF2 hF3 hsa hsc HOo HSr hsl
    go_wp2_with fail
    refine (unhide HUn).mono ?_
    rintro e W17 ⟨ud, rfl, hb⟩
    have HC17 := hide ((unhide HC16).trans (hb.mono (unhide HC16).size))
    clear hb HUn
    have g3 : (((r.length : Nat) : Int) == 0) = decide (r.length = 0) := by
      rw [Bool.eq_iff_iff, beq_iff_eq, decide_eq_true_iff]
      omega
    generalize decide (r.length = 0) = P2 at g1 g2 g3
    go_wp2
    go_ret
    first | exact ⟨rfl, (unhide HA).trans (((unhide HB3).trans ((unhide HC17).mono (unhide HB3).size)).mono (unhide HA).size)⟩ | exact ⟨ret_bool (by cases P2 <;> rfl), (unhide HA).trans (((unhide HB3).trans ((unhide HC17).mono (unhide HB3).size)).mono (unhide HA).size)⟩
  · go_enter Try.func7, Try.ntmps7
    go_upto_region 1 with fail
    generalize (w.alloc (.cells #[.int .i64 cm, .int .i64 nu, .slice ao l.length c] 24)) = W0 at HA HR HD HMo ⊢
    have HM := hide (may_no cm nu ao c l W0 hE)
    have k0 := (unhide HR).c 0 rfl
    have k1 := (unhide HR).c 1 rfl
    have k2 := (unhide HR).c 2 rfl
    go_wp2_with fail
    refine (unhide HM).mono ?_
    rintro e W1 ⟨rfl, hb1⟩
    have HB1 := hide ((unhide HA).trans (hb1.mono (unhide HA).size))
    have HW := hide (awake_any W1)
    clear hb1 k0 k1 k2 HM
    go_wp2_with fail
    refine (unhide HW).mono ?_
    rintro e W2 ⟨rfl, hb2⟩
    have HB2 := hide ((unhide HB1).trans (hb2.mono (unhide HB1).size))
    clear hb2 HW
    go_wp2
    go_ret
    exact ⟨rfl, unhide HB2⟩
end Go.Proofs.Ytghdefhbncejjaa
