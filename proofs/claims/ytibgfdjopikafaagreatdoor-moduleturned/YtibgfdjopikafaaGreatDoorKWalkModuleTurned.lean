/-
  The walk of the law ModuleTurned: it returns true for every module, number and byte, and writes nothing that was there.
-/
import Derived.Test.YtibgfdjopikafaaGreatDoorKLm1
import Derived.Test.YtibgfdjopikafaaGreatDoorShell
namespace Go.Proofs.YtibgfdjopikafaaGreatDoor
open Go.RowKit
set_option maxRecDepth 20000
set_option linter.unusedVariables false
set_option linter.unusedSimpArgs false

set_option maxRecDepth 20000 in
set_option maxHeartbeats 8000000 in
theorem walkModuleTurned {w : World} (hWE : WordsAt w ∧ ErrAt w) (m : Md) (hm : MdOk w m) (hn : ∀ x ∈ m.C, x.ca = none → x.cc = 0) (st : Int) (hst : (Lit.int .u64 st).wf = true) (xn : Nat) (hxn : xn < 256) :
    Calls Tryz.prog 7 #[.agg #[.string m.nm, .slice m.ao m.T.length m.cap, .slice m.fo m.F.length m.fc, .slice m.co m.C.length m.cc], .int .u64 st, .int .u8 (xn : Int)] w fun e w' => e = .returned (.bool true) ∧ Below w.heap.size w w' := by
  have al := (Below.refl w.heap.size w).alloc (Nat.le_refl _) (.cells #[.string m.nm, .slice m.ao m.T.length m.cap, .slice m.fo m.F.length m.fc, .slice m.co m.C.length m.cc] 26)
  have HB := hide al
  have HC : Hid (Bx (w.alloc (.cells #[.string m.nm, .slice m.ao m.T.length m.cap, .slice m.fo m.F.length m.fc, .slice m.co m.C.length m.cc] 26)) w.heap.size 26 #[.string m.nm, .slice m.ao m.T.length m.cap, .slice m.fo m.F.length m.fc, .slice m.co m.C.length m.cc]) := hide (heap_alloc_new w _)
  have H := hide (hm.below al)
  obtain ⟨hW, hE⟩ := hWE
  have HWD := hide (hW.below al)
  have HED := hide (hE.below al)
  have HN := hide hn
  have hu := u64_boundsM hst
  obtain ⟨A, rfl⟩ := Int.eq_ofNat_of_zero_le hu.1
  obtain ⟨x, hx⟩ : ∃ x : UInt8, x.toNat = xn := ⟨UInt8.ofNat xn, UInt8.toNat_ofNat_of_lt' hxn⟩
  have HXN := hide hx
  clear al hm hW hE hn hx hst
  go_enter Tryz.func7, Tryz.ntmps7
  go_upto_region 1 with fail
  generalize (w.alloc (.cells #[.string m.nm, .slice m.ao m.T.length m.cap, .slice m.fo m.F.length m.fc, .slice m.co m.C.length m.cc] 26)) = W1 at HB HC H HWD HED ⊢
  have k0 := (unhide HC).c 0 rfl
  have k1 := (unhide HC).c 1 rfl
  have k2 := (unhide HC).c 2 rfl
  have k3 := (unhide HC).c 3 rfl
  have HCK := hide (file16_any m W1 (unhide H) (unhide HN) (unhide HWD) (unhide HED))
  go_wp2_with fail
  refine (unhide HCK).mono ?_
  rintro e W2 ⟨vb, L, is, ok, rfl, ho, hfr, hb⟩
  have HB2 := hide ((unhide HB).trans (hb.mono (unhide HB).size))
  have HC2 := hide ((unhide HC).below hb)
  have H2 := hide ((unhide H).below hb)
  have HWD2 := hide ((unhide HWD).below hb)
  have HED2 := hide ((unhide HED).below hb)
  clear k0 k1 k2 k3
  rcases hfr with ⟨rfl, rfl⟩ | ⟨rfl, rfl, hL, hk, hl, h13⟩
  · clear HCK ho hb HB HC H HWD HED
    go_wp2
    go_ret
    exact ⟨rfl, unhide HB2⟩
  have HK := hide hk
  have HLL := hide hl
  have HLE := hide hL
  obtain ⟨ya, yc, hv, hya, hyc⟩ := own_capM ho
  subst hv
  obtain ⟨yb, yo, rfl, -⟩ := hya.head (by omega)
  have HYA := hide hya
  have HYC := hide hyc
  obtain ⟨K, hK⟩ : ∃ K, K = A % L.length := ⟨_, rfl⟩
  have hKl : K < L.length := by rw [hK]; exact Nat.mod_lt _ (by omega)
  have t1 : IntKind.u64.wrap ((L.length : Nat) : Int) = ((L.length : Nat) : Int) := by simp [IntKind.wrap, IntKind.bits, IntKind.signed]; omega
  have t2 : Int.tmod (A : Int) ((L.length : Nat) : Int) = (K : Int) := by rw [hK]; exact (Int.ofNat_tmod A L.length).symm
  have t3 : IntKind.i64.wrap (K : Int) = (K : Int) := wrap_M (by omega) (by omega)
  have t4 : ((L.length : Nat) : Int) ≠ 0 := by omega
  have t5 : (((L.length : Nat) : Int) == 0) = false := beq_f t4
  have iK : (K : Int) < ((L.length : Nat) : Int) := by omega
  have hLc : L.length ≤ 1048576 := hl
  have HCl := hide (Clone_any (some ⟨yb, yo, none⟩) yc L W2 hya (fun e => by cases e) (by omega))
  clear HCK ho hb HB HC H HWD HED hk hl hL h13 hya hyc hK hu
  go_wp2_with fail
  refine (unhide HCl).mono ?_
  rintro e W4 ⟨v4, rfl, hO, hb, -⟩
  have HC4 := hide hb
  obtain ⟨oga, oca, hv, hg1, hg2, hg3, hg4, hg5⟩ : ∃ g cap, v4 = .slice (some ⟨g, 0, none⟩) L.length cap ∧ W2.heap.size ≤ g ∧ g < W4.heap.size ∧ L.length ≤ cap ∧ True ∧ True := by
    rcases hO.shape with ⟨_, h2⟩ | ⟨g, cap, h3, h4, h5, h6, _, _⟩
    · rw [h2] at hKl; simp at hKl
    · exact ⟨g, cap, h3, h4, h5, h6, trivial, trivial⟩
  subst hv
  have hO' : W4.ownsRow W2.heap.size 5 1 (.slice (some ⟨oga, 0, none⟩) L.length oca) L.length (bvals L) := hO
  have c1 : W4.cell? ⟨oga, K, none⟩ = some (.int .u8 (at8 L K)) := (hO'.cellAt K (by omega)).trans (bvals_get (by omega))
  have f1 := hO'.frozenAt K
  have hst := (hO'.stored K (.int .u8 (x.toNat : Int))).1
  rw [bvals_setM] at hst
  have HOs : Hid (OwnB (W4.setCell ⟨oga, K, none⟩ (.int .u8 (x.toNat : Int))) W2.heap.size (.slice (some ⟨oga, 0, none⟩) L.length oca) (L.set K x)) := hide (by unfold OwnB; rw [List.length_set]; exact hst)
  have HC5 := hide ((unhide HC4).setCell (p := ⟨oga, K, none⟩) (by show W2.heap.size ≤ oga; omega) (.int .u8 (x.toNat : Int)))
  rw [unhide HXN] at HOs HC5
  have HE5 := hide ((unhide HED2).below (unhide HC5))
  have HW5 := hide ((unhide HWD2).below (unhide HC5))
  generalize at8 L K = z1 at c1
  clear hst hO' hO hb HCl hg1 hg2 hg4 hg5 HWD2 HED2 HC2
  go_upto_region 7 with fail
  generalize (W4.setCell ⟨oga, K, none⟩ (.int .u8 (xn : Int))) = W5 at HOs HC5 HE5 HW5 ⊢
  obtain ⟨sa, sc, es, hsa, hsc⟩ := own_capM (unhide HOs)
  injection es with es1 es2 es3
  subst es1 es3
  have HUn : Hid (Calls Tryz.prog 15 #[.slice (some ⟨oga, 0, none⟩) L.length oca] W5 fun e w' => ∃ (u : Md) (a er : Int), e = .returned (.tuple #[.agg #[.string u.nm, .slice u.ao u.T.length u.cap, .slice u.fo u.F.length u.fc, .slice u.co u.C.length u.cc], .int .i64 a, .int .i64 er]) ∧ (er == 0) = decide (x = L.getD K 0) ∧ Below W5.heap.size W5 w') := hide (by
    have h := Decode16_any (some ⟨oga, 0, none⟩) oca (L.set K x) W5 hsa hsc (unhide HW5) (unhide HE5)
    rw [List.length_set] at h
    refine h.mono ?_
    rintro e w' ⟨u, a, er, rfl, hd, _, hB⟩
    refine ⟨_, _, _, rfl, ?_, hB⟩
    rw [Bool.eq_iff_iff, beq_iff_eq, decide_eq_true_iff]
    constructor
    · intro h0
      have := (hd.ok h0).1
      rw [unhide HLE] at this ⊢
      exact dec_set (by rw [← unhide HLE]; exact hKl) this
    · intro h0
      have hs : L.set K x = L := by
        rw [h0, List.getD_eq_getElem?_getD, List.getElem?_eq_getElem hKl, Option.getD_some]
        exact List.set_getElem_self hKl
      rw [hs, unhide HLE] at hd
      exact (dec_file (unhide H2) (unhide HK) (by rw [← unhide HLE]; exact unhide HLL) hd).2.1)
  have HQ2 : Hid (((xn : Int) == at8 L K) = decide (x = L.getD K 0)) := hide (by
    rw [Bool.eq_iff_iff, beq_iff_eq, decide_eq_true_iff, ← unhide HXN]
    unfold at8
    constructor
    · intro h; exact UInt8.toNat_inj.1 (by omega)
    · intro h; rw [h])
  generalize decide (x = L.getD K 0) = P1 at HUn HQ2
  clear hsa hsc es2 c1 f1 HOs HE5 HW5
  go_wp2_with fail
  refine (unhide HUn).mono ?_
  rintro e W6 ⟨u, a6, er6, rfl, hq1, hb⟩
  have al6 : Below W6.heap.size W6 (W6.alloc (.cells #[.string u.nm, .slice u.ao u.T.length u.cap, .slice u.fo u.F.length u.fc, .slice u.co u.C.length u.cc] 26)) := (Below.refl _ _).alloc (Nat.le_refl _) _
  have hb6 := hb.trans (al6.mono hb.size)
  have HC6 := hide ((unhide HC5).trans (hb6.mono (unhide HC5).size))
  have HQ1 := hide hq1
  clear hb al6 hb6 hq1 HUn
  go_upto_region 8 with fail
  generalize (W6.alloc (.cells #[.string u.nm, .slice u.ao u.T.length u.cap, .slice u.fo u.F.length u.fc, .slice u.co u.C.length u.cc] 26)) = W7 at HC6 ⊢
  obtain ⟨b', off', eb, hcc⟩ := ((unhide HYA).below' (unhide HC6)).head (by omega)
  injection eb with eb
  injection eb with eb1 eb2
  subst eb1 eb2
  have c2 := hcc K hKl
  have hq2 := unhide HQ2
  have hq1 := unhide HQ1
  generalize at8 L K = z2 at c2 hq2
  clear hcc
  have HB7 := hide ((unhide HB2).trans ((unhide HC6).mono (unhide HB2).size))
  go_wp2
  go_ret
  first | exact ⟨rfl, unhide HB7⟩ | exact ⟨ret_bool (by cases P1 <;> rfl), unhide HB7⟩
end Go.Proofs.YtibgfdjopikafaaGreatDoor
