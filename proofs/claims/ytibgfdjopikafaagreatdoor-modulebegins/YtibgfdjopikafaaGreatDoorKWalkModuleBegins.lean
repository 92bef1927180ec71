/-
  The walk of the law ModuleBegins: it returns true for every module, number and bytes, and writes nothing that was there.
-/
import Derived.Test.YtibgfdjopikafaaGreatDoorKLm1
import Derived.Test.YtibgfdjopikafaaGreatDoorShell
namespace Go.Proofs.YtibgfdjopikafaaGreatDoor
open Go.RowKit
set_option maxRecDepth 20000
set_option linter.unusedVariables false
set_option linter.unusedSimpArgs false

set_option maxRecDepth 20000 in
set_option maxHeartbeats 8000000 in
theorem walkModuleBegins {w : World} (hWE : WordsAt w ∧ ErrAt w) (m : Md) (hm : MdOk w m) (hn : ∀ x ∈ m.C, x.ca = none → x.cc = 0) (st : Int) (hst : (Lit.int .u64 st).wf = true) (mo : Option Addr) (mc : Nat) (r : List UInt8) (gd : BAt w mo r) (gn : mo = none → r = [] ∧ mc = 0) (gz : r.length ≤ 140737488351232) (gc : r.length ≤ mc) :
    Calls Tryz.prog 8 #[.agg #[.string m.nm, .slice m.ao m.T.length m.cap, .slice m.fo m.F.length m.fc, .slice m.co m.C.length m.cc], .int .u64 st, .slice mo r.length mc] w fun e w' => e = .returned (.bool true) ∧ Below w.heap.size w w' := by
  have al := (Below.refl w.heap.size w).alloc (Nat.le_refl _) (.cells #[.string m.nm, .slice m.ao m.T.length m.cap, .slice m.fo m.F.length m.fc, .slice m.co m.C.length m.cc] 26)
  have HB := hide al
  have HC : Hid (Bx (w.alloc (.cells #[.string m.nm, .slice m.ao m.T.length m.cap, .slice m.fo m.F.length m.fc, .slice m.co m.C.length m.cc] 26)) w.heap.size 26 #[.string m.nm, .slice m.ao m.T.length m.cap, .slice m.fo m.F.length m.fc, .slice m.co m.C.length m.cc]) := hide (heap_alloc_new w _)
  have H := hide (hm.below al)
  obtain ⟨hW, hE⟩ := hWE
  have HWD := hide (hW.below al)
  have HED := hide (hE.below al)
  have HN := hide hn
  have hu := u64_boundsM hst
  obtain ⟨A, rfl⟩ := Int.eq_ofNat_of_zero_le hu.1
  have HMo := hide (gd.below' al)
  have HGN := hide gn
  clear al hm hW hE hn hst gd gn
  go_enter Tryz.func8, Tryz.ntmps8
  go_upto_region 1 with fail
  generalize (w.alloc (.cells #[.string m.nm, .slice m.ao m.T.length m.cap, .slice m.fo m.F.length m.fc, .slice m.co m.C.length m.cc] 26)) = W1 at HB HC H HWD HED HMo ⊢
  have k0 := (unhide HC).c 0 rfl
  have k1 := (unhide HC).c 1 rfl
  have k2 := (unhide HC).c 2 rfl
  have k3 := (unhide HC).c 3 rfl
  have HCK := hide (file16_any m W1 (unhide H) (unhide HN) (unhide HWD) (unhide HED))
  go_wp2_with fail
  refine (unhide HCK).mono ?_
  rintro e W2 ⟨vb, L, is, ok, rfl, ho, hfr, hb⟩
  have HB2 := hide ((unhide HB).trans (hb.mono (unhide HB).size))
  have HC2 := hide ((unhide HC).below hb)
  have H2 := hide ((unhide H).below hb)
  have HWD2 := hide ((unhide HWD).below hb)
  have HED2 := hide ((unhide HED).below hb)
  have HMo2 := hide ((unhide HMo).below' hb)
  clear k0 k1 k2 k3
  rcases hfr with ⟨rfl, rfl⟩ | ⟨rfl, rfl, hL, hk, hl, h13⟩
  · clear HCK ho hb HB HC H HWD HED
    go_wp2
    go_ret
    exact ⟨rfl, unhide HB2⟩
  have HK := hide hk
  have HLL := hide hl
  have HLE := hide hL
  obtain ⟨ya, yc, hv, hya, hyc⟩ := own_capM ho
  subst hv
  obtain ⟨yb, yo, rfl, -⟩ := hya.head (by omega)
  have HYA := hide hya
  have HYC := hide hyc
  obtain ⟨K, hK⟩ : ∃ K, K = A % L.length := ⟨_, rfl⟩
  have hKl : K < L.length := by rw [hK]; exact Nat.mod_lt _ (by omega)
  have t1 : IntKind.u64.wrap ((L.length : Nat) : Int) = ((L.length : Nat) : Int) := by simp [IntKind.wrap, IntKind.bits, IntKind.signed]; omega
  have t2 : Int.tmod (A : Int) ((L.length : Nat) : Int) = (K : Int) := by rw [hK]; exact (Int.ofNat_tmod A L.length).symm
  have t3 : IntKind.i64.wrap (K : Int) = (K : Int) := wrap_M (by omega) (by omega)
  have t4 : ((L.length : Nat) : Int) ≠ 0 := by omega
  have t5 : (((L.length : Nat) : Int) == 0) = false := beq_f t4
  have iKc : (K : Int) ≤ ((yc : Nat) : Int) := by omega
  have iK : (K : Int) < ((L.length : Nat) : Int) := by omega
  have hLc : L.length ≤ 1048576 := hl
  have HUt : Hid (Calls Tryz.prog 15 #[.slice (some ⟨yb, yo, none⟩) K yc] W2 fun e w' => ∃ (u : Md) (a er : Int), e = .returned (.tuple #[.agg #[.string u.nm, .slice u.ao u.T.length u.cap, .slice u.fo u.F.length u.fc, .slice u.co u.C.length u.cc], .int .i64 a, .int .i64 er]) ∧ (er == 0) = false ∧ Below W2.heap.size W2 w') := hide (by
    have hl' : (L.take K).length = K := by rw [List.length_take]; omega
    have h := Decode16_any (some ⟨yb, yo, none⟩) yc (L.take K) W2 (frontM hya K) (by omega) (unhide HWD2) (unhide HED2)
    rw [hl'] at h
    refine h.mono ?_
    rintro e w' ⟨u, a, er, rfl, hd, _, hB⟩
    refine ⟨_, _, _, rfl, beq_f (fun h0 => ?_), hB⟩
    have := (hd.ok h0).1
    rw [unhide HLE] at this
    exact dec_take (ck_v (unhide H2) (ck_good (unhide HK)).1) (by rw [← unhide HLE]; exact hKl) _ this)
  clear HCK ho hb HB HC H HWD HED hk hl hL h13 hya hyc hK hu
  go_wp2_with fail
  refine (unhide HUt).mono ?_
  rintro e W4 ⟨u, a4, er4, rfl, hq1, hb⟩
  have al4 : Below W4.heap.size W4 (W4.alloc (.cells #[.string u.nm, .slice u.ao u.T.length u.cap, .slice u.fo u.F.length u.fc, .slice u.co u.C.length u.cc] 26)) := (Below.refl _ _).alloc (Nat.le_refl _) _
  have hb4 := hb.trans (al4.mono hb.size)
  have HC4 := hide hb4
  clear hb al4 hb4 HUt
  go_upto_region 6 with fail
  generalize (W4.alloc (.cells #[.string u.nm, .slice u.ao u.T.length u.cap, .slice u.fo u.F.length u.fc, .slice u.co u.C.length u.cc] 26)) = W5 at HC4 ⊢
  have HCl := hide (Clone_any (some ⟨yb, yo, none⟩) yc L W5 ((unhide HYA).below' (unhide HC4)) (fun e => by cases e) (by omega))
  clear t1 t2 t3 t5 iK iKc
  go_wp2_with fail
  refine (unhide HCl).mono ?_
  rintro e W6 ⟨v6, rfl, hO, hb, -⟩
  have HC6 := hide ((unhide HC4).trans (hb.mono (unhide HC4).size))
  obtain ⟨oa, oc, hv, -⟩ := hO.at
  subst hv
  have HOo := hide (hO.mono (unhide HC4).size)
  have HSr := hide (srcT ((unhide HMo2).below' (unhide HC6)) (unhide HGN))
  have HFS := hide (Nat.le_trans (unhide HB2).size (unhide HC6).size)
  clear hO hb HCl HC4
  go_wp2_with (at_builtin; refine wpList_appendBM rfl (.tmp 45) (.tmp 46) rfl W2.heap.size (.slice oa L.length oc) L rfl (unhide HOo) (.slice mo r.length mc) r rfl (unhide HSr) ?z6d ?z4d ?_)
  case z6d => omega
  try (case z4d => exact (unhide HC6).size)
  intro v7 W7 hO2 hG2
  have HC7 := hide ((unhide HC6).grown hG2 (unhide HC6).size (fun q e => (World.ownsRow.lt (unhide HOo) q e).1))
  have HE7 := hide ((unhide HED2).below (unhide HC7))
  have HW7 := hide ((unhide HWD2).below (unhide HC7))
  obtain ⟨sa, sc, hv, hsa, hsc⟩ := own_capM hO2
  subst hv
  have HUn : Hid (Calls Tryz.prog 15 #[.slice sa (L ++ r).length sc] W7 fun e w' => ∃ (u : Md) (a er : Int), e = .returned (.tuple #[.agg #[.string u.nm, .slice u.ao u.T.length u.cap, .slice u.fo u.F.length u.fc, .slice u.co u.C.length u.cc], .int .i64 a, .int .i64 er]) ∧ (er == 0) = decide (r.length = 0) ∧ Below W7.heap.size W7 w') := hide (by
    refine (Decode16_any sa sc (L ++ r) W7 hsa hsc (unhide HW7) (unhide HE7)).mono ?_
    rintro e w' ⟨u, a, er, rfl, hd, _, hB⟩
    refine ⟨_, _, _, rfl, ?_, hB⟩
    rw [Bool.eq_iff_iff, beq_iff_eq, decide_eq_true_iff]
    constructor
    · intro h0
      have := (hd.ok h0).1
      rw [unhide HLE] at this
      rw [dec_more (ck_v (unhide H2) (ck_good (unhide HK)).1) this]
      rfl
    · intro h0
      have hs : L ++ r = L := by rw [List.eq_nil_of_length_eq_zero h0, List.append_nil]
      rw [hs, unhide HLE] at hd
      exact (dec_file (unhide H2) (unhide HK) (by rw [← unhide HLE]; exact unhide HLL) hd).2.1)
  have HG3 : Hid ((((r.length : Nat) : Int) == 0) = decide (r.length = 0)) := hide (by
    rw [Bool.eq_iff_iff, beq_iff_eq, decide_eq_true_iff]
    omega)
  generalize decide (r.length = 0) = P2 at HUn HG3
  obtain ⟨sl, hsl⟩ : ∃ sl, sl = (L ++ r).length := ⟨_, rfl⟩
  rw [← hsl] at HUn ⊢
  clear hO2 hG2 hsa hsc HOo HSr hsl HE7 HW7 HFS HED2 HWD2
  go_wp2_with fail
  refine (unhide HUn).mono ?_
  rintro e W8 ⟨uc, a8, er8, rfl, hq2, hb⟩
  have HB8 := hide ((unhide HB2).trans (((unhide HC7).trans (hb.mono (unhide HC7).size)).mono (unhide HB2).size))
  have g3 := unhide HG3
  clear hb HUn
  go_wp2
  go_ret
  first | exact ⟨rfl, unhide HB8⟩ | exact ⟨ret_bool (by cases P2 <;> rfl), unhide HB8⟩
end Go.Proofs.YtibgfdjopikafaaGreatDoor
