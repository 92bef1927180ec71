/-
  The walk of the law ModuleBack: it returns true for every module, and writes nothing that was there.
-/
import Derived.Test.YtibgfdjopikafaaGreatDoorKLm1
import Derived.Test.YtibgfdjopikafaaGreatDoorShell
namespace Go.Proofs.YtibgfdjopikafaaGreatDoor
open Go.RowKit
set_option maxRecDepth 20000
set_option linter.unusedVariables false
set_option linter.unusedSimpArgs false

set_option maxRecDepth 20000 in
set_option maxHeartbeats 8000000 in
theorem walkModuleBack {w : World} (hWE : WordsAt w ∧ ErrAt w) (m : Md) (hm : MdOk w m) (hn : ∀ x ∈ m.C, x.ca = none → x.cc = 0) :
    Calls Tryz.prog 5 #[.agg #[.string m.nm, .slice m.ao m.T.length m.cap, .slice m.fo m.F.length m.fc, .slice m.co m.C.length m.cc]] w fun e w' => e = .returned (.bool true) ∧ Below w.heap.size w w' := by
  have al := (Below.refl w.heap.size w).alloc (Nat.le_refl _) (.cells #[.string m.nm, .slice m.ao m.T.length m.cap, .slice m.fo m.F.length m.fc, .slice m.co m.C.length m.cc] 26)
  have HB := hide al
  have HC : Hid (Bx (w.alloc (.cells #[.string m.nm, .slice m.ao m.T.length m.cap, .slice m.fo m.F.length m.fc, .slice m.co m.C.length m.cc] 26)) w.heap.size 26 #[.string m.nm, .slice m.ao m.T.length m.cap, .slice m.fo m.F.length m.fc, .slice m.co m.C.length m.cc]) := hide (heap_alloc_new w _)
  have H := hide (hm.below al)
  obtain ⟨hW, hE⟩ := hWE
  have HWD := hide (hW.below al)
  have HED := hide (hE.below al)
  have HN := hide hn
  clear al hm hW hE hn
  go_enter Tryz.func5, Tryz.ntmps5
  go_upto_region 1 with fail
  generalize (w.alloc (.cells #[.string m.nm, .slice m.ao m.T.length m.cap, .slice m.fo m.F.length m.fc, .slice m.co m.C.length m.cc] 26)) = W1 at HB HC H HWD HED ⊢
  have k0 := (unhide HC).c 0 rfl
  have k1 := (unhide HC).c 1 rfl
  have k2 := (unhide HC).c 2 rfl
  have k3 := (unhide HC).c 3 rfl
  have HCK := hide (file16_any m W1 (unhide H) (unhide HN) (unhide HWD) (unhide HED))
  go_wp2_with fail
  refine (unhide HCK).mono ?_
  rintro e W2 ⟨vb, L, is, ok, rfl, ho, hfr, hb⟩
  have HB2 := hide ((unhide HB).trans (hb.mono (unhide HB).size))
  have HC2 := hide ((unhide HC).below hb)
  have H2 := hide ((unhide H).below hb)
  have HWD2 := hide ((unhide HWD).below hb)
  have HED2 := hide ((unhide HED).below hb)
  clear k0 k1 k2 k3
  rcases hfr with ⟨rfl, rfl⟩ | ⟨rfl, rfl, hL, hk, hl, h13⟩
  · clear HCK ho hb HB HC H HWD HED
    go_wp2
    go_ret
    exact ⟨rfl, unhide HB2⟩
  have HOL := hide ho
  have HK := hide hk
  have HLL := hide hl
  have HLE := hide hL
  obtain ⟨sa, sc, hv, hsa, hsc⟩ := own_capM ho
  subst hv
  have HDC := hide (Decode16_any sa sc L W2 hsa hsc (unhide HWD2) (unhide HED2))
  clear HCK ho hb HB HC H HWD HED hk hl hL h13 hsa hsc
  go_wp2_with fail
  refine (unhide HDC).mono ?_
  rintro e W3 ⟨y, at_, er, rfl, hdr, hmr, hb⟩
  rw [unhide HLE] at hdr
  obtain ⟨rfl, rfl, hsm⟩ := dec_file (unhide H2) (unhide HK) (by rw [← unhide HLE]; exact unhide HLL) hdr
  have al3 : Below W3.heap.size W3 (W3.alloc (.cells #[.string y.nm, .slice y.ao y.T.length y.cap, .slice y.fo y.F.length y.fc, .slice y.co y.C.length y.cc] 26)) := (Below.refl _ _).alloc (Nat.le_refl _) _
  have HSM := hide hsm
  have hb3 := hb.trans (al3.mono hb.size)
  have HB3 := hide ((unhide HB2).trans (hb3.mono (unhide HB2).size))
  have HC3 := hide ((unhide HC2).below hb3)
  have H3 := hide ((unhide H2).below hb3)
  have HY3 := hide (hmr.below al3)
  have HZ3 : Hid (Bx (W3.alloc (.cells #[.string y.nm, .slice y.ao y.T.length y.cap, .slice y.fo y.F.length y.fc, .slice y.co y.C.length y.cc] 26)) W3.heap.size 26 #[.string y.nm, .slice y.ao y.T.length y.cap, .slice y.fo y.F.length y.fc, .slice y.co y.C.length y.cc]) := hide (heap_alloc_new W3 _)
  clear HDC hdr hmr hb hsm al3 hb3 HB2 HC2 H2 HWD2 HED2 HOL HLL HLE HK
  go_upto_region 5 with fail
  generalize (W3.alloc (.cells #[.string y.nm, .slice y.ao y.T.length y.cap, .slice y.fo y.F.length y.fc, .slice y.co y.C.length y.cc] 26)) = W4 at HB3 HC3 H3 HY3 HZ3 ⊢
  generalize W3.heap.size = g at HZ3 ⊢
  have k0 := (unhide HC3).c 0 rfl
  have k1 := (unhide HC3).c 1 rfl
  have k2 := (unhide HC3).c 2 rfl
  have k3 := (unhide HC3).c 3 rfl
  have m0 := (unhide HZ3).c 0 rfl
  have m1 := (unhide HZ3).c 1 rfl
  have m2 := (unhide HZ3).c 2 rfl
  have m3 := (unhide HZ3).c 3 rfl
  have HS := hide (SameModule_any y m W4 (unhide HY3).ok (unhide H3))
  rw [mdEq_back (unhide HSM)] at HS
  go_wp2_with fail
  refine (unhide HS).mono ?_
  rintro e W5 ⟨rfl, hb⟩
  have HB5 := hide ((unhide HB3).trans (hb.mono (unhide HB3).size))
  clear hb
  go_wp2
  go_ret
  exact ⟨rfl, unhide HB5⟩
end Go.Proofs.YtibgfdjopikafaaGreatDoor
