/-
  The walk of the law ModuleChecks: it returns true for every module, and writes nothing that was there.
-/
import Derived.Test.YtfodkpnnanbaoaaDoorKMd3
import Derived.Test.YtfodkpnnanbaoaaDoorKMd8
import Derived.Test.YtfodkpnnanbaoaaDoorKMdS
import Derived.Test.YtfodkpnnanbaoaaDoorShell
namespace Go.Proofs.YtfodkpnnanbaoaaDoor
open Go.RowKit
set_option maxRecDepth 20000

theorem SameMd.K {x y : Md} (h : SameMd x y) : y.F.map fnK = x.F.map fnK := by
  apply List.ext_getElem?
  intro i
  simp only [List.getElem?_map]
  by_cases hi : i < x.F.length
  · have hx := List.getElem?_eq_getElem hi
    have hy := List.getElem?_eq_getElem (show i < y.F.length by rw [h.fns.1]; exact hi)
    have := h.fns.2 i _ _ hx hy
    rw [hx, hy, Option.map_some, Option.map_some]
    unfold fnK
    rw [this.nm, this.sg.ps, this.sg.rt, this.lo, this.cd]
  · have hl := h.fns.1
    rw [List.getElem?_eq_none (by omega), List.getElem?_eq_none (by omega)]
theorem ck_one {x y : Md} (h : SameMd x y) {n k : Nat} {e d : Int} (h1 : CkR y n e) (h2 : CkR x k d) : n = k ∧ e = d := by
  unfold CkR at h1 h2
  rw [h.nm] at h1
  rcases h1 with ⟨a1, a2, a3⟩ | ⟨a1, a2⟩ | ⟨a1, a2, a3⟩
  · rcases h2 with ⟨b1, b2, b3⟩ | ⟨b1, b2⟩ | ⟨b1, b2, b3⟩
    · exact ⟨by omega, by omega⟩
    · rw [a1] at b1; cases b1
    · rw [a1] at b1; cases b1
  · rcases h2 with ⟨b1, b2, b3⟩ | ⟨b1, b2⟩ | ⟨b1, b2, b3⟩
    · rw [a1] at b1; cases b1
    · exact first_one h.tab (.inr a2) (.inr b2)
    · have := (first_one h.tab (.inr a2) (.inl ⟨rfl, rfl, b2⟩)).2
      exact absurd this a2.one.2.1
  · rcases h2 with ⟨b1, b2, b3⟩ | ⟨b1, b2⟩ | ⟨b1, b2, b3⟩
    · rw [a1] at b1; cases b1
    · have := (first_one h.tab (.inl ⟨rfl, rfl, a2⟩) (.inr b2)).2
      exact absurd this.symm b2.one.2.1
    · rw [h.tab.1, h.K, h.C, ← b3] at a3
      injection a3 with e1 e2
      exact ⟨e1, e2⟩

set_option maxRecDepth 20000 in
set_option maxHeartbeats 8000000 in
theorem walkModuleChecks {w : World} (hW : WordsAt w) (m : Md) (hm : MdOk w m) :
    Calls Tryd.prog 3 #[.agg #[.string m.nm, .slice m.ao m.T.length m.cap, .slice m.fo m.F.length m.fc, .slice m.co m.C.length m.cc]] w fun e w' => e = .returned (.bool true) ∧ Below w.heap.size w w' := by
  have al := (Below.refl w.heap.size w).alloc (Nat.le_refl _) (.cells #[.string m.nm, .slice m.ao m.T.length m.cap, .slice m.fo m.F.length m.fc, .slice m.co m.C.length m.cc] 26)
  have HB := hide al
  have HC : Hid (Bx (w.alloc (.cells #[.string m.nm, .slice m.ao m.T.length m.cap, .slice m.fo m.F.length m.fc, .slice m.co m.C.length m.cc] 26)) w.heap.size 26 #[.string m.nm, .slice m.ao m.T.length m.cap, .slice m.fo m.F.length m.fc, .slice m.co m.C.length m.cc]) := hide (heap_alloc_new w _)
  have H := hide (hm.below al)
  have HWD := hide (hW.below al)
  clear al hm hW
  go_enter Tryd.func3, Tryd.ntmps3
  go_upto_region 1 with fail
  generalize (w.alloc (.cells #[.string m.nm, .slice m.ao m.T.length m.cap, .slice m.fo m.F.length m.fc, .slice m.co m.C.length m.cc] 26)) = W1 at HB HC H HWD ⊢
  have k0 := (unhide HC).c 0 rfl
  have k1 := (unhide HC).c 1 rfl
  have k2 := (unhide HC).c 2 rfl
  have k3 := (unhide HC).c 3 rfl
  have HMA := hide (Module_any m W1 (unhide H))
  go_wp2_with fail
  refine (unhide HMA).mono ?_
  rintro e W2 ⟨y, rfl, hmk, hsm, hcp, hco, hb⟩
  have al2 : Below W2.heap.size W2 (W2.alloc (.cells #[.string y.nm, .slice y.ao y.T.length y.cap, .slice y.fo y.F.length y.fc, .slice y.co y.C.length y.cc] 26)) := (Below.refl _ _).alloc (Nat.le_refl _) _
  have hb2 := hb.trans (al2.mono hb.size)
  have HB2 := hide ((unhide HB).trans (hb2.mono (unhide HB).size))
  have HC2 := hide ((unhide HC).below hb2)
  have H2 := hide ((unhide H).below hb2)
  have HWD2 := hide ((unhide HWD).below hb2)
  have HY2 := hide (hmk.below al2)
  have HZ2 : Hid (Bx (W2.alloc (.cells #[.string y.nm, .slice y.ao y.T.length y.cap, .slice y.fo y.F.length y.fc, .slice y.co y.C.length y.cc] 26)) W2.heap.size 26 #[.string y.nm, .slice y.ao y.T.length y.cap, .slice y.fo y.F.length y.fc, .slice y.co y.C.length y.cc]) := hide (heap_alloc_new W2 _)
  have HSM := hide hsm
  have HCP := hide hcp
  clear k0 k1 k2 k3 HMA hmk hsm hcp hco hb hb2 al2 HB HC H HWD
  go_upto_region 2 with fail
  generalize (W2.alloc (.cells #[.string y.nm, .slice y.ao y.T.length y.cap, .slice y.fo y.F.length y.fc, .slice y.co y.C.length y.cc] 26)) = W3 at HB2 HC2 H2 HWD2 HY2 HZ2 ⊢
  generalize W2.heap.size = g at HZ2 ⊢
  have k0 := (unhide HZ2).c 0 rfl
  have k1 := (unhide HZ2).c 1 rfl
  have k2 := (unhide HZ2).c 2 rfl
  have k3 := (unhide HZ2).c 3 rfl
  have HCK := hide (Check16_any y W3 (unhide HY2) (unhide HCP).1 (unhide HCP).2 (unhide HWD2))
  go_wp2_with fail
  refine (unhide HCK).mono ?_
  rintro e W4 ⟨⟨n1, e1, rfl, h1⟩, hb⟩
  have HR1 := hide h1
  have HB3 := hide ((unhide HB2).trans (hb.mono (unhide HB2).size))
  have HC3 := hide ((unhide HC2).below hb)
  have H3 := hide ((unhide H2).below hb)
  have HY3 := hide ((unhide HY2).below hb)
  have HZ3 := hide ((unhide HZ2).below hb)
  clear k0 k1 k2 k3 HCK h1 hb HB2 HC2 H2 HY2 HZ2 HWD2
  have k0 := (unhide HC3).c 0 rfl
  have k1 := (unhide HC3).c 1 rfl
  have k2 := (unhide HC3).c 2 rfl
  have k3 := (unhide HC3).c 3 rfl
  have HCK := hide (refCheck16_any m W4 (unhide H3))
  go_wp2_with fail
  refine (unhide HCK).mono ?_
  rintro e W5 ⟨⟨n2, e2, rfl, h2⟩, hb⟩
  obtain ⟨rfl, rfl⟩ := ck_one (unhide HSM) (unhide HR1) h2
  have HB4 := hide ((unhide HB3).trans (hb.mono (unhide HB3).size))
  have HC4 := hide ((unhide HC3).below hb)
  have H4 := hide ((unhide H3).below hb)
  have HY4 := hide ((unhide HY3).below hb)
  have HZ4 := hide ((unhide HZ3).below hb)
  clear k0 k1 k2 k3 HCK h2 hb HB3 HC3 H3 HY3 HZ3 HR1
  have k0 := (unhide HC4).c 0 rfl
  have k1 := (unhide HC4).c 1 rfl
  have k2 := (unhide HC4).c 2 rfl
  have k3 := (unhide HC4).c 3 rfl
  have m0 := (unhide HZ4).c 0 rfl
  have m1 := (unhide HZ4).c 1 rfl
  have m2 := (unhide HZ4).c 2 rfl
  have m3 := (unhide HZ4).c 3 rfl
  have t1 : (((n1 : Nat) : Int) == ((n1 : Nat) : Int)) = true := by simp
  have t2 : (e1 == e1) = true := by simp
  have HS := hide (SameModule_any y m W5 (unhide HY4) (unhide H4))
  rw [mdEq_back (unhide HSM)] at HS
  go_wp2_with fail
  refine (unhide HS).mono ?_
  rintro e W6 ⟨rfl, hb⟩
  have HB5 := hide ((unhide HB4).trans (hb.mono (unhide HB4).size))
  clear hb
  go_wp2
  go_ret
  exact ⟨rfl, unhide HB5⟩
end Go.Proofs.YtfodkpnnanbaoaaDoor
