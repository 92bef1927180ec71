/-
  The walk of the law ModuleEncodes: it returns true for every module, and writes nothing that was there.
-/
import Derived.Test.YtibgfdjopikafaaGreatDoorJMB
import Derived.Test.YtibgfdjopikafaaGreatDoorKWe9
import Derived.Test.YtibgfdjopikafaaGreatDoorShell
namespace Go.Proofs.YtibgfdjopikafaaGreatDoor
open Go.RowKit
set_option maxRecDepth 20000

theorem enc_one {x y : Md} (h : SameMd x y) {L M : List UInt8} {e d : Int} (h1 : EncR y L e) (h2 : EncR x M d) : e = d ∧ L = M := by
  unfold EncR at h1 h2
  rw [same_mc h] at h1
  rcases h1 with ⟨⟨n, a1⟩, a2, a3⟩ | ⟨a1, a2, a3, a4⟩ | ⟨a1, a2, a3, a4⟩
  · rcases h2 with ⟨⟨k, b1⟩, b2, b3⟩ | ⟨b1, b2, b3, b4⟩ | ⟨b1, b2, b3, b4⟩
    · exact ⟨(ck_one h a1 b1).2, by rw [a3, b3]⟩
    · exact absurd (ck_one h a1 b1).2 a2
    · exact absurd (ck_one h a1 b1).2 a2
  · rcases h2 with ⟨⟨k, b1⟩, b2, b3⟩ | ⟨b1, b2, b3, b4⟩ | ⟨b1, b2, b3, b4⟩
    · exact absurd (ck_one h a1 b1).2.symm b2
    · exact ⟨by rw [a3, b3], by rw [a4, b4]⟩
    · omega
  · rcases h2 with ⟨⟨k, b1⟩, b2, b3⟩ | ⟨b1, b2, b3, b4⟩ | ⟨b1, b2, b3, b4⟩
    · exact absurd (ck_one h a1 b1).2.symm b2
    · omega
    · exact ⟨by rw [a3, b3], by rw [a4, b4]⟩

theorem enc_len {x : Md} {L : List UInt8} {e : Int} (h : EncR x L e) : L.length ≤ 1048576 := by
  rcases h with ⟨_, _, rfl⟩ | ⟨_, _, _, rfl⟩ | ⟨_, h, _, rfl⟩
  · simp
  · simp
  · exact h
set_option maxRecDepth 20000 in
set_option maxHeartbeats 8000000 in
theorem walkModuleEncodes {w : World} (hWE : WordsAt w ∧ ErrAt w) (m : Md) (hm : MdOk w m) (hn : ∀ x ∈ m.C, x.ca = none → x.cc = 0) :
    Calls Tryz.prog 3 #[.agg #[.string m.nm, .slice m.ao m.T.length m.cap, .slice m.fo m.F.length m.fc, .slice m.co m.C.length m.cc]] w fun e w' => e = .returned (.bool true) ∧ Below w.heap.size w w' := by
  have al := (Below.refl w.heap.size w).alloc (Nat.le_refl _) (.cells #[.string m.nm, .slice m.ao m.T.length m.cap, .slice m.fo m.F.length m.fc, .slice m.co m.C.length m.cc] 26)
  have HB := hide al
  have HC : Hid (Bx (w.alloc (.cells #[.string m.nm, .slice m.ao m.T.length m.cap, .slice m.fo m.F.length m.fc, .slice m.co m.C.length m.cc] 26)) w.heap.size 26 #[.string m.nm, .slice m.ao m.T.length m.cap, .slice m.fo m.F.length m.fc, .slice m.co m.C.length m.cc]) := hide (heap_alloc_new w _)
  have H := hide (hm.below al)
  obtain ⟨hW, hE⟩ := hWE
  have HWD := hide (hW.below al)
  have HED := hide (hE.below al)
  have HN := hide hn
  clear al hm hW hE hn
  go_enter Tryz.func3, Tryz.ntmps3
  go_upto_region 1 with fail
  generalize (w.alloc (.cells #[.string m.nm, .slice m.ao m.T.length m.cap, .slice m.fo m.F.length m.fc, .slice m.co m.C.length m.cc] 26)) = W1 at HB HC H HWD HED ⊢
  have k0 := (unhide HC).c 0 rfl
  have k1 := (unhide HC).c 1 rfl
  have k2 := (unhide HC).c 2 rfl
  have k3 := (unhide HC).c 3 rfl
  have HMA := hide (Module_all m W1 (unhide H))
  go_wp2_with fail
  refine (unhide HMA).mono ?_
  rintro e W2 ⟨y, rfl, hmk, hsm, hcp, hco, hcn, hb⟩
  have al2 : Below W2.heap.size W2 (W2.alloc (.cells #[.string y.nm, .slice y.ao y.T.length y.cap, .slice y.fo y.F.length y.fc, .slice y.co y.C.length y.cc] 26)) := (Below.refl _ _).alloc (Nat.le_refl _) _
  have hb2 := hb.trans (al2.mono hb.size)
  have HB2 := hide ((unhide HB).trans (hb2.mono (unhide HB).size))
  have HC2 := hide ((unhide HC).below hb2)
  have H2 := hide ((unhide H).below hb2)
  have HWD2 := hide ((unhide HWD).below hb2)
  have HED2 := hide ((unhide HED).below hb2)
  have HY2 := hide (hmk.below al2)
  have HZ2 : Hid (Bx (W2.alloc (.cells #[.string y.nm, .slice y.ao y.T.length y.cap, .slice y.fo y.F.length y.fc, .slice y.co y.C.length y.cc] 26)) W2.heap.size 26 #[.string y.nm, .slice y.ao y.T.length y.cap, .slice y.fo y.F.length y.fc, .slice y.co y.C.length y.cc]) := hide (heap_alloc_new W2 _)
  have HSM := hide hsm
  have HCP := hide hcp
  have HCN := hide hcn
  clear k0 k1 k2 k3 HMA hmk hsm hcp hco hcn hb hb2 al2 HB HC H HWD HED
  go_upto_region 2 with fail
  generalize (W2.alloc (.cells #[.string y.nm, .slice y.ao y.T.length y.cap, .slice y.fo y.F.length y.fc, .slice y.co y.C.length y.cc] 26)) = W3 at HB2 HC2 H2 HWD2 HED2 HY2 HZ2 ⊢
  generalize W2.heap.size = g at HZ2 ⊢
  have k0 := (unhide HZ2).c 0 rfl
  have k1 := (unhide HZ2).c 1 rfl
  have k2 := (unhide HZ2).c 2 rfl
  have k3 := (unhide HZ2).c 3 rfl
  have HCK := hide (Encode16_any y W3 (unhide HY2) (unhide HCP).1 (unhide HCP).2 (unhide HWD2) (unhide HED2) (unhide HCN))
  go_wp2_with fail
  refine (unhide HCK).mono ?_
  rintro e W4 ⟨v1, L1, e1, rfl, ho1, h1, hb⟩
  have HR1 := hide h1
  have HO1 := hide ho1
  have HB3 := hide ((unhide HB2).trans (hb.mono (unhide HB2).size))
  have HC3 := hide ((unhide HC2).below hb)
  have H3 := hide ((unhide H2).below hb)
  have HY3 := hide ((unhide HY2).below hb)
  have HZ3 := hide ((unhide HZ2).below hb)
  clear k0 k1 k2 k3 HCK h1 ho1 hb HB2 HC2 H2 HY2 HZ2 HWD2 HED2
  have k0 := (unhide HC3).c 0 rfl
  have k1 := (unhide HC3).c 1 rfl
  have k2 := (unhide HC3).c 2 rfl
  have k3 := (unhide HC3).c 3 rfl
  have HCK := hide (refEncode_any m W4 (unhide H3) (unhide HN))
  go_wp2_with fail
  refine (unhide HCK).mono ?_
  rintro e W5 ⟨v2, L2, e2, rfl, ho2, h2, hb⟩
  obtain ⟨rfl, rfl⟩ := enc_one (unhide HSM) (unhide HR1) h2
  have HR2 := hide h2
  have HB4 := hide ((unhide HB3).trans (hb.mono (unhide HB3).size))
  have HC4 := hide ((unhide HC3).below hb)
  have H4 := hide ((unhide H3).below hb)
  have HY4 := hide ((unhide HY3).below hb)
  have HZ4 := hide ((unhide HZ3).below hb)
  have HO3 := hide ((unhide HO1).below hb)
  have HO4 := hide ho2
  obtain ⟨a1, c1, hv1, hb1⟩ := (unhide HO3).at
  obtain ⟨a2, c2, hv2, hb2⟩ := (unhide HO4).at
  subst hv1 hv2
  have HQ1 := hide hb1
  have HQ2 := hide hb2
  clear k0 k1 k2 k3 HCK h2 ho2 hb HB3 HC3 H3 HY3 HZ3 HR1 HO1 HO3 HO4 hb1 hb2
  have k0 := (unhide HC4).c 0 rfl
  have k1 := (unhide HC4).c 1 rfl
  have k2 := (unhide HC4).c 2 rfl
  have k3 := (unhide HC4).c 3 rfl
  have m0 := (unhide HZ4).c 0 rfl
  have m1 := (unhide HZ4).c 1 rfl
  have m2 := (unhide HZ4).c 2 rfl
  have m3 := (unhide HZ4).c 3 rfl
  have t2 : (e1 == e1) = true := by simp
  have t3 : (L1 == L1) = true := by simp
  have hl := enc_len (unhide HR2)
  have HEQ := hide (Equal_any a1 a2 c1 c2 L1 L1 W5 (unhide HQ1) (unhide HQ2) (by unfold maxLen; omega) (by unfold maxLen; omega))
  rw [t3] at HEQ
  clear hl HQ1 HQ2 t3 HR2
  go_wp2_with fail
  refine (unhide HEQ).mono ?_
  rintro e W6 ⟨rfl, q, rfl⟩
  have hd : Below W5.heap.size W5 (W5.drewN q) := below_drew _ _
  have HB5 := hide ((unhide HB4).trans (hd.mono (unhide HB4).size))
  have HC5 := hide ((unhide HC4).below hd)
  have H5 := hide ((unhide H4).below hd)
  have HY5 := hide ((unhide HY4).below hd)
  have HZ5 := hide ((unhide HZ4).below hd)
  clear hd HB4 HC4 H4 HY4 HZ4 HEQ k0 k1 k2 k3 m0 m1 m2 m3
  generalize W5.drewN q = W7 at HB5 HC5 H5 HY5 HZ5 ⊢
  have k0 := (unhide HC5).c 0 rfl
  have k1 := (unhide HC5).c 1 rfl
  have k2 := (unhide HC5).c 2 rfl
  have k3 := (unhide HC5).c 3 rfl
  have m0 := (unhide HZ5).c 0 rfl
  have m1 := (unhide HZ5).c 1 rfl
  have m2 := (unhide HZ5).c 2 rfl
  have m3 := (unhide HZ5).c 3 rfl
  have HS := hide (SameModule_any y m W7 (unhide HY5) (unhide H5))
  rw [mdEq_back (unhide HSM)] at HS
  go_wp2_with fail
  refine (unhide HS).mono ?_
  rintro e W8 ⟨rfl, hb⟩
  have HB6 := hide ((unhide HB5).trans (hb.mono (unhide HB5).size))
  clear hb
  go_wp2
  go_ret
  exact ⟨rfl, unhide HB6⟩
end Go.Proofs.YtibgfdjopikafaaGreatDoor
