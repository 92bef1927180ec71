/-
  module.Encode: a module's file, or why it has none. Conditions: the table of words and errors.errorType are laid; the module's rows fit.
-/
import Derived.Test.YtibgfdjopikafaaGreatDoorJWA
import Derived.Test.YtibgfdjopikafaaGreatDoorFt3
namespace Go.Proofs.YtibgfdjopikafaaGreatDoor
open Go.RowKit
set_option maxRecDepth 20000
set_option linter.unusedVariables false

theorem ent_enc1 : EntersF 25 := fun args W => by kernel_rfl
theorem IsWriter.setBox {W : World} {p : Nat} {v : Value} {l : List UInt8} (hi : IsWriter W p v l) {g : Nat} {t : TypeId} {cs : Array Value} (hx : Bx W g t cs) (h1 : t ≠ 89) (h2 : t ≠ 5) (i : Nat) (u : Value) : IsWriter (W.setCell ⟨g, i, none⟩ u) p v l := by
  refine hi.keep (kept_setCell W ⟨g, i, none⟩ u) (fun k e (e2 : k = g) => ?_)
  subst e2
  rcases e with rfl | e
  · have h3 := hi.row
    unfold Bx at hx
    rw [hx] at h3
    injection h3 with h3
    injection h3 with _ h3
    exact h1 h3
  · rcases hi.own.2 with ⟨rfl, _⟩ | ⟨g', cap, cur, rfl, _, hh, _⟩
    · cases e
    · have e' : g' = k := by injection e
      subst e'
      unfold Bx at hx
      rw [hx] at hh
      injection hh with hh
      injection hh with _ hh
      exact h2 hh
theorem flt_ne (a er : Int) (W : World) : (binOp BinOp.neq 61 (fltV a er) .nilIface).run Tryz.prog W = .ok (.bool true) W := by kernel_rfl
theorem ckG_mdW {W : World} {m : Md} (hm : MdOk W m) (h : CkG m) (hn : ∀ x ∈ m.C, x.ca = none → x.cc = 0) : MdW W m :=
  ⟨hm, ck_v hm h, fun f hf => by
    obtain ⟨i, hi, rfl⟩ := List.mem_iff_getElem.1 hf
    exact (fnE_zero (h.fns i _ (List.getElem?_eq_getElem hi))).2.2.2.2.1, hn⟩
theorem file_eq {m : Md} (hv : McV (mcOf m)) : tsum (magB ++ mdW m) = fileB (mcOf m) := by rw [mdW_eq hv]; rfl
/-- What Encode answers: the bytes and the error. -/
def EncR (m : Md) (L : List UInt8) (er : Int) : Prop :=
  ((∃ n, CkR m n er) ∧ er ≠ 0 ∧ L = []) ∨ (CkR m 0 0 ∧ 1048576 < (fileB (mcOf m)).length ∧ er = 4 ∧ L = []) ∨ (CkR m 0 0 ∧ (fileB (mcOf m)).length ≤ 1048576 ∧ er = 0 ∧ L = fileB (mcOf m))
set_option maxHeartbeats 4000000 in
theorem enc1_any {w0 w : World} {p : Nat} {v : Value} (h : WS w0.heap.size w0 w p v []) (m : Md) (hm : MdW w0 m) (gw gm : Nat) (hw : Bx w gw 59 #[.pointer (some ⟨p, 0, none⟩)]) (hx : Bx w gm 26 #[.string m.nm, .slice m.ao m.T.length m.cap, .slice m.fo m.F.length m.fc, .slice m.co m.C.length m.cc]) :
    Calls Tryz.prog 25 #[.pointer (some ⟨gw, 0, none⟩), .pointer (some ⟨gm, 0, none⟩)] w (MPo w0.heap.size w0 w p v (tsum (magB ++ mdW m))) := by
  have k0 := hw.c 0 rfl
  have m0 := hx.c 0 rfl
  have m1 := hx.c 1 rfl
  have m2 := hx.c 2 rfl
  have m3 := hx.c 3 rfl
  have HC := hide (wfile h m hm)
  clear h hm hw hx
  go_enter Tryz.func25, Tryz.ntmps25
  go_wp2_with fail
  refine (unhide HC).mono ?_
  rintro e W1 (⟨hl, rfl, v1, hw1, hk1⟩ | ⟨hF, ⟨n7, rfl⟩, hbF, htF⟩)
  rotate_left
  · exact ⟨rfl, Or.inr ⟨hF, ⟨n7, rfl⟩, hbF, htF⟩⟩
  clear HC
  have HW := hide hw1
  have HK := hide hk1
  clear hw1 hk1
  go_wp2
  go_end0
  exact Or.inl ⟨hl, rfl, v1, unhide HW, unhide HK⟩
set_option maxHeartbeats 8000000 in
theorem Encode16_any (m : Md) (w : World) (h : MdOk w m) (hcap : m.T.length ≤ m.cap) (hfc : m.F.length ≤ m.fc) (hW : WordsAt w) (hE : ErrAt w) (hn : ∀ x ∈ m.C, x.ca = none → x.cc = 0) :
    Calls Tryz.prog 10 #[.agg #[.string m.nm, .slice m.ao m.T.length m.cap, .slice m.fo m.F.length m.fc, .slice m.co m.C.length m.cc]] w fun e w' => ∃ vb L er, e = .returned (.tuple #[vb, .int .i64 er]) ∧ OwnB w' w.heap.size vb L ∧ EncR m L er ∧ Below w.heap.size w w' := by
  have al := (Below.refl w.heap.size w).alloc (Nat.le_refl _) (.cells #[.string m.nm, .slice m.ao m.T.length m.cap, .slice m.fo m.F.length m.fc, .slice m.co m.C.length m.cc] 26)
  have HB := hide al
  have HX : Hid (Bx (w.alloc (.cells #[.string m.nm, .slice m.ao m.T.length m.cap, .slice m.fo m.F.length m.fc, .slice m.co m.C.length m.cc] 26)) w.heap.size 26 #[.string m.nm, .slice m.ao m.T.length m.cap, .slice m.fo m.F.length m.fc, .slice m.co m.C.length m.cc]) := hide (heap_alloc_new w _)
  have H := hide (h.below al)
  have HWD := hide (hW.below al)
  have HE := hide (hE.below al)
  have HN := hide hn
  clear al h hW hE hn
  go_enter Tryz.func10, Tryz.ntmps10
  go_upto_region 1 with fail
  generalize (w.alloc (.cells #[.string m.nm, .slice m.ao m.T.length m.cap, .slice m.fo m.F.length m.fc, .slice m.co m.C.length m.cc] 26)) = W1 at HB HX H HWD HE ⊢
  generalize hg : w.heap.size = g at HX ⊢
  have HG : Hid (w.heap.size = g) := hide hg
  clear hg
  have m0 := (unhide HX).c 0 rfl
  have m1 := (unhide HX).c 1 rfl
  have m2 := (unhide HX).c 2 rfl
  have m3 := (unhide HX).c 3 rfl
  have HC := hide (Check16_any m W1 (unhide H) hcap hfc (unhide HWD))
  go_wp2_with fail
  refine (unhide HC).mono ?_
  rintro e W2 ⟨⟨n, er, rfl, hck⟩, hb⟩
  have HCK := hide hck
  have HB2 := hide ((unhide HB).trans (hb.mono (unhide HB).size))
  have HX2 := hide ((unhide HX).below hb)
  have H2 := hide ((unhide H).below hb)
  have HE2 := hide ((unhide HE).below hb)
  clear HC hck hb m0 m1 m2 m3 HB HX H HWD HE
  by_cases h0 : er = 0
  rotate_left
  · have t0 : (er != 0) = true := bne_t h0
    have HR : Hid (EncR m [] er) := hide (Or.inl ⟨⟨n, unhide HCK⟩, h0, rfl⟩)
    clear h0
    go_wp2
    go_ret2
    exact ⟨.slice none 0 0, [], er, rfl, World.ownsRow_nil _ _ _ _, unhide HR, unhide HB2⟩
  obtain ⟨hgd, hn0⟩ := ck_good (by rw [h0] at HCK; exact unhide HCK)
  have HCZ : Hid (CkR m 0 0) := hide (by have := unhide HCK; rw [h0, hn0] at this; exact this)
  have HMW := hide (ckG_mdW (unhide H2) hgd (unhide HN))
  rw [h0]
  clear HCK hgd hn0 h0
  have HNW := hide (New_any W2)
  go_wp2_with fail
  refine (unhide HNW).mono ?_
  rintro e W3 ⟨rfl, hi3, hb3⟩
  have HS3 : Hid (WS W2.heap.size W2 W3 W2.heap.size (.slice none 0 0) []) := hide ⟨hi3, Nat.le_refl _, (fun k e => by cases e), hb3⟩
  have HX3 := hide ((unhide HX2).below hb3)
  have HE3 := hide ((unhide HE2).below hb3)
  clear HNW hi3 hb3
  go_upto_region 5 with fail
  have al : Below W3.heap.size W3 (W3.alloc (.cells #[.pointer (some ⟨W2.heap.size, 0, none⟩)] 59)) := (Below.refl _ _).alloc (Nat.le_refl _) _
  have HS4 := hide ((unhide HS3).below al)
  have HX4 := hide ((unhide HX3).below al)
  have HE4 := hide ((unhide HE3).below al)
  have HV4 : Hid (Bx (W3.alloc (.cells #[.pointer (some ⟨W2.heap.size, 0, none⟩)] 59)) W3.heap.size 59 #[.pointer (some ⟨W2.heap.size, 0, none⟩)]) := hide (heap_alloc_new W3 _)
  clear al HS3 HX3 HE3
  generalize W3.alloc (.cells #[.pointer (some ⟨W2.heap.size, 0, none⟩)] 59) = W4 at HS4 HX4 HE4 HV4 ⊢
  generalize W3.heap.size = gw at HV4 ⊢
  have alE : Below W4.heap.size W4 (W4.alloc (.cells #[.nilIface] 61)) := (Below.refl _ _).alloc (Nat.le_refl _) _
  have HQB : Hid (Bx (W4.alloc (.cells #[.nilIface] 61)) W4.heap.size 61 #[.nilIface]) := hide (heap_alloc_new W4 _)
  have HI4 := hide ((unhide HS4).below alE).is
  have hc := enc1_any ((unhide HS4).below alE) m (unhide HMW) gw g ((unhide HV4).below alE) ((unhide HX4).below alE)
  have HCA := hide (Catch_any 25 #[.pointer (some ⟨gw, 0, none⟩), .pointer (some ⟨g, 0, none⟩)] W4 _ ent_enc1 hc (fun e W hq => by
    rcases hq with ⟨_, rfl, v', hws, hwk⟩ | ⟨_, ⟨n7, rfl⟩, hbF, htF⟩
    · exact ⟨Or.inl rfl, hwk.bx (unhide HI4) (unhide HQB) (by decide) (by decide), (unhide HE2).below hws.bel⟩
    · exact ⟨Or.inr ⟨n7, 7, rfl⟩, htF _ _ _ (unhide HQB) (by decide) (by decide), (unhide HE2).below hbF⟩))
  have HVE := hide ((unhide HV4).below alE)
  have hgw := (unhide HV4).lt
  clear hc alE
  go_wp2_with fail
  refine (unhide HCA).mono ?_
  rintro e W5 ⟨e0, W, hq, hbe, ⟨rfl, rfl, hw5⟩ | ⟨a, er7, rfl, rfl, hb5⟩⟩
  · rcases hq with ⟨hl, _, v', hws, hwk⟩ | ⟨_, ⟨n7, hh⟩, _⟩
    rotate_left
    · cases hh
    have HI5 : Hid (IsWriter W5 W2.heap.size v' (tsum (magB ++ mdW m))) := hide (by rw [hw5]; exact hws.is.setBox hbe (by decide) (by decide) 0 .nilIface)
    have HV5 : Hid (Bx W5 gw 59 #[.pointer (some ⟨W2.heap.size, 0, none⟩)]) := hide (by rw [hw5]; exact (hwk.bx (unhide HI4) (unhide HVE) (by decide) (by decide)).other ⟨W4.heap.size, 0, none⟩ .nilIface (Nat.ne_of_lt hgw))
    have HB5 : Hid (Below W2.heap.size W2 W5) := hide (by rw [hw5]; exact hws.bel.setCell (p := ⟨W4.heap.size, 0, none⟩) (by have := (unhide HS4).lt; exact this) _)
    have HL : Hid ((fileB (mcOf m)).length ≤ 1048576) := hide (by rw [← file_eq (unhide HMW).v]; exact hl)
    clear hl hws hwk hw5 hbe HCA HS4 HX4 HE4 HV4 HQB HI4 HVE hgw
    have k0 := (unhide HV5).c 0 rfl
    have HBY := hide (Bytes_any (unhide HI5))
    go_wp2_with fail
    refine (unhide HBY).mono ?_
    rintro e W6 ⟨rfl, ho, hb6⟩
    have HO := hide ho
    have HB6 := hide ((unhide HB5).trans (hb6.mono (unhide HB5).size))
    have hl6 := (unhide HB5).size
    clear ho hb6 HBY k0
    go_wp2
    go_ret2
    refine ⟨_, tsum (magB ++ mdW m), 0, rfl, (unhide HO).mono (by have := (unhide HB2).size; omega), Or.inr (Or.inr ⟨unhide HCZ, unhide HL, rfl, file_eq (unhide HMW).v⟩), (unhide HB2).trans ((unhide HB6).mono (unhide HB2).size)⟩
  · rcases hq with ⟨_, hh, _⟩ | ⟨hl, ⟨n7, _⟩, hbF, _⟩
    · cases hh
    have HB5 : Hid (Below W2.heap.size W2 W5) := hide (hbF.trans (hb5.mono (by have := (unhide HS4).lt; exact this)))
    have HL : Hid (1048576 < (fileB (mcOf m)).length) := hide (by rw [← file_eq (unhide HMW).v]; exact hl)
    have hne := flt_ne a er7
    unfold fltV at hne ⊢
    clear hl hbF hb5 hbe HCA HS4 HX4 HE4 HV4 HQB HI4 HVE hgw
    go_wp2
    go_ret2
    exact ⟨.slice none 0 0, [], 4, rfl, World.ownsRow_nil _ _ _ _, Or.inr (Or.inl ⟨unhide HCZ, unhide HL, rfl, rfl⟩), (unhide HB2).trans ((unhide HB5).mono (unhide HB2).size)⟩
end Go.Proofs.YtibgfdjopikafaaGreatDoor
