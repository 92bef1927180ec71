/-
  The walk of the law ModuleDecodes: it returns true for every row of bytes, and writes nothing that was there.
-/
import Derived.Test.YtibgfdjopikafaaGreatDoorKLm1
import Derived.Test.YtibgfdjopikafaaGreatDoorKRf7
import Derived.Test.YtibgfdjopikafaaGreatDoorRoom
import Derived.Test.YtibgfdjopikafaaGreatDoorShell
namespace Go.Proofs.YtibgfdjopikafaaGreatDoor
open Go.RowKit
set_option maxRecDepth 20000
set_option linter.unusedVariables false
set_option linter.unusedSimpArgs false

theorem dec_one {b : List UInt8} {y x : Md} {a1 a2 : Nat} {e1 e2 : Int} (h1 : DecR b y a1 e1) (h2 : DecR b x a2 e2) : a1 = a2 ∧ e1 = e2 ∧ mdEq y x = true := by
  have hz : mdEq mdZ mdZ = true := by decide +kernel
  rcases h1 with ⟨p1, p2, p3, p4⟩ | ⟨p1 | ⟨p1, p2, z, n, p3, p4⟩, p5⟩
  · rcases h2 with ⟨q1, q2, q3, q4⟩ | ⟨q1 | ⟨q1, q2, z', n', q3, q4⟩, q5⟩
    · rw [p1] at q1
      injection q1 with q1
      exact ⟨by rw [p3, q3], by rw [p4, q4], mdEq_back (mc_same q1)⟩
    · rw [p1] at q1; cases q1
    · rw [p1] at q3
      injection q3 with q3
      exact absurd (ck_one (mc_same q3.symm) q4 p2).2 q2
  · rcases h2 with ⟨q1, q2, q3, q4⟩ | ⟨q1 | ⟨q1, q2, z', n', q3, q4⟩, q5⟩
    · rw [p1] at q1; cases q1
    · rw [p1] at q1
      injection q1 with q1
      injection q1 with q1 q1'
      exact ⟨q1, q1', by rw [p5, q5]; exact hz⟩
    · rw [p1] at q3; cases q3
  · rcases h2 with ⟨q1, q2, q3, q4⟩ | ⟨q1 | ⟨q1, q2, z', n', q3, q4⟩, q5⟩
    · rw [p3] at q1
      injection q1 with q1
      exact absurd (ck_one (mc_same q1) p4 q2).2 p2
    · rw [p3] at q1; cases q1
    · rw [p3] at q3
      injection q3 with q3
      exact ⟨by rw [p1, q1], (ck_one (mc_same q3) p4 q4).2, by rw [p5, q5]; exact hz⟩
/-- A row of so many bytes, whatever they are, that may be written. -/
def PlS (W : World) (ca : Option Addr) (n : Nat) : Prop := ∀ b off, ca = some ⟨b, off, none⟩ → 0 < n → ∃ cur, Bx W b 5 cur ∧ off + n ≤ cur.size
theorem PlS.of {W : World} {ca : Option Addr} {l : List UInt8} (h : Pl W ca l.length) (hb : BAt W ca l) : PlS W ca l.length := fun b off e hn => by
  obtain ⟨cur, hc⟩ := h b off e hn
  have hc : Bx W b 5 cur := hc
  obtain ⟨b', off', e', hcell⟩ := hb (l.length - 1) (by omega)
  rw [e] at e'
  injection e' with e'
  injection e' with e1 e2
  subst e1 e2
  rw [cell_of_row _ _ _ _ _ _ hc] at hcell
  have := (Array.getElem?_eq_some_iff.1 hcell).1
  exact ⟨cur, hc, by omega⟩
theorem PlS.below {W W' : World} {ca : Option Addr} {n : Nat} (h : PlS W ca n) (hb : Below W.heap.size W W') : PlS W' ca n := fun b off e hn => by
  obtain ⟨cur, hc, hs⟩ := h b off e hn
  exact ⟨cur, hc.below hb, hs⟩
theorem PlS.set {W : World} {ca : Option Addr} {n : Nat} (h : PlS W ca n) {cb k : Nat} {cur : Array Value} (hx : Bx W cb 5 cur) (v : Value) : PlS (W.setCell ⟨cb, k, none⟩ v) ca n := fun b off e hn => by
  obtain ⟨cr, hc, hs⟩ := h b off e hn
  by_cases hb : b = cb
  · subst hb
    exact ⟨cr.setIfInBounds k v, hc.set k v rfl, by simpa using hs⟩
  · exact ⟨cr, hc.other ⟨cb, k, none⟩ v hb, hs⟩
/-- While the bytes of what was decoded are written over. -/
structure DwS (W1 : World) (g5 : Nat) (y : Md) (wr : World) : Prop where
  bel : Below W1.heap.size W1 wr
  bx : Bx wr g5 26 #[.string y.nm, .slice y.ao y.T.length y.cap, .slice y.fo y.F.length y.fc, .slice y.co y.C.length y.cc]
  hF : ∀ (i : Nat) (x : Fn), y.F[i]? = some x → ∃ b off, y.fo = some ⟨b, off, none⟩ ∧ wr.cell? ⟨b, off + i * 5 + 4, none⟩ = some (.slice x.ca x.cd.length x.cc)
  hC : ∀ (i : Nat) (x : Bs), y.C[i]? = some x → ∃ b off, y.co = some ⟨b, off, none⟩ ∧ wr.cell? ⟨b, off + i, none⟩ = some (.slice x.ca x.cd.length x.cc)
  pF : ∀ x ∈ y.F, PlS wr x.ca x.cd.length
  pC : ∀ x ∈ y.C, PlS wr x.ca x.cd.length
theorem DwS.below {W1 wr w' : World} {g5 : Nat} {y : Md} (h : DwS W1 g5 y wr) (hb : Below wr.heap.size wr w') : DwS W1 g5 y w' :=
  ⟨h.bel.trans (hb.mono h.bel.size), h.bx.below hb, fun i x hx => by
    obtain ⟨b, off, e, hc⟩ := h.hF i x hx
    exact ⟨b, off, e, (hb.cell (p := ⟨b, off + i * 5 + 4, none⟩) (World.block_lt_of_cell? _ _ hc)).trans hc⟩, fun i x hx => by
    obtain ⟨b, off, e, hc⟩ := h.hC i x hx
    exact ⟨b, off, e, (hb.cell (p := ⟨b, off + i, none⟩) (World.block_lt_of_cell? _ _ hc)).trans hc⟩, fun x hx => (h.pF x hx).below hb, fun x hx => (h.pC x hx).below hb⟩
theorem DwS.set {W1 wr : World} {g5 : Nat} {y : Md} (h : DwS W1 g5 y wr) {cb k : Nat} {cur : Array Value} (hx : Bx wr cb 5 cur) (v : Value) (h1 : W1.heap.size ≤ cb) (h2 : cb ≠ g5) (h3 : ∀ b off, y.fo = some ⟨b, off, none⟩ → 0 < y.F.length → b ≠ cb) (h4 : ∀ b off, y.co = some ⟨b, off, none⟩ → 0 < y.C.length → b ≠ cb) : DwS W1 g5 y (wr.setCell ⟨cb, k, none⟩ v) := by
  have hg := grownBy_set wr cb k v
  refine ⟨h.bel.setCell (p := ⟨cb, k, none⟩) h1 v, h.bx.other ⟨cb, k, none⟩ v (Ne.symm h2), fun i x hi => ?_, fun i x hi => ?_, fun x hi => (h.pF x hi).set hx v, fun x hi => (h.pC x hi).set hx v⟩
  · obtain ⟨b, off, e, hc⟩ := h.hF i x hi
    have hl := (List.getElem?_eq_some_iff.1 hi).1
    exact ⟨b, off, e, (hg.cell_far ⟨b, off + i * 5 + 4, none⟩ (World.block_lt_of_cell? _ _ hc) (fun e2 => h3 b off e (by omega) (by cases e2; rfl))).trans hc⟩
  · obtain ⟨b, off, e, hc⟩ := h.hC i x hi
    have hl := (List.getElem?_eq_some_iff.1 hi).1
    exact ⟨b, off, e, (hg.cell_far ⟨b, off + i, none⟩ (World.block_lt_of_cell? _ _ hc) (fun e2 => h4 b off e (by omega) (by cases e2; rfl))).trans hc⟩
/-- Where the bytes of what was decoded lie. -/
structure DwB (W1 : World) (g5 : Nat) (y : Md) (ca : Option Addr) (n : Nat) : Prop where
  lo : BlkOf (fun b => W1.heap.size ≤ b) ca n
  hi : BlkOf (fun b => b < g5) ca n
  nF : BlkOf (fun c => ∀ b off, y.fo = some ⟨b, off, none⟩ → 0 < y.F.length → b ≠ c) ca n
  nC : BlkOf (fun c => ∀ b off, y.co = some ⟨b, off, none⟩ → 0 < y.C.length → b ≠ c) ca n
theorem DwB.f {W1 W2 : World} {y : Md} (h : MdR W2 W1.heap.size y) {x : Fn} (hx : x ∈ y.F) : DwB W1 W2.heap.size y x.ca x.cd.length := by
  obtain ⟨m, m1, m2⟩ := h.cut
  refine ⟨(h.aF.2 x hx).2, (h.F.lt.2 x hx).2, fun c off e hn b o e2 _ e3 => ?_, fun c off e hn b o e2 hl e3 => ?_⟩
  · exact (h.neF b o e2 x hx).2 c off e hn e3.symm
  · have h1 := (m1.2 x hx).2 c off e hn
    have h2 := m2.1 b o e2 hl
    have h1 : c < m := h1
    have h2 : m ≤ b := h2
    omega
theorem DwB.c {W1 W2 : World} {y : Md} (h : MdR W2 W1.heap.size y) {x : Bs} (hx : x ∈ y.C) : DwB W1 W2.heap.size y x.ca x.cd.length := by
  obtain ⟨m, m1, m2⟩ := h.cut
  refine ⟨h.aC.2 x hx, h.C.lt.2 x hx, fun c off e hn b o e2 hl e3 => ?_, fun c off e hn b o e2 _ e3 => ?_⟩
  · have h1 := m2.2 x hx c off e hn
    have h2 := m1.1 b o e2 hl
    have h1 : m ≤ c := h1
    have h2 : b < m := h2
    omega
  · exact h.neC b o e2 x hx c off e hn e3.symm
theorem DwS.start {W1 W2 w' : World} {y : Md} (h : MdR W2 W1.heap.size y) (hb : Below W1.heap.size W1 w') (hb2 : Below W2.heap.size W2 w') (hx : Bx w' W2.heap.size 26 #[.string y.nm, .slice y.ao y.T.length y.cap, .slice y.fo y.F.length y.fc, .slice y.co y.C.length y.cc]) : DwS W1 W2.heap.size y w' := by
  have h' := h.below hb2
  refine ⟨hb, hx, fun i x hi => ?_, fun i x hi => ?_, fun x hi => ?_, fun x hi => ?_⟩
  · obtain ⟨b, off, e, h1, h2⟩ := h'.F i x hi
    exact ⟨b, off, e, h1 4 _ rfl⟩
  · obtain ⟨b, off, e, h1, h2⟩ := h'.C i x hi
    have h1 : w'.rangeAt b (off + i * 1) [.slice x.ca x.cd.length x.cc] := h1
    rw [Nat.mul_one] at h1
    exact ⟨b, off, e, h1 0 _ rfl⟩
  · obtain ⟨i, hl, e⟩ := List.mem_iff_getElem.1 hi
    obtain ⟨_, _, _, _, h2⟩ := h'.F i x (by rw [← e]; exact List.getElem?_eq_getElem hl)
    exact PlS.of h2.2 h2.1.code
  · obtain ⟨i, hl, e⟩ := List.mem_iff_getElem.1 hi
    obtain ⟨_, _, _, _, h2⟩ := h'.C i x (by rw [← e]; exact List.getElem?_eq_getElem hl)
    exact PlS.of h2.pl h2.code

set_option maxRecDepth 20000 in
set_option maxHeartbeats 16000000 in
theorem walkModuleDecodes {w : World} (hWE : WordsAt w ∧ ErrAt w) (ao : Option Addr) (c : Nat) (L : List UInt8) (hb : BAt w ao L) (hn : ao = none → L = []) (hz : L.length ≤ 140737488351232) (hc : L.length ≤ c) :
    Calls Tryz.prog 4 #[.slice ao L.length c] w fun e w' => e = .returned (.bool true) ∧ Below w.heap.size w w' := by
  obtain ⟨hW, hE⟩ := hWE
  have HL := hide hb
  have HWD := hide hW
  have HED := hide hE
  have HCC := hide hc
  have HRo := hide (Roomy_any ao c L w hb hn hz)
  clear hb hW hE hc hn
  go_enter Tryz.func4, Tryz.ntmps4
  go_wp2_with fail
  refine (unhide HRo).mono ?_
  rintro e W1 ⟨g, cap, rfl, hg, hO, hB⟩
  have HB1 := hide hB
  have HL1 := hide ((unhide HL).below' hB)
  have HW1 := hide ((unhide HWD).below hB)
  have HE1 := hide ((unhide HED).below hB)
  obtain ⟨hcap, HR⟩ : L.length + 4 ≤ cap ∧ Hid (BAt W1 (some ⟨g, 0, none⟩) (roomy L)) := by
    rcases hO.shape with ⟨h1, _⟩ | ⟨g', cap', h1, _, _, h4, _, h6⟩
    · injection h1 with h1
      cases h1
    · injection h1 with h1 h2 h3
      injection h1 with h1
      injection h1 with h1
      subst h1 h3
      rw [roomy_length] at h4
      exact ⟨h4, hide h6⟩
  have HU := hide (fun W (h : Below W1.heap.size W1 W) => Untouched_yes g cap ao c L W ((unhide HR).below' h) ((unhide HL1).below' h) hcap (by omega))
  have HG : Hid (BAt W1 (some ⟨g, 0, none⟩) L) := hide (by
    have h := cut_front (unhide HR) L.length
    have e : (roomy L).take L.length = L := by unfold roomy; exact List.take_left
    rw [e] at h
    exact h)
  have HDC := hide (Decode16_any (some ⟨g, 0, none⟩) cap L W1 (unhide HG) (by omega) (unhide HW1) (unhide HE1))
  clear hO hB HL HWD HED HRo HW1 HE1 HG hg
  go_wp2_with fail
  refine (unhide HDC).mono ?_
  rintro e W2 ⟨y, a1, e1, rfl, hd1, hm1, hb2⟩
  have al2 : Below W2.heap.size W2 (W2.alloc (.cells #[.string y.nm, .slice y.ao y.T.length y.cap, .slice y.fo y.F.length y.fc, .slice y.co y.C.length y.cc] 26)) := (Below.refl _ _).alloc (Nat.le_refl _) _
  have HM1 := hide hm1
  have HD1 := hide hd1
  have HY3 : Hid (Bx (W2.alloc (.cells #[.string y.nm, .slice y.ao y.T.length y.cap, .slice y.fo y.F.length y.fc, .slice y.co y.C.length y.cc] 26)) W2.heap.size 26 #[.string y.nm, .slice y.ao y.T.length y.cap, .slice y.fo y.F.length y.fc, .slice y.co y.C.length y.cc]) := hide (heap_alloc_new W2 _)
  have HB3 := hide (hb2.trans (al2.mono hb2.size))
  have HA3 := hide al2
  have HL3 := hide ((unhide HL1).below' (unhide HB3))
  clear hd1 hm1 hb2 al2 HDC
  go_upto_region 3 with fail
  generalize (W2.alloc (.cells #[.string y.nm, .slice y.ao y.T.length y.cap, .slice y.fo y.F.length y.fc, .slice y.co y.C.length y.cc] 26)) = W3 at HY3 HB3 HA3 HL3 ⊢
  have HDC := hide (refDecode16_any ao c L W3 (unhide HL3) (unhide HCC))
  go_wp2_with fail
  refine (unhide HDC).mono ?_
  rintro e W4 ⟨x, a2, e2, rfl, hd2, hm2, hb4⟩
  obtain ⟨rfl, rfl, heq⟩ := dec_one (unhide HD1) hd2
  have al4 : Below W4.heap.size W4 (W4.alloc (.cells #[.string x.nm, .slice x.ao x.T.length x.cap, .slice x.fo x.F.length x.fc, .slice x.co x.C.length x.cc] 26)) := (Below.refl _ _).alloc (Nat.le_refl _) _
  have hb5 := hb4.trans (al4.mono hb4.size)
  have HX5 : Hid (Bx (W4.alloc (.cells #[.string x.nm, .slice x.ao x.T.length x.cap, .slice x.fo x.F.length x.fc, .slice x.co x.C.length x.cc] 26)) W4.heap.size 26 #[.string x.nm, .slice x.ao x.T.length x.cap, .slice x.fo x.F.length x.fc, .slice x.co x.C.length x.cc]) := hide (heap_alloc_new W4 _)
  have HMx := hide (hm2.below al4)
  have HMy := hide ((unhide HM1).below ((unhide HA3).trans (hb5.mono (unhide HA3).size)))
  have HY5 := hide ((unhide HY3).below hb5)
  have HB5 := hide ((unhide HB3).trans (hb5.mono (unhide HB3).size))
  have HA5 := hide ((unhide HA3).trans (hb5.mono (unhide HA3).size))
  have HEQ := hide heq
  clear hd2 hm2 hb4 heq al4 hb5 HDC HD1 HY3 HB3 HA3 HL3 HL1
  go_upto_region 4 with fail
  generalize (W4.alloc (.cells #[.string x.nm, .slice x.ao x.T.length x.cap, .slice x.fo x.F.length x.fc, .slice x.co x.C.length x.cc] 26)) = W5 at HX5 HMx HMy HY5 HB5 HA5 ⊢
  generalize W4.heap.size = g8 at HX5 ⊢
  have k0 := (unhide HY5).c 0 rfl
  have k1 := (unhide HY5).c 1 rfl
  have k2 := (unhide HY5).c 2 rfl
  have k3 := (unhide HY5).c 3 rfl
  have m0 := (unhide HX5).c 0 rfl
  have m1 := (unhide HX5).c 1 rfl
  have m2 := (unhide HX5).c 2 rfl
  have m3 := (unhide HX5).c 3 rfl
  have HS := hide (SameModule_any y x W5 (unhide HMy).ok (unhide HMx).ok)
  rw [unhide HEQ] at HS
  go_wp2_with fail
  refine (unhide HS).mono ?_
  rintro e W6 ⟨rfl, hb6⟩
  have HS6 : Hid (DwS W1 W2.heap.size y W6) := hide ((DwS.start (unhide HM1) (unhide HB5) (unhide HA5) (unhide HY5)).below hb6)
  have HDF := hide (fun (x : Fn) (hx : x ∈ y.F) => DwB.f (unhide HM1) hx)
  have HDC := hide (fun (x : Bs) (hx : x ∈ y.C) => DwB.c (unhide HM1) hx)
  have hFl := (unhide HM1).lenF
  have hCl := (unhide HM1).lenC
  have HFit : Hid ((∀ x ∈ y.F, x.cd.length ≤ 140737488351232) ∧ (∀ x ∈ y.C, x.cd.length ≤ 140737488351232)) := hide ⟨fun x hx => by
    obtain ⟨i, hl, e⟩ := List.mem_iff_getElem.1 hx
    obtain ⟨_, _, _, _, h2⟩ := (unhide HM1).F i x (by rw [← e]; exact List.getElem?_eq_getElem hl)
    exact h2.1.fit, fun x hx => by
    obtain ⟨i, hl, e⟩ := List.mem_iff_getElem.1 hx
    obtain ⟨_, _, _, _, h2⟩ := (unhide HM1).C i x (by rw [← e]; exact List.getElem?_eq_getElem hl)
    exact h2.fit⟩
  have HSome : Hid ((∀ x ∈ y.F, 0 < x.cd.length → ∃ b off, x.ca = some ⟨b, off, none⟩) ∧ (∀ x ∈ y.C, 0 < x.cd.length → ∃ b off, x.ca = some ⟨b, off, none⟩)) := hide ⟨fun x hx h0 => by
    obtain ⟨i, hl, e⟩ := List.mem_iff_getElem.1 hx
    obtain ⟨_, _, _, _, h2⟩ := (unhide HM1).F i x (by rw [← e]; exact List.getElem?_eq_getElem hl)
    obtain ⟨b, off, e2, _⟩ := h2.1.code 0 h0
    exact ⟨b, off, e2⟩, fun x hx h0 => by
    obtain ⟨i, hl, e⟩ := List.mem_iff_getElem.1 hx
    obtain ⟨_, _, _, _, h2⟩ := (unhide HM1).C i x (by rw [← e]; exact List.getElem?_eq_getElem hl)
    obtain ⟨b, off, e2, _⟩ := h2.code 0 h0
    exact ⟨b, off, e2⟩⟩
  clear hb6 HS k0 k1 k2 k3 m0 m1 m2 m3 HX5 HMx HMy HY5 HB5 HA5 HEQ HM1
  generalize W2.heap.size = g5 at HS6 HDF HDC ⊢
  have k2 := (unhide HS6).bx.c 2 rfl
  go_wp2_with fail
  go_loopw [49] (fun v wr => ∃ (i : Nat), i ≤ y.F.length ∧ v = .int .i64 (i : Int) ∧ Hid (DwS W1 g5 y wr)) (fun v _ => y.F.length - (intOf v).toNat)
  case atStart => exact ⟨0, by omega, rfl, HS6⟩
  case round =>
    clear HS6 k2
    obtain ⟨i1, hi1, rfl, HS1⟩ := hrel
    by_cases hlt1 : i1 < y.F.length
    · have j1 : ((i1 : Nat) : Int) < ((y.F.length : Nat) : Int) := by omega
      obtain ⟨z, hz1⟩ : ∃ z, y.F[i1]? = some z := ⟨_, List.getElem?_eq_getElem hlt1⟩
      have hzm : z ∈ y.F := List.mem_of_getElem? hz1
      obtain ⟨fb, foff, hfo, hcell⟩ := (unhide HS1).hF i1 z hz1
      have HZM := hide hzm
      have HZG := hide hz1
      have HFO := hide hfo
      have k2 := (unhide HS1).bx.c 2 rfl
      rw [unhide HFO] at k2
      have hfit := (unhide HFit).1 z hzm
      have HLT := hide hlt1
      clear hzm hz1 hfo hlt1
      go_wp2_with fail
      go_loopw [59] (fun v wr => ∃ (q : Nat), q ≤ z.cd.length ∧ v = .int .i64 (q : Int) ∧ Hid (DwS W1 g5 y wr)) (fun v _ => z.cd.length - (intOf v).toNat)
      case atStart => exact ⟨0, by omega, rfl, HS1⟩
      case round =>
        clear HS1 k2 hcell
        obtain ⟨q, hq, rfl, HT⟩ := hrel
        by_cases hlq : q < z.cd.length
        · have j2 : ((q : Nat) : Int) < ((z.cd.length : Nat) : Int) := by omega
          obtain ⟨fb', foff', hfo', hcell⟩ := (unhide HT).hF i1 z (unhide HZG)
          have k2 := (unhide HT).bx.c 2 rfl
          rw [unhide HFO] at k2 hfo'
          injection hfo' with hfo'
          injection hfo' with hf1 hf2
          subst hf1 hf2
          obtain ⟨cb, coff, hca⟩ := (unhide HSome).1 z (unhide HZM) (by omega)
          obtain ⟨cur, hcx, hcs⟩ := (unhide HT).pF z (unhide HZM) cb coff hca (by omega)
          have hdb := unhide HDF z (unhide HZM)
          have HTn := hide ((unhide HT).set (k := coff + q) hcx (.int .u8 255) (hdb.lo cb coff hca (by omega)) (Nat.ne_of_lt (hdb.hi cb coff hca (by omega))) (hdb.nF cb coff hca (by omega)) (hdb.nC cb coff hca (by omega)))
          have hcc : ∃ v, wr.cell? ⟨cb, coff + q, none⟩ = some v := ⟨_, hcx.c (coff + q) (Array.getElem?_eq_getElem (by omega))⟩
          obtain ⟨v0, hcc⟩ := hcc
          have hff := hcx.f (coff + q)
          rw [hca] at hcell
          clear hdb hcs hcx
          have j1 : ((i1 : Nat) : Int) < ((y.F.length : Nat) : Int) := by have := unhide HLT; omega
          go_wp2
          go_roundw
          case rel => exact ⟨q + 1, by omega, by go_num, HTn⟩
          case measure => simp [intOf]; omega
        · have j2 : ¬ ((q : Nat) : Int) < ((z.cd.length : Nat) : Int) := by omega
          have hlt1 := unhide HLT
          go_wp2
          go_roundw
          case rel => exact ⟨i1 + 1, by omega, by go_num, HT⟩
          case measure => simp [intOf]; omega
    · have j1 : ¬ ((i1 : Nat) : Int) < ((y.F.length : Nat) : Int) := by omega
      have k3 := (unhide HS1).bx.c 3 rfl
      go_wp2_with fail
      go_loopw [75] (fun v wr => ∃ (i : Nat), i ≤ y.C.length ∧ v = .int .i64 (i : Int) ∧ Hid (DwS W1 g5 y wr)) (fun v _ => y.C.length - (intOf v).toNat)
      case atStart => exact ⟨0, by omega, rfl, HS1⟩
      case round =>
        clear HS1 k3
        obtain ⟨i2, hi2, rfl, HS2⟩ := hrel
        by_cases hlt2 : i2 < y.C.length
        · have j1 : ((i2 : Nat) : Int) < ((y.C.length : Nat) : Int) := by omega
          obtain ⟨z, hz2⟩ : ∃ z, y.C[i2]? = some z := ⟨_, List.getElem?_eq_getElem hlt2⟩
          have hzm : z ∈ y.C := List.mem_of_getElem? hz2
          obtain ⟨fb, foff, hfo, hcell⟩ := (unhide HS2).hC i2 z hz2
          have HZM := hide hzm
          have HZG := hide hz2
          have HFO := hide hfo
          have k3 := (unhide HS2).bx.c 3 rfl
          rw [unhide HFO] at k3
          have hfit := (unhide HFit).2 z hzm
          have HLT := hide hlt2
          clear hzm hz2 hfo hlt2
          go_wp2_with fail
          go_loopw [84] (fun v wr => ∃ (q : Nat), q ≤ z.cd.length ∧ v = .int .i64 (q : Int) ∧ Hid (DwS W1 g5 y wr)) (fun v _ => z.cd.length - (intOf v).toNat)
          case atStart => exact ⟨0, by omega, rfl, HS2⟩
          case round =>
            clear HS2 k3 hcell
            obtain ⟨q, hq, rfl, HT⟩ := hrel
            by_cases hlq : q < z.cd.length
            · have j2 : ((q : Nat) : Int) < ((z.cd.length : Nat) : Int) := by omega
              obtain ⟨fb', foff', hfo', hcell⟩ := (unhide HT).hC i2 z (unhide HZG)
              have k3 := (unhide HT).bx.c 3 rfl
              rw [unhide HFO] at k3 hfo'
              injection hfo' with hfo'
              injection hfo' with hf1 hf2
              subst hf1 hf2
              obtain ⟨cb, coff, hca⟩ := (unhide HSome).2 z (unhide HZM) (by omega)
              obtain ⟨cur, hcx, hcs⟩ := (unhide HT).pC z (unhide HZM) cb coff hca (by omega)
              have hdb := unhide HDC z (unhide HZM)
              have HTn := hide ((unhide HT).set (k := coff + q) hcx (.int .u8 255) (hdb.lo cb coff hca (by omega)) (Nat.ne_of_lt (hdb.hi cb coff hca (by omega))) (hdb.nF cb coff hca (by omega)) (hdb.nC cb coff hca (by omega)))
              have hcc : ∃ v, wr.cell? ⟨cb, coff + q, none⟩ = some v := ⟨_, hcx.c (coff + q) (Array.getElem?_eq_getElem (by omega))⟩
              obtain ⟨v0, hcc⟩ := hcc
              have hff := hcx.f (coff + q)
              rw [hca] at hcell
              clear hdb hcs hcx
              have j1 : ((i2 : Nat) : Int) < ((y.C.length : Nat) : Int) := by have := unhide HLT; omega
              go_wp2
              go_roundw
              case rel => exact ⟨q + 1, by omega, by go_num, HTn⟩
              case measure => simp [intOf]; omega
            · have j2 : ¬ ((q : Nat) : Int) < ((z.cd.length : Nat) : Int) := by omega
              have hlt2 := unhide HLT
              go_wp2
              go_roundw
              case rel => exact ⟨i2 + 1, by omega, by go_num, HT⟩
              case measure => simp [intOf]; omega
        · have j1 : ¬ ((i2 : Nat) : Int) < ((y.C.length : Nat) : Int) := by omega
          have HUn := hide (unhide HU wr (unhide HS2).bel)
          have HBn := hide ((unhide HB1).trans ((unhide HS2).bel.mono (unhide HB1).size))
          clear HS2
          go_wp2_with fail
          refine (unhide HUn).mono ?_
          rintro e Wz ⟨rfl, kk, rfl⟩
          go_wp2
          go_ret
          exact ⟨rfl, (unhide HBn).trans ((below_drew wr kk).mono (unhide HBn).size)⟩
end Go.Proofs.YtibgfdjopikafaaGreatDoor
