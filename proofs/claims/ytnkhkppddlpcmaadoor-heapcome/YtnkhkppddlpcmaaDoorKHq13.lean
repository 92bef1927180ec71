/-
  A table of one class, made in place; provisolaw14.awake returns true.
  provisolaw14.lived: a heap behind a life; nil, if none can be made.
-/
import Derived.Test.YtnkhkppddlpcmaaDoorKHq12
namespace Go.Proofs.YtnkhkppddlpcmaaDoor
open Go.RowKit
set_option maxRecDepth 20000

def oneT (b : Nat) (ty : Nat) : List Cl := [⟨⟨#[110]⟩, -1, some ⟨b, 0, none⟩, 1, [⟨⟨#[110, 101, 120, 116]⟩, ty⟩]⟩]
theorem one_made5 (b : Nat) : madeD (oneT b 5) = true := by kernel_rfl
theorem one_made16 (b : Nat) : madeD (oneT b 16) = true := by kernel_rfl
theorem one_lds5 (b : Nat) : ldsD (oneT b 5) 0 = [true] := by kernel_rfl
theorem one_lds16 (b : Nat) : ldsD (oneT b 16) 0 = [true] := by kernel_rfl
theorem one_tab (w : World) (ty : Nat) (hty : ty < 256) : TabAt ((w.alloc (.cells #[.string ⟨#[110, 101, 120, 116]⟩, .int .u8 (ty : Int)] 41)).alloc (.cells #[.string ⟨#[110]⟩, .int .i64 (-1), .slice (some ⟨w.heap.size, 0, none⟩) 1 1] 38)) (some ⟨w.heap.size + 1, 0, none⟩) (oneT w.heap.size ty) ∧ Below w.heap.size w ((w.alloc (.cells #[.string ⟨#[110, 101, 120, 116]⟩, .int .u8 (ty : Int)] 41)).alloc (.cells #[.string ⟨#[110]⟩, .int .i64 (-1), .slice (some ⟨w.heap.size, 0, none⟩) 1 1] 38)) := by
  have n1 : Bx (w.alloc (.cells #[.string ⟨#[110, 101, 120, 116]⟩, .int .u8 (ty : Int)] 41)) w.heap.size 41 #[.string ⟨#[110, 101, 120, 116]⟩, .int .u8 (ty : Int)] := heap_alloc_new w _
  have a1 : Below w.heap.size w (w.alloc (.cells #[.string ⟨#[110, 101, 120, 116]⟩, .int .u8 (ty : Int)] 41)) := (Below.refl _ _).alloc (Nat.le_refl _) _
  have s1 : (w.alloc (.cells #[.string ⟨#[110, 101, 120, 116]⟩, .int .u8 (ty : Int)] 41)).heap.size = w.heap.size + 1 := World.size_alloc _ _
  generalize w.alloc (.cells #[.string ⟨#[110, 101, 120, 116]⟩, .int .u8 (ty : Int)] 41) = W1 at n1 a1 s1 ⊢
  have n2 : Bx (W1.alloc (.cells #[.string ⟨#[110]⟩, .int .i64 (-1), .slice (some ⟨w.heap.size, 0, none⟩) 1 1] 38)) W1.heap.size 38 #[.string ⟨#[110]⟩, .int .i64 (-1), .slice (some ⟨w.heap.size, 0, none⟩) 1 1] := heap_alloc_new W1 _
  have a2 : Below W1.heap.size W1 (W1.alloc (.cells #[.string ⟨#[110]⟩, .int .i64 (-1), .slice (some ⟨w.heap.size, 0, none⟩) 1 1] 38)) := (Below.refl _ _).alloc (Nat.le_refl _) _
  have n3 := n1.below a2
  rw [s1] at n2
  refine ⟨fun i x hx => ?_, a1.trans (a2.mono (by omega))⟩
  have hi : i = 0 := by have := (List.getElem?_eq_some_iff.1 hx).1; simp [oneT] at this; omega
  subst hi
  simp [oneT] at hx
  subst hx
  refine ⟨w.heap.size + 1, 0, rfl, n2.c 0 rfl, n2.c 1 rfl, n2.c 2 rfl, fun j f hf => ?_, fun e => (by cases e), Nat.le_refl _, (by show (1 : Nat) * 24 ≤ 140737488351232; omega), (by show (1 : Nat) ≤ 140737488351232; omega), ⟨(by show (-9223372036854775808 : Int) ≤ -1; omega), (by show (-1 : Int) ≤ 9223372036854775807; omega)⟩⟩
  have hj : j = 0 := by have := (List.getElem?_eq_some_iff.1 hf).1; simp at this; omega
  subst hj
  simp at hf
  subst hf
  exact ⟨w.heap.size, 0, rfl, n3.c 0 rfl, n3.c 1 rfl, (by show (4 : Nat) ≤ 140737488351232; omega), hty⟩
/-- A heap of one class, made in place. -/
theorem one_new (w : World) (hW : WordsAt w) (ty : Nat) (hty : ty < 256) (hm : madeD (oneT w.heap.size ty) = true) (hl : ldsD (oneT w.heap.size ty) 0 = [true]) (room : Int) (hr : 0 ≤ room ∧ room ≤ 4096) :
    Calls Tryd.prog 10 #[.slice (some ⟨w.heap.size + 1, 0, none⟩) 1 1, .int .i64 room] ((w.alloc (.cells #[.string ⟨#[110, 101, 120, 116]⟩, .int .u8 (ty : Int)] 41)).alloc (.cells #[.string ⟨#[110]⟩, .int .i64 (-1), .slice (some ⟨w.heap.size, 0, none⟩) 1 1] 38)) fun e w' => ∃ g lv x, e = .returned (.tuple #[.pointer (some ⟨g, 0, none⟩), .int .i64 0]) ∧ HpAt w.heap.size w' g (newH room lv [x]) ∧ x.bs = [true] ∧ Below w.heap.size w w' := by
  have ht := one_tab w ty hty
  have hs := ht.2.size
  refine (New_any (some ⟨w.heap.size + 1, 0, none⟩) 1 (oneT w.heap.size ty) room _ ht.1 (by simp [oneT]) (hW.below ht.2) (by simp [oneT])).mono ?_
  rintro e w' ⟨hN, hB⟩
  rcases hN with ⟨h1, _⟩ | ⟨_, _, _, g, lv, L, rfl, hH, hL, hx⟩
  · rw [hm] at h1
    rcases h1 with h1 | h1 | h1
    · omega
    · omega
    · cases h1
  · match L, hL with
    | [x], _ => exact ⟨g, lv, x, rfl, HpAt.mono hH hs, (hx 0 x rfl).trans hl, ht.2.trans (hB.mono hs)⟩
set_option maxRecDepth 20000 in
set_option maxHeartbeats 4000000 in
theorem awake_any (w : World) (hW : WordsAt w) : Calls Tryd.prog 25 #[] w fun e w' => e = .returned (.bool true) ∧ Below w.heap.size w w' := by
  have HN := hide (one_new w hW 5 (by omega) (one_made5 _) (one_lds5 _) 9 (by omega))
  clear hW
  go_enter Tryd.func25, Tryd.ntmps25
  go_wp2_with fail
  refine (unhide HN).mono ?_
  rintro e W3 ⟨g, lv, x, rfl, hH, hx, hB⟩
  have HH := hide hH
  have HB := hide hB
  have HXB := hide hx
  have HK0 : Hid (HmOk (newH 9 lv [x])) := hide (newH_ok (by omega) lv (by simp))
  clear hH hB hx HN
  go_wp2_with fail
  refine (Record_any w.heap.size g (newH 9 lv [x]) 0 W3 (unhide HH) (unhide HK0) (unhide HB).size (by simp [newH])).mono ?_
  rintro e W4 ⟨h1, r, er, rfl, hI, hH4, hK4⟩
  rcases hI with ⟨_, _, _, h0⟩ | ⟨k, y, hk, hy, hA⟩
  · simp [newH] at h0
  · have hk0 : k = 0 := by omega
    subst hk0
    simp [newH] at hy
    subst hy
    rw [unhide HXB] at hA
    rcases hA with ⟨h0, _⟩ | ⟨_, rfl, rfl, gp, ov, rfl⟩
    · simp [newH] at h0
    · have HH4 := hide hH4
      have HB4 := hide ((unhide HB).trans hK4.bel)
      have HK4 : Hid (HmOk (addH (newH 9 lv [x]) ((0 : Nat) : Int) 1 gp ov)) := hide ((unhide HK0).add gp ov (by simp [newH]) (Or.inr ⟨0, rfl, x, rfl, by rw [unhide HXB]; rfl⟩))
      clear hH4 hK4 HH HB HK0 hk
      have HLa : Hid ((addH (newH 9 lv [x]) ((0 : Nat) : Int) 1 gp ov).room = 9 ∧ (addH (newH 9 lv [x]) ((0 : Nat) : Int) 1 gp ov).used = 2 ∧ (addH (newH 9 lv [x]) ((0 : Nat) : Int) 1 gp ov).last = 1 ∧ (addH (newH 9 lv [x]) ((0 : Nat) : Int) 1 gp ov).O = [⟨1, 0, gp, [0]⟩]) := hide ⟨rfl, rfl, rfl, rfl⟩
      generalize addH (newH 9 lv [x]) ((0 : Nat) : Int) 1 gp ov = h1 at HH4 HK4 HLa
      rw [show ((newH 9 lv [x]).last + 1) = (1 : Int) from rfl]
      go_wp2_with fail
      refine (Row_any w.heap.size g h1 2 W4 (unhide HH4) (unhide HK4) (unhide HB4).size (by rw [(unhide HLa).2.2.1]; omega) (by omega)).mono ?_
      rintro e W5 ⟨h2, r, er, rfl, hI, hH5, hK5⟩
      rcases hI with ⟨h0, _⟩ | ⟨k, hk, hA⟩
      · omega
      · have hk2 : k = 2 := by omega
        subst hk2
        rcases hA with ⟨h0, _⟩ | ⟨hlt, rfl, rfl, gp2, ov2, rfl⟩
        · rw [(unhide HLa).1, (unhide HLa).2.1] at h0; omega
        · have HH5 := hide hH5
          have HB5 := hide ((unhide HB4).trans hK5.bel)
          have HK5 := hide ((unhide HK4).add gp2 ov2 hlt (Or.inl rfl))
          have HL5 : Hid ((addH h1 (-1) 2 gp2 ov2).used = 5 ∧ (addH h1 (-1) 2 gp2 ov2).O = [⟨1, 0, gp, [0]⟩, ⟨2, -1, gp2, [0, 0]⟩]) := hide ⟨by show h1.used + (1 + ((2 : Nat) : Int)) = 5; rw [(unhide HLa).2.1]; rfl, by show h1.O ++ [_] = _; rw [(unhide HLa).2.2.2, (unhide HLa).2.2.1]; rfl⟩
          have HR2 : Hid (h1.last + 1 = 2) := hide (by rw [(unhide HLa).2.2.1]; rfl)
          rw [unhide HR2]
          clear hH5 hK5 hlt hk HH4 HB4 HK4 HR2
          generalize addH h1 (-1) 2 gp2 ov2 = h2 at HH5 HK5 HL5
          have HP := hide (Put_any w.heap.size g h2 1 0 2 W5 (unhide HH5) (unhide HK5) (unhide HB5).size)
          have HE : Hid (putE h2.O 1 0 2 = 0 ∧ (putD h2 1 0 2).used = 5) := hide (by
            have e1 : putE h2.O 1 0 2 = 0 := by rw [(unhide HL5).2]; rfl
            exact ⟨e1, by unfold putD; rw [if_pos e1]; exact (unhide HL5).1⟩)
          rw [(unhide HE).1] at HP
          go_wp2_with (go_at_call 21; refine (unhide HP).mono ?_; rintro e W6 ⟨rfl, hH6, hK6⟩)
          have HU := hide (Used_any w.heap.size g _ W6 hH6)
          rw [(unhide HE).2] at HU
          have HB6 := hide ((unhide HB5).trans hK6.bel)
          clear hH6 hK6 HP HB5
          go_wp2_with (go_at_call 23; refine (unhide HU).mono ?_; rintro e W7 ⟨rfl, hw⟩; rw [hw]; clear hw W7)
          go_wp2
          go_ret
          exact ⟨rfl, unhide HB6⟩
/-- A call on a heap. -/
structure Ac where
  kd : Int
  a : Int
  b : Int
  c : Int
  ro : Option Addr
  rc : Nat
  R : List Int
structure AcAt (W : World) (b o : Nat) (x : Ac) : Prop where
  c0 : W.cell? ⟨b, o, none⟩ = some (.int .i64 x.kd)
  c1 : W.cell? ⟨b, o + 1, none⟩ = some (.int .i64 x.a)
  c2 : W.cell? ⟨b, o + 2, none⟩ = some (.int .i64 x.b)
  c3 : W.cell? ⟨b, o + 3, none⟩ = some (.int .i64 x.c)
  c4 : W.cell? ⟨b, o + 4, none⟩ = some (.slice x.ro x.R.length x.rc)
  rts : JsAt W x.ro x.R
  fit : x.R.length * 8 ≤ 140737488351232
  hi : x.a < 9223372036854775808
def AcsAt (W : World) (xo : Option Addr) (X : List Ac) : Prop := ∀ i x, X[i]? = some x → ∃ b off, xo = some ⟨b, off, none⟩ ∧ AcAt W b (off + i * 5) x
theorem AcAt.below {W w : World} {b o : Nat} {x : Ac} (h : AcAt W b o x) (hb : Below W.heap.size W w) : AcAt w b o x := by
  have hl : b < W.heap.size := World.block_lt_of_cell? W _ h.c0
  exact ⟨(hb.cell (p := ⟨b, o, none⟩) hl).trans h.c0, (hb.cell (p := ⟨b, o + 1, none⟩) hl).trans h.c1, (hb.cell (p := ⟨b, o + 2, none⟩) hl).trans h.c2, (hb.cell (p := ⟨b, o + 3, none⟩) hl).trans h.c3, (hb.cell (p := ⟨b, o + 4, none⟩) hl).trans h.c4, h.rts.below hb, h.fit, h.hi⟩
theorem AcsAt.below {W w : World} {xo : Option Addr} {X : List Ac} (h : AcsAt W xo X) (hb : Below W.heap.size W w) : AcsAt w xo X := fun i x hx => by
  obtain ⟨b, off, e, h1⟩ := h i x hx
  exact ⟨b, off, e, h1.below hb⟩
/-- A heap that has lived: so many calls. -/
structure Lv (T : List Cl) (room : Int) (h : Hm) (k : Nat) : Prop where
  ok : HmOk h
  last : h.last ≤ (k : Int)
  room : h.room = room
  len : h.L.length = T.length
  lds : ∀ (c : Nat) (x : Ld), h.L[c]? = some x → x.bs = ldsD T c
theorem Lv.more {T : List Cl} {room : Int} {h : Hm} {k : Nat} (H : Lv T room h k) : Lv T room h (k + 1) := ⟨H.ok, by have := H.last; omega, H.room, H.len, H.lds⟩
theorem Lv.add {T : List Cl} {room : Int} {h h' : Hm} {k n : Nat} {c r er : Int} (H : Lv T room h k) (hA : AddIs h c n h' r er) (hc : c = -1 ∨ ∃ j : Nat, c = (j : Int) ∧ ∃ x, h.L[j]? = some x ∧ x.bs.length = n) : Lv T room h' (k + 1) := by
  rcases hA with ⟨_, _, _, rfl⟩ | ⟨hf, _, _, gp, ov, rfl⟩
  · exact H.more
  · exact ⟨H.ok.add gp ov hf hc, by show h.last + 1 ≤ _; have := H.last; omega, H.room, H.len, H.lds⟩
theorem Lv.put {T : List Cl} {room : Int} {h : Hm} {k : Nat} (H : Lv T room h k) (ref i v : Int) : Lv T room (putD h ref i v) (k + 1) := by
  refine ⟨H.ok.putD ref i v, ?_, ?_, ?_, ?_⟩
  all_goals (unfold putD; split)
  all_goals first | exact H.more.last | exact H.room | exact H.len | exact H.lds
theorem Lv.col {T : List Cl} {room : Int} {h h' : Hm} {k : Nat} {R : List Int} {n er : Int} (H : Lv T room h k) (hC : ColIs h R h' n er) : Lv T room h' (k + 1) := by
  rcases hC with ⟨_, _, _, rfl⟩ | ⟨_, _, C, ov, hC, _, rfl⟩
  · exact H.more
  · exact ⟨H.ok.col hC.1 ov, H.more.last, H.room, H.len, H.lds⟩
/-- What is handed back. -/
def LivedIs (T : List Cl) (room : Int) (B : Nat) (W : World) (N : Nat) (e : Ending) : Prop := e = .returned (.pointer none) ∨ (0 ≤ room ∧ room ≤ 4096 ∧ madeD T = true ∧ ∃ g h, e = .returned (.pointer (some ⟨g, 0, none⟩)) ∧ HpAt B W g h ∧ Lv T room h N)
set_option maxRecDepth 20000 in
set_option maxHeartbeats 4000000 in
theorem lived_any (ao : Option Addr) (cap : Nat) (T : List Cl) (room : Int) (xo : Option Addr) (xc : Nat) (X : List Ac) (w : World) (hT : TabAt w ao T) (hcap : T.length ≤ cap) (hW : WordsAt w) (hz : T.length * 48 ≤ 140737488351232) (hX : AcsAt w xo X) (hXl : X.length * 56 ≤ 140737488351232) :
    Calls Tryd.prog 26 #[.agg #[.slice ao T.length cap, .int .i64 room, .slice xo X.length xc]] w fun e w' => LivedIs T room w.heap.size w' X.length e ∧ Below w.heap.size w w' := by
  have hal : Below w.heap.size w (w.alloc (.cells #[.slice ao T.length cap, .int .i64 room, .slice xo X.length xc] 25)) := (Below.refl _ _).alloc (Nat.le_refl _) _
  have HBX : Hid (Bx (w.alloc (.cells #[.slice ao T.length cap, .int .i64 room, .slice xo X.length xc] 25)) w.heap.size 25 #[.slice ao T.length cap, .int .i64 room, .slice xo X.length xc]) := hide (heap_alloc_new w _)
  have HN := hide (New_any ao cap T room _ (hT.below hal) hcap (hW.below hal) hz)
  have HB := hide hal
  have HXX := hide hX
  have HXL : Hid (X.length ≤ 2600000000000) := hide (by omega)
  have hxn : X.length < 9223372036854775000 := by omega
  clear hT hcap hW hz hX hal hXl
  go_enter Tryd.func26, Tryd.ntmps26
  go_upto_region 1 with fail
  generalize w.alloc (.cells #[.slice ao T.length cap, .int .i64 room, .slice xo X.length xc] 25) = W1 at HBX HN HB ⊢
  have k0 := (unhide HBX).c 0 rfl
  have k1 := (unhide HBX).c 1 rfl
  go_wp2_with fail
  refine (unhide HN).mono ?_
  rintro e W2 ⟨hN, hb2⟩
  have HB2 := hide ((unhide HB).trans (hb2.mono (unhide HB).size))
  have HBX2 := hide ((unhide HBX).below hb2)
  have hws : w.heap.size ≤ W1.heap.size := (unhide HB).size
  clear k0 k1 HN hb2 HB HBX
  rcases hN with ⟨_, er, her, rfl⟩ | ⟨hr0, hr1, hm, g, lv, L, rfl, hH, hL, hls⟩
  · have t0 : (er != 0) = true := bne_t her
    clear her
    go_wp2
    go_ret
    exact ⟨Or.inl rfl, unhide HB2⟩
  · have HH0 := hide (hH.mono hws)
    have hl32 := made_le hm
    have HLV0 : Hid (Lv T room (newH room lv L) 0) := hide ⟨newH_ok ⟨hr0, hr1⟩ lv (by omega), by simp [newH], rfl, hL, hls⟩
    have HRM : Hid (0 ≤ room ∧ room ≤ 4096 ∧ madeD T = true) := hide ⟨hr0, hr1, hm⟩
    have k2 := (unhide HBX2).c 2 rfl
    clear hH hL hls hr0 hr1 hm hl32
    generalize newH room lv L = h0 at HH0 HLV0
    go_wp2_with fail
    clear k2
    go_loopw [20] (fun i wr => ∃ (k : Nat) (h : Hm), k ≤ X.length ∧ i = .int .i64 (k : Int) ∧ Hid (HpAt w.heap.size wr g h) ∧ Hid (Lv T room h k) ∧ Hid (Below w.heap.size w wr)) (fun i _ => X.length - (intOf i).toNat)
    case atStart => exact ⟨0, h0, by omega, rfl, HH0, HLV0, HB2⟩
    case round =>
      obtain ⟨k, h, hk, rfl, HH, HLV, HBr⟩ := hrel
      clear HH0 HLV0 HB2 HBX2
      by_cases hlt : k < X.length
      · have i1 : ((k : Nat) : Int) < ((X.length : Nat) : Int) := by omega
        have hx := List.getElem?_eq_getElem hlt
        generalize X[k] = x at hx
        obtain ⟨b, off, rfl, ha⟩ := (unhide HXX).below (unhide HBr) k x hx
        have c0 := ha.c0
        have c1 := ha.c1
        have c2 := ha.c2
        have c3 := ha.c3
        have c4 := ha.c4
        have HAC := hide ha
        have hal : Below wr.heap.size wr (wr.alloc (.cells #[.int .i64 x.kd, .int .i64 x.a, .int .i64 x.b, .int .i64 x.c, .slice x.ro x.R.length x.rc] 44)) := (Below.refl _ _).alloc (Nat.le_refl _) _
        have HBA : Hid (Bx (wr.alloc (.cells #[.int .i64 x.kd, .int .i64 x.a, .int .i64 x.b, .int .i64 x.c, .slice x.ro x.R.length x.rc] 44)) wr.heap.size 44 #[.int .i64 x.kd, .int .i64 x.a, .int .i64 x.b, .int .i64 x.c, .slice x.ro x.R.length x.rc]) := hide (heap_alloc_new wr _)
        have HHa := hide ((unhide HH).below hal)
        have HBa := hide ((unhide HBr).trans (hal.mono (unhide HBr).size))
        have HRT := hide ((unhide HAC).rts.below hal)
        have hla : h.last < 4611686018427387904 := by have := (unhide HLV).last; have := unhide HXL; omega
        have HLA := hide hla
        clear ha hx hal hla
        go_upto_region 7 with fail
        clear c0 c1 c2 c3 c4
        generalize wr.alloc (.cells #[.int .i64 x.kd, .int .i64 x.a, .int .i64 x.b, .int .i64 x.c, .slice x.ro x.R.length x.rc] 44) = Wa at HBA HHa HBa HRT ⊢
        generalize wr.heap.size = gb at HBA ⊢
        have b0 := (unhide HBA).c 0 rfl
        have b1 := (unhide HBA).c 1 rfl
        have b2 := (unhide HBA).c 2 rfl
        have b3 := (unhide HBA).c 3 rfl
        have b4 := (unhide HBA).c 4 rfl
        by_cases e0 : x.kd = 0
        · have t0 : (x.kd == 0) = true := by simp [e0]
          clear e0
          go_wp2_with (go_at_call 15; refine (Record_any w.heap.size g h x.a Wa (unhide HHa) (unhide HLV).ok (unhide HBa).size (unhide HLA)).mono ?_; rintro e W4 ⟨h', r, er, rfl, hI, hH4, hK4⟩)
          have HLV2 : Hid (Lv T room h' (k + 1)) := hide (by
            rcases hI with ⟨_, _, rfl, _⟩ | ⟨j, y, hj, hy, hA⟩
            · exact (unhide HLV).more
            · exact (unhide HLV).add hA (Or.inr ⟨j, hj, y, hy, rfl⟩))
          have HH4 := hide hH4
          have HB4 := hide ((unhide HBa).trans hK4.bel)
          clear hI hH4 hK4
          go_wp2
          go_roundw
          case rel => exact ⟨k + 1, h', by omega, by go_num, HH4, HLV2, HB4⟩
          case measure => simp [intOf]; omega
        · have t0 : (x.kd == 0) = false := beq_f e0
          clear e0
          by_cases e1 : x.kd = 1
          · have t1 : (x.kd == 1) = true := by simp [e1]
            clear e1
            go_wp2_with (go_at_call 16; refine (Row_any w.heap.size g h x.a Wa (unhide HHa) (unhide HLV).ok (unhide HBa).size (unhide HLA) (unhide HAC).hi).mono ?_; rintro e W4 ⟨h', r, er, rfl, hI, hH4, hK4⟩)
            have HLV2 : Hid (Lv T room h' (k + 1)) := hide (by
              rcases hI with ⟨_, _, _, rfl⟩ | ⟨j, hj, hA⟩
              · exact (unhide HLV).more
              · exact (unhide HLV).add hA (Or.inl rfl))
            have HH4 := hide hH4
            have HB4 := hide ((unhide HBa).trans hK4.bel)
            clear hI hH4 hK4
            go_wp2
            go_roundw
            case rel => exact ⟨k + 1, h', by omega, by go_num, HH4, HLV2, HB4⟩
            case measure => simp [intOf]; omega
          · have t1 : (x.kd == 1) = false := beq_f e1
            clear e1
            by_cases e3 : x.kd = 3
            · have t3 : (x.kd == 3) = true := by simp [e3]
              clear e3
              go_wp2_with (go_at_call 21; refine (Put_any w.heap.size g h x.a x.b x.c Wa (unhide HHa) (unhide HLV).ok (unhide HBa).size).mono ?_; rintro e W4 ⟨rfl, hH4, hK4⟩)
              have HLV2 := hide ((unhide HLV).put x.a x.b x.c)
              have HH4 := hide hH4
              have HB4 := hide ((unhide HBa).trans hK4.bel)
              clear hH4 hK4
              go_wp2
              go_roundw
              case rel => exact ⟨k + 1, _, by omega, by go_num, HH4, HLV2, HB4⟩
              case measure => simp [intOf]; omega
            · have t3 : (x.kd == 3) = false := beq_f e3
              clear e3
              by_cases e6 : x.kd = 6
              · have t6 : (x.kd == 6) = true := by simp [e6]
                clear e6
                go_wp2_with (go_at_call 20; refine (Collect_any w.heap.size g h x.ro x.rc x.R Wa (unhide HHa) (unhide HLV).ok (unhide HBa).size (unhide HRT) (unhide HAC).fit).mono ?_; rintro e W4 ⟨h', n, er, rfl, hI, hH4, hK4⟩)
                have HLV2 := hide ((unhide HLV).col hI)
                have HH4 := hide hH4
                have HB4 := hide ((unhide HBa).trans hK4.bel)
                clear hI hH4 hK4
                go_wp2
                go_roundw
                case rel => exact ⟨k + 1, h', by omega, by go_num, HH4, HLV2, HB4⟩
                case measure => simp [intOf]; omega
              · have t6 : (x.kd == 6) = false := beq_f e6
                clear e6
                have HLV2 := hide (unhide HLV).more
                go_wp2
                go_roundw
                case rel => exact ⟨k + 1, h, by omega, by go_num, HHa, HLV2, HBa⟩
                case measure => simp [intOf]; omega
      · have i1 : ¬ ((k : Nat) : Int) < ((X.length : Nat) : Int) := by omega
        have HLV2 : Hid (Lv T room h X.length) := hide (by have := unhide HLV; rw [show k = X.length by omega] at this; exact this)
        go_wp2
        go_ret
        exact ⟨Or.inr ⟨(unhide HRM).1, (unhide HRM).2.1, (unhide HRM).2.2, g, h, rfl, unhide HH, unhide HLV2⟩, unhide HBr⟩
end Go.Proofs.YtnkhkppddlpcmaaDoor
