/-
  provisoref16.function, module.checkCerts, module.Check and provisoref16.Check: which class or function of a module is at fault, plainly. Conditions: lengths fit.
-/
import Derived.Test.YtfodkpnnanbaoaaDoorKMd7
import Derived.Test.YtfodkpnnanbaoaaDoorKChkA
namespace Go.Proofs.YtfodkpnnanbaoaaDoor
open Go.RowKit
set_option maxRecDepth 20000

set_option maxRecDepth 20000 in
set_option maxHeartbeats 8000000 in
theorem refFunction_any (m : Md) (i : Nat) (f : Fn) (w : World) (hF : FnsAt w m.fo m.F) (hfz : m.F.length * 80 ≤ 140737488351232) (hi : m.F[i]? = some f) :
    Calls Tryd.prog 24 #[.agg #[.string m.nm, .slice m.ao m.T.length m.cap, .slice m.fo m.F.length m.fc, .slice m.co m.C.length m.cc], .int .i64 (i : Int)] w fun e w' => e = .returned (.int .i64 (fnE m.T.length (m.F.map fnK) i (fnK f))) ∧ Below w.heap.size w w' := by
  obtain ⟨b0, off0, eb0, hfa⟩ := hF i f hi
  have HOK := hide hfa.ok
  have hok := hfa.ok
  have al0 := (Below.refl w.heap.size w).alloc (Nat.le_refl _) (.cells #[.string m.nm, .slice m.ao m.T.length m.cap, .slice m.fo m.F.length m.fc, .slice m.co m.C.length m.cc] 26)
  have al1 := (Below.refl w.heap.size w).alloc (Nat.le_refl _) (.cells #[.string m.nm, .slice m.ao m.T.length m.cap, .slice m.fo m.F.length m.fc, .slice m.co m.C.length m.cc] 26)
  have al := al1.alloc (by simp) (.cells #[.string f.nm, .slice f.sg.po f.sg.ps.length f.sg.pc, .int .u8 (f.sg.rt : Int), .int .i64 f.lo, .slice f.ca f.cd.length f.cc] 45)
  have n1 := heap_alloc_new w (.cells #[.string m.nm, .slice m.ao m.T.length m.cap, .slice m.fo m.F.length m.fc, .slice m.co m.C.length m.cc] 26)
  have n2 := heap_alloc_new (w.alloc (.cells #[.string m.nm, .slice m.ao m.T.length m.cap, .slice m.fo m.F.length m.fc, .slice m.co m.C.length m.cc] 26)) (.cells #[.string f.nm, .slice f.sg.po f.sg.ps.length f.sg.pc, .int .u8 (f.sg.rt : Int), .int .i64 f.lo, .slice f.ca f.cd.length f.cc] 45)
  rw [World.size_alloc] at n2
  have HX : Hid (CB w ((w.alloc (.cells #[.string m.nm, .slice m.ao m.T.length m.cap, .slice m.fo m.F.length m.fc, .slice m.co m.C.length m.cc] 26)).alloc (.cells #[.string f.nm, .slice f.sg.po f.sg.ps.length f.sg.pc, .int .u8 (f.sg.rt : Int), .int .i64 f.lo, .slice f.ca f.cd.length f.cc] 45)) m f) := hide ⟨(((Below.refl _ _).alloc (Nat.le_refl _) _).block w.heap.size (by simp)).trans n1, n2, al⟩
  clear al1 al n1 n2
  have HFS := hide hF
  have HA := hide (hfa.below al0)
  have hil := (List.getElem?_eq_some_iff.1 hi).1
  have HB0 : Hid (Bx (w.alloc (.cells #[.string m.nm, .slice m.ao m.T.length m.cap, .slice m.fo m.F.length m.fc, .slice m.co m.C.length m.cc] 26)) w.heap.size 26 #[.string m.nm, .slice m.ao m.T.length m.cap, .slice m.fo m.F.length m.fc, .slice m.co m.C.length m.cc]) := hide (heap_alloc_new w _)
  have i1 : ((i : Nat) : Int) < ((m.F.length : Nat) : Int) := by omega
  have i0 : (0 : Int) ≤ ((i : Nat) : Int) := by omega
  have hil2 : i < 9223372036854775000 := by omega
  have HEB := hide eb0
  clear hF hfz hok al0 hfa eb0
  go_enter Tryd.func24, Tryd.ntmps24
  go_upto_region 1 with fail
  have q0 : (w.alloc (.cells #[.string m.nm, .slice m.ao m.T.length m.cap, .slice m.fo m.F.length m.fc, .slice m.co m.C.length m.cc] 26)).cell? ⟨w.heap.size, 2, none⟩ = some (.slice (some ⟨b0, off0, none⟩) m.F.length m.fc) := by rw [← unhide HEB]; exact (unhide HB0).c 2 rfl
  have q1 := (unhide HA).c0
  have q2 := (unhide HA).c1
  have q3 := (unhide HA).c2
  have q4 := (unhide HA).c3
  have q5 := (unhide HA).c4
  clear HA HB0
  generalize HG : w.alloc (.cells #[.string m.nm, .slice m.ao m.T.length m.cap, .slice m.fo m.F.length m.fc, .slice m.co m.C.length m.cc] 26) = W0 at q0 q1 q2 q3 q4 q5 HX ⊢
  have hW0 : W0.heap.size = w.heap.size + 1 := by rw [← HG]; simp
  clear HG
  have HSZ := hide hW0
  clear hW0
  go_upto_region 2 with fail
  rw [unhide HSZ]
  clear q0 q1 q2 q3 q4 q5
  generalize W0.alloc (.cells #[.string f.nm, .slice f.sg.po f.sg.ps.length f.sg.pc, .int .u8 (f.sg.rt : Int), .int .i64 f.lo, .slice f.ca f.cd.length f.cc] 45) = W4 at HX ⊢
  have k0 := (unhide HX).f.c 0 rfl
  have HN := hide (refName_any f.nm W4 (by have := (unhide HOK).name; unfold maxLen; omega))
  go_wp2_with fail
  refine (unhide HN).mono ?_
  rintro e W5 ⟨rfl, rfl⟩
  clear k0 HN
  obtain ⟨W3, HW3⟩ : ∃ x, x = W5 := ⟨_, rfl⟩
  subst HW3
  cases hn : nameB f.nm
  · have HR : Hid (fnE m.T.length (m.F.map fnK) i (fnK f) = 6) := hide (by simp [fnE, fnK, hn])
    clear hn
    go_wp2
    go_ret
    exact ⟨ret_int (unhide HR).symm, (unhide HX).bel⟩
  have HNN := hide hn
  clear hn
  go_wp2_with fail
  go_loopw [6] (fun j wr => ∃ k : Nat, k ≤ i ∧ j = .int .i64 (k : Int) ∧ Hid (∀ (j : Nat) x, j < k → (m.F.map fnK)[j]? = some x → (x.nm.toList == f.nm.toList) = false) ∧ ∃ q, wr = W3.drewN q) (fun j _ => i - (intOf j).toNat)
  case atStart => exact ⟨0, by omega, rfl, hide (fun j x h => by omega), 0, rfl⟩
  case round =>
    obtain ⟨k, hk, rfl, HK, q, rfl⟩ := hrel
    obtain ⟨W4, HW4⟩ : ∃ W, Hid (W3.drewN q = W) := ⟨_, hide rfl⟩
    have hbW : Below W3.heap.size W3 W4 := by rw [← unhide HW4]; exact below_drew _ _
    have HX4 := hide ((unhide HX).below hbW)
    rw [unhide HW4]
    clear hbW
    by_cases hlt : k < i
    · have j1 : ((k : Nat) : Int) < ((i : Nat) : Int) := by omega
      have j2 : ((k : Nat) : Int) < ((m.F.length : Nat) : Int) := by omega
      have j0 : (0 : Int) ≤ ((k : Nat) : Int) := by omega
      have hx := List.getElem?_eq_getElem (show k < m.F.length by omega)
      obtain ⟨b, off, eb, hxa⟩ := (unhide HFS).below (unhide HX4).bel k _ hx
      generalize m.F[k]'(by omega) = x at hx hxa
      have hxk : (m.F.map fnK)[k]? = some (fnK x) := by rw [List.getElem?_map, hx]; rfl
      have HXK := hide hxk
      have p0 := hxa.c0
      have p1 := (unhide HX4).f.c 0 rfl
      have p2 := (unhide HX4).m.c 2 rfl
      rw [eb] at p2
      clear hx hxk hxa eb
      cases hq : (x.nm.toList == f.nm.toList)
      · have HK2 : Hid (∀ (j : Nat) x, j < k + 1 → (m.F.map fnK)[j]? = some x → (x.nm.toList == f.nm.toList) = false) := hide (fun j y h1 h2 => by
          by_cases e : j = k
          · rw [e, unhide HXK] at h2
            injection h2 with h2
            rw [← h2]; exact hq
          · exact unhide HK j y (by omega) h2)
        go_wp2
        go_quiet (fail)
        go_wp2
        go_roundw
        case rel => exact ⟨k + 1, by omega, by go_num, HK2, q + nq, by rw [← unhide HW4, drew2]⟩
        case measure => simp [intOf]; omega
      · have hw : twF (m.F.map fnK) i f.nm = true := twF_yes hlt (unhide HXK) hq
        have hn := unhide HNN
        have HR : Hid (fnE m.T.length (m.F.map fnK) i (fnK f) = 20) := hide (by simp [fnE, fnK, hn, hw])
        clear hn hw
        go_wp2
        go_quiet (fail)
        go_wp2
        go_ret
        exact ⟨ret_int (unhide HR).symm, belowD (unhide HX4).bel _⟩
    · have j1 : ¬ ((k : Nat) : Int) < ((i : Nat) : Int) := by omega
      have hw : twF (m.F.map fnK) i f.nm = false := twF_no (fun j x h1 h2 => unhide HK j x (by omega) h2)
      have hn := unhide HNN
      have k3 := (unhide HX4).f.c 1 rfl
      have k4 := (unhide HX4).f.c 2 rfl
      have k5 := (unhide HX4).m.c 1 rfl
      by_cases h8 : 8 < f.sg.ps.length
      · have i8 : ((f.sg.ps.length : Nat) : Int) > 8 := by omega
        have HR : Hid (fnE m.T.length (m.F.map fnK) i (fnK f) = 4) := hide (by simp [fnE, fnK, hn, hw, h8])
        clear hn hw h8
        go_wp2
        go_ret
        exact ⟨ret_int (unhide HR).symm, (unhide HX4).bel⟩
      have i8 : ¬ ((f.sg.ps.length : Nat) : Int) > 8 := by omega
      have HMS := hide (SigMay_any m.ao m.T.length m.cap f.sg.po f.sg.pc f.sg.ps f.sg.rt W4 ((unhide HOK).sg.prm.below (unhide HX4).bel) (unhide HOK).sg.bts (by omega) (unhide HOK).sg.res)
      go_wp2_with fail
      refine (unhide HMS).mono ?_
      rintro e W5 ⟨rfl, hb5⟩
      have HX5 := hide ((unhide HX4).below hb5)
      clear k3 k4 k5 HMS HX4 hb5
      cases hg : sgD m.T.length f.sg.ps f.sg.rt
      · have h8e := h8
        have HR : Hid (fnE m.T.length (m.F.map fnK) i (fnK f) = 22) := hide (by simp [fnE, fnK, hn, hw, h8, hg])
        clear hn hw h8 hg h8e
        go_wp2
        go_ret
        exact ⟨ret_int (unhide HR).symm, (unhide HX5).bel⟩
      have k3 := (unhide HX5).f.c 1 rfl
      have k4 := (unhide HX5).f.c 3 rfl
      have k5 := (unhide HX5).f.c 4 rfl
      by_cases hl1 : f.lo < (f.sg.ps.length : Int)
      · have hl1e := hl1
        have HR : Hid (fnE m.T.length (m.F.map fnK) i (fnK f) = 5) := hide (by simp [fnE, fnK, hn, hw, h8, hg, hl1])
        clear hn hw h8 hg
        go_wp2
        go_ret
        exact ⟨ret_int (unhide HR).symm, (unhide HX5).bel⟩
      by_cases hl2 : 16 < f.lo
      · have i16 : f.lo > 16 := hl2
        have HR : Hid (fnE m.T.length (m.F.map fnK) i (fnK f) = 5) := hide (by simp [fnE, fnK, hn, hw, h8, hg, hl2])
        clear hn hw h8 hg
        go_wp2
        go_ret
        exact ⟨ret_int (unhide HR).symm, (unhide HX5).bel⟩
      have i16 : ¬ f.lo > 16 := hl2
      by_cases hc0 : f.cd.length = 0
      · have c0 : (((f.cd.length : Nat) : Int) == 0) = true := beq_t (by omega)
        have HR : Hid (fnE m.T.length (m.F.map fnK) i (fnK f) = 2) := hide (by simp [fnE, fnK, hn, hw, h8, hg, hl1, hl2, hc0])
        clear hn hw h8 hg hc0
        go_wp2
        go_ret
        exact ⟨ret_int (unhide HR).symm, (unhide HX5).bel⟩
      have c0 : (((f.cd.length : Nat) : Int) == 0) = false := beq_f (by omega)
      by_cases hc1 : 4096 < f.cd.length
      · have c1 : ((f.cd.length : Nat) : Int) > 4096 := by omega
        have hc0' : ¬ f.cd = [] := fun e => hc0 (by rw [e]; rfl)
        have HR : Hid (fnE m.T.length (m.F.map fnK) i (fnK f) = 4) := hide (by simp [fnE, fnK, hn, hw, h8, hg, hl1, hl2, hc0', hc1])
        clear hn hw h8 hg hc0 hc0' hc1
        go_wp2
        go_ret
        exact ⟨ret_int (unhide HR).symm, (unhide HX5).bel⟩
      · have c1 : ¬ ((f.cd.length : Nat) : Int) > 4096 := by omega
        have hc0' : ¬ f.cd = [] := fun e => hc0 (by rw [e]; rfl)
        have HR : Hid (fnE m.T.length (m.F.map fnK) i (fnK f) = 0) := hide (by simp [fnE, fnK, hn, hw, h8, hg, hl1, hl2, hc0', hc1])
        clear hn hw h8 hg hc0 hc0' hc1
        go_wp2
        go_ret
        exact ⟨ret_int (unhide HR).symm, (unhide HX5).bel⟩

/-- The first slice that is too long. -/
def ctR : List (List UInt8) → Nat → Option Nat
  | [], _ => none
  | c :: l, k => if 65535 < c.length then some k else ctR l (k + 1)
def ctE (n : Nat) (C : List (List UInt8)) : Nat × Int := if 0 < C.length ∧ C.length ≠ n then (0, 162) else match ctR C 0 with | some k => (k, 4) | none => (0, 0)
theorem ctR_drop {L : List (List UInt8)} {k : Nat} {x : List UInt8} (h : L[k]? = some x) : ctR (L.drop k) k = if 65535 < x.length then some k else ctR (L.drop (k + 1)) (k + 1) := by
  obtain ⟨hk, e⟩ := List.getElem?_eq_some_iff.1 h
  rw [List.drop_eq_getElem_cons hk, ctR, e]
/-- The first function at fault. -/
def fltR (n : Nat) (K : List Kt) : List Kt → Nat → Option (Nat × Int)
  | [], _ => none
  | x :: l, k => if fnE n K k x = 0 then fltR n K l (k + 1) else some (k, fnE n K k x)
theorem fltR_drop {n : Nat} {K : List Kt} {k : Nat} {x : Kt} (h : K[k]? = some x) : fltR n K (K.drop k) k = if fnE n K k x = 0 then fltR n K (K.drop (k + 1)) (k + 1) else some (k, fnE n K k x) := by
  obtain ⟨hk, e⟩ := List.getElem?_eq_some_iff.1 h
  rw [List.drop_eq_getElem_cons hk, fltR, e]
def restE (n : Nat) (K : List Kt) (C : List (List UInt8)) : Nat × Int := if 64 < K.length then (64, 4) else match fltR n K K 0 with | some x => x | none => ctE K.length C
/-- What a check of a module says. -/
def CkR (m : Md) (n : Nat) (e : Int) : Prop := (nameB m.nm = false ∧ n = 0 ∧ e = 6) ∨ (nameB m.nm = true ∧ IsFirst m.T n e) ∨ (nameB m.nm = true ∧ madeD m.T = true ∧ (n, e) = restE m.T.length (m.F.map fnK) (m.C.map bsC))
theorem ret_two {n k : Nat} {a b : Int} (h : (n, a) = (k, b)) : (Value.tuple #[.int .i64 (n : Int), .int .i64 a]) = .tuple #[.int .i64 (k : Int), .int .i64 b] := by
  injection h with h1 h2
  rw [h1, h2]

set_option maxRecDepth 20000 in
set_option maxHeartbeats 4000000 in
theorem checkCerts_any (m : Md) (w : World) (h : BssAt w m.co m.C) (hz : m.C.length * 24 ≤ 140737488351232) :
    Calls Tryd.prog 21 #[.agg #[.string m.nm, .slice m.ao m.T.length m.cap, .slice m.fo m.F.length m.fc, .slice m.co m.C.length m.cc]] w fun e w' => (∃ (n : Nat) (er : Int), e = .returned (.tuple #[.int .i64 (n : Int), .int .i64 er]) ∧ (n, er) = ctE m.F.length (m.C.map bsC)) ∧ Below w.heap.size w w' := by
  have al := (Below.refl w.heap.size w).alloc (Nat.le_refl _) (.cells #[.string m.nm, .slice m.ao m.T.length m.cap, .slice m.fo m.F.length m.fc, .slice m.co m.C.length m.cc] 26)
  have HB := hide al
  have HC : Hid (Bx (w.alloc (.cells #[.string m.nm, .slice m.ao m.T.length m.cap, .slice m.fo m.F.length m.fc, .slice m.co m.C.length m.cc] 26)) w.heap.size 26 #[.string m.nm, .slice m.ao m.T.length m.cap, .slice m.fo m.F.length m.fc, .slice m.co m.C.length m.cc]) := hide (heap_alloc_new w _)
  have H := hide (h.below al)
  have hl : m.C.length < 9223372036854775000 := by omega
  clear al h hz
  go_enter Tryd.func21, Tryd.ntmps21
  go_upto_region 1 with fail
  generalize (w.alloc (.cells #[.string m.nm, .slice m.ao m.T.length m.cap, .slice m.fo m.F.length m.fc, .slice m.co m.C.length m.cc] 26)) = W1 at HB HC H ⊢
  have k2 := (unhide HC).c 2 rfl
  have k3 := (unhide HC).c 3 rfl
  have HQ : Hid (ctE m.F.length (m.C.map bsC) = if 0 < m.C.length ∧ m.C.length ≠ m.F.length then ((0, 162) : Nat × Int) else match ctR (m.C.map bsC) 0 with | some k => (k, 4) | none => (0, 0)) := hide (by unfold ctE; rw [List.length_map])
  by_cases hc : 0 < m.C.length
  · have c1 : ((m.C.length : Nat) : Int) > 0 := by omega
    by_cases hn : m.C.length = m.F.length
    rotate_left
    · have c2 : (((m.C.length : Nat) : Int) != ((m.F.length : Nat) : Int)) = true := bne_t (by omega)
      have HR : Hid ((0, (162 : Int)) = ctE m.F.length (m.C.map bsC)) := hide (by rw [unhide HQ, if_pos ⟨hc, hn⟩])
      clear hn hc
      go_wp2
      go_ret2
      exact ⟨⟨0, 162, rfl, unhide HR⟩, unhide HB⟩
    have c2 : (((m.C.length : Nat) : Int) != ((m.F.length : Nat) : Int)) = false := bne_f (by omega)
    have HQ2 : Hid (ctE m.F.length (m.C.map bsC) = match ctR (m.C.map bsC) 0 with | some k => (k, 4) | none => (0, 0)) := hide (by rw [unhide HQ, if_neg (fun h => h.2 hn)])
    clear hn hc HQ
    go_wp2_with fail
    go_loopw [22] (fun i wr => ∃ k : Nat, k ≤ m.C.length ∧ i = .int .i64 (k : Int) ∧ Hid (ctR (m.C.map bsC) 0 = ctR ((m.C.map bsC).drop k) k) ∧ wr = W1) (fun i _ => m.C.length - (intOf i).toNat)
    case atStart => exact ⟨0, by omega, rfl, hide rfl, rfl⟩
    case round =>
      obtain ⟨k, hk, rfl, HK, rfl⟩ := hrel
      by_cases hlt : k < m.C.length
      · have i1 : ((k : Nat) : Int) < ((m.C.length : Nat) : Int) := by omega
        have i0 : (0 : Int) ≤ ((k : Nat) : Int) := by omega
        have hx := List.getElem?_eq_getElem hlt
        obtain ⟨b, off, eb, hxa⟩ := (unhide H) k _ hx
        generalize m.C[k] = x at hxa hx
        have hxk : (m.C.map bsC)[k]? = some x.cd := by rw [List.getElem?_map, hx]; rfl
        have HD := hide (ctR_drop hxk)
        have c0 := hxa.c0
        rw [eb] at k3
        rw [eb]
        clear hx hxa hxk eb
        by_cases hq : 65535 < x.cd.length
        · have j1 : ((x.cd.length : Nat) : Int) > 65535 := by omega
          have HR : Hid ((k, (4 : Int)) = ctE m.F.length (m.C.map bsC)) := hide (by rw [unhide HQ2, unhide HK, unhide HD, if_pos hq])
          clear hq
          go_wp2
          go_ret2
          exact ⟨⟨k, 4, rfl, unhide HR⟩, unhide HB⟩
        · have j1 : ¬ ((x.cd.length : Nat) : Int) > 65535 := by omega
          have HK2 : Hid (ctR (m.C.map bsC) 0 = ctR ((m.C.map bsC).drop (k + 1)) (k + 1)) := hide (by rw [unhide HK, unhide HD, if_neg hq])
          clear hq
          go_wp2
          go_roundw
          case rel => exact ⟨k + 1, by omega, by go_num, HK2, trivial⟩
          case measure => simp [intOf]; omega
      · have i1 : ¬ ((k : Nat) : Int) < ((m.C.length : Nat) : Int) := by omega
        have HR : Hid ((0, (0 : Int)) = ctE m.F.length (m.C.map bsC)) := hide (by rw [unhide HQ2, unhide HK, List.drop_eq_nil_of_le (by rw [List.length_map]; omega)]; rfl)
        go_wp2
        go_ret2
        exact ⟨⟨0, 0, rfl, unhide HR⟩, unhide HB⟩
  · have c1 : ¬ ((m.C.length : Nat) : Int) > 0 := by omega
    have HQ2 : Hid (ctE m.F.length (m.C.map bsC) = match ctR (m.C.map bsC) 0 with | some k => (k, 4) | none => (0, 0)) := hide (by rw [unhide HQ, if_neg (fun h => hc h.1)])
    clear hc HQ
    go_wp2_with fail
    go_loopw [22] (fun i wr => ∃ k : Nat, k ≤ m.C.length ∧ i = .int .i64 (k : Int) ∧ Hid (ctR (m.C.map bsC) 0 = ctR ((m.C.map bsC).drop k) k) ∧ wr = W1) (fun i _ => m.C.length - (intOf i).toNat)
    case atStart => exact ⟨0, by omega, rfl, hide rfl, rfl⟩
    case round =>
      obtain ⟨k, hk, rfl, HK, rfl⟩ := hrel
      by_cases hlt : k < m.C.length
      · exact absurd hlt (by omega)
      · have i1 : ¬ ((k : Nat) : Int) < ((m.C.length : Nat) : Int) := by omega
        have HR : Hid ((0, (0 : Int)) = ctE m.F.length (m.C.map bsC)) := hide (by rw [unhide HQ2, unhide HK, List.drop_eq_nil_of_le (by rw [List.length_map]; omega)]; rfl)
        go_wp2
        go_ret2
        exact ⟨⟨0, 0, rfl, unhide HR⟩, unhide HB⟩

set_option maxRecDepth 20000 in
set_option maxHeartbeats 8000000 in
theorem Check16_any (m : Md) (w : World) (h : MdOk w m) (hcap : m.T.length ≤ m.cap) (hfc : m.F.length ≤ m.fc) (hW : WordsAt w) :
    Calls Tryd.prog 6 #[.agg #[.string m.nm, .slice m.ao m.T.length m.cap, .slice m.fo m.F.length m.fc, .slice m.co m.C.length m.cc]] w fun e w' => (∃ (n : Nat) (er : Int), e = .returned (.tuple #[.int .i64 (n : Int), .int .i64 er]) ∧ CkR m n er) ∧ Below w.heap.size w w' := by
  have al := (Below.refl w.heap.size w).alloc (Nat.le_refl _) (.cells #[.string m.nm, .slice m.ao m.T.length m.cap, .slice m.fo m.F.length m.fc, .slice m.co m.C.length m.cc] 26)
  have HB := hide al
  have HC : Hid (Bx (w.alloc (.cells #[.string m.nm, .slice m.ao m.T.length m.cap, .slice m.fo m.F.length m.fc, .slice m.co m.C.length m.cc] 26)) w.heap.size 26 #[.string m.nm, .slice m.ao m.T.length m.cap, .slice m.fo m.F.length m.fc, .slice m.co m.C.length m.cc]) := hide (heap_alloc_new w _)
  have H := hide (h.below al)
  have HWD := hide (hW.below al)
  have hlf : m.F.length < 9223372036854775000 := by have := h.fz; omega
  clear al h
  go_enter Tryd.func6, Tryd.ntmps6
  go_upto_region 1 with fail
  generalize (w.alloc (.cells #[.string m.nm, .slice m.ao m.T.length m.cap, .slice m.fo m.F.length m.fc, .slice m.co m.C.length m.cc] 26)) = W1 at HB HC H HWD ⊢
  have k0 := (unhide HC).c 0 rfl
  have HN := hide (IsName_any m.nm W1 (by have := (unhide H).name; unfold maxLen; omega))
  go_wp2_with fail
  refine (unhide HN).mono ?_
  rintro e W2 ⟨rfl, rfl⟩
  obtain ⟨W1, HW1⟩ : ∃ x, x = W2 := ⟨_, rfl⟩
  subst HW1
  clear HN
  cases hn : nameB m.nm
  · have HR : Hid (CkR m 0 6) := hide (.inl ⟨hn, rfl, rfl⟩)
    clear hn
    go_wp2
    go_ret2
    exact ⟨⟨0, 6, rfl, unhide HR⟩, unhide HB⟩
  have HNN := hide hn
  have HCK := hide (Check_any m.ao m.cap m.T W1 (unhide H).tab hcap (unhide HWD) (unhide H).tz)
  have k1 := (unhide HC).c 1 rfl
  go_wp2_with fail
  refine (unhide HCK).mono ?_
  rintro e W2 ⟨⟨n1, e1, rfl, h1⟩, hb1⟩
  have HF1 := hide h1
  have HB2 := hide ((unhide HB).trans (hb1.mono (unhide HB).size))
  have HC2 := hide ((unhide HC).below hb1)
  have H2 := hide ((unhide H).below hb1)
  clear h1 hb1 hn k0 k1 HCK HB HC H
  by_cases he : e1 = 0
  rotate_left
  · have t1 : (e1 != 0) = true := bne_t he
    have HR : Hid (CkR m n1 e1) := hide (.inr (.inl ⟨unhide HNN, (unhide HF1).resolve_left (fun h => he h.2.1)⟩))
    clear he
    go_wp2
    go_ret2
    exact ⟨⟨n1, e1, rfl, unhide HR⟩, unhide HB2⟩
  have t1 : (e1 != 0) = false := bne_f he
  have HMD : Hid (madeD m.T = true) := hide ((unhide HF1).elim (fun h => h.2.2) (fun h => absurd he h.one.2.1))
  clear he HF1
  have HRR : Hid (∀ n er, (n, er) = restE m.T.length (m.F.map fnK) (m.C.map bsC) → CkR m n er) := hide (fun n er e => .inr (.inr ⟨unhide HNN, unhide HMD, e⟩))
  clear HNN HMD
  have k2 := (unhide HC2).c 2 rfl
  by_cases h64 : 64 < m.F.length
  · have t2 : ((m.F.length : Nat) : Int) > 64 := by omega
    have HR : Hid (CkR m 64 4) := hide (unhide HRR _ _ (by unfold restE; rw [if_pos (by rw [List.length_map]; exact h64)]))
    clear h64
    go_wp2
    go_ret2
    exact ⟨⟨64, 4, rfl, unhide HR⟩, unhide HB2⟩
  have t2 : ¬ ((m.F.length : Nat) : Int) > 64 := by omega
  have HRS : Hid (restE m.T.length (m.F.map fnK) (m.C.map bsC) = match fltR m.T.length (m.F.map fnK) (m.F.map fnK) 0 with | some x => x | none => ctE m.F.length (m.C.map bsC)) := hide (by unfold restE; rw [if_neg (by rw [List.length_map]; exact h64), List.length_map])
  clear h64
  go_wp2_with fail
  go_loopw [30] (fun i wr => ∃ k : Nat, k ≤ m.F.length ∧ i = .int .i64 (k : Int) ∧ Hid (fltR m.T.length (m.F.map fnK) (m.F.map fnK) 0 = fltR m.T.length (m.F.map fnK) ((m.F.map fnK).drop k) k) ∧ Hid (Below W2.heap.size W2 wr)) (fun i _ => m.F.length - (intOf i).toNat)
  case atStart => exact ⟨0, by omega, rfl, hide rfl, hide (Below.refl _ _)⟩
  case round =>
    obtain ⟨k, hk, rfl, HK, HR⟩ := hrel
    have HBW := hide ((unhide HB2).trans ((unhide HR).mono (unhide HB2).size))
    have HCW := hide ((unhide HC2).below (unhide HR))
    have HW := hide ((unhide H2).below (unhide HR))
    clear k2
    have q0 := (unhide HCW).c 0 rfl
    have q1 := (unhide HCW).c 1 rfl
    have q2 := (unhide HCW).c 2 rfl
    have q3 := (unhide HCW).c 3 rfl
    by_cases hlt : k < m.F.length
    · have i1 : ((k : Nat) : Int) < ((m.F.length : Nat) : Int) := by omega
      have i0 : (0 : Int) ≤ ((k : Nat) : Int) := by omega
      have hx := List.getElem?_eq_getElem hlt
      obtain ⟨b, off, eb, hxa⟩ := (unhide HW).fns k _ hx
      generalize m.F[k] = x at hxa hx
      have hxk : (m.F.map fnK)[k]? = some (fnK x) := by rw [List.getElem?_map, hx]; rfl
      have HD := hide (fltR_drop (n := m.T.length) hxk)
      have c0 := hxa.c0
      have c1 := hxa.c1
      have c2 := hxa.c2
      have c3 := hxa.c3
      have c4 := hxa.c4
      have hal : Below wr.heap.size wr (wr.alloc (.cells #[.string x.nm, .slice x.sg.po x.sg.ps.length x.sg.pc, .int .u8 (x.sg.rt : Int), .int .i64 x.lo, .slice x.ca x.cd.length x.cc] 45)) := (Below.refl _ _).alloc (Nat.le_refl _) _
      have HFN := hide (checkFunc_any m k x (wr.alloc (.cells #[.string x.nm, .slice x.sg.po x.sg.ps.length x.sg.pc, .int .u8 (x.sg.rt : Int), .int .i64 x.lo, .slice x.ca x.cd.length x.cc] 45)) ((unhide HW).fns.below hal) (unhide HW).fz hfc hx (hxa.ok.below hal))
      have HAL := hide hal
      have lt0 := World.block_lt_of_cell? wr _ q0
      rw [eb]
      clear hx hxa hxk eb hal
      go_wp2_with fail
      refine (unhide HFN).mono ?_
      rintro e W3 ⟨rfl, hb3⟩
      have HR2 := hide ((unhide HR).trans (((unhide HAL).trans (hb3.mono (unhide HAL).size)).mono (unhide HR).size))
      have HB3 := hide ((unhide HBW).trans (((unhide HAL).trans (hb3.mono (unhide HAL).size)).mono (unhide HBW).size))
      clear hb3 q0 q1 q2 q3
      by_cases hq : fnE m.T.length (m.F.map fnK) k (fnK x) = 0
      · have t3 : (fnE m.T.length (m.F.map fnK) k (fnK x) != 0) = false := bne_f hq
        have HK2 : Hid (fltR m.T.length (m.F.map fnK) (m.F.map fnK) 0 = fltR m.T.length (m.F.map fnK) ((m.F.map fnK).drop (k + 1)) (k + 1)) := hide (by rw [unhide HK, unhide HD, if_pos hq])
        clear hq
        go_wp2
        go_roundw
        case rel => exact ⟨k + 1, by omega, by go_num, HK2, HR2⟩
        case measure => simp [intOf]; omega
      · have t3 : (fnE m.T.length (m.F.map fnK) k (fnK x) != 0) = true := bne_t hq
        have HRF : Hid (CkR m k (fnE m.T.length (m.F.map fnK) k (fnK x))) := hide (unhide HRR _ _ (by rw [unhide HRS, unhide HK, unhide HD, if_neg hq]))
        clear hq
        generalize fnE m.T.length (m.F.map fnK) k (fnK x) = ee at HRF t3 ⊢
        go_wp2
        go_ret2
        exact ⟨⟨k, ee, rfl, unhide HRF⟩, unhide HB3⟩
    · have i1 : ¬ ((k : Nat) : Int) < ((m.F.length : Nat) : Int) := by omega
      have HQQ : Hid (restE m.T.length (m.F.map fnK) (m.C.map bsC) = ctE m.F.length (m.C.map bsC)) := hide (by rw [unhide HRS, unhide HK, List.drop_eq_nil_of_le (by rw [List.length_map]; omega)]; rfl)
      have HCT := hide (checkCerts_any m wr (unhide HW).cts (unhide HW).cz)
      go_wp2_with fail
      refine (unhide HCT).mono ?_
      rintro e W3 ⟨⟨n3, e3, rfl, h3⟩, hb3⟩
      have HB3 := hide ((unhide HBW).trans (hb3.mono (unhide HBW).size))
      have HRF : Hid (CkR m n3 e3) := hide (unhide HRR _ _ (by rw [unhide HQQ]; exact h3))
      clear h3 hb3
      go_wp2
      go_ret2
      exact ⟨⟨n3, e3, rfl, unhide HRF⟩, unhide HB3⟩


set_option maxRecDepth 20000 in
set_option maxHeartbeats 8000000 in
theorem refCheck16_any (m : Md) (w : World) (h : MdOk w m) :
    Calls Tryd.prog 7 #[.agg #[.string m.nm, .slice m.ao m.T.length m.cap, .slice m.fo m.F.length m.fc, .slice m.co m.C.length m.cc]] w fun e w' => (∃ (n : Nat) (er : Int), e = .returned (.tuple #[.int .i64 (n : Int), .int .i64 er]) ∧ CkR m n er) ∧ Below w.heap.size w w' := by
  have al := (Below.refl w.heap.size w).alloc (Nat.le_refl _) (.cells #[.string m.nm, .slice m.ao m.T.length m.cap, .slice m.fo m.F.length m.fc, .slice m.co m.C.length m.cc] 26)
  have HB := hide al
  have HC : Hid (Bx (w.alloc (.cells #[.string m.nm, .slice m.ao m.T.length m.cap, .slice m.fo m.F.length m.fc, .slice m.co m.C.length m.cc] 26)) w.heap.size 26 #[.string m.nm, .slice m.ao m.T.length m.cap, .slice m.fo m.F.length m.fc, .slice m.co m.C.length m.cc]) := hide (heap_alloc_new w _)
  have H := hide (h.below al)
  have hlf : m.F.length < 9223372036854775000 := by have := h.fz; omega
  clear al h
  go_enter Tryd.func7, Tryd.ntmps7
  go_upto_region 1 with fail
  generalize (w.alloc (.cells #[.string m.nm, .slice m.ao m.T.length m.cap, .slice m.fo m.F.length m.fc, .slice m.co m.C.length m.cc] 26)) = W1 at HB HC H ⊢
  have k0 := (unhide HC).c 0 rfl
  have HN := hide (refName_any m.nm W1 (by have := (unhide H).name; unfold maxLen; omega))
  go_wp2_with fail
  refine (unhide HN).mono ?_
  rintro e W2 ⟨rfl, rfl⟩
  obtain ⟨W1, HW1⟩ : ∃ x, x = W2 := ⟨_, rfl⟩
  subst HW1
  clear HN
  cases hn : nameB m.nm
  · have HR : Hid (CkR m 0 6) := hide (.inl ⟨hn, rfl, rfl⟩)
    clear hn
    go_wp2
    go_ret2
    exact ⟨⟨0, 6, rfl, unhide HR⟩, unhide HB⟩
  have HNN := hide hn
  have HCK := hide (refCheck_any m.ao m.cap m.T W1 (unhide H).tab (unhide H).tz)
  have k1 := (unhide HC).c 1 rfl
  go_wp2_with fail
  refine (unhide HCK).mono ?_
  rintro e W2 ⟨⟨n1, e1, rfl, h1⟩, hb1⟩
  have HF1 := hide h1
  have HB2 := hide ((unhide HB).trans (hb1.mono (unhide HB).size))
  have HC2 := hide ((unhide HC).below hb1)
  have H2 := hide ((unhide H).below hb1)
  clear h1 hb1 hn k0 k1 HCK HB HC H
  by_cases he : e1 = 0
  rotate_left
  · have t1 : (e1 != 0) = true := bne_t he
    have HR : Hid (CkR m n1 e1) := hide (.inr (.inl ⟨unhide HNN, (unhide HF1).resolve_left (fun h => he h.2.1)⟩))
    clear he
    go_wp2
    go_ret2
    exact ⟨⟨n1, e1, rfl, unhide HR⟩, unhide HB2⟩
  have t1 : (e1 != 0) = false := bne_f he
  have HMD : Hid (madeD m.T = true) := hide ((unhide HF1).elim (fun h => h.2.2) (fun h => absurd he h.one.2.1))
  clear he HF1
  have HRR : Hid (∀ n er, (n, er) = restE m.T.length (m.F.map fnK) (m.C.map bsC) → CkR m n er) := hide (fun n er e => .inr (.inr ⟨unhide HNN, unhide HMD, e⟩))
  clear HNN HMD
  have k2 := (unhide HC2).c 2 rfl
  by_cases h64 : 64 < m.F.length
  · have t2 : ((m.F.length : Nat) : Int) > 64 := by omega
    have HR : Hid (CkR m 64 4) := hide (unhide HRR _ _ (by unfold restE; rw [if_pos (by rw [List.length_map]; exact h64)]))
    clear h64
    go_wp2
    go_ret2
    exact ⟨⟨64, 4, rfl, unhide HR⟩, unhide HB2⟩
  have t2 : ¬ ((m.F.length : Nat) : Int) > 64 := by omega
  have HRS : Hid (restE m.T.length (m.F.map fnK) (m.C.map bsC) = match fltR m.T.length (m.F.map fnK) (m.F.map fnK) 0 with | some x => x | none => ctE m.F.length (m.C.map bsC)) := hide (by unfold restE; rw [if_neg (by rw [List.length_map]; exact h64), List.length_map])
  clear h64
  go_wp2_with fail
  go_loopw [6] (fun i wr => ∃ k : Nat, k ≤ m.F.length ∧ i = .int .i64 (k : Int) ∧ Hid (fltR m.T.length (m.F.map fnK) (m.F.map fnK) 0 = fltR m.T.length (m.F.map fnK) ((m.F.map fnK).drop k) k) ∧ Hid (Below W2.heap.size W2 wr)) (fun i _ => m.F.length - (intOf i).toNat)
  case atStart => exact ⟨0, by omega, rfl, hide rfl, hide (Below.refl _ _)⟩
  case round =>
    obtain ⟨k, hk, rfl, HK, HR⟩ := hrel
    have HBW := hide ((unhide HB2).trans ((unhide HR).mono (unhide HB2).size))
    have HCW := hide ((unhide HC2).below (unhide HR))
    have HW := hide ((unhide H2).below (unhide HR))
    clear k2
    have q0 := (unhide HCW).c 0 rfl
    have q1 := (unhide HCW).c 1 rfl
    have q2 := (unhide HCW).c 2 rfl
    have q3 := (unhide HCW).c 3 rfl
    by_cases hlt : k < m.F.length
    · have i1 : ((k : Nat) : Int) < ((m.F.length : Nat) : Int) := by omega
      have i0 : (0 : Int) ≤ ((k : Nat) : Int) := by omega
      have hx := List.getElem?_eq_getElem hlt
      obtain ⟨b, off, eb, hxa⟩ := (unhide HW).fns k _ hx
      generalize m.F[k] = x at hxa hx
      have hxk : (m.F.map fnK)[k]? = some (fnK x) := by rw [List.getElem?_map, hx]; rfl
      have HD := hide (fltR_drop (n := m.T.length) hxk)
      have HFN := hide (refFunction_any m k x wr (unhide HW).fns (unhide HW).fz hx)
      clear hx hxa hxk eb
      go_wp2_with fail
      refine (unhide HFN).mono ?_
      rintro e W3 ⟨rfl, hb3⟩
      have HR2 := hide ((unhide HR).trans (hb3.mono (unhide HR).size))
      have HB3 := hide ((unhide HBW).trans (hb3.mono (unhide HBW).size))
      clear hb3 q0 q1 q2 q3
      by_cases hq : fnE m.T.length (m.F.map fnK) k (fnK x) = 0
      · have t3 : (fnE m.T.length (m.F.map fnK) k (fnK x) != 0) = false := bne_f hq
        have HK2 : Hid (fltR m.T.length (m.F.map fnK) (m.F.map fnK) 0 = fltR m.T.length (m.F.map fnK) ((m.F.map fnK).drop (k + 1)) (k + 1)) := hide (by rw [unhide HK, unhide HD, if_pos hq])
        clear hq
        go_wp2
        go_roundw
        case rel => exact ⟨k + 1, by omega, by go_num, HK2, HR2⟩
        case measure => simp [intOf]; omega
      · have t3 : (fnE m.T.length (m.F.map fnK) k (fnK x) != 0) = true := bne_t hq
        have HRF : Hid (CkR m k (fnE m.T.length (m.F.map fnK) k (fnK x))) := hide (unhide HRR _ _ (by rw [unhide HRS, unhide HK, unhide HD, if_neg hq]))
        clear hq
        generalize fnE m.T.length (m.F.map fnK) k (fnK x) = ee at HRF t3 ⊢
        go_wp2
        go_ret2
        exact ⟨⟨k, ee, rfl, unhide HRF⟩, unhide HB3⟩
    · have i1 : ¬ ((k : Nat) : Int) < ((m.F.length : Nat) : Int) := by omega
      have HQQ : Hid (restE m.T.length (m.F.map fnK) (m.C.map bsC) = ctE m.F.length (m.C.map bsC)) := hide (by rw [unhide HRS, unhide HK, List.drop_eq_nil_of_le (by rw [List.length_map]; omega)]; rfl)
      have HQ : Hid (ctE m.F.length (m.C.map bsC) = if 0 < m.C.length ∧ m.C.length ≠ m.F.length then ((0, 162) : Nat × Int) else match ctR (m.C.map bsC) 0 with | some k => (k, 4) | none => (0, 0)) := hide (by unfold ctE; rw [List.length_map])
      have k3 := q3
      have hlc : m.C.length < 9223372036854775000 := by have := (unhide HW).cz; omega
      clear q3 HK
      obtain ⟨WZ, HWZ⟩ : ∃ x, x = wr := ⟨_, rfl⟩
      subst HWZ
      by_cases hc : 0 < m.C.length
      · have c1 : ((m.C.length : Nat) : Int) > 0 := by omega
        by_cases hn : m.C.length = m.F.length
        rotate_left
        · have c2 : (((m.C.length : Nat) : Int) != ((m.F.length : Nat) : Int)) = true := bne_t (by omega)
          have HR0 : Hid ((0, (162 : Int)) = ctE m.F.length (m.C.map bsC)) := hide (by rw [unhide HQ, if_pos ⟨hc, hn⟩])
          clear hn hc
          go_wp2
          go_ret2
          exact ⟨⟨0, 162, rfl, unhide HRR _ _ (by rw [unhide HQQ]; exact unhide HR0)⟩, unhide HBW⟩
        have c2 : (((m.C.length : Nat) : Int) != ((m.F.length : Nat) : Int)) = false := bne_f (by omega)
        have HQ2 : Hid (ctE m.F.length (m.C.map bsC) = match ctR (m.C.map bsC) 0 with | some k => (k, 4) | none => (0, 0)) := hide (by rw [unhide HQ, if_neg (fun h => h.2 hn)])
        clear hn hc HQ
        go_wp2_with fail
        go_loopw [8] (fun i wr => ∃ k : Nat, k ≤ m.C.length ∧ i = .int .i64 (k : Int) ∧ Hid (ctR (m.C.map bsC) 0 = ctR ((m.C.map bsC).drop k) k) ∧ wr = WZ) (fun i _ => m.C.length - (intOf i).toNat)
        case atStart => exact ⟨0, by omega, rfl, hide rfl, rfl⟩
        case round =>
          obtain ⟨k, hk, rfl, HK, rfl⟩ := hrel
          by_cases hlt : k < m.C.length
          · have i1 : ((k : Nat) : Int) < ((m.C.length : Nat) : Int) := by omega
            have i0 : (0 : Int) ≤ ((k : Nat) : Int) := by omega
            have hx := List.getElem?_eq_getElem hlt
            obtain ⟨b, off, eb, hxa⟩ := (unhide HW).cts k _ hx
            generalize m.C[k] = x at hxa hx
            have hxk : (m.C.map bsC)[k]? = some x.cd := by rw [List.getElem?_map, hx]; rfl
            have HD := hide (ctR_drop hxk)
            have c0 := hxa.c0
            rw [eb] at k3
            skip
            clear hx hxa hxk eb
            by_cases hq : 65535 < x.cd.length
            · have j1 : ((x.cd.length : Nat) : Int) > 65535 := by omega
              have HR0 : Hid ((k, (4 : Int)) = ctE m.F.length (m.C.map bsC)) := hide (by rw [unhide HQ2, unhide HK, unhide HD, if_pos hq])
              clear hq
              go_wp2
              go_ret2
              exact ⟨⟨k, 4, rfl, unhide HRR _ _ (by rw [unhide HQQ]; exact unhide HR0)⟩, unhide HBW⟩
            · have j1 : ¬ ((x.cd.length : Nat) : Int) > 65535 := by omega
              have HK2 : Hid (ctR (m.C.map bsC) 0 = ctR ((m.C.map bsC).drop (k + 1)) (k + 1)) := hide (by rw [unhide HK, unhide HD, if_neg hq])
              clear hq
              go_wp2
              go_roundw
              case rel => exact ⟨k + 1, by omega, by go_num, HK2, trivial⟩
              case measure => simp [intOf]; omega
          · have i1 : ¬ ((k : Nat) : Int) < ((m.C.length : Nat) : Int) := by omega
            have HR0 : Hid ((0, (0 : Int)) = ctE m.F.length (m.C.map bsC)) := hide (by rw [unhide HQ2, unhide HK, List.drop_eq_nil_of_le (by rw [List.length_map]; omega)]; rfl)
            go_wp2
            go_ret2
            exact ⟨⟨0, 0, rfl, unhide HRR _ _ (by rw [unhide HQQ]; exact unhide HR0)⟩, unhide HBW⟩
      · have c1 : ¬ ((m.C.length : Nat) : Int) > 0 := by omega
        have HQ2 : Hid (ctE m.F.length (m.C.map bsC) = match ctR (m.C.map bsC) 0 with | some k => (k, 4) | none => (0, 0)) := hide (by rw [unhide HQ, if_neg (fun h => hc h.1)])
        clear hc HQ
        go_wp2_with fail
        go_loopw [8] (fun i wr => ∃ k : Nat, k ≤ m.C.length ∧ i = .int .i64 (k : Int) ∧ Hid (ctR (m.C.map bsC) 0 = ctR ((m.C.map bsC).drop k) k) ∧ wr = WZ) (fun i _ => m.C.length - (intOf i).toNat)
        case atStart => exact ⟨0, by omega, rfl, hide rfl, rfl⟩
        case round =>
          obtain ⟨k, hk, rfl, HK, rfl⟩ := hrel
          by_cases hlt : k < m.C.length
          · exact absurd hlt (by omega)
          · have i1 : ¬ ((k : Nat) : Int) < ((m.C.length : Nat) : Int) := by omega
            have HR0 : Hid ((0, (0 : Int)) = ctE m.F.length (m.C.map bsC)) := hide (by rw [unhide HQ2, unhide HK, List.drop_eq_nil_of_le (by rw [List.length_map]; omega)]; rfl)
            go_wp2
            go_ret2
            exact ⟨⟨0, 0, rfl, unhide HRR _ _ (by rw [unhide HQQ]; exact unhide HR0)⟩, unhide HBW⟩
end Go.Proofs.YtfodkpnnanbaoaaDoor
