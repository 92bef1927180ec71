/-
  The contract of provisoplain.Module: a module's copy in memory of its own, the same but for where it lies. Conditions: lengths fit.
-/
import Derived.Test.YtgelbihdcfgjcaaDoorJMD
namespace Go.Proofs.YtgelbihdcfgjcaaDoor
open Go.RowKit
set_option maxRecDepth 20000

theorem ownCap {w : World} {base : Nat} {t : TypeId} {s : Nat} {va : Option Addr} {vc n : Nat} {cs : List Value} (h : w.ownsRow base t s (.slice va n vc) n cs) : n ≤ vc := by
  rcases h.2 with ⟨h1, h2⟩ | ⟨g, cap, cur, e, _, _, hn, _⟩
  · omega
  · injection e with _ _ e3
    omega
theorem grownBy_sets4 (W : World) (b : Nat) (x y z u : Value) : W.grownBy ((((W.setCell ⟨b, 0, none⟩ x).setCell ⟨b, 1, none⟩ y).setCell ⟨b, 2, none⟩ z).setCell ⟨b, 3, none⟩ u) (some b) :=
  grownBy_more (grownBy_sets W b x y z) (grownBy_set _ b 3 u) (fun q e => .inr (by injection e with e; omega))
set_option maxRecDepth 20000 in
set_option maxHeartbeats 8000000 in
theorem Module_full (m : Md) (w : World) (h : MdOk w m) :
    Calls Tryd.prog 6 #[.agg #[.string m.nm, .slice m.ao m.T.length m.cap, .slice m.fo m.F.length m.fc, .slice m.co m.C.length m.cc]] w fun e w' => ∃ y : Md, e = .returned (.agg #[.string y.nm, .slice y.ao y.T.length y.cap, .slice y.fo y.F.length y.fc, .slice y.co y.C.length y.cc]) ∧ MdOk w' y ∧ SameMd m y ∧ (y.T.length ≤ y.cap ∧ y.F.length ≤ y.fc) ∧ (∀ b off, y.co = some ⟨b, off, none⟩ → w.heap.size ≤ b) ∧ (∀ x ∈ y.C, x.ca = none → x.cc = 0) ∧ (∀ x ∈ y.F, x.cd.length ≤ x.cc) ∧ Below w.heap.size w w' := by
  obtain ⟨i0, hi0, hz0, hz1, hz2⟩ := info_parts infoFn
  obtain ⟨i1, hi1, hy0, hy1, hy2⟩ := info_parts infoBs
  have al1 := (Below.refl w.heap.size w).alloc (Nat.le_refl _) (.cells #[.string m.nm, .slice m.ao m.T.length m.cap, .slice m.fo m.F.length m.fc, .slice m.co m.C.length m.cc] 26)
  have al := al1.alloc (by simp) (.cells #[.string ⟨#[]⟩, .slice none 0 0, .slice none 0 0, .slice none 0 0] 26)
  have HB := hide al
  have n1 := heap_alloc_new w (.cells #[.string m.nm, .slice m.ao m.T.length m.cap, .slice m.fo m.F.length m.fc, .slice m.co m.C.length m.cc] 26)
  have n2 := heap_alloc_new (w.alloc (.cells #[.string m.nm, .slice m.ao m.T.length m.cap, .slice m.fo m.F.length m.fc, .slice m.co m.C.length m.cc] 26)) (.cells #[.string ⟨#[]⟩, .slice none 0 0, .slice none 0 0, .slice none 0 0] 26)
  rw [World.size_alloc] at n2
  have HC1 : Hid (Bx ((w.alloc (.cells #[.string m.nm, .slice m.ao m.T.length m.cap, .slice m.fo m.F.length m.fc, .slice m.co m.C.length m.cc] 26)).alloc (.cells #[.string ⟨#[]⟩, .slice none 0 0, .slice none 0 0, .slice none 0 0] 26)) w.heap.size 26 #[.string m.nm, .slice m.ao m.T.length m.cap, .slice m.fo m.F.length m.fc, .slice m.co m.C.length m.cc]) := hide ((((Below.refl _ _).alloc (Nat.le_refl _) _).block w.heap.size (by simp)).trans n1)
  have HC2 : Hid (Bx ((w.alloc (.cells #[.string m.nm, .slice m.ao m.T.length m.cap, .slice m.fo m.F.length m.fc, .slice m.co m.C.length m.cc] 26)).alloc (.cells #[.string ⟨#[]⟩, .slice none 0 0, .slice none 0 0, .slice none 0 0] 26)) (w.heap.size + 1) 26 #[.string ⟨#[]⟩, .slice none 0 0, .slice none 0 0, .slice none 0 0]) := hide n2
  have hsz : ((w.alloc (.cells #[.string m.nm, .slice m.ao m.T.length m.cap, .slice m.fo m.F.length m.fc, .slice m.co m.C.length m.cc] 26)).alloc (.cells #[.string ⟨#[]⟩, .slice none 0 0, .slice none 0 0, .slice none 0 0] 26)).heap.size = w.heap.size + 2 := by simp
  have H := hide h
  have hlf : m.F.length < 9223372036854775000 := by have := h.fz; omega
  have hlc : m.C.length < 9223372036854775000 := by have := h.cz; omega
  clear al1 al n1 n2 h
  go_enter Tryd.func6, Tryd.ntmps6
  go_upto_region 1 with fail
  generalize ((w.alloc (.cells #[.string m.nm, .slice m.ao m.T.length m.cap, .slice m.fo m.F.length m.fc, .slice m.co m.C.length m.cc] 26)).alloc (.cells #[.string ⟨#[]⟩, .slice none 0 0, .slice none 0 0, .slice none 0 0] 26)) = W1 at HB HC1 HC2 hsz ⊢
  go_cut [3] (fun s3 wx => ∃ g ga gc G, s3 = .pointer (some ⟨g, 0, none⟩) ∧ Hid (MMid w wx m g ga gc G))
  case first =>
    have k0 := (unhide HC1).c 0 rfl
    have k1 := (unhide HC1).c 1 rfl
    have hlt : w.heap.size < W1.heap.size := by omega
    have HSZ := hide hsz
    clear hsz
    have ne0 := World.new_ne W1 _ k0
    have ne1 := World.new_ne W1 _ k1
    go_region_held3 (fun w' => w'.cell? ⟨w.heap.size, 0, none⟩ = some (.string m.nm) ∧ w'.cell? ⟨w.heap.size, 1, none⟩ = some (.slice m.ao m.T.length m.cap)) (first | exact ⟨q0, q1⟩ | go_keep) (first | (go_at_call 17; refine (Classes_cap m.ao m.cap m.T _ (by exact (unhide H).tab.below (by first | exact belowD (unhide HB) 1 | exact (belowD (unhide HB) 1).alloc (by have := unhide HSZ; simp; omega) _)) (unhide H).tz).mono ?_; rintro e w2 ⟨ga, gc, G, rfl, hG, hS, hB2, hcp⟩; have q0 : w2.cell? ⟨w.heap.size, 0, none⟩ = some (.string m.nm) := (hB2.cell (p := ⟨w.heap.size, 0, none⟩) (by have := unhide HSZ; simp; omega)).trans (by first | exact k0 | exact (((Below.refl W1.heap.size W1).alloc (Nat.le_refl _) _).cell (p := ⟨w.heap.size, 0, none⟩) hlt).trans k0); have q1 : w2.cell? ⟨w.heap.size, 1, none⟩ = some (.slice m.ao m.T.length m.cap) := (hB2.cell (p := ⟨w.heap.size, 1, none⟩) (by have := unhide HSZ; simp; omega)).trans (by first | exact k1 | exact (((Below.refl W1.heap.size W1).alloc (Nat.le_refl _) _).cell (p := ⟨w.heap.size, 1, none⟩) hlt).trans k1); have ne3 := World.new_ne w2 _ q0; have ne4 := World.new_ne w2 _ q1; (first | (have hE : Bx w2 W1.heap.size 26 #[.string ⟨#[]⟩, .slice none 0 0, .slice none 0 0, .slice none 0 0] := (hB2.block _ (by simp)).trans (heap_alloc_new W1 _); have e0 := hE.c 0 rfl; have e1 := hE.c 1 rfl; have e2 := hE.c 2 rfl; have e3 := hE.c 3 rfl; have f0 := hE.f 0; have f1 := hE.f 1; have f2 := hE.f 2; have f3 := hE.f 3) | skip)) | fail)
    · go_wp2_with fail
      go_meet
      have hB3 : Below W1.heap.size W1 w2 := (show Below W1.heap.size W1 W1.drew from belowD (Below.refl _ _) 1).trans hB2
      have hall := (Below.refl w2.heap.size w2).alloc (Nat.le_refl _) (.cells #[.string m.nm, .slice ga G.length gc, .slice none 0 0, .slice none 0 0] 26)
      have hsz := unhide HSZ
      have hs2 := hB3.size
      exact ⟨w2.heap.size, ga, gc, G, rfl, hide ⟨heap_alloc_new w2 _, by omega, ((unhide HC2).below hB3).below hall, ((unhide HC1).below hB3).below hall, hG.below hall, hS, hcp, (unhide HB).trans ((hB3.trans (hall.mono hs2)).mono (unhide HB).size)⟩⟩
    · go_wp2_with fail
      go_meet
      have hsz := unhide HSZ
      have hall := (Below.refl W1.heap.size W1).alloc (Nat.le_refl _) (.cells #[.string ⟨#[]⟩, .slice none 0 0, .slice none 0 0, .slice none 0 0] 26)
      have hB3 : Below W1.heap.size W1 w2 := (show Below W1.heap.size W1 (W1.drew.alloc (.cells #[.string ⟨#[]⟩, .slice none 0 0, .slice none 0 0, .slice none 0 0] 26)) from (show Below W1.heap.size W1 W1.drew from belowD (Below.refl _ _) 1).alloc (Nat.le_refl _) _).trans (hB2.mono (by simp))
      have hs2 := hB3.size
      have hg := grownBy_sets4 w2 W1.heap.size (.string m.nm) (.slice ga G.length gc) (.slice none 0 0) (.slice none 0 0)
      have hb4 := (unhide HB).trans (hB3.mono (unhide HB).size)
      refine ⟨W1.heap.size, ga, gc, G, rfl, hide ⟨(((hE.set 0 (.string m.nm) (cs' := #[.string m.nm, .slice none 0 0, .slice none 0 0, .slice none 0 0]) rfl).set 1 (.slice ga G.length gc) (cs' := #[.string m.nm, .slice ga G.length gc, .slice none 0 0, .slice none 0 0]) rfl).set 2 (.slice none 0 0) (cs' := #[.string m.nm, .slice ga G.length gc, .slice none 0 0, .slice none 0 0]) rfl).set 3 (.slice none 0 0) rfl, by omega, ?_, ?_, hG.noNum hg (NoNum.of4 hE), hS, hcp, ?_⟩⟩
      · exact ((unhide HC2).below hB3).grown hg (fun e => by injection e with e; omega)
      · exact ((unhide HC1).below hB3).grown hg (fun e => by injection e with e; omega)
      · exact hb4.grown hg hb4.size (fun q e => by injection e with e; omega)
  case rest =>
    obtain ⟨g, ga, gc, G, rfl, HM⟩ := hcut
    clear HB HC1 HC2 hsz W1
    have x1 := (unhide HM).par.c 2 rfl
    go_wp2_with fail
    clear x1
    have HGE := hide (unhide HM).ge
    have HGL := hide (unhide HM).box.lt
    have HBC := hide (unhide HM).bel
    obtain ⟨tv, HTV⟩ : ∃ tv, Hid (Value.slice ga G.length gc = tv) := ⟨_, hide rfl⟩
    go_loopw [17] (fun i wr => ∃ (k : Nat) (N : List Fn) (v : Value), k ≤ m.F.length ∧ i = .int .i64 (k : Int) ∧ Hid (N.length = k) ∧ Hid (FRun wc wr m.F (.string m.nm) tv (.slice none 0 0) g v N)) (fun i _ => m.F.length - (intOf i).toNat)
    case atStart => exact ⟨0, [], .slice none 0 0, by omega, rfl, hide rfl, hide ⟨by rw [← unhide HTV]; exact (unhide HM).box, World.ownsRow_nil _ _ _ _, fun i x y _ hy => by simp at hy, ⟨rfl, rfl, rfl, Nat.le_refl _, fun _ _ _ => rfl⟩⟩⟩
    case round =>
      obtain ⟨k, N, v, hk, rfl, HK, HR⟩ := hrel
      have HBr : Hid (Below w.heap.size w wr) := hide ((unhide HBC).grown (unhide HR).grw (unhide HBC).size (fun q e => by have := unhide HGE; injection e with e; omega))
      by_cases hlt : k < m.F.length
      · have j1 : ((k : Nat) : Int) < ((m.F.length : Nat) : Int) := by omega
        have hx := List.getElem?_eq_getElem hlt
        obtain ⟨b, off, eao, hxa⟩ := (unhide H).fns.below (unhide HBr) k _ hx
        rw [eao]
        have c0 := hxa.c0
        have c1 := hxa.c1
        have c2 := hxa.c2
        have c3 := hxa.c3
        have c4 := hxa.c4
        have HX := hide hx
        have HXA := hide hxa.ok
        generalize m.F[k] = x at HX HXA c0 c1 c2 c3 c4
        clear hx hxa
        go_upto_region 5 with fail
        obtain ⟨va, vc, rfl⟩ := ownSlice (unhide HR).own
        obtain ⟨FB, HFB⟩ : ∃ FB, Hid (wr.heap.size = FB) := ⟨_, hide rfl⟩
        obtain ⟨wa, HWa⟩ : ∃ wa, Hid (wr.alloc (Obj.cells #[.string x.nm, .slice x.sg.po x.sg.ps.length x.sg.pc, .int .u8 (x.sg.rt : Int), .int .i64 x.lo, .slice x.ca x.cd.length x.cc] 40) = wa) := ⟨_, hide rfl⟩
        have hBa : Below wr.heap.size wr wa := by rw [← unhide HWa]; exact (Below.refl _ _).alloc (Nat.le_refl _) _
        have hrow : Bx wa FB 40 #[.string x.nm, .slice x.sg.po x.sg.ps.length x.sg.pc, .int .u8 (x.sg.rt : Int), .int .i64 x.lo, .slice x.ca x.cd.length x.cc] := by rw [← unhide HWa, ← unhide HFB]; exact heap_alloc_new wr _
        rw [unhide HWa, unhide HFB]
        have s0 := hrow.c 0 rfl
        have s1 := hrow.c 1 rfl
        have s2 := hrow.c 2 rfl
        have s3 := hrow.c 3 rfl
        have s4 := hrow.c 4 rfl
        have hgr := (unhide HR).box.lt
        have hba := (unhide HR).box.below hBa
        have a1 := hba.c 2 rfl
        have hga := hba.lt
        have HBA := hide hBa
        have HPA := hide (((unhide HXA).below hBa).below (show Below wa.heap.size wa wa.drew from belowD (Below.refl _ _) 1))
        have HVG : Hid ((Value.slice va N.length vc).ownBlock ≠ some g) := hide (fun e => by have := (World.ownsRow.lt (unhide HR).own g e).1; have := unhide HGL; omega)
        have hwc : wc.heap.size ≤ wr.heap.size := (unhide HR).grw.size
        have HMk : Hid (N.length + 1 ≤ maxLen ∧ (N.length + 1) * 80 ≤ 140737488355328) := hide (by have := unhide HK; have := (unhide H).fz; unfold maxLen; omega)
        clear c0 c1 c2 c3 c4 hBa hrow hba HWa
        go_region_law (first | (go_simp; go_at_call 18; refine (Func_any x wa.drew (unhide HPA)).mono ?_; rintro e w2 ⟨y, rfl, hC2, hB2⟩; have q1 : w2.cell? ⟨g, 2, none⟩ = some (.slice va N.length vc) := (hB2.cell (p := ⟨g, 2, none⟩) hga).trans a1; have ne1 := World.new_ne w2 _ q1; have hB3 : Below wr.heap.size wr w2 := (unhide HBA).trans ((show Below wa.heap.size wa w2 from (show Below wa.heap.size wa wa.drew from belowD (Below.refl _ _) 1).trans hB2).mono (unhide HBA).size); have hOd : (w2.alloc (.cells #[.string y.nm, .slice y.sg.po y.sg.ps.length y.sg.pc, .int .u8 (y.sg.rt : Int), .int .i64 y.lo, .slice y.ca y.cd.length y.cc] 40)).ownsRow wc.heap.size 40 5 (.slice va N.length vc) N.length (fnvals N) := rowBelow (unhide HR).own (hB3.alloc hB3.size _); have HC2 := hide hC2; have HB3 := hide hB3; have HOd := hide hOd; have hw2 : wc.heap.size ≤ w2.heap.size := Nat.le_trans hwc hB3.size; have hg2 : g < w2.heap.size := Nat.lt_of_lt_of_le hgr hB3.size; clear hC2 hB3 hOd hB2) | (refine step_append_lies _ (by rfl) _ _ 23 (by rfl) wc.heap.size 40 i0 _ 5 80 Tryd.underlying23 hi0 hz0 hz1 hz2 rfl (by omega) (.slice va N.length vc) N.length (fnvals N) (by rfl) (unhide HOd) ⟨w2.heap.size, 0, none⟩ 1 1 (fncells y) (by rfl) (by rfl) (World.news_of_block (cs := #[.string y.nm, .slice y.sg.po y.sg.ps.length y.sg.pc, .int .u8 (y.sg.rt : Int), .int .i64 y.lo, .slice y.ca y.cd.length y.cc]) (t := 40) (fr := (0, 0)) (heap_alloc_new w2 _)) (fncells_one _) (by omega) (unhide HMk).1 (unhide HMk).2 (by simp; omega) (w2.heap.size + 1) (by simp) ?_; intro g3 cap3 w3 hown hgrow hat hlt3; have r1 : w3.cell? ⟨g, 2, none⟩ = some (.slice va N.length vc) := (hgrow.cell_far ⟨g, 2, none⟩ (by simp; omega) (Ne.symm (unhide HVG))).trans ((((Below.refl w2.heap.size w2).alloc (Nat.le_refl _) _).cell (p := ⟨g, 2, none⟩) hg2).trans q1); have f1 : w3.frozen? ⟨g, 2, none⟩ = false := frozen_of_row _ _ _ _ _ ((hgrow.block g (by simp; omega) (Ne.symm (unhide HVG))).trans (((unhide HB3).alloc (unhide HB3).size _).block g hgr |>.trans (unhide HR).box)); have HR2 := hide ((unhide HR).step (unhide HGL) (unhide HB3) (unhide HC2) (b2 := wa.drew.heap.size) (Nat.le_trans hwc (unhide HBA).size) (by rw [unhide HK]; exact unhide HX) hown hgrow); have HK2 : Hid ((N ++ [y]).length = k + 1) := hide (by rw [List.length_append, unhide HK]; rfl); clear hown hgrow hat hlt3))
        all_goals (
          go_wp2
          go_roundw
          case rel => exact ⟨k + 1, _, _, by omega, by go_num, HK2, HR2⟩
          case measure => simp [intOf]; omega)
      · have j1 : ¬ ((k : Nat) : Int) < ((m.F.length : Nat) : Int) := by omega
        have ek : k = m.F.length := by omega
        obtain ⟨va, vc, rfl, hSg, hSm⟩ := copy_fns (unhide H).fns (unhide HR).own (by rw [unhide HK]; exact ek) (unhide HR).cps
        have HSG := hide hSg
        have HSM := hide hSm
        have HVC : Hid (N.length ≤ vc ∧ ∀ x ∈ N, x.cd.length ≤ x.cc) := hide ⟨ownCap (unhide HR).own, fun x hx => by
          obtain ⟨i, hi, rfl⟩ := List.mem_iff_getElem.1 hx
          have hi2 : i < m.F.length := by rw [← ek, ← unhide HK]; exact hi
          exact ownCap ((unhide HR).cps i _ _ (List.getElem?_eq_getElem hi2) (List.getElem?_eq_getElem hi)).ownB⟩
        have HBX : Hid (Bx wr g 26 #[.string m.nm, .slice ga G.length gc, .slice va N.length vc, .slice none 0 0]) := hide (by rw [unhide HTV]; exact (unhide HR).box)
        have HOX := hide ((unhide HM).old.grown (unhide HR).grw (fun e => by have := unhide HGE; injection e with e; omega))
        have HPX := hide ((unhide HM).par.grown (unhide HR).grw (fun e => by have := unhide HGE; injection e with e; omega))
        have HTB := hide ((unhide HM).tab.noNum (unhide HR).grw (NoNum.of4 (unhide HM).box))
        have hgz : wc.heap.size ≤ wr.heap.size := (unhide HR).grw.size
        have HGL2 := hide (unhide HBX).lt
        clear hSg hSm ek
        have x1 := (unhide HPX).c 3 rfl
        go_wp2_with fail
        clear x1
        obtain ⟨fv, HFV⟩ : ∃ fv, Hid (Value.slice va N.length vc = fv) := ⟨_, hide rfl⟩
        obtain ⟨wd, HWD⟩ : ∃ wd, Hid (wr = wd) := ⟨_, hide rfl⟩
        rw [unhide HWD]
        rw [unhide HWD] at HBr HSG HBX HOX HPX HTB hgz HGL2
        clear HR HWD HK
        go_loopw [32] (fun i wr => ∃ (k : Nat) (C : List Bs) (v : Value), k ≤ m.C.length ∧ i = .int .i64 (k : Int) ∧ Hid (C.length = k) ∧ Hid (CRun wd wr m.C (.string m.nm) tv fv g v C)) (fun i _ => m.C.length - (intOf i).toNat)
        case atStart => exact ⟨0, [], .slice none 0 0, by omega, rfl, hide rfl, hide ⟨by rw [← unhide HTV, ← unhide HFV]; exact unhide HBX, World.ownsRow_nil _ _ _ _, fun i x y _ hy => by simp at hy, ⟨rfl, rfl, rfl, Nat.le_refl _, fun _ _ _ => rfl⟩⟩⟩
        case round =>
          obtain ⟨k, C, v, hk, rfl, HK, HR⟩ := hrel
          have HBr2 : Hid (Below w.heap.size w wr) := hide ((unhide HBr).grown (unhide HR).grw (unhide HBr).size (fun q e => by have := unhide HGE; injection e with e; omega))
          by_cases hlt : k < m.C.length
          · have j1 : ((k : Nat) : Int) < ((m.C.length : Nat) : Int) := by omega
            have hx := List.getElem?_eq_getElem hlt
            obtain ⟨b, off, eao, hxa⟩ := (unhide H).cts.below (unhide HBr2) k _ hx
            rw [eao]
            have c0 := hxa.c0
            have HX := hide hx
            have HXA := hide hxa
            generalize m.C[k] = x at HX HXA c0
            clear hx hxa
            go_upto_region 10 with fail
            obtain ⟨va2, vc2, rfl⟩ := ownSlice (unhide HR).own
            have hgr := (unhide HR).box.lt
            have a1 := (unhide HR).box.c 3 rfl
            have HPA := hide ((unhide HXA).below (show Below wr.heap.size wr wr.drew from belowD (Below.refl _ _) 1))
            have HVG : Hid ((Value.slice va2 C.length vc2).ownBlock ≠ some g) := hide (fun e => by have := (World.ownsRow.lt (unhide HR).own g e).1; have := unhide HGL2; omega)
            have hwc : wd.heap.size ≤ wr.heap.size := (unhide HR).grw.size
            have HMk : Hid (C.length + 1 ≤ maxLen ∧ (C.length + 1) * 24 ≤ 140737488355328) := hide (by have := unhide HK; have := (unhide H).cz; unfold maxLen; omega)
            clear c0
            go_region_law (first | (go_simp; go_at_call 16; refine (Clone_any x.ca x.cc x.cd wr.drew (unhide HPA).code (unhide HPA).nil (by have := (unhide HPA).fit; omega)).mono ?_; rintro e w2 ⟨v4, rfl, hO4, hB2, _⟩; obtain ⟨ba, bc, rfl, _⟩ := hO4.at; have q1 : w2.cell? ⟨g, 3, none⟩ = some (.slice va2 C.length vc2) := (hB2.cell (p := ⟨g, 3, none⟩) hgr).trans a1; have ne1 := World.new_ne w2 _ q1; have hB3 : Below wr.heap.size wr w2 := (show Below wr.heap.size wr w2 from (show Below wr.heap.size wr wr.drew from belowD (Below.refl _ _) 1).trans hB2); have hOd : (w2.alloc (.cells #[.slice ba x.cd.length bc] 38)).ownsRow wd.heap.size 38 1 (.slice va2 C.length vc2) C.length (bsvals C) := rowBelow (unhide HR).own (hB3.alloc hB3.size _); have HC2 : Hid (CopyBs w2 wr.drew.heap.size x ⟨ba, bc, x.cd⟩) := hide ⟨rfl, hO4⟩; have HB3 := hide hB3; have HOd := hide hOd; have hw2 : wd.heap.size ≤ w2.heap.size := Nat.le_trans hwc hB3.size; have hg2 : g < w2.heap.size := Nat.lt_of_lt_of_le hgr hB3.size; clear hO4 hB3 hOd hB2) | (refine step_append_lies _ (by rfl) _ _ 24 (by rfl) wd.heap.size 38 i1 _ 1 24 Tryd.underlying24 hi1 hy0 hy1 hy2 rfl (by omega) (.slice va2 C.length vc2) C.length (bsvals C) (by rfl) (unhide HOd) ⟨w2.heap.size, 0, none⟩ 1 1 [bscells ⟨ba, bc, x.cd⟩] (by rfl) (by rfl) (World.news_of_block (cs := #[.slice ba x.cd.length bc]) (t := 38) (fr := (0, 0)) (heap_alloc_new w2 _)) (by simp [bscells, Value.oneCell']) (by omega) (unhide HMk).1 (unhide HMk).2 (by simp; omega) (w2.heap.size + 1) (by simp) ?_; intro g3 cap3 w3 hown hgrow hat hlt3; have r1 : w3.cell? ⟨g, 3, none⟩ = some (.slice va2 C.length vc2) := (hgrow.cell_far ⟨g, 3, none⟩ (by simp; omega) (Ne.symm (unhide HVG))).trans ((((Below.refl w2.heap.size w2).alloc (Nat.le_refl _) _).cell (p := ⟨g, 3, none⟩) hg2).trans q1); have f1 : w3.frozen? ⟨g, 3, none⟩ = false := frozen_of_row _ _ _ _ _ ((hgrow.block g (by simp; omega) (Ne.symm (unhide HVG))).trans (((unhide HB3).alloc (unhide HB3).size _).block g hgr |>.trans (unhide HR).box)); have HR2 := hide ((unhide HR).step (unhide HGL2) (unhide HB3) (unhide HC2) (b2 := wr.drew.heap.size) hwc (by rw [unhide HK]; exact unhide HX) hown hgrow); have HK2 : Hid ((C ++ [(⟨ba, bc, x.cd⟩ : Bs)]).length = k + 1) := hide (by rw [List.length_append, unhide HK]; rfl); clear hown hgrow hat hlt3))
            all_goals (
              go_wp2
              go_roundw
              case rel => exact ⟨k + 1, _, _, by omega, by go_num, HK2, HR2⟩
              case measure => simp [intOf]; omega)
          · have j1 : ¬ ((k : Nat) : Int) < ((m.C.length : Nat) : Int) := by omega
            have ek : k = m.C.length := by omega
            obtain ⟨va2, vc2, rfl, hSg, hSc⟩ := copy_bss (unhide H).cts (unhide HR).own (by rw [unhide HK]; exact ek) (unhide HR).cps
            have HSC := hide hSc
            have HBX2 : Hid (Bx wr g 26 #[.string m.nm, .slice ga G.length gc, .slice va N.length vc, .slice va2 C.length vc2]) := hide (by rw [unhide HTV, unhide HFV]; exact (unhide HR).box)
            have HOX2 := hide ((unhide HOX).grown (unhide HR).grw (fun e => by have := unhide HGE; injection e with e; omega))
            have HTB2 := hide ((unhide HTB).noNum (unhide HR).grw (NoNum.of4 (unhide HBX)))
            have HSG2 := hide ((unhide HSG).noNum (unhide HR).grw (NoNum.of4 (unhide HBX)))
            clear hSg hSc ek
            go_upto_region 12 with fail
            have HRX : Hid (Bx (wr.setRow (w.heap.size + 1) #[.string m.nm, .slice ga G.length gc, .slice va N.length vc, .slice va2 C.length vc2]) (w.heap.size + 1) 26 #[.string m.nm, .slice ga G.length gc, .slice va N.length vc, .slice va2 C.length vc2]) := hide (setRow_heap _ _ _ _ _ _ (unhide HOX2))
            have hgw := grown_row (W := wr) (w.heap.size + 1) #[.string m.nm, .slice ga G.length gc, .slice va N.length vc, .slice va2 C.length vc2]
            have HT3 := hide ((unhide HTB2).noNum hgw (NoNum.of4 (unhide HOX2)))
            have HF3 := hide ((unhide HSG2).noNum hgw (NoNum.of4 (unhide HOX2)))
            have HS3 : Hid (BssAt (wr.setRow (w.heap.size + 1) #[.string m.nm, .slice ga G.length gc, .slice va N.length vc, .slice va2 C.length vc2]) va2 C) := hide (by
              have hwl : w.heap.size + 1 < wd.heap.size := (unhide HOX).lt
              obtain ⟨va', vc', e, hs, _⟩ := copy_bss (v := .slice va2 C.length vc2) (unhide H).cts (rows_grownG (unhide HR).own hgw (fun q e e2 => by have := (World.ownsRow.lt (unhide HR).own q e).1; injection e2 with e2; omega)) (by rw [unhide HK]; omega) (fun i x y hx hy => ((unhide HR).cps i x y hx hy).box hgw hwl)
              injection e with e1 _ e2
              subst e1
              exact hs)
            clear hgw
            go_wp2_with (first | (refine wpList_load_rowG (by kernel_rfl) 26 (.tmp 3) rfl g rfl 26 #[.string m.nm, .slice ga G.length gc, .slice va N.length vc, .slice va2 C.length vc2] (0, 0) _ (unhide HBX2) Tryd.underlying26 rfl (by kernel_rfl) ?_) | (refine wpList_store_row rfl 26 (.tmp 2) (.tmp 44) rfl (w.heap.size + 1) #[.string m.nm, .slice ga G.length gc, .slice va N.length vc, .slice va2 C.length vc2] rfl rfl 26 #[.string ⟨#[]⟩, .slice none 0 0, .slice none 0 0, .slice none 0 0] (unhide HOX2) (by kernel_rfl) rfl (by simp [Value.oneCell']) ?_))
            refine bodyPost_ret (results_bx rfl _ _ (w.heap.size + 1) _ rfl (run_loadVar_row _ _ 26 26 _ (0, 0) _ (unhide HRX) Tryd.underlying26 rfl (by kernel_rfl))) rfl ⟨⟨m.nm, ga, gc, G, va, vc, N, va2, vc2, C⟩, rfl, ⟨unhide HT3, ?_, unhide HF3, ?_, unhide HS3, ?_, (unhide H).name⟩, ⟨rfl, (unhide HM).same, unhide HSM, unhide HSC⟩, ⟨(unhide HM).cap, (unhide HVC).1⟩, fun b off e => ?_, fun x hx e => ?_, (unhide HVC).2, below_setRow' (unhide HBr2) (by omega) _⟩
            rotate_left 3
            · have h1 := (unhide HBr).size
              have e' : va2 = some ⟨b, off, none⟩ := e
              subst e'
              have h2 := (World.ownsRow.lt (unhide HR).own b rfl).1
              omega
            · obtain ⟨i, hi, rfl⟩ := List.mem_iff_getElem.1 hx
              have hl := (unhide HSC).1
              have hi : i < C.length := hi
              have hc := (unhide HR).cps i _ _ (List.getElem?_eq_getElem (show i < m.C.length by rw [← hl]; exact hi)) (List.getElem?_eq_getElem hi)
              rcases hc.own.shape with ⟨h1, _⟩ | ⟨_, _, h1, _⟩
              · injection h1
              · injection h1 with h1
                rw [show (C[i]).ca = none from e] at h1
                cases h1
            · have := (unhide HM).same.1; have := (unhide H).tz; show G.length * 48 ≤ _; omega
            · have := (unhide HSM).1; have := (unhide H).fz; show N.length * 80 ≤ _; omega
            · have := (unhide HSC).1; have := (unhide H).cz; show C.length * 24 ≤ _; omega
theorem Module_all (m : Md) (w : World) (h : MdOk w m) :
    Calls Tryd.prog 6 #[.agg #[.string m.nm, .slice m.ao m.T.length m.cap, .slice m.fo m.F.length m.fc, .slice m.co m.C.length m.cc]] w fun e w' => ∃ y : Md, e = .returned (.agg #[.string y.nm, .slice y.ao y.T.length y.cap, .slice y.fo y.F.length y.fc, .slice y.co y.C.length y.cc]) ∧ MdOk w' y ∧ SameMd m y ∧ (y.T.length ≤ y.cap ∧ y.F.length ≤ y.fc) ∧ (∀ b off, y.co = some ⟨b, off, none⟩ → w.heap.size ≤ b) ∧ (∀ x ∈ y.C, x.ca = none → x.cc = 0) ∧ Below w.heap.size w w' :=
  (Module_full m w h).mono (fun _ _ ⟨y, h1, h2, h3, h4, h5, h6, _, h7⟩ => ⟨y, h1, h2, h3, h4, h5, h6, h7⟩)
theorem Module_any (m : Md) (w : World) (h : MdOk w m) :
    Calls Tryd.prog 6 #[.agg #[.string m.nm, .slice m.ao m.T.length m.cap, .slice m.fo m.F.length m.fc, .slice m.co m.C.length m.cc]] w fun e w' => ∃ y : Md, e = .returned (.agg #[.string y.nm, .slice y.ao y.T.length y.cap, .slice y.fo y.F.length y.fc, .slice y.co y.C.length y.cc]) ∧ MdOk w' y ∧ SameMd m y ∧ (y.T.length ≤ y.cap ∧ y.F.length ≤ y.fc) ∧ (∀ b off, y.co = some ⟨b, off, none⟩ → w.heap.size ≤ b) ∧ Below w.heap.size w w' :=
  (Module_all m w h).mono (fun _ _ ⟨y, h1, h2, h3, h4, h5, _, h6⟩ => ⟨y, h1, h2, h3, h4, h5, h6⟩)
end Go.Proofs.YtgelbihdcfgjcaaDoor
