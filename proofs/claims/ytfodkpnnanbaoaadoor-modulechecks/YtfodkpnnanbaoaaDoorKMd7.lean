/-
  What is wrong with a function of a module: plainly; module.isStored, mayStand, checkFunc, checkCerts and provisoref16.function say so. Conditions: lengths fit.
-/
import Derived.Test.YtfodkpnnanbaoaaDoorKMd6
import Derived.Deep.MidRow
namespace Go.Proofs.YtfodkpnnanbaoaaDoor
open Go.RowKit
set_option maxRecDepth 20000

/-- What a function holds. -/
structure Kt where
  nm : ByteArray
  ps : List Nat
  rt : Nat
  lo : Int
  cd : List UInt8
def fnK (f : Fn) : Kt := ⟨f.nm, f.sg.ps, f.sg.rt, f.lo, f.cd⟩
/-- Does a function ahead of the place have that name? -/
def twF (K : List Kt) (i : Nat) (s : ByteArray) : Bool := (K.take i).any fun x => x.nm.toList == s.toList
/-- The error of the function at a place. -/
def fnE (n : Nat) (K : List Kt) (i : Nat) (x : Kt) : Int :=
  if nameB x.nm = false then 6 else if twF K i x.nm = true then 20 else if 8 < x.ps.length then 4 else if sgD n x.ps x.rt = false then 22 else if x.lo < (x.ps.length : Int) ∨ 16 < x.lo then 5 else if x.cd.length = 0 then 2 else if 4096 < x.cd.length then 4 else 0
theorem entR_some : ∀ (L : List Fn) (s : ByteArray) (k : Nat), (entR L s k).isSome = L.any fun x => x.nm.toList == s.toList
  | [], s, k => rfl
  | f :: l, s, k => by
    rw [entR, List.any_cons]
    cases h : (f.nm.toList == s.toList)
    · rw [if_neg (by simp), entR_some l s (k + 1)]; rfl
    · rw [if_pos rfl]; rfl
theorem entB_tw (F : List Fn) (i : Nat) (s : ByteArray) : entB (F.take i) s = twF (F.map fnK) i s := by
  unfold entB twF
  rw [entR_some, ← List.map_take, List.any_map]
  rfl
theorem twF_no {K : List Kt} {i : Nat} {s : ByteArray} (h : ∀ (j : Nat) x, j < i → K[j]? = some x → (x.nm.toList == s.toList) = false) : twF K i s = false := by
  unfold twF
  rw [List.any_eq_false]
  intro x hx
  obtain ⟨j, hj, e⟩ := List.mem_iff_getElem.1 hx
  rw [List.length_take] at hj
  rw [h j x (by omega) (by rw [← e, List.getElem_take]; exact List.getElem?_eq_getElem _)]
  simp
theorem twF_yes {K : List Kt} {i j : Nat} {s : ByteArray} {x : Kt} (hj : j < i) (hx : K[j]? = some x) (h : (x.nm.toList == s.toList) = true) : twF K i s = true := by
  unfold twF
  rw [List.any_eq_true]
  refine ⟨x, List.mem_of_getElem? (i := j) ?_, h⟩
  rw [List.getElem?_take_of_lt hj]
  exact hx

theorem isStoredM_any (ao : Option Addr) (c n t : Nat) (w : World) (ht : t < 256) :
    Calls Tryd.prog 56 #[.slice ao n c, .int .u8 (t : Int)] w fun e w' => e = .returned (.bool (storedD n t)) ∧ w' = w := by
  have HV := hide (Valid_any ao n c t w ht)
  have HQ : Hid (storedD n t = (validD n t && decide (t ≠ 0) && decide (t ≠ 3))) := hide rfl
  go_enter Tryd.func56, Tryd.ntmps56
  go_wp2_with fail
  refine (unhide HV).mono ?_
  rintro e W ⟨rfl, rfl⟩
  cases hv : validD n t
  · have HR : Hid (storedD n t = false) := hide (by rw [unhide HQ, hv]; rfl)
    clear hv
    go_wp2
    go_ret
    exact ⟨ret_bool (unhide HR).symm, rfl⟩
  by_cases h0 : t = 0
  · have HR : Hid (storedD n t = false) := hide (by rw [unhide HQ]; simp [h0])
    have b0 : (((t : Nat) : Int) != 0) = false := bne_f (by omega)
    clear hv h0
    go_wp2
    go_ret
    exact ⟨ret_bool (unhide HR).symm, rfl⟩
  have b0 : (((t : Nat) : Int) != 0) = true := bne_t (by omega)
  by_cases h3 : t = 3
  · have HR : Hid (storedD n t = false) := hide (by rw [unhide HQ]; simp [h3])
    have b3 : (((t : Nat) : Int) != 3) = false := bne_f (by omega)
    clear hv h0 h3
    go_wp2
    go_ret
    exact ⟨ret_bool (unhide HR).symm, rfl⟩
  · have HR : Hid (storedD n t = true) := hide (by rw [unhide HQ, hv]; simp [h0, h3])
    have b3 : (((t : Nat) : Int) != 3) = true := bne_t (by omega)
    clear hv h0 h3
    go_wp2
    go_ret
    exact ⟨ret_bool (unhide HR).symm, rfl⟩

set_option maxRecDepth 20000 in
set_option maxHeartbeats 2000000 in
theorem mayStand_any (ao : Option Addr) (n cap : Nat) (po : Option Addr) (pc : Nat) (ps : List Nat) (rt : Nat) (w : World) (hP : PAt w po ps) (hp : ∀ t ∈ ps, t < 256) (h8 : ps.length ≤ 8) (hr : rt < 256) :
    Calls Tryd.prog 42 #[.slice ao n cap, .agg #[.slice po ps.length pc, .int .u8 (rt : Int)]] w fun e w' => e = .returned (.bool (sgD n ps rt)) ∧ Below w.heap.size w w' := by
  have al := (Below.refl w.heap.size w).alloc (Nat.le_refl _) (.cells #[.slice po ps.length pc, .int .u8 (rt : Int)] 42)
  have HB := hide al
  have HC : Hid (SBx (w.alloc (.cells #[.slice po ps.length pc, .int .u8 (rt : Int)] 42)) w.heap.size (.slice po ps.length pc) rt) := hide (heap_alloc_new w _)
  have HP := hide (hP.below al)
  have HPB := hide hp
  clear al hP hp
  go_enter Tryd.func42, Tryd.ntmps42
  go_upto_region 1 with fail
  generalize (w.alloc (.cells #[.slice po ps.length pc, .int .u8 (rt : Int)] 42)) = W1 at HB HC HP ⊢
  have k1 := (unhide HC).c0
  have k2 := (unhide HC).c1
  go_wp2_with fail
  go_loopw [10] (fun i wr => ∃ k : Nat, k ≤ ps.length ∧ i = .int .i64 (k : Int) ∧ Hid (∀ j t, j < k → ps[j]? = some t → storedD n t = true) ∧ wr = W1) (fun i _ => ps.length - (intOf i).toNat)
  case atStart => exact ⟨0, by omega, rfl, hide (fun j t h => by omega), rfl⟩
  case round =>
    obtain ⟨k, hk, rfl, HK, rfl⟩ := hrel
    by_cases hlt : k < ps.length
    · have j1 : ((k : Nat) : Int) < ((ps.length : Nat) : Int) := by omega
      have hx := List.getElem?_eq_getElem hlt
      have x256 := unhide HPB _ (List.getElem_mem hlt)
      obtain ⟨b, off, eb, cx⟩ := unhide HP k _ hx
      have HXX := hide hx
      generalize ps[k] = x at cx x256 HXX
      rw [eb]
      rw [eb] at k1
      clear hx
      go_wp2_with fail
      refine (isStoredM_any ao cap n x _ x256).mono ?_
      rintro e W2 ⟨rfl, rfl⟩
      cases hv : storedD n x
      · have HR : Hid (sgD n ps rt = false) := hide (by
          have : ps.all (storedD n) = false := by
            cases hq : ps.all (storedD n)
            · rfl
            · rw [List.all_eq_true] at hq
              have := hq x (List.mem_of_getElem? (unhide HXX))
              rw [hv] at this
              cases this
          unfold sgD
          rw [this]
          rfl)
        clear hv
        go_wp2
        go_ret
        exact ⟨ret_boolG (unhide HR).symm, unhide HB⟩
      · have HK2 : Hid (∀ j t, j < k + 1 → ps[j]? = some t → storedD n t = true) := hide (fun j t h1 h2 => by
          by_cases e : j = k
          · rw [e, unhide HXX] at h2
            injection h2 with h2
            rw [← h2]; exact hv
          · exact unhide HK j t (by omega) h2)
        clear hv HK HXX
        go_wp2
        go_roundw
        case rel => exact ⟨k + 1, by omega, by go_num, HK2, trivial⟩
        case measure => simp [intOf]; omega
    · have j1 : ¬ ((k : Nat) : Int) < ((ps.length : Nat) : Int) := by omega
      have HA : Hid (ps.all (storedD n) = true) := hide (by
        rw [List.all_eq_true]
        intro t ht
        obtain ⟨j, hj, rfl⟩ := List.getElem_of_mem ht
        exact unhide HK j _ (by omega) (List.getElem?_eq_getElem hj))
      by_cases h0 : rt = 0
      · subst h0
        have HR : Hid (sgD n ps 0 = true) := hide (by unfold sgD; rw [unhide HA]; rfl)
        have k2' : wr.cell? ⟨w.heap.size, 1, none⟩ = some (.int .u8 0) := k2
        clear k2 HK
        go_wp2
        go_ret
        exact ⟨ret_boolG (unhide HR).symm, unhide HB⟩
      · have HR : Hid (sgD n ps rt = storedD n rt) := hide (by unfold sgD; rw [unhide HA, show (rt == 0) = false from by simpa using h0]; rfl)
        have b1 : (((rt : Nat) : Int) == 0) = false := by simp; omega
        clear HK
        go_wp2_with fail
        refine (isStoredM_any ao cap n rt _ hr).mono ?_
        rintro e W2 ⟨rfl, rfl⟩
        go_wp2
        go_ret
        exact ⟨ret_boolG (unhide HR).symm, unhide HB⟩

/-- The boxes of a module and a function. -/
structure CB (w W : World) (m : Md) (f : Fn) : Prop where
  m : Bx W w.heap.size 26 #[.string m.nm, .slice m.ao m.T.length m.cap, .slice m.fo m.F.length m.fc, .slice m.co m.C.length m.cc]
  f : Bx W (w.heap.size + 1) 45 #[.string f.nm, .slice f.sg.po f.sg.ps.length f.sg.pc, .int .u8 (f.sg.rt : Int), .int .i64 f.lo, .slice f.ca f.cd.length f.cc]
  bel : Below w.heap.size w W
theorem CB.below {w W W' : World} {m : Md} {f : Fn} (h : CB w W m f) (hb : Below W.heap.size W W') : CB w W' m f := ⟨h.m.below hb, h.f.below hb, h.bel.trans (hb.mono h.bel.size)⟩

set_option maxRecDepth 20000 in
set_option maxHeartbeats 8000000 in
theorem checkFunc_any (m : Md) (i : Nat) (f : Fn) (w : World) (hF : FnsAt w m.fo m.F) (hfz : m.F.length * 80 ≤ 140737488351232) (hfc : m.F.length ≤ m.fc) (hi : m.F[i]? = some f) (hok : FnOk w f) :
    Calls Tryd.prog 20 #[.agg #[.string m.nm, .slice m.ao m.T.length m.cap, .slice m.fo m.F.length m.fc, .slice m.co m.C.length m.cc], .int .i64 (i : Int), .agg #[.string f.nm, .slice f.sg.po f.sg.ps.length f.sg.pc, .int .u8 (f.sg.rt : Int), .int .i64 f.lo, .slice f.ca f.cd.length f.cc]] w fun e w' => e = .returned (.int .i64 (fnE m.T.length (m.F.map fnK) i (fnK f))) ∧ Below w.heap.size w w' := by
  have al1 := (Below.refl w.heap.size w).alloc (Nat.le_refl _) (.cells #[.string m.nm, .slice m.ao m.T.length m.cap, .slice m.fo m.F.length m.fc, .slice m.co m.C.length m.cc] 26)
  have al := al1.alloc (by simp) (.cells #[.string f.nm, .slice f.sg.po f.sg.ps.length f.sg.pc, .int .u8 (f.sg.rt : Int), .int .i64 f.lo, .slice f.ca f.cd.length f.cc] 45)
  have n1 := heap_alloc_new w (.cells #[.string m.nm, .slice m.ao m.T.length m.cap, .slice m.fo m.F.length m.fc, .slice m.co m.C.length m.cc] 26)
  have n2 := heap_alloc_new (w.alloc (.cells #[.string m.nm, .slice m.ao m.T.length m.cap, .slice m.fo m.F.length m.fc, .slice m.co m.C.length m.cc] 26)) (.cells #[.string f.nm, .slice f.sg.po f.sg.ps.length f.sg.pc, .int .u8 (f.sg.rt : Int), .int .i64 f.lo, .slice f.ca f.cd.length f.cc] 45)
  rw [World.size_alloc] at n2
  have HX : Hid (CB w ((w.alloc (.cells #[.string m.nm, .slice m.ao m.T.length m.cap, .slice m.fo m.F.length m.fc, .slice m.co m.C.length m.cc] 26)).alloc (.cells #[.string f.nm, .slice f.sg.po f.sg.ps.length f.sg.pc, .int .u8 (f.sg.rt : Int), .int .i64 f.lo, .slice f.ca f.cd.length f.cc] 45)) m f) := hide ⟨(((Below.refl _ _).alloc (Nat.le_refl _) _).block w.heap.size (by simp)).trans n1, n2, al⟩
  clear al1 al n1 n2
  have hil := (List.getElem?_eq_some_iff.1 hi).1
  have HF := hide (fun W (hb : Below w.heap.size w W) => Entry_any ⟨⟨#[]⟩, none, 0, [], m.fo, m.fc, m.F.take i, none, 0, []⟩ f.nm W (fun j x hx => (hF.below hb) j x (by rw [List.getElem?_take] at hx; split at hx <;> simp_all)) (by show (m.F.take i).length * 80 ≤ _; rw [List.length_take]; omega))
  simp only [List.length_take, Nat.min_eq_left (Nat.le_of_lt hil), entB_tw] at HF
  have HOK := hide hok
  generalize entN (m.F.take i) f.nm = en at HF
  have i0 : (0 : Int) ≤ ((i : Nat) : Int) := by omega
  have i1 : ((i : Nat) : Int) ≤ ((m.fc : Nat) : Int) := by omega
  have i3 : m.fc ≠ 0 := by omega
  have hmap : Option.map (fun x : Addr => x.add 0) m.fo = m.fo := by
    cases m.fo with
    | none => rfl
    | some x => cases x; simp [Addr.add]
  clear hF hfz hfc hi hok
  go_enter Tryd.func20, Tryd.ntmps20
  go_upto_region 1 with fail
  generalize ((w.alloc (.cells #[.string m.nm, .slice m.ao m.T.length m.cap, .slice m.fo m.F.length m.fc, .slice m.co m.C.length m.cc] 26)).alloc (.cells #[.string f.nm, .slice f.sg.po f.sg.ps.length f.sg.pc, .int .u8 (f.sg.rt : Int), .int .i64 f.lo, .slice f.ca f.cd.length f.cc] 45)) = W1 at HX ⊢
  have HX301 := hide ((unhide HX).below (below_drew W1 1))
  refine wp_region_held_drew (S := fun w' => CB w w' m f) (by kernel_rfl) (unhide HX301) (fun hS303 => ?_)
  clear HX
  generalize hWd : W1.drewN 1 = W302 at HX301
  change W1.drew = W302 at hWd
  rw [hWd] at hS303 ⊢
  clear hWd
  refine wpAnyH_take (i := 0) (v := .pointer (some ⟨w.heap.size, 2, none⟩)) rfl (by kernel_rfl) (by kernel_rfl) (by kernel_rfl) (fun _ _ _ h => h) (Or.inl ⟨by rfl, fun w _ => by go_simp⟩) hS303 ?_
  refine wpAnyH_take (i := 1) (v := .slice m.fo m.F.length m.fc) rfl (by kernel_rfl) (by kernel_rfl) (by kernel_rfl) (fun _ _ _ h => h) (Or.inl ⟨by rfl, fun W h => by have h0 := h.m.c 2 rfl; go_simp⟩) hS303 ?_
  refine wpAnyH_take (i := 2) (v := .int .i64 (i : Int)) rfl (by kernel_rfl) (by kernel_rfl) (by kernel_rfl) (fun _ _ _ h => h) (Or.inl ⟨by rfl, fun w _ => by go_simp⟩) hS303 ?_
  refine wpAnyH_take (i := 3) (v := .slice m.fo i m.fc) rfl (by kernel_rfl) (by kernel_rfl) (by kernel_rfl) (fun _ _ _ h => h) (Or.inl ⟨by rfl, fun w _ => by go_simp⟩) hS303 ?_
  refine wpAnyH_take (i := 4) (v := .agg #[.string ⟨#[]⟩, .slice none 0 0, .slice m.fo i m.fc, .slice none 0 0]) rfl (by kernel_rfl) (by kernel_rfl) (by kernel_rfl) (fun _ _ _ h => h) (Or.inl ⟨by rfl, fun w _ => by go_simp⟩) hS303 ?_
  refine wpAnyH_take (i := 5) (v := .pointer (some ⟨w.heap.size + 1, 0, none⟩)) rfl (by kernel_rfl) (by kernel_rfl) (by kernel_rfl) (fun _ _ _ h => h) (Or.inl ⟨by rfl, fun w _ => by go_simp⟩) hS303 ?_
  refine wpAnyH_take (i := 6) (v := .string f.nm) rfl (by kernel_rfl) (by kernel_rfl) (by kernel_rfl) (fun _ _ _ h => h) (Or.inl ⟨by rfl, fun W h => by have h0 := h.f.c 0 rfl; go_simp⟩) hS303 ?_
  refine wpAnyH_ready (rs := [7]) (by kernel_rfl) (by simp) ?_
  refine AllReadyH.cons rfl (fun K hK => ?_) AllReadyH.nil
  go_simp
  go_wp2_with (go_at_call 41; refine (unhide HF W302 (unhide HX301).bel).mono ?_; rintro e W304 ⟨rfl, hB305⟩)
  have HX306 := hide ((unhide HX301).below hB305)
  refine hK.out _ _ (unhide HX306) (fun hS307 => ?_)
  clear hK K hS303 HX301 hB305
  refine wpAnyH_take (i := 8) (v := .tuple #[.int .i64 (en : Int), .bool (twF (m.F.map fnK) i f.nm)]) rfl (by kernel_rfl) (by kernel_rfl) (by kernel_rfl) (fun _ _ _ h => h) (Or.inl ⟨by rfl, fun w _ => by go_simp⟩) hS307 ?_
  refine wpAnyH_take (i := 9) (v := .int .i64 (en : Int)) rfl (by kernel_rfl) (by kernel_rfl) (by kernel_rfl) (fun _ _ _ h => h) (Or.inl ⟨by rfl, fun w _ => by go_simp⟩) hS307 ?_
  refine wpAnyH_take (i := 10) (v := .bool (twF (m.F.map fnK) i f.nm)) rfl (by kernel_rfl) (by kernel_rfl) (by kernel_rfl) (fun _ _ _ h => h) (Or.inl ⟨by rfl, fun w _ => by go_simp⟩) hS307 ?_
  refine wpAnyH_ready (rs := [11]) (by kernel_rfl) (by simp) ?_
  refine AllReadyH.cons rfl (fun K hK => ?_) AllReadyH.nil
  go_simp
  refine hK.out _ _ (unhide HX306) (fun hS308 => ?_)
  clear hK K hS307
  refine wpAnyH_ready (rs := [12]) (by kernel_rfl) (by simp) ?_
  refine AllReadyH.cons rfl (fun K hK => ?_) AllReadyH.nil
  go_simp
  refine hK.out _ _ (unhide HX306) (fun hS309 => ?_)
  clear hK K hS308
  refine wpAnyH_done (by kernel_rfl) ?_ _
  have HX4 := HX306
  generalize W304 = W4 at HX4 ⊢
  clear HF hmap
  have k0 := (unhide HX4).f.c 0 rfl
  have HN := hide (IsName_any f.nm W4 (by have := (unhide HOK).name; unfold maxLen; omega))
  go_wp2_with fail
  refine (unhide HN).mono ?_
  rintro e W5 ⟨rfl, rfl⟩
  clear k0 HN
  obtain ⟨W4, HW4⟩ : ∃ x, x = W5 := ⟨_, rfl⟩
  subst HW4
  cases hn : nameB f.nm
  · have HR : Hid (fnE m.T.length (m.F.map fnK) i (fnK f) = 6) := hide (by simp [fnE, fnK, hn])
    clear hn
    go_wp2
    go_ret
    exact ⟨ret_int (unhide HR).symm, (unhide HX4).bel⟩
  cases hw : twF (m.F.map fnK) i f.nm
  rotate_left
  · have HR : Hid (fnE m.T.length (m.F.map fnK) i (fnK f) = 20) := hide (by simp [fnE, fnK, hn, hw])
    clear hn hw
    go_wp2
    go_ret
    exact ⟨ret_int (unhide HR).symm, (unhide HX4).bel⟩
  have k3 := (unhide HX4).f.c 1 rfl
  have k4 := (unhide HX4).f.c 2 rfl
  have k5 := (unhide HX4).m.c 1 rfl
  by_cases h8 : 8 < f.sg.ps.length
  · have i8 : ((f.sg.ps.length : Nat) : Int) > 8 := by omega
    have HR : Hid (fnE m.T.length (m.F.map fnK) i (fnK f) = 4) := hide (by simp [fnE, fnK, hn, hw, h8])
    clear hn hw h8
    go_wp2
    go_ret
    exact ⟨ret_int (unhide HR).symm, (unhide HX4).bel⟩
  have i8 : ¬ ((f.sg.ps.length : Nat) : Int) > 8 := by omega
  have HMS := hide (mayStand_any m.ao m.T.length m.cap f.sg.po f.sg.pc f.sg.ps f.sg.rt W4 ((unhide HOK).sg.prm.below (unhide HX4).bel) (unhide HOK).sg.bts (by omega) (unhide HOK).sg.res)
  go_wp2_with fail
  refine (unhide HMS).mono ?_
  rintro e W5 ⟨rfl, hb5⟩
  have HX5 := hide ((unhide HX4).below hb5)
  clear k3 k4 k5 HMS HX4 hb5
  cases hg : sgD m.T.length f.sg.ps f.sg.rt
  · have h8e := h8
    have HR : Hid (fnE m.T.length (m.F.map fnK) i (fnK f) = 22) := hide (by simp [fnE, fnK, hn, hw, h8, hg])
    clear hn hw h8 hg h8e
    go_wp2
    go_ret
    exact ⟨ret_int (unhide HR).symm, (unhide HX5).bel⟩
  have k3 := (unhide HX5).f.c 1 rfl
  have k4 := (unhide HX5).f.c 3 rfl
  have k5 := (unhide HX5).f.c 4 rfl
  by_cases hl1 : f.lo < (f.sg.ps.length : Int)
  · have hl1e := hl1
    have HR : Hid (fnE m.T.length (m.F.map fnK) i (fnK f) = 5) := hide (by simp [fnE, fnK, hn, hw, h8, hg, hl1])
    clear hn hw h8 hg
    go_wp2
    go_ret
    exact ⟨ret_int (unhide HR).symm, (unhide HX5).bel⟩
  by_cases hl2 : 16 < f.lo
  · have i16 : f.lo > 16 := hl2
    have HR : Hid (fnE m.T.length (m.F.map fnK) i (fnK f) = 5) := hide (by simp [fnE, fnK, hn, hw, h8, hg, hl2])
    clear hn hw h8 hg
    go_wp2
    go_ret
    exact ⟨ret_int (unhide HR).symm, (unhide HX5).bel⟩
  have i16 : ¬ f.lo > 16 := hl2
  by_cases hc0 : f.cd.length = 0
  · have c0 : (((f.cd.length : Nat) : Int) == 0) = true := beq_t (by omega)
    have HR : Hid (fnE m.T.length (m.F.map fnK) i (fnK f) = 2) := hide (by simp [fnE, fnK, hn, hw, h8, hg, hl1, hl2, hc0])
    clear hn hw h8 hg hc0
    go_wp2
    go_ret
    exact ⟨ret_int (unhide HR).symm, (unhide HX5).bel⟩
  have c0 : (((f.cd.length : Nat) : Int) == 0) = false := beq_f (by omega)
  by_cases hc1 : 4096 < f.cd.length
  · have c1 : ((f.cd.length : Nat) : Int) > 4096 := by omega
    have hc0' : ¬ f.cd = [] := fun e => hc0 (by rw [e]; rfl)
    have HR : Hid (fnE m.T.length (m.F.map fnK) i (fnK f) = 4) := hide (by simp [fnE, fnK, hn, hw, h8, hg, hl1, hl2, hc0', hc1])
    clear hn hw h8 hg hc0 hc0' hc1
    go_wp2
    go_ret
    exact ⟨ret_int (unhide HR).symm, (unhide HX5).bel⟩
  · have c1 : ¬ ((f.cd.length : Nat) : Int) > 4096 := by omega
    have hc0' : ¬ f.cd = [] := fun e => hc0 (by rw [e]; rfl)
    have HR : Hid (fnE m.T.length (m.F.map fnK) i (fnK f) = 0) := hide (by simp [fnE, fnK, hn, hw, h8, hg, hl1, hl2, hc0', hc1])
    clear hn hw h8 hg hc0 hc0' hc1
    go_wp2
    go_ret
    exact ⟨ret_int (unhide HR).symm, (unhide HX5).bel⟩
end Go.Proofs.YtfodkpnnanbaoaaDoor
