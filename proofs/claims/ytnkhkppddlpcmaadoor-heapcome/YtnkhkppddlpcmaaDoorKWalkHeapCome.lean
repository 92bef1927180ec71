/-
  The walk of the law HeapCome: it returns true, and writes nothing that was there.
-/
import Derived.Test.YtnkhkppddlpcmaaDoorKHl4
import Derived.Test.YtnkhkppddlpcmaaDoorHl5
namespace Go.Proofs.YtnkhkppddlpcmaaDoor
open Go.RowKit
set_option maxRecDepth 20000

theorem own_jsC {W : World} {base : Nat} {a : Option Addr} {c : Nat} {l : List Int} (h : OwnJ W base (.slice a l.length c) l) : JsAt W a l := by
  obtain ⟨a', c', e, hj, _⟩ := h.at
  injection e with e _ _
  rw [e]
  exact hj
theorem keep_objC {h : Hm} (hok : HmOk h) {C : List Bool} {o : Ob} (hk : o ∈ keepO h.O C) : objD h.O o.ref = some o := by
  obtain ⟨i, hi, _⟩ := mem_keep.1 hk
  exact obj_at hok.asc hi
/-- What a field's being a reference says of the table's fields. -/
theorem lds_ofC {T : List Cl} {room : Int} {h : Hm} {n : Nat} (H : Lv T room h n) {o : Ob} (ho : o ∈ h.O) (hne : o.cls ≠ -1) : ∃ c : Nat, o.cls = (c : Int) ∧ c < T.length ∧ (ldOf h o.cls).bs = (fieldsB T (c : Int)).map (fun f => isRefD f.ty) ∧ (fieldsB T (c : Int)).length = o.ps.length := by
  obtain ⟨c, ec, x, hx, hl⟩ := (H.ok.cls o ho).resolve_left hne
  have hb : x.bs = (fieldsB T (c : Int)).map (fun f => isRefD f.ty) := H.lds c x hx
  refine ⟨c, ec, by rw [← H.len]; exact (List.getElem?_eq_some_iff.1 hx).1, ?_, ?_⟩
  · unfold ldOf
    rw [if_neg hne, ec, Int.toNat_natCast, hx]
    exact hb
  · rw [← hl, hb, List.length_map]
theorem nmZ_step {h : Hm} : ∀ {bs : List Bool} {vs : List Int} {j : Nat} {b : Bool} {v : Int}, bs[j]? = some b → vs[j]? = some v → nmZ h (bs.take (j + 1)) (vs.take (j + 1)) = nmZ h (bs.take j) (vs.take j) ++ (if b = true ∧ v ∈ h.O.map Ob.ref then [v] else [])
  | [], _, j, _, _, h1, _ => by simp at h1
  | _ :: _, [], j, _, _, _, h2 => by simp at h2
  | b0 :: bs, v0 :: vs, 0, b, v, h1, h2 => by
    simp at h1 h2
    subst h1 h2
    simp only [List.take_succ_cons, List.take_zero, nmZ, List.nil_append]
  | b0 :: bs, v0 :: vs, j + 1, b, v, h1, h2 => by
    have ih := @nmZ_step h bs vs j b v (by simpa using h1) (by simpa using h2)
    simp only [List.take_succ_cons, nmZ] at ih ⊢
    rw [ih]
    by_cases hc : b0 = true ∧ v0 ∈ h.O.map Ob.ref
    · rw [if_pos hc, if_pos hc, List.cons_append]
    · rw [if_neg hc, if_neg hc]
theorem refFieldsO {W : World} {ao : Option Addr} {T : List Cl} (cap : Nat) (hT : TabAt W ao T) (hz : T.length * 48 ≤ 140737488351232) (hm : madeD T = true) {c : Nat} (hc : c < T.length) (hl : (fieldsB T (c : Int)).length ≤ 4096) :
    Calls Tryd.prog 31 #[.slice ao T.length cap, .int .i64 (c : Int)] W fun e w' => ∃ fa fc, e = .returned (.slice fa (fieldsB T (c : Int)).length fc) ∧ OwnF w' W.heap.size (.slice fa (fieldsB T (c : Int)).length fc) (fieldsB T (c : Int)) ∧ Below W.heap.size W w' := by
  have he : fieldsD T (c : Int) = fieldsB T (c : Int) := fields_same2 (n := T.length) (Nat.le_refl _) (fun k hk => of_decide_eq_true (List.all_eq_true.1 hm k (List.mem_range.2 hk))) (by omega)
  refine (refFields_any ao cap T (c : Int) W hT hz (by rw [he]; omega)).mono ?_
  rintro e W2 ⟨v, rfl, hO, hB2⟩
  rw [he] at hO
  obtain ⟨fa, fc, rfl, hF, -, -⟩ := hO.at (fieldsB_ok hT (c : Int))
  exact ⟨fa, fc, rfl, hO, hB2⟩
/-- The block of u is not that of v. -/
def Aw (u v : Value) : Prop := ∀ q, u.ownBlock = some q → v.ownBlock ≠ some q
theorem ownF_below {W W' : World} {base : Nat} {v : Value} {l : List Fl} (h : OwnF W base v l) (hb : Below W.heap.size W W') : OwnF W' base v l := own_kp (B := 0) (ts := []) h (Kp.of_below hb (Nat.zero_le _)) (by simp)
theorem own_aw {w w' : World} {base : Nat} {e : TypeId} {size n : Nat} {v u : Value} {xs : List Value} (h : w.ownsRow base e size v n xs) (hg : w.grownBy w' u.ownBlock) (ha : Aw v u) : w'.ownsRow base e size v n xs := by
  refine World.ownsRow.kept h hg ?_
  cases hvb : v.ownBlock with
  | none => exact Or.inl rfl
  | some q => exact Or.inr (fun e => by first | exact ha q hvb e | exact ha q hvb e.symm)
theorem aw_new {w : World} {base : Nat} {e : TypeId} {size n : Nat} {v u u' : Value} {xs : List Value} (h : w.ownsRow base e size v n xs) (ha : Aw v u) (ho : u'.ownBlock = u.ownBlock ∨ u'.ownBlock = some w.heap.size) : Aw v u' := fun q e1 e2 => by
  rcases ho with h1 | h1
  · exact ha q e1 (h1 ▸ e2)
  · rw [h1] at e2
    injection e2 with e2
    have := (World.ownsRow.lt h q e1).2
    omega
theorem nmO_noneC {h : Hm} {o : Ob} (e : o.cls = -1) : nmO h o = [] := by
  unfold nmO ldOf
  rw [if_pos e]
  cases o.ps <;> rfl
set_option maxRecDepth 20000 in
set_option maxHeartbeats 8000000 in
theorem walkHeapCome {w : World} (hW : WordsAt w) (ao : Option Addr) (cap : Nat) (T : List Cl) (room : Int) (xo : Option Addr) (xc : Nat) (X : List Ac) (hT : TabAt w ao T) (hcap : T.length ≤ cap) (hz : T.length * 48 ≤ 140737488351232) (hX : AcsAt w xo X) (hXl : X.length * 56 ≤ 140737488351232) (ro : Option Addr) (rc : Nat) (R : List Int) (hR : JsAt w ro R) (hRl : R.length * 8 ≤ 140737488351232) :
    Calls Tryd.prog 7 #[.agg #[.slice ao T.length cap, .int .i64 room, .slice xo X.length xc], .slice ro R.length rc] w fun e w' => e = .returned (.bool true) ∧ Below w.heap.size w w' := by
  obtain ⟨i0, hi, hz0, hz1, hz2⟩ := info_parts infoJ
  have hal : Below w.heap.size w (w.alloc (.cells #[.slice ao T.length cap, .int .i64 room, .slice xo X.length xc] 25)) := (Below.refl _ _).alloc (Nat.le_refl _) _
  have HBX : Hid (Bx (w.alloc (.cells #[.slice ao T.length cap, .int .i64 room, .slice xo X.length xc] 25)) w.heap.size 25 #[.slice ao T.length cap, .int .i64 room, .slice xo X.length xc]) := hide (heap_alloc_new w _)
  have HB := hide hal
  have HA := hide (awake_any _ (hW.below hal))
  have HT := hide hT
  have HX := hide hX
  have HW := hide hW
  have HRR := hide hR
  have HZ := hide (And.intro hcap (And.intro hz (And.intro hXl hRl)))
  clear hal hT hX hW hz hcap hXl hR hRl
  go_enter Tryd.func7, Tryd.ntmps7
  go_upto_region 1 with fail
  generalize w.alloc (.cells #[.slice ao T.length cap, .int .i64 room, .slice xo X.length xc] 25) = W1 at HBX HB HA ⊢
  go_wp2_with fail
  refine (unhide HA).mono ?_
  rintro e W2 ⟨rfl, hb2⟩
  have HB2 := hide ((unhide HB).trans (hb2.mono (unhide HB).size))
  have HBX2 := hide ((unhide HBX).below hb2)
  clear hb2 HA HB HBX
  have HL := hide (lived_any ao cap T room xo xc X W2 ((unhide HT).below (unhide HB2)) (unhide HZ).1 ((unhide HW).below (unhide HB2)) (unhide HZ).2.1 ((unhide HX).below (unhide HB2)) (unhide HZ).2.2.1)
  have k0 := (unhide HBX2).c 0 rfl
  have k1 := (unhide HBX2).c 1 rfl
  have k2 := (unhide HBX2).c 2 rfl
  go_wp2_with fail
  refine (unhide HL).mono ?_
  rintro e W3 ⟨hI, hb3⟩
  have HB3 := hide ((unhide HB2).trans (hb3.mono (unhide HB2).size))
  have HBX3 := hide ((unhide HBX2).below hb3)
  clear hb3 HL k0 k1 k2 HBX2
  rcases hI with rfl | ⟨_, hr1, hmade, g, h, rfl, hH, hLv⟩
  · go_wp2
    go_ret
    exact ⟨rfl, unhide HB3⟩
  · have HOK := hide hLv.ok
    have hlen := hLv.ok.len
    have HLi := hide (live_any W2.heap.size g h ro rc R W3 hH hlen ((unhide HRR).below (unhide HB3)) (unhide HZ).2.2.2)
    have HH := hide hH
    have HLV := hide hLv
    have HMD := hide hmade
    clear hH hLv hmade
    go_wp2_with fail
    refine (unhide HLi).mono ?_
    rintro e W4 ⟨v, rfl, hO, hb4⟩
    have HH4 := hide ((unhide HH).below hb4)
    have HB4 := hide ((unhide HB3).trans (hb4.mono (unhide HB3).size))
    have HBX4 := hide ((unhide HBX3).below hb4)
    have hRn : (liveD h R).length ≤ 17592186043904 := Nat.le_trans (List.length_filter_le _ _) (by have := (unhide HZ).2.2.2; omega)
    have HRS : Hid (∀ r ∈ liveD h R, ∃ o ∈ h.O, o.ref = r) := hide (fun r hr => by
      have := (List.mem_filter.1 hr).2
      obtain ⟨o, ho, e⟩ := List.mem_map.1 (of_decide_eq_true this)
      exact ⟨o, ho, e⟩)
    have HO := hide hO
    clear hb4 HLi HH HB3 HBX3 hO
    have hR1 : (liveD h R).length ≤ 17592186043904 := Nat.le_trans (List.length_filter_le _ _) (by have := (unhide HZ).2.2.2; omega)
    generalize liveD h R = R1 at hRn HRS HO hR1
    obtain ⟨va, vc, rfl, hj, hnv⟩ := (unhide HO).at
    have HRq := hide (Reach_any W2.heap.size g h va vc R1 W4 (unhide HH4) (unhide HOK) hj (by omega))
    have HNV := hide hnv
    clear hj hnv
    go_wp2_with fail
    refine (unhide HRq).mono ?_
    rintro e W5 ⟨hc, hb5⟩
    rcases hc with ⟨rfl, hbad⟩ | ⟨_, v1, C, rfl, hci, hO1⟩
    · obtain ⟨r, hr, _, hn⟩ := hbad
      obtain ⟨o, ho, e⟩ := unhide HRS r hr
      exact absurd e (hn o ho)
    · obtain ⟨a1, c1, rfl, hj1, _⟩ := hO1.at
      have HO1 := hide hO1
      have HH5 := hide ((unhide HH4).below hb5)
      have HJ5 := hide (own_jsC ((unhide HO).below hb5))
      have HBX5 := hide ((unhide HBX4).below hb5)
      have HB5 := hide ((unhide HB4).trans (hb5.mono (unhide HB4).size))
      have HSM : Hid (∀ r, r ∈ nmd h R1 (keepO h.O C) ↔ r ∈ sel h.O C) := hide (come_names hci (unhide HRS))
      have HKM : Hid (∀ o ∈ keepO h.O C, objD h.O o.ref = some o) := hide (fun o ho => keep_objC (unhide HOK) ho)
      have HSK : Hid ((keepO h.O C).map Ob.ref = sel h.O C) := hide (keep_sel h.O C)
      have HAS : Hid ((sel h.O C).Pairwise (· < ·)) := hide (sel_asc (unhide HOK).asc C)
      have l1 : (sel h.O C).length ≤ 4096 := Nat.le_trans (sel_len _ _) hlen
      clear hci hO1 hb5 HRq hj1 HH4 HO HB4 HBX4
      generalize sel h.O C = S1 at HO1 HSM HSK HAS l1 ⊢
      generalize keepO h.O C = K at HSM HKM HSK
      have hKl : K.length = S1.length := by rw [← unhide HSK, List.length_map]
      have HCn := hide (CloneH_any va vc R1 W5 (unhide HJ5) (unhide HNV) (by omega))
      go_wp2_with fail
      refine (unhide HCn).mono ?_
      rintro e W6 ⟨v6, rfl, hO6, hb6⟩
      have HO6 := hide hO6
      have HB6 := hide hb6
      clear hO6 hb6 HCn
      go_wp2_with fail
      go_loopw [8, 41] (fun v i wr => ∃ (k : Nat) (Y : List Int), k ≤ S1.length ∧ i = .int .i64 (k : Int) ∧ Y.length ≤ R1.length + k * 4096 ∧ Hid (Y = nmd h R1 (K.take k)) ∧ Hid (OwnJ wr W5.heap.size v Y) ∧ Hid (Below W5.heap.size W5 wr)) (fun _ i _ => S1.length - (intOf i).toNat)
      case atStart => exact ⟨0, R1, by omega, rfl, by omega, hide (by simp [nmd]), HO6, HB6⟩
      case round =>
        obtain ⟨k, Y, hk, rfl, hYk, HYE, HOw, HBr⟩ := hrel
        clear HO6 HB6
        obtain ⟨nv, nc, rfl, hjn, _⟩ := (unhide HOw).at
        by_cases hlt : k < S1.length
        · have i1 : ((k : Nat) : Int) < ((S1.length : Nat) : Int) := by omega
          have hkl : k < K.length := by omega
          have hkx := List.getElem?_eq_getElem hkl
          generalize K[k] = o at hkx
          have hx : S1[k]? = some o.ref := by rw [← unhide HSK, List.getElem?_map, hkx]; rfl
          obtain ⟨b, off, rfl, hcr⟩ := own_jsC ((unhide HO1).below (unhide HBr)) k _ hx
          have ho := unhide HKM o (List.mem_of_getElem? hkx)
          have HOO := hide ho
          have HST : Hid (K.take (k + 1) = K.take k ++ [o]) := hide (take_step hkx)
          have hop : o.ps.length ≤ 4096 := (unhide HOK).plen (obj_mem ho).1
          have HCl := hide (Class_any W2.heap.size g h o.ref wr ((unhide HH5).below (unhide HBr)) (unhide HOK))
          clear hkx hx ho hjn
          go_wp2_with fail
          refine (unhide HCl).mono ?_
          rintro e W7 ⟨⟨c, bb, rfl, hc⟩, hb7⟩
          have HB7 := hide ((unhide HBr).trans (hb7.mono (unhide HBr).size))
          have HO7 := hide ((unhide HOw).below hb7)
          clear hb7 HOw HBr HCl hcr
          rcases hc with ⟨rfl, o', ho', q1, rfl, hne⟩ | ⟨rfl, rfl, hall⟩
          · rw [unhide HOO] at ho'
            injection ho' with ho'
            subst ho'
            obtain ⟨c, ec, hcT, hbs, hfl⟩ := lds_ofC (unhide HLV) q1 hne
            have HBS := hide hbs
            have HTB := hide ((unhide HT).below (((unhide HB5).trans ((unhide HB7).mono (unhide HB5).size))))
            have HFd := hide (refFieldsO cap (unhide HTB) (unhide HZ).2.1 (unhide HMD) hcT (by omega))
            have c0 := ((unhide HBX5).below (unhide HB7)).c 0 rfl
            rw [ec]
            have HFL := hide hfl
            clear q1 hne hbs hfl
            go_wp2_with fail
            refine (unhide HFd).mono ?_
            rintro e W8 ⟨fa, fc, rfl, hF, hb8⟩
            have HF8 := hide hF
            have HGF : Hid (Aw (.slice fa (fieldsB T (c : Int)).length fc) (.slice nv Y.length nc)) := hide (fun q e1 e2 => by
              have h1 := (World.ownsRow.lt hF q e1).1
              have h2 := (World.ownsRow.lt (unhide HO7) q e2).2
              omega)
            have HO8 := hide ((unhide HO7).below hb8)
            have HB8 := hide ((unhide HB7).trans (hb8.mono (unhide HB7).size))
            have HPl := hide (places_any W2.heap.size g h o.ref o W8 ((unhide HH5).below (unhide HB8)) (unhide HOK) (unhide HOO))
            clear hF hb8 HO7 HB7 HFd c0 HTB
            go_wp2_with fail
            refine (unhide HPl).mono ?_
            rintro e W9 ⟨v9, rfl, hO9, hb9⟩
            obtain ⟨az, cz, rfl, _, _⟩ := hO9.at
            have HO9 := hide hO9
            have HF9 := hide (ownF_below (unhide HF8) hb9)
            have HN9 := hide ((unhide HO8).below hb9)
            have HB9 := hide ((unhide HB8).trans (hb9.mono (unhide HB8).size))
            have HA9 : Hid (Aw (.slice az o.ps.length cz) (.slice nv Y.length nc)) := hide (fun q e1 e2 => by
              have h1 := (World.ownsRow.lt hO9 q e1).1
              have h2 := (World.ownsRow.lt (unhide HO8) q e2).2
              omega)
            have HG9 := unhide HGF
            clear hO9 hb9 HF8 HO8 HB8 HPl HGF
            have HG9 := hide HG9
            go_wp2_with fail
            go_loopw [8, 61] (fun v i wq => ∃ (j : Nat) (Z : List Int), j ≤ o.ps.length ∧ i = .int .i64 (j : Int) ∧ Z.length ≤ Y.length + j ∧ Hid (Z = Y ++ nmZ h ((ldOf h o.cls).bs.take j) (o.ps.take j)) ∧ Hid (OwnJ wq W5.heap.size v Z) ∧ Hid (Below W5.heap.size W5 wq) ∧ Hid (OwnF wq W7.heap.size (.slice fa (fieldsB T (c : Int)).length fc) (fieldsB T (c : Int))) ∧ Hid (OwnJ wq W8.heap.size (.slice az o.ps.length cz) o.ps) ∧ Hid (Aw (.slice az o.ps.length cz) v) ∧ Hid (Aw (.slice fa (fieldsB T (c : Int)).length fc) v)) (fun _ i _ => o.ps.length - (intOf i).toNat)
            case atStart => exact ⟨0, Y, by omega, rfl, by omega, hide (by simp [nmZ]), HN9, HB9, HF9, HO9, HA9, HG9⟩
            case round =>
              obtain ⟨j, Z, hj, rfl, hZl, HZE, HNq, HBq, HFq, HPq, HAq, HGq⟩ := hrel
              clear HN9 HB9 HF9 HO9 HA9 HG9
              obtain ⟨zv, zc, rfl, _, _⟩ := (unhide HNq).at
              by_cases hlt2 : j < o.ps.length
              · have i2 : ((j : Nat) : Int) < ((o.ps.length : Nat) : Int) := by omega
                have i4 : ((j : Nat) : Int) < (((fieldsB T (c : Int)).length : Nat) : Int) := by have := unhide HFL; omega
                have hy := List.getElem?_eq_getElem hlt2
                have hjf : j < (fieldsB T (c : Int)).length := by have := unhide HFL; omega
                have hf := List.getElem?_eq_getElem hjf
                generalize o.ps[j] = y at hy
                generalize (fieldsB T (c : Int))[j] = f at hf
                obtain ⟨pb, poff, rfl, hpc⟩ := own_jsC (unhide HPq) j _ hy
                obtain ⟨fa', fc', e1, hFs, _⟩ := (unhide HFq).at (fieldsB_ok (unhide HT) (c : Int))
                injection e1 with e1 e1b e1c
                subst e1
                clear e1b e1c
                obtain ⟨fb, foff, rfl, hfl2⟩ := hFs j f hf
                have hfc := hfl2.c1
                have HSTP : Hid (nmZ h ((ldOf h o.cls).bs.take (j + 1)) (o.ps.take (j + 1)) = nmZ h ((ldOf h o.cls).bs.take j) (o.ps.take j) ++ (if isRefD f.ty = true ∧ y ∈ h.O.map Ob.ref then [y] else [])) := hide (nmZ_step (by rw [unhide HBS, List.getElem?_map, hf]; rfl) hy)
                have HI := hide (refIsRef_any f.ty wr)
                have HLi := hide (Live_any W2.heap.size g h wr ((unhide HH5).below (unhide HBq)) hlen)
                clear hy hf hFs hfl2
                by_cases hb : isRefD f.ty = true
                · rw [hb] at HI
                  go_wp2_with fail
                  refine (unhide HI).mono ?_
                  rintro e Wi ⟨rfl, hw⟩
                  rw [hw]
                  clear hw HI hpc hfc
                  go_wp2_with fail
                  refine (unhide HLi).mono ?_
                  rintro e W10 ⟨v10, rfl, hO10, hb10⟩
                  obtain ⟨a10, c10, rfl, hj10, _⟩ := hO10.at
                  have HCt := hide (ContainsH_any a10 c10 (h.O.map Ob.ref) y W10 hj10 (by rw [List.length_map]; omega))
                  rw [List.length_map] at HCt
                  have HN10 := hide ((unhide HNq).below hb10)
                  have HP10 := hide ((unhide HPq).below hb10)
                  have HF10 := hide (ownF_below (unhide HFq) hb10)
                  have HB10 := hide ((unhide HBq).trans (hb10.mono (unhide HBq).size))
                  clear hO10 hb10 hj10 HNq HPq HFq HBq HLi
                  by_cases hin : y ∈ h.O.map Ob.ref
                  · rw [decide_eq_true hin] at HCt
                    have HR1 := hide ((unhide HN10).alloc (.cells #[.int .i64 y] 3))
                    have HEZ : Hid (Z ++ [y] = Y ++ nmZ h ((ldOf h o.cls).bs.take (j + 1)) (o.ps.take (j + 1))) := hide (by rw [unhide HSTP, if_pos ⟨hb, hin⟩, unhide HZE, List.append_assoc])
                    clear hin hb
                    go_wp2_with fail
                    refine (unhide HCt).mono ?_
                    rintro e Wc ⟨rfl, hw⟩
                    rw [hw]
                    clear hw HCt
                    go_wp2_with (at_builtin; refine wpList_append_one_at rfl _ _ 42 rfl (W5.heap.size) 3 i0 (.int .i64 0) 1 8 Tryd.underlying42 hi hz0 hz1 hz2 rfl (by decide) _ Z.length (jvals Z) rfl (unhide HR1) ⟨W10.heap.size, 0, none⟩ 1 [.int .i64 y] rfl rfl (cell_one_newJ _ _ _) (by simp [Value.oneCell']) ?a3 ?a4 ?a5 ?_)
                    case a3 => unfold maxLen; omega
                    case a4 => omega
                    case a5 => have := (unhide HB10).size; simp; omega
                    intro v1 w1 hO1 hG1 _ hOB
                    have hal : Below W10.heap.size W10 (W10.alloc (.cells #[.int .i64 y] 3)) := (Below.refl _ _).alloc (Nat.le_refl _) _
                    have HZ1 : Hid (OwnJ w1 (W5.heap.size) v1 (Z ++ [y])) := hide (by unfold OwnJ jvals; rw [List.map_append, List.length_append]; exact hO1)
                    have HB11 := hide (((unhide HB10).alloc (unhide HB10).size _).grown hG1 (by have := (unhide HB10).size; simp; omega) (fun q e => ((unhide HN10).lt q e).1))
                    have pa := (unhide HP10).below hal
                    have fa2 := ownF_below (unhide HF10) hal
                    have HP11 : Hid (OwnJ w1 W8.heap.size (.slice (some ⟨pb, poff, none⟩) o.ps.length cz) o.ps) := hide (own_aw pa hG1 (unhide HAq))
                    have HF11 : Hid (OwnF w1 W7.heap.size (.slice (some ⟨fb, foff, none⟩) (fieldsB T (c : Int)).length fc) (fieldsB T (c : Int))) := hide (own_aw fa2 hG1 (unhide HGq))
                    have HA11 := hide (aw_new pa (unhide HAq) (by rw [World.size_alloc]; exact hOB))
                    have HG11 := hide (aw_new fa2 (unhide HGq) (by rw [World.size_alloc]; exact hOB))
                    clear hO1 hG1 hOB hal pa fa2
                    go_wp2
                    go_roundw
                    case rel => exact ⟨j + 1, Z ++ [y], by omega, by go_num, by simp; omega, HEZ, HZ1, HB11, HF11, HP11, HA11, HG11⟩
                    case measure => simp [intOf]; omega
                  · rw [decide_eq_false hin] at HCt
                    have HEZ : Hid (Z = Y ++ nmZ h ((ldOf h o.cls).bs.take (j + 1)) (o.ps.take (j + 1))) := hide (by rw [unhide HSTP, if_neg (fun h => hin h.2), List.append_nil]; exact unhide HZE)
                    clear hin hb
                    go_wp2_with fail
                    refine (unhide HCt).mono ?_
                    rintro e Wc ⟨rfl, hw⟩
                    rw [hw]
                    clear hw HCt
                    go_wp2
                    go_roundw
                    case rel => exact ⟨j + 1, Z, by omega, by go_num, by omega, HEZ, HN10, HB10, HF10, HP10, HAq, HGq⟩
                    case measure => simp [intOf]; omega
                · have HEZ : Hid (Z = Y ++ nmZ h ((ldOf h o.cls).bs.take (j + 1)) (o.ps.take (j + 1))) := hide (by rw [unhide HSTP, if_neg (fun h => hb h.1), List.append_nil]; exact unhide HZE)
                  rw [show isRefD f.ty = false from by simpa using hb] at HI
                  clear hb
                  go_wp2_with fail
                  refine (unhide HI).mono ?_
                  rintro e Wi ⟨rfl, hw⟩
                  rw [hw]
                  clear hw HI
                  go_wp2
                  go_roundw
                  case rel => exact ⟨j + 1, Z, by omega, by go_num, by omega, HEZ, HNq, HBq, HFq, HPq, HAq, HGq⟩
                  case measure => simp [intOf]; omega
              · have i2 : ¬ ((j : Nat) : Int) < ((o.ps.length : Nat) : Int) := by omega
                have HEN : Hid (Z = nmd h R1 (K.take (k + 1))) := hide (by
                  rw [unhide HZE, unhide HST, nmd_step, ← unhide HYE]
                  unfold nmO
                  rw [List.take_of_length_le (l := o.ps) (by omega), List.take_of_length_le (by rw [unhide HBS, List.length_map]; have := unhide HFL; omega)])
                go_wp2
                go_roundw
                case rel => exact ⟨k + 1, Z, by omega, by go_num, by omega, HEN, HNq, HBq⟩
                case measure => simp [intOf]; omega
          · have en : nmO h o = [] := nmO_noneC (hall o (unhide HOO))
            clear hall
            go_wp2
            go_roundw
            case rel => exact ⟨k + 1, Y, by omega, by go_num, by omega, hide (by rw [unhide HST, nmd_step, en, List.append_nil]; exact unhide HYE), HO7, HB7⟩
            case measure => simp [intOf]; omega
        · have ek : k = S1.length := by omega
          subst ek
          have i1 : ¬ ((S1.length : Nat) : Int) < ((S1.length : Nat) : Int) := by omega
          have HYM : Hid (∀ r, r ∈ Y ↔ r ∈ S1) := hide (by rw [unhide HYE, ← hKl, List.take_length]; exact unhide HSM)
          have hYl : Y.length ≤ 20000000000000 := by omega
          have HJN := hide hjn
          have HJL := hide (own_jsC ((unhide HO1).below (unhide HBr)))
          have HBw := hide ((unhide HB5).trans ((unhide HBr).mono (unhide HB5).size))
          clear hjn HOw HYE HO1
          go_wp2_with fail
          go_loopw [92] (fun i wx => ∃ (m : Nat), m ≤ Y.length ∧ i = .int .i64 (m : Int) ∧ wx = wr) (fun i _ => Y.length - (intOf i).toNat)
          case atStart => exact ⟨0, by omega, rfl, rfl⟩
          case round =>
            obtain ⟨m, hm, rfl, rfl⟩ := hrel
            by_cases hlt2 : m < Y.length
            · have i2 : ((m : Nat) : Int) < ((Y.length : Nat) : Int) := by omega
              have hx := List.getElem?_eq_getElem hlt2
              obtain ⟨b, off, rfl, hcr⟩ := unhide HJN m _ hx
              have hin : Y[m] ∈ S1 := (unhide HYM _).1 (List.mem_of_getElem? hx)
              generalize Y[m] = y at hcr hin hx
              have hd : decide (y ∈ S1) = true := decide_eq_true hin
              have HCt := hide (ContainsH_any a1 c1 S1 y wr (unhide HJL) (by omega))
              rw [hd] at HCt
              clear hx hin hd
              go_wp2_with fail
              refine (unhide HCt).mono ?_
              rintro e Wc ⟨rfl, rfl⟩
              go_wp2
              go_roundw
              case rel => exact ⟨m + 1, by omega, by go_num, trivial⟩
              case measure => simp [intOf]; omega
            · have i2 : ¬ ((m : Nat) : Int) < ((Y.length : Nat) : Int) := by omega
              have HIS := hide (IsSortedH_yes a1 c1 S1 wr (unhide HJL) l1 (unhide HAS))
              go_wp2_with fail
              go_loopw [103] (fun i wx => ∃ (m : Nat), m ≤ S1.length ∧ i = .int .i64 (m : Int) ∧ wx = wr) (fun i _ => S1.length - (intOf i).toNat)
              case atStart => exact ⟨0, by omega, rfl, rfl⟩
              case round =>
                obtain ⟨m2, hm2, rfl, rfl⟩ := hrel
                by_cases hlt3 : m2 < S1.length
                · have i3 : ((m2 : Nat) : Int) < ((S1.length : Nat) : Int) := by omega
                  have hx := List.getElem?_eq_getElem hlt3
                  obtain ⟨b, off, rfl, hcr⟩ := unhide HJL m2 _ hx
                  have hin : S1[m2] ∈ Y := (unhide HYM _).2 (List.mem_of_getElem? hx)
                  generalize S1[m2] = y at hcr hin hx
                  have hd : decide (y ∈ Y) = true := decide_eq_true hin
                  have HCt := hide (ContainsH_any nv nc Y y wr (unhide HJN) (by omega))
                  rw [hd] at HCt
                  clear hx hin hd
                  go_wp2_with fail
                  refine (unhide HCt).mono ?_
                  rintro e Wc ⟨rfl, rfl⟩
                  go_wp2
                  go_roundw
                  case rel => exact ⟨m2 + 1, by omega, by go_num, trivial⟩
                  case measure => simp [intOf]; omega
                · have i3 : ¬ ((m2 : Nat) : Int) < ((S1.length : Nat) : Int) := by omega
                  go_wp2_with fail
                  refine (unhide HIS).mono ?_
                  rintro e We ⟨rfl, hbe⟩
                  have HBe := hide ((unhide HBw).trans (hbe.mono (unhide HBw).size))
                  clear hbe HIS
                  go_wp2
                  go_ret
                  exact ⟨rfl, unhide HBe⟩
end Go.Proofs.YtnkhkppddlpcmaaDoor
