/-
  The walk of the law TypesFields: it returns true for every table, number and text, and writes nothing that was there. Conditions: the package's words lie there.
-/
import Derived.Test.YtggaecmjadkopabDoorSameT
import Derived.Test.YtggaecmjadkopabDoorRefFind
namespace Go.Proofs.YtggaecmjadkopabDoor
open Go.RowKit

/-- What holds behind the copy, what was asked of both, and a second answer: f's row may turn. -/
structure FS (w W : World) (ao ga wa gg : Option Addr) (T G : List Cl) (F : List Fl) : Prop where
  st : AS w W ao ga T G
  want : FsAt W wa F
  two : FsAt W gg F
theorem FS.below {w W W' : World} {ao ga wa gg : Option Addr} {T G : List Cl} {F : List Fl} (h : FS w W ao ga wa gg T G F) (hb : Below W.heap.size W W') : FS w W' ao ga wa gg T G F := ⟨h.st.below hb, h.want.below hb, h.two.below hb⟩

theorem FsAt.kept {W W' : World} {fo : Option Addr} {fs : List Fl} {row : Option Nat} (h : FsAt W fo fs) (hg : W.grownBy W' row) (hne : ∀ b off, fo = some ⟨b, off, none⟩ → 0 < fs.length → some b ≠ row) : FsAt W' fo fs := fun i f hf => by
  obtain ⟨b, off, e, h1⟩ := h i f hf
  have hlt : b < W.heap.size := World.block_lt_of_cell? W _ h1.c0
  have hp : 0 < fs.length := by have := (List.getElem?_eq_some_iff.1 hf).1; omega
  have hb := hg.block b hlt (hne b off e hp)
  exact ⟨b, off, e, (World.cell?_of_block hb).trans h1.c0, (World.cell?_of_block hb).trans h1.c1, h1.name, h1.ty⟩
theorem grow_t {a b c : World} {row : Option Nat} (h : a.grownBy b row) (k : b.grownBy c row) : a.grownBy c row :=
  ⟨k.os.trans h.os, k.tape.trans h.tape, k.output.trans h.output, Nat.le_trans h.size k.size, fun i hi hne => (k.block i (Nat.lt_of_lt_of_le hi h.size) hne).trans (h.block i hi hne)⟩

theorem findV_tuple (o : Option (Nat × Nat)) : ∃ (i t : Int) (ok : Bool), findV o = .tuple #[.int .i64 i, .int .u8 t, .bool ok] := by
  match o with
  | none => exact ⟨0, 0, false, rfl⟩
  | some (i, t) => exact ⟨i, t, true, rfl⟩
theorem two_new (w : World) (a b : Value) (t : TypeId) : ∀ (j : Nat) u, [a, b][j]? = some u → (w.alloc (.cells #[a, b] t)).cell? ((⟨w.heap.size, 0, none⟩ : Addr).add j) = some u := by
  intro j u hj
  have hrow := heap_alloc_new w (.cells #[a, b] t)
  rw [Addr.add_lit, cell_of_row _ _ _ _ _ _ hrow, Nat.zero_add]
  match j, hj with
  | 0, hj => exact hj
  | 1, hj => exact hj

set_option maxHeartbeats 2000000 in
theorem walkTypesFields {w : World} (hW : WordsAt w) (ao : Option Addr) (cap : Nat) (T : List Cl) (hT : TabAt w ao T) (hz : T.length * 48 ≤ 140737488351232) (c : Int) (_hc : (Lit.int .i64 c).wf = true) (s : ByteArray) (_hs : s.size ≤ maxLen) (_hs2 : s.size ≤ 140737488351232) :
    Calls Tryd.prog 5 #[.slice ao T.length cap, .int .i64 c, .string s] w fun e w' => e = .returned (.bool true) ∧ Below w.heap.size w w' := by
  have HW := hide hW
  have HT := hide hT
  have HZ := hide hz
  obtain ⟨i0, hi, hz0, hz1, hz2⟩ := info_parts infoF
  clear hT hz hW _hc _hs _hs2
  go_enter Tryd.func5, Tryd.ntmps5
  go_wp2_with fail
  refine (Made_any ao cap T _ (unhide HT) (unhide HZ)).mono ?_
  rintro e w3 ⟨rfl, hB⟩
  have HB3 := hide hB
  have HT3 := hide ((unhide HT).below hB)
  have HW3 := hide ((unhide HW).below hB)
  clear hB HT HW
  by_cases hm : madeD T = true
  · have HM := hide hm
    have h32 := made_32 hm
    rw [hm]
    clear hm
    go_wp2_with fail
    with_reducible refine (Classes_any ao cap T _ (unhide HT3) (unhide HZ)).mono ?_
    rintro e w4 ⟨ga, gc, G, rfl, hG, hS, hB⟩
    have H4 : Hid (AS w w4 ao ga T G) := hide ⟨(unhide HT3).below hB, hG, (unhide HW3).below hB, (unhide HB3).trans (hB.mono (unhide HB3).size)⟩
    have HS := hide hS
    have HGz : Hid (G.length * 48 ≤ 140737488351232) := hide (by rw [hS.1]; exact unhide HZ)
    have HGl := hide hS.1
    have HF32 := hide (fields_len (unhide HM) c)
    have HOk := hide (fieldsB_ok (unhide H4).tab c)
    clear hG hS hB HT3 HW3 HB3
    go_wp2_with fail
    with_reducible refine (refFields_any ao cap T c _ (unhide H4).tab (unhide HZ) (by rw [fields_all (unhide HM)]; have := unhide HF32; omega)).mono ?_
    rintro e w5 ⟨wv, rfl, hOw, hB5⟩
    rw [fields_all (unhide HM)] at hOw
    have H5 := hide ((unhide H4).below hB5)
    clear hB5 H4
    go_wp2_with fail
    with_reducible refine (Fields_any ga gc G c _ (unhide H5).cop (unhide HGz) (by rw [(unhide HS).fields]; have := unhide HF32; omega)).mono ?_
    rintro e w6 ⟨fv, rfl, hOf, hB6⟩
    rw [(unhide HS).fields] at hOf
    have H6 := hide ((unhide H5).below hB6)
    have HA5 := H5
    have HB56 := hide hB6
    have hOw6 : OwnF w6 w4.heap.size wv (fieldsB T c) := rowBelow hOw hB6
    have HWF : Hid (∀ k, wv.ownBlock = some k → fv.ownBlock ≠ some k) := hide (fun k e1 e2 => by
      have h1 := (World.ownsRow.lt hOw k e1).2
      have h2 := (World.ownsRow.lt hOf k e2).1
      omega)
    have HFb : Hid (∀ k, fv.ownBlock = some k → w5.heap.size ≤ k ∧ k < w6.heap.size) := hide (fun k e => World.ownsRow.lt hOf k e)
    have h56 := hB6.size
    clear hB6 H5 hOw
    go_wp2_with fail
    with_reducible refine (Fields_any ga gc G c _ (unhide H6).cop (unhide HGz) (by rw [(unhide HS).fields]; have := unhide HF32; omega)).mono ?_
    rintro e w7 ⟨gv, rfl, hOg, hB7⟩
    rw [(unhide HS).fields] at hOg
    have H7 := hide ((unhide H6).below hB7)
    have hOw7 : OwnF w7 w4.heap.size wv (fieldsB T c) := rowBelow hOw6 hB7
    have hOf7 : OwnF w7 w5.heap.size fv (fieldsB T c) := rowBelow hOf hB7
    have HGF : Hid (∀ k, gv.ownBlock = some k → fv.ownBlock ≠ some k) := hide (fun k e1 e2 => by
      have h1 := (World.ownsRow.lt hOg k e1).1
      have h2 := (unhide HFb k e2).2
      omega)
    have HB57 : Hid (Below w5.heap.size w5 w7) := hide ((unhide HB56).trans (hB7.mono h56))
    clear hOf hOw6 hB7 H6 HB56
    obtain ⟨F, HFF⟩ : ∃ F, Hid (fieldsB T c = F) := ⟨_, hide rfl⟩
    rw [unhide HFF] at hOw7 hOf7 hOg HF32 HOk
    obtain ⟨wa, wc, rfl, hwa, _, _⟩ := hOw7.at (unhide HOk)
    obtain ⟨fa, fc, rfl, hfa, _, _⟩ := hOf7.at (unhide HOk)
    obtain ⟨gg, gcc, rfl, hga, _, _⟩ := hOg.at (unhide HOk)
    have hF32 : F.length ≤ 32 := unhide HF32
    have H7' : Hid (FS w w7 ao ga wa gg T G F) := hide ⟨unhide H7, hwa, hga⟩
    have HNw : Hid (∀ b off, wa = some ⟨b, off, none⟩ → 0 < F.length → some b ≠ (Value.slice fa F.length fc).ownBlock) := hide (fun b off e _ h => by subst e; exact unhide HWF b rfl h.symm)
    have HNg : Hid (∀ b off, gg = some ⟨b, off, none⟩ → 0 < F.length → some b ≠ (Value.slice fa F.length fc).ownBlock) := hide (fun b off e _ h => by subst e; exact unhide HGF b rfl h.symm)
    have HFa := hide hfa
    have HOf := hide hOf7
    clear hOw7 hOf7 hOg hwa hfa hga H7 HWF HGF
    go_wp2_with fail
    with_reducible refine (equalF_yes fa wa fc wc F _ (unhide HFa) (unhide H7').want (by omega)).mono ?_
    rintro e w8 ⟨rfl, k1, rfl⟩
    have H8 := hide ((unhide H7').below (below_drew w7 k1))
    have HO8 : Hid (OwnF (w7.drewN k1) w5.heap.size (.slice fa F.length fc) F) := hide (rowBelow (unhide HOf) (below_drew w7 k1))
    have HB58 : Hid (Below w5.heap.size w5 (w7.drewN k1)) := hide (belowD (unhide HB57) k1)
    clear H7' HFa HOf HB57
    generalize World.drewN w7 k1 = w8 at H8 HO8 HB58 ⊢
    go_wp2_with fail
    with_reducible refine (equalF_yes gg wa gcc wc F _ (unhide H8).two (unhide H8).want (by omega)).mono ?_
    rintro e w9 ⟨rfl, k2, rfl⟩
    have H9 := hide ((unhide H8).below (below_drew w8 k2))
    have HO9 : Hid ((w8.drewN k2).ownsRow w5.heap.size 40 2 (.slice fa F.length fc) F.length (fvals F)) := hide (rowBelow (unhide HO8) (below_drew w8 k2))
    have HB59 : Hid (Below w5.heap.size w5 (w8.drewN k2)) := hide (belowD (unhide HB58) k2)
    clear H8 HO8 HB58
    generalize World.drewN w8 k2 = w9 at H9 HO9 HB59 ⊢
    go_wp2
    go_loopw [48] (fun i wr => ∃ (k : Nat) (cs : List Value), k ≤ F.length ∧ i = .int .i64 (k : Int) ∧ Hid (wr.ownsRow w5.heap.size 40 2 (.slice fa F.length fc) F.length cs) ∧ Hid (w9.grownBy wr (Value.slice fa F.length fc).ownBlock)) (fun i _ => F.length - (intOf i).toNat)
    case atStart => exact ⟨0, _, by omega, rfl, HO9, hide (World.grownBy.refl _ _)⟩
    case round =>
      clear HO9
      obtain ⟨k, cs, hk, rfl, HO, HG9⟩ := hrel
      by_cases hlt : k < F.length
      · have j1 : ((k : Nat) : Int) < ((F.length : Nat) : Int) := by omega
        have hcl := (unhide HO).1
        rcases (unhide HO).2 with ⟨e, e2⟩ | ⟨g, cap2, cur, e, _⟩
        · omega
        · injection e with e _ _
          subst e
          have d0 := World.ownsRow.cellAt (unhide HO) (k * 2) (by omega)
          rw [List.getElem?_eq_getElem (by omega)] at d0
          have f0 : wr.frozen? ⟨g, k * 2, none⟩ = false := World.ownsRow.frozenAt (unhide HO) _
          have hst := World.ownsRow.stored (unhide HO) (k * 2) (.string ⟨#[115, 112, 111, 105, 108, 116]⟩)
          have HO2 := hide hst.1
          have HG2 : Hid (w9.grownBy (wr.setCell ⟨g, k * 2, none⟩ (.string ⟨#[115, 112, 111, 105, 108, 116]⟩)) (Value.slice (some ⟨g, 0, none⟩) F.length fc).ownBlock) := hide (grow_t (unhide HG9) hst.2)
          generalize cs[k * 2] = u at d0
          clear hst hcl
          go_wp2
          go_roundw
          case rel => exact ⟨k + 1, _, by omega, by go_num, HO2, HG2⟩
          case measure => simp [intOf]; omega
      · have j1 : ¬ ((k : Nat) : Int) < ((F.length : Nat) : Int) := by omega
        obtain ⟨fv0, HFV⟩ : ∃ fv0, Hid (Value.slice fa F.length fc = fv0) := ⟨_, hide rfl⟩
        rw [unhide HFV] at HO HG9 HNw HNg HFb
        have HFS : Hid (∀ q, fv0.ownBlock = some q → fv0.ownBlock = some q ∨ w9.heap.size ≤ q) := hide (fun q e => .inl e)
        go_wp2
        go_loopw [9, 56] (fun v i wq => ∃ (k : Nat) (cs : List Value), k ≤ 40 ∧ i = .int .i64 (k : Int) ∧ Hid (wq.ownsRow w5.heap.size 40 2 v (F.length + k) cs) ∧ Hid (w9.grownBy wq fv0.ownBlock) ∧ Hid (∀ q, v.ownBlock = some q → fv0.ownBlock = some q ∨ w9.heap.size ≤ q)) (fun _ i _ => 40 - (intOf i).toNat)
        case atStart => exact ⟨0, cs, by omega, rfl, by rw [unhide HFV]; exact HO, HG9, by rw [unhide HFV]; exact HFS⟩
        case round =>
          clear HO HG9 HFS
          obtain ⟨k, cs, hk, rfl, HO, HG9, HFS⟩ := hrel
          by_cases hlt : k < 40
          · have i1 : ((k : Nat) : Int) < 40 := by omega
            have HR := hide ((unhide HO).alloc (.cells #[.string ⟨#[109, 111, 114, 101]⟩, .int .u8 0] 40))
            have hs59 := (unhide HB59).size
            have hs9 := (unhide HG9).size
            go_wp2_with (at_builtin; refine wpList_append_own_at _ rfl _ _ 36 rfl w5.heap.size 40 i0 (.agg #[.string ⟨#[]⟩, .int .u8 0]) 2 24 Tryd.underlying36 hi hz0 hz1 hz2 rfl (by decide) _ (F.length + k) cs rfl (unhide HR) ⟨wr.heap.size, 0, none⟩ 1 1 [.string ⟨#[109, 111, 114, 101]⟩, .int .u8 0] rfl rfl (two_new _ _ _ _) (by simp [Value.oneCell']) ?a3 ?a4 ?a5 ?_)
            case a3 => unfold maxLen; omega
            case a4 => omega
            case a5 => rw [World.size_alloc]; omega
            intro v' w2 hO' hG' _ hF'
            have HO2 : Hid (w2.ownsRow w5.heap.size 40 2 v' (F.length + (k + 1)) _) := hide hO'
            have HG2 : Hid (w9.grownBy w2 fv0.ownBlock) := hide ⟨hG'.os.trans (unhide HG9).os, hG'.tape.trans (unhide HG9).tape, hG'.output.trans (unhide HG9).output, Nat.le_trans (Nat.le_trans hs9 (by rw [World.size_alloc]; omega)) hG'.size, fun q hq hne => by
              refine (hG'.block q (by rw [World.size_alloc]; omega) (fun e => ?_)).trans (((MapKept.heap_alloc wr _).2 q (by omega)).trans ((unhide HG9).block q hq hne))
              rcases unhide HFS q e.symm with h | h
              · exact hne h.symm
              · omega⟩
            have HFS2 : Hid (∀ q, v'.ownBlock = some q → fv0.ownBlock = some q ∨ w9.heap.size ≤ q) := hide (fun q e => by
              rcases hF' with h | h
              · exact unhide HFS q (h ▸ e)
              · rw [h] at e
                injection e with e
                right
                first | omega | (rw [World.size_alloc] at e; omega))
            clear hO' hG' hF' HO HG9 HFS HR
            go_wp2
            go_roundw
            case rel => exact ⟨k + 1, _, by omega, by go_num, HO2, HG2, HFS2⟩
            case measure => simp [intOf]; omega
          · have HAe : Hid (AS w wr ao ga T G) := hide ((unhide HA5).below ((unhide HB59).trans (below_grown (unhide HG9) (unhide HB59).size (fun q e => (unhide HFb q e).1))))
            have HWe := hide ((unhide H9).want.kept (unhide HG9) (unhide HNw))
            have HGe := hide ((unhide H9).two.kept (unhide HG9) (unhide HNg))
            have HE : Hid (FS w wr ao ga wa gg T G F) := hide ⟨unhide HAe, unhide HWe, unhide HGe⟩
            have i1 : ¬ ((k : Nat) : Int) < 40 := by omega
            obtain ⟨fi, ft, fo, HV⟩ := findV_tuple (findD F s 0)
            have HV := hide HV
            obtain ⟨u, ok, HP⟩ : ∃ u ok, Hid (parseD six T s = (u, ok)) := ⟨_, _, hide rfl⟩
            clear HO HG9 HFS HAe HWe HGe HA5 HB59 H9 HNw HNg HFb HFV
            go_wp2_with fail
            with_reducible refine (Find_any ga gc G c s _ (unhide HE).st.cop (unhide HGz) (by rw [(unhide HS).fields, unhide HFF]; omega)).mono ?_
            rintro e w10 ⟨rfl, hB⟩
            have H10 := hide ((unhide HE).below hB)
            rw [(unhide HS).fields, unhide HFF, unhide HV]
            clear hB HE
            go_wp2_with fail
            with_reducible refine (refFind_any ao cap T c s _ (unhide H10).st.tab (unhide HZ) (by rw [fields_all (unhide HM), unhide HFF]; omega)).mono ?_
            rintro e w11 ⟨rfl, hB⟩
            have H11 := hide ((unhide H10).below hB)
            rw [fields_all (unhide HM), unhide HFF, unhide HV]
            clear hB H10
            have hPs := Parse_six (wordD 0) (wordD 1) (wordD 2) (wordD 3) (wordD 4) (wordD 5) ga gc G s w11 (unhide H11).st.cop (by rw [unhide HGl]; exact h32) ((unhide H11).st.wds 0 (by omega)) ((unhide H11).st.wds 1 (by omega)) ((unhide H11).st.wds 2 (by omega)) ((unhide H11).st.wds 3 (by omega)) ((unhide H11).st.wds 4 (by omega)) ((unhide H11).st.wds 5 (by omega))
            have hP2 : parseD [wordD 0, wordD 1, wordD 2, wordD 3, wordD 4, wordD 5] G s = (u, ok) := ((unhide HS).parse _ s).trans (unhide HP)
            rw [hP2] at hPs
            have HPs := hide hPs
            clear hPs hP2
            go_wp2_with fail
            with_reducible refine (unhide HPs).mono ?_
            rintro e w12 ⟨rfl, rfl⟩
            clear HPs
            go_wp2_with fail
            with_reducible refine (refParse_any ao cap T s _ (unhide H11).st.tab).mono ?_
            rintro e w13 ⟨rfl, hB⟩
            have H13 := hide ((unhide H11).below hB)
            rw [parse_same h32 s, unhide HP]
            clear hB H11
            go_wp2_with fail
            with_reducible refine (equalF_yes gg wa gcc wc F _ (unhide H13).two (unhide H13).want (by omega)).mono ?_
            rintro e w14 ⟨rfl, k3, rfl⟩
            have H14 := hide ((unhide H13).below (below_drew w13 k3))
            clear H13
            generalize World.drewN w13 k3 = w14 at H14 ⊢
            have e1 : (fi == fi) = true := by simp
            have e2 : (ft == ft) = true := by simp
            have e3 : (fo == fo) = true := by simp
            have e4 : (((u : Nat) : Int) == ((u : Nat) : Int)) = true := by simp
            have e5 : (ok == ok) = true := by simp
            go_wp2_with fail
            with_reducible refine (Same_yes ga ao gc cap T G _ (unhide H14).st.cop (unhide H14).st.tab (unhide HS) (unhide HZ)).mono ?_
            rintro e w15 ⟨rfl, k4, rfl⟩
            go_wp2
            go_ret
            exact ⟨by simp, belowD (unhide H14).st.bel k4⟩
  · have hm' : madeD T = false := by simpa using hm
    rw [hm']
    clear hm hm'
    go_wp2
    go_ret
    exact ⟨rfl, unhide HB3⟩
end Go.Proofs.YtggaecmjadkopabDoor
