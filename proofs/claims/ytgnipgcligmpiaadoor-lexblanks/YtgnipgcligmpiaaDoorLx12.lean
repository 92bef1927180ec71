/-
  lex.Scan: what scD tells, in new memory; a fault as an error.
-/
import Derived.Test.YtgnipgcligmpiaaDoorLx11
import Derived.Lib.OthersKept
namespace Go.Proofs.YtgnipgcligmpiaaDoor
open Go.RowKit
set_option maxRecDepth 20000

/-- A fault as an error. -/
def ftV (a : Nat) (e : Int) : Value := if e = 0 then .nilIface else .iface 44 (.agg #[.int .i64 (a : Int), .int .i64 e])
theorem OwnT.iterAt {w : World} {base : Nat} {v : Value} {l : List Tk} (h : OwnT w base v l) {k : Nat} (hk : k < base) (s : ByteArray) (pos : Nat) : OwnT (w.iterAt k s pos) base v l := by
  refine ⟨h.1, ?_⟩
  rcases h.2 with h1 | ⟨g, cap, cur, hv, hbg, hh, r⟩
  · exact Or.inl h1
  · exact Or.inr ⟨g, cap, cur, hv, hbg, by rw [Lib.iterAt_other _ _ _ _ _ (by omega)]; exact hh, r⟩
theorem OwnT.base {w : World} {b1 b2 : Nat} {v : Value} {l : List Tk} (h : OwnT w b1 v l) (hb : b2 ≤ b1) : OwnT w b2 v l := by
  refine ⟨h.1, ?_⟩
  rcases h.2 with h1 | ⟨g, cap, cur, hv, hbg, r⟩
  · exact Or.inl h1
  · exact Or.inr ⟨g, cap, cur, hv, by omega, r⟩
theorem pre_two {s : ByteArray} {p : Nat} (h : bt s p = 47 ∧ p + 1 < s.size ∧ bt s (p + 1) = 47) : preD ⟨#[47, 47]⟩ s p = true := by
  obtain ⟨h1, h2, h3⟩ := h
  rw [← bt_at (by omega)] at h1 h3
  have e1 : s[p]'(by omega) = 47 := UInt8.toNat_inj.1 h1
  have e2 : s[p + 1]'(by omega) = 47 := UInt8.toNat_inj.1 h3
  unfold preD Lib.hasPrefix
  rw [List.isPrefixOf_iff_prefix]
  have hl1 : (s.extract p s.size).data.toList = s.data.toList.drop p := by
    simp
    rw [List.take_of_length_le (by simp)]
  have hsz : s.data.toList.length = s.size := by simp
  rw [hl1, List.drop_eq_getElem_cons (by omega), List.drop_eq_getElem_cons (by omega)]
  have g1 : s.data.toList[p]'(by omega) = 47 := e1
  have g2 : s.data.toList[p + 1]'(by omega) = 47 := e2
  rw [g1, g2]
  exact ⟨_, rfl⟩
theorem pre_two_iff {s : ByteArray} {p : Nat} (hp : p < s.size) : preD ⟨#[47, 47]⟩ s p = true ↔ (bt s p = 47 ∧ p + 1 < s.size ∧ bt s (p + 1) = 47) := by
  refine ⟨fun h => ?_, pre_two⟩
  have h0 := pre_byte h 0 (by decide)
  have h1 := pre_byte h 1 (by decide)
  rw [pre_ext, Bool.and_eq_true, decide_eq_true_eq] at h
  have h2 := h.1
  have e : (⟨#[47, 47]⟩ : ByteArray).size = 2 := rfl
  rw [e] at h2
  exact ⟨h0, by omega, h1⟩

set_option maxRecDepth 20000 in
set_option maxHeartbeats 8000000 in
theorem ScanT_any (s : ByteArray) (w : World) (hW : SpAt w) (hs : s.size ≤ 140737488351232) :
    Calls Tryd.prog 8 #[.string s] w fun e w' => ∃ v, e = .returned (.tuple #[v, ftV (scD s).2.1 (scD s).2.2]) ∧ OwnT w' w.heap.size v (scD s).1 ∧ Below w.heap.size w w' := by
  obtain ⟨i0, hi, hz0, hz1, hz2⟩ := info_parts infoTk
  have HSp := hide hW
  clear hW
  go_enter Tryd.func8, Tryd.ntmps8
  by_cases hlong : 65536 < s.size
  · have i1 : ((s.size : Nat) : Int) > 65536 := by omega
    have HR : Hid (scD s = ([], 0, 4)) := hide (if_pos hlong)
    go_wp2
    go_ret2
    rw [unhide HR]
    exact ⟨_, rfl, OwnT.nil _ _, Below.refl _ _⟩
  · have i1 : ¬ ((s.size : Nat) : Int) > 65536 := by omega
    have hsz : s.size ≤ 65536 := by omega
    have HSC : Hid (scD s = scG s 0 []) := hide (if_neg hlong)
    go_wp2
    go_loopw [4, 5] (fun v t wr => ∃ (pos told : Nat) (A : List Tk), t = .int .i64 (told : Int) ∧ Hid (Sc s A pos told) ∧ Hid (wr.heap[w.heap.size]? = some (.stringIter s pos)) ∧ Hid (OwnT wr (w.heap.size + 1) v A) ∧ Hid (Below w.heap.size w wr)) (fun _ _ wr => s.size - wr.iterPos w.heap.size)
    case atStart => exact ⟨0, 0, [], rfl, hide (Sc.start s), hide (heap_alloc_new w _), hide (OwnT.nil _ _), hide ((Below.refl _ _).alloc (Nat.le_refl _) _)⟩
    case round =>
      obtain ⟨pos, told, A, rfl, HS, HI, HO, HB⟩ := hrel
      obtain ⟨oa, oc, rfl⟩ := (unhide HO).slice
      by_cases hp : pos < s.size
      · have hnx := fun ty => Lib.run_next_any_at (P := Tryd.prog) wr w.heap.size s pos ty (unhide HI) hp
        obtain ⟨hst1, hst2⟩ := dec_step hp
        obtain ⟨hbl, hlt, hdg⟩ := dec_tests hp
        have H1 : Hid (pos < told → Sc s A (pos + (Utf8.decode s pos).2) told) := hide (unhide HS).skip
        have H2 : Hid (told ≤ pos → blC (bt s pos) = true → Sc s A (pos + (Utf8.decode s pos).2) told) := hide (fun h1 h2 => (unhide HS).blank h1 hp h2)
        have H3 : Hid (told ≤ pos → (bt s pos = 47 ∧ pos + 1 < s.size ∧ bt s (pos + 1) = 47) → Sc s A (pos + (Utf8.decode s pos).2) (enD rmC s pos)) := hide (unhide HS).rem
        have H4 : Hid (told ≤ pos → blC (bt s pos) = false → ¬ (bt s pos = 47 ∧ pos + 1 < s.size ∧ bt s (pos + 1) = 47) → blD s pos = pos ∧ scG s 0 [] = scG s pos A) := hide (fun h1 h2 h3 => (unhide HS).stop h1 hp h2 h3)
        have H5 : Hid ((blD s pos = pos ∧ scG s 0 [] = scG s pos A) → ¬ 16384 ≤ A.length → onE s pos = 0 → ∃ e : Nat, (onT s pos).e = (e : Int) ∧ Sc s (A ++ [onT s pos]) (pos + (Utf8.decode s pos).2) e) := hide (fun h1 h2 h3 => Sc.tok h1 hp h2 h3)
        have HPo : Hid (wr.iterPos w.heap.size = pos) := hide (by unfold World.iterPos; rw [unhide HI])
        have hAl := (unhide HS).l
        have htl := (unhide HS).t
        generalize Utf8.decode s pos = dd at hnx hst1 hst2 hbl hlt hdg H1 H2 H3 H5
        obtain ⟨cc, kk⟩ := dd
        simp only at hnx hst1 hst2 hbl hlt hdg H1 H2 H3 H5
        have HI1 := hide (Lib.iterAt_heap wr w.heap.size s pos (pos + kk) (unhide HI))
        have HO1 := hide ((unhide HO).iterAt (k := w.heap.size) (by omega) s (pos + kk))
        have HB1 := hide (Lib.below_iterAt (unhide HB) (Nat.le_refl _) s (pos + kk))
        generalize hW1 : wr.iterAt w.heap.size s (pos + kk) = W1 at hnx HI1 HO1 HB1
        have HS1 := hide ((unhide HSp).below (unhide HB1))
        have HPo1 : Hid (W1.iterPos w.heap.size = pos + kk) := hide (by unfold World.iterPos; rw [unhide HI1])
        clear hW1 HI HO HB HS
        by_cases ht : pos < told
        · have jt : ((pos : Nat) : Int) < ((told : Nat) : Int) := by omega
          have HS2 := hide (unhide H1 ht)
          clear H1 H2 H3 H4 H5
          go_wp2
          first
            | (refine ⟨⟨pos + kk, told, A, rfl, HS2, HI1, HO1, HB1⟩, ?_⟩; rw [unhide HPo1, unhide HPo]; omega)
            | (go_roundw; (case rel => exact ⟨pos + kk, told, A, rfl, HS2, HI1, HO1, HB1⟩); (case measure => rw [unhide HPo1, unhide HPo]; omega))
        · have jt : ¬ ((pos : Nat) : Int) < ((told : Nat) : Int) := by omega
          have ht2 : told ≤ pos := by omega
          have HBk := hide (lexBlank_any (cc : Int) W1)
          rw [hbl] at HBk
          go_wp2_with fail
          refine (unhide HBk).mono ?_
          rintro e W2 ⟨rfl, ew⟩
          subst W2
          cases hbb : blC (bt s pos : Int)
          · have HPre := hide (Any.strings_HasPrefix Tryd.laysPre (s.extract pos s.size) ⟨#[47, 47]⟩ W1)
            have H6 : Hid (¬ (bt s pos = 47 ∧ pos + 1 < s.size ∧ bt s (pos + 1) = 47) → blD s pos = pos ∧ scG s 0 [] = scG s pos A) := hide (unhide H4 ht2 hbb)
            have H7 : Hid (Lib.hasPrefix (s.extract pos s.size).data.toList (⟨#[47, 47]⟩ : ByteArray).data.toList = true ↔ (bt s pos = 47 ∧ pos + 1 < s.size ∧ bt s (pos + 1) = 47)) := hide (pre_two_iff hp)
            have hps : pos ≤ s.size := by omega
            clear H1 H2 H4 HBk hbb hbl
            go_wp2_with fail
            refine (unhide HPre).mono ?_
            rintro e W2 ⟨rfl, ew⟩
            subst W2
            clear HPre
            generalize Lib.hasPrefix (s.extract pos s.size).data.toList (⟨#[47, 47]⟩ : ByteArray).data.toList = bp at H7 ⊢
            cases bp
            · have HQ := hide (unhide H6 (fun h => by have := (unhide H7).2 h; cases this))
              clear H3 H6 H7
              by_cases hA : A.length = 16384
              · have jA : (((A.length : Nat) : Int) == 16384) = true := by rw [hA]; rfl
                have HR : Hid (scD s = ([], pos, 4)) := hide (by rw [unhide HSC]; exact Sc.long (unhide HQ) hp (by omega))
                clear hA H5 HQ
                go_wp2
                go_ret2
                rw [unhide HR]
                exact ⟨_, rfl, OwnT.nil _ _, unhide HB1⟩
              · have jA : (((A.length : Nat) : Int) == 16384) = false := by simp; omega
                have hA2 : A.length < 16384 := by omega
                have HD := hide (token_any s pos (cc : Int) W1 (unhide HS1) hp hsz hlt hdg)
                clear hA
                go_wp2_with fail
                by_cases he : onE s pos = 0
                · obtain ⟨q, hq, hSc⟩ := unhide H5 (unhide HQ) (by omega) he
                  have HS2 := hide hSc
                  rw [he] at HD
                  generalize onT s pos = x at HD hq HS2
                  unfold tkA at HD
                  have HE : Hid (x.e = (q : Int)) := hide hq
                  clear hq hSc HQ H5 he
                  refine (unhide HD).mono ?_
                  rintro e w1 ⟨rfl, hB1⟩
                  have HI2 := hide ((hB1.block w.heap.size (Array.getElem?_eq_some_iff.1 (unhide HI1)).1).trans (unhide HI1))
                  have HO2 := hide ((unhide HO1).below hB1)
                  have HB2 := hide ((unhide HB1).trans (hB1.mono (unhide HB1).size))
                  have hal : Below w1.heap.size w1 (w1.alloc (.cells #[.int .i64 x.k, .int .i64 x.a, .int .i64 x.e, .int .i64 x.n, .string x.t] 34)) := (Below.refl _ _).alloc (Nat.le_refl _) _
                  have I1 : Hid (TkAt (w1.alloc (.cells #[.int .i64 x.k, .int .i64 x.a, .int .i64 x.e, .int .i64 x.n, .string x.t] 34)) w1.heap.size x) := hide (heap_alloc_new w1 _)
                  have HI3 := hide ((hal.block w.heap.size (Array.getElem?_eq_some_iff.1 (unhide HI2)).1).trans (unhide HI2))
                  have HO3 := hide ((unhide HO2).below hal)
                  have HB3 := hide ((unhide HB2).trans (hal.mono (unhide HB2).size))
                  have HL : Hid (∀ q, (Value.slice oa A.length oc).ownBlock = some q → w.heap.size + 1 ≤ q ∧ q < w1.heap.size) := hide (World.ownsRow.lt (unhide HO2))
                  have HGI : Hid (w1.heap.size < (w1.alloc (.cells #[.int .i64 x.k, .int .i64 x.a, .int .i64 x.e, .int .i64 x.n, .string x.t] 34)).heap.size) := hide (by simp)
                  clear hB1 hal HO1 HB1 HI1 HO2 HB2 HI2 HD HPo1
                  go_upto_region 11 with fail
                  generalize (w1.alloc (.cells #[.int .i64 x.k, .int .i64 x.a, .int .i64 x.e, .int .i64 x.n, .string x.t] 34)) = w2 at I1 HI3 HO3 HB3 HGI ⊢
                  generalize w1.heap.size = gi at I1 HL HGI ⊢
                  have HO4 := hide ((show w2.ownsRow (w.heap.size + 1) 34 5 (.slice oa A.length oc) A.length (tvals A) from unhide HO3).alloc (.cells #[.int .i64 x.k, .int .i64 x.a, .int .i64 x.e, .int .i64 x.n, .string x.t] 34))
                  have hbs := (unhide HB3).size
                  have hilt := (Array.getElem?_eq_some_iff.1 (unhide HI3)).1
                  go_upto_region 12 with (first | (refine wpList_load_row rfl 34 (.tmp 8) rfl gi rfl 34 #[.int .i64 x.k, .int .i64 x.a, .int .i64 x.e, .int .i64 x.n, .string x.t] (0, 0) _ (unhide I1) Tryd.underlying34 rfl (by kernel_rfl) ?_) | (at_builtin; refine wpList_append_own_at _ rfl _ _ 22 rfl (w.heap.size + 1) 34 i0 (.agg #[.int .i64 0, .int .i64 0, .int .i64 0, .int .i64 0, .string ⟨#[]⟩]) 5 48 Tryd.underlying22 hi hz0 hz1 hz2 rfl (by decide) _ A.length (tvals A) rfl (unhide HO4) ⟨w2.heap.size, 0, none⟩ 1 1 (tcells x) rfl rfl (cell_new_tk _ _) (tcells_one x) (by unfold maxLen; omega) (by omega) (by simp; omega) ?_))
                  intro v3 w3 hO3 hG3 _ _
                  have HO5 : Hid (OwnT w3 (w.heap.size + 1) v3 (A ++ [x])) := hide (by
                    unfold OwnT
                    rw [tvals_snoc, List.length_append]
                    exact hO3)
                  have hga : Below w2.heap.size w2 (w2.alloc (.cells #[.int .i64 x.k, .int .i64 x.a, .int .i64 x.e, .int .i64 x.n, .string x.t] 34)) := (Below.refl _ _).alloc (Nat.le_refl _) _
                  have I3 : TkAt w3 gi x := (hG3.block gi (by have := unhide HGI; simp; omega) (fun e => by have := (unhide HL gi e.symm).2; omega)).trans ((unhide I1).below hga)
                  have HI4 : Hid (w3.heap[w.heap.size]? = some (.stringIter s (pos + kk))) := hide ((hG3.block w.heap.size (by simp; omega) (fun e => by have := (unhide HL _ e.symm).1; omega)).trans ((hga.block _ hilt).trans (unhide HI3)))
                  have HB4 : Hid (Below w.heap.size w w3) := hide (((unhide HB3).alloc (unhide HB3).size _).grown hG3 (by have := (unhide HB3).size; simp; omega) (fun q e => by have := (unhide HL q e).1; omega))
                  have HPo2 : Hid (w3.iterPos w.heap.size = pos + kk) := hide (by unfold World.iterPos; rw [unhide HI4])
                  have hc2 := I3.c2
                  rw [unhide HE] at hc2
                  clear hO3 hG3 hga I1 HO3 HO4 HB3 HL HGI hbs I3 HI3 hilt
                  go_wp2
                  first
                    | (refine ⟨⟨pos + kk, q, A ++ [x], rfl, HS2, HI4, HO5, HB4⟩, ?_⟩; rw [unhide HPo2, unhide HPo]; omega)
                    | (go_roundw; (case rel => exact ⟨pos + kk, q, A ++ [x], rfl, HS2, HI4, HO5, HB4⟩); (case measure => rw [unhide HPo2, unhide HPo]; omega))
                · have HR : Hid (scD s = ([], pos, onE s pos)) := hide (by rw [unhide HSC]; exact Sc.err (unhide HQ) hp (by omega) he)
                  obtain ⟨d, Hd, hd⟩ : ∃ d, Hid (onE s pos = d) ∧ d ≠ 0 := ⟨_, hide rfl, he⟩
                  rw [unhide Hd] at HD HR
                  generalize onT s pos = x at HD
                  unfold tkA at HD
                  clear he H5 HQ
                  refine (unhide HD).mono ?_
                  rintro e w1 ⟨rfl, hB1⟩
                  have HB2 := hide ((unhide HB1).trans (hB1.mono (unhide HB1).size))
                  clear hB1 HD HO1 HB1
                  have hdb : (d != 0) = true := bne_iff_ne.2 hd
                  have HF : Hid (ftV pos d = .iface 44 (.agg #[.int .i64 (pos : Int), .int .i64 d])) := hide (if_neg hd)
                  go_wp2_with fail
                  go_ret2
                  rw [unhide HR]
                  exact ⟨_, by rw [unhide HF]; rfl, OwnT.nil _ _, (unhide HB2).alloc (unhide HB2).size _⟩
            · have HS2 := hide (unhide H3 ht2 ((unhide H7).1 rfl))
              have HE := hide (runEndR_any s pos W1 (by omega) hs)
              clear H3 H5 H6 H7
              go_wp2_with fail
              refine (unhide HE).mono ?_
              rintro e W2 ⟨rfl, hB2⟩
              have HI2 := hide ((hB2.block w.heap.size (Array.getElem?_eq_some_iff.1 (unhide HI1)).1).trans (unhide HI1))
              have HO2 := hide ((unhide HO1).below hB2)
              have HB2 := hide ((unhide HB1).trans (hB2.mono (unhide HB1).size))
              have HPo2 : Hid (W2.iterPos w.heap.size = pos + kk) := hide (by unfold World.iterPos; rw [unhide HI2])
              clear HE hB2
              go_wp2
              first
                | (refine ⟨⟨pos + kk, _, A, rfl, HS2, HI2, HO2, HB2⟩, ?_⟩; rw [unhide HPo2, unhide HPo]; omega)
                | (go_roundw; (case rel => exact ⟨pos + kk, _, A, rfl, HS2, HI2, HO2, HB2⟩); (case measure => rw [unhide HPo2, unhide HPo]; omega))
          · have HS2 := hide (unhide H2 ht2 hbb)
            clear H1 H2 H3 H4 H5 HBk hbb hbl
            go_wp2
            first
              | (refine ⟨⟨pos + kk, told, A, rfl, HS2, HI1, HO1, HB1⟩, ?_⟩; rw [unhide HPo1, unhide HPo]; omega)
              | (go_roundw; (case rel => exact ⟨pos + kk, told, A, rfl, HS2, HI1, HO1, HB1⟩); (case measure => rw [unhide HPo1, unhide HPo]; omega))
      · have hnx := fun ty => Lib.run_next_end_at (P := Tryd.prog) wr w.heap.size s pos ty (unhide HI) hp
        have HR : Hid (scD s = (A, 0, 0)) := hide (by rw [unhide HSC, (unhide HS).fin hp])
        clear HS
        go_wp2
        go_ret2
        rw [unhide HR]
        exact ⟨_, rfl, (unhide HO).base (by omega), unhide HB⟩
end Go.Proofs.YtgnipgcligmpiaaDoor
