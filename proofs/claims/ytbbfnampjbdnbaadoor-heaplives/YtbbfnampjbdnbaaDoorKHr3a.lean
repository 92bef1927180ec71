/-
  Contract of heap.New with its exact errors (as Hq12's New_any, which leaves the error open).
-/
import Derived.Test.YtbbfnampjbdnbaaDoorKHq12
namespace Go.Proofs.YtbbfnampjbdnbaaDoor
open Go.RowKit
set_option maxRecDepth 20000
set_option linter.unusedVariables false

theorem isFirst_uniq {T : List Cl} {n m : Nat} {e f : Int} (h : IsFirst T n e) (k : IsFirst T m f) : n = m ∧ e = f := by
  have hnm : n = m := by
    rcases Nat.lt_trichotomy n m with h1 | h1 | h1
    · have := k.ahead n h1
      rw [h.one.2.2] at this
      exact absurd this h.one.2.1
    · exact h1
    · have := h.ahead m h1
      rw [k.one.2.2] at this
      exact absurd this k.one.2.1
  subst hnm
  exact ⟨rfl, h.one.2.2.symm.trans k.one.2.2⟩
/-- What New answers, its errors too. -/
def NewIsE (T : List Cl) (room : Int) (B : Nat) (W : World) (e : Ending) : Prop :=
  ((room < 0 ∨ 4096 < room) ∧ e = .returned (.tuple #[.pointer none, .int .i64 1])) ∨
  (0 ≤ room ∧ room ≤ 4096 ∧ ∃ (n : Nat) (er : Int), IsFirst T n er ∧ e = .returned (.tuple #[.pointer none, .int .i64 er])) ∨
  (0 ≤ room ∧ room ≤ 4096 ∧ madeD T = true ∧ ∃ g lv L, e = .returned (.tuple #[.pointer (some ⟨g, 0, none⟩), .int .i64 0]) ∧ HpAt B W g (newH room lv L) ∧ L.length = T.length ∧ ∀ (c : Nat) (x : Ld), L[c]? = some x → x.bs = ldsD T c)
set_option maxRecDepth 20000 in
set_option maxHeartbeats 4000000 in
theorem NewE_any (ao : Option Addr) (cap : Nat) (T : List Cl) (room : Int) (w : World) (hT : TabAt w ao T) (hcap : T.length ≤ cap) (hW : WordsAt w) (hz : T.length * 48 ≤ 140737488351232) :
    Calls Tryd.prog 5 #[.slice ao T.length cap, .int .i64 room] w fun e w' => NewIsE T room w.heap.size w' e ∧ Below w.heap.size w w' := by
  obtain ⟨ib, hib, hb0, hb1, hb2⟩ := info_parts infoBoH
  obtain ⟨is, his, hs0, hs1, hs2⟩ := info_parts infoBS
  have HC := hide (Check_any ao cap T w hT hcap hW hz)
  have HT := hide hT
  have HZ := hide hz
  clear hW hT hcap hz
  go_enter Tryd.func5, Tryd.ntmps5
  by_cases h1 : room < 0
  · have HR := hide h1
    go_wp2
    go_ret2
    exact ⟨Or.inl ⟨Or.inl (unhide HR), rfl⟩, Below.refl _ _⟩
  · by_cases h2 : 4096 < room
    · have HR := hide h2
      go_wp2
      go_ret2
      exact ⟨Or.inl ⟨Or.inr (unhide HR), rfl⟩, Below.refl _ _⟩
    · have HRM : Hid (0 ≤ room ∧ room ≤ 4096) := hide ⟨by omega, by omega⟩
      go_wp2_with fail
      refine (unhide HC).mono ?_
      rintro e W2 ⟨⟨n, er, rfl, h3⟩, hB2⟩
      rcases h3 with ⟨rfl, rfl, hm⟩ | hf
      · have HM := hide hm
        have HB2 := hide hB2
        have hal : Below W2.heap.size W2 (W2.alloc (.cells (hpC (newH room (.slice none 0 0) [])) 55)) := (Below.refl _ _).alloc (Nat.le_refl _) _
        have HH0 := hide (HpAt.new (W := W2) room hB2.size)
        have HB3 : Hid (Below w.heap.size w (W2.alloc (.cells (hpC (newH room (.slice none 0 0) [])) 55))) := hide (hB2.trans (hal.mono hB2.size))
        have htl : T.length ≤ 32 := made_le hm
        clear hm hB2 hal HC
        go_upto_region 7 with fail
        change Hid (HpAt w.heap.size (W2.alloc (.cells #[.slice none 0 0, .int .i64 room, .int .i64 0, .int .i64 0, .slice none 0 0, .bool true] 55)) W2.heap.size (newH room (.slice none 0 0) [])) at HH0
        change Hid (Below w.heap.size w (W2.alloc (.cells #[.slice none 0 0, .int .i64 room, .int .i64 0, .int .i64 0, .slice none 0 0, .bool true] 55))) at HB3
        generalize W2.alloc (.cells #[.slice none 0 0, .int .i64 room, .int .i64 0, .int .i64 0, .slice none 0 0, .bool true] 55) = W3 at HH0 HB3 ⊢
        clear HB2
        generalize W2.heap.size = g at HH0 ⊢
        go_wp2_with fail
        go_loopw [32] (fun i wr => ∃ (k : Nat) (lv : Value) (L : List Ld), k ≤ T.length ∧ i = .int .i64 (k : Int) ∧ Hid (L.length = k) ∧ Hid (HpAt w.heap.size wr g (newH room lv L)) ∧ Hid (∀ (c : Nat) (x : Ld), L[c]? = some x → x.bs = ldsD T c) ∧ Hid (Below w.heap.size w wr)) (fun i _ => T.length - (intOf i).toNat)
        case atStart => exact ⟨0, _, [], by omega, rfl, hide rfl, HH0, hide (fun c x hx => by simp at hx), HB3⟩
        case round =>
          obtain ⟨k, lv, L, hk, rfl, HLk, HH, HLS, HBr⟩ := hrel
          clear HH0 HB3
          by_cases hlt : k < T.length
          · have i1 : ((k : Nat) : Int) < ((T.length : Nat) : Int) := by omega
            have hfl : (fieldsB T (k : Int)).length ≤ 32 := fieldsB_le (unhide HM) (by omega)
            have HF := hide (Fields_any ao cap T (k : Int) wr ((unhide HT).below (unhide HBr)) (unhide HZ) (by omega))
            go_wp2_with fail
            refine (unhide HF).mono ?_
            rintro e W4 ⟨fv, rfl, hO, hb4⟩
            obtain ⟨fa, fc, rfl, hfs, _, _⟩ := hO.at (fieldsB_ok ((unhide HT).below (unhide HBr)) (k : Int))
            have HFS := hide hfs
            have HH4 := hide ((unhide HH).below hb4)
            have HB4 := hide ((unhide HBr).trans (hb4.mono (unhide HBr).size))
            clear hO hb4 hfs HF HH HBr
            obtain ⟨FB, HFB⟩ : ∃ q, Hid (fieldsB T (k : Int) = q) := ⟨_, hide rfl⟩
            rw [unhide HFB] at hfl HFS ⊢
            go_wp2_with fail
            go_loopw [10, 39] (fun v i wr => ∃ (j : Nat) (bs : List Bool), j ≤ FB.length ∧ i = .int .i64 (j : Int) ∧ bs.length ≤ 32 ∧ Hid (bs = (FB.take j).map (fun f => isRefD f.ty)) ∧ Hid (wr.ownsRow W4.heap.size 4 1 v bs.length (bs.map (fun b => .bool b))) ∧ Hid (Below W4.heap.size W4 wr)) (fun _ i _ => FB.length - (intOf i).toNat)
            case atStart => exact ⟨0, [], by omega, rfl, by simp, hide rfl, hide (World.ownsRow_nil _ _ _ _), hide (Below.refl _ _)⟩
            case round =>
              obtain ⟨j, bs, hj, rfl, hbl, HBE, HO, HBw⟩ := hrel
              by_cases hjl : j < FB.length
              · have i2 : ((j : Nat) : Int) < ((FB.length : Nat) : Int) := by omega
                have hx := List.getElem?_eq_getElem hjl
                generalize FB[j] = f at hx
                obtain ⟨b, off, rfl, hfa⟩ := (unhide HFS).below (unhide HBw) j f hx
                have c0 := hfa.c0
                have c1 := hfa.c1
                have HX := hide hx
                have hal : Below wr.heap.size wr (wr.alloc (.cells #[.string f.nm, .int .u8 (f.ty : Int)] 41)) := (Below.refl _ _).alloc (Nat.le_refl _) _
                have HBX : Hid (Bx (wr.alloc (.cells #[.string f.nm, .int .u8 (f.ty : Int)] 41)) wr.heap.size 41 #[.string f.nm, .int .u8 (f.ty : Int)]) := hide (heap_alloc_new wr _)
                have HOa := hide (World.ownsRow.alloc (unhide HO) (.cells #[.string f.nm, .int .u8 (f.ty : Int)] 41))
                have HBa := hide ((unhide HBw).trans (hal.mono (unhide HBw).size))
                clear hfa hx hal
                go_upto_region 14 with fail
                clear c0 c1
                generalize wr.alloc (.cells #[.string f.nm, .int .u8 (f.ty : Int)] 41) = Wa at HBX HOa HBa ⊢
                generalize wr.heap.size = gb at HBX ⊢
                have b1 := (unhide HBX).c 1 rfl
                go_wp2_with fail
                refine (IsRef_any f.ty Wa).mono ?_
                rintro e Wb ⟨rfl, hw⟩
                rw [hw]
                clear hw Wb
                obtain ⟨q, HQ⟩ : ∃ q, Hid (isRefD f.ty = q) := ⟨_, hide rfl⟩
                rw [unhide HQ]
                have HR1 := hide (World.ownsRow.alloc (unhide HOa) (.cells #[.bool q] 4))
                go_wp2_with (at_builtin; refine wpList_append_own _ rfl _ _ 56 rfl (W4.heap.size) 4 ib (.bool false) 1 1 Tryd.underlying56 hib hb0 hb1 hb2 rfl (by decide) _ bs.length (bs.map (fun b => .bool b)) rfl (unhide HR1) ⟨Wa.heap.size, 0, none⟩ 1 1 [.bool q] rfl rfl (cell_one_newH _ _ _) (by simp [Value.oneCell']) ?a3 ?a4 ?a5 ?_)
                case a3 => unfold maxLen; omega
                case a4 => omega
                case a5 => have := (unhide HBa).size; simp; omega
                intro v1 w1 hO1 hG1 _
                have HBS : Hid (bs ++ [q] = (FB.take (j + 1)).map (fun f => isRefD f.ty)) := hide (by rw [take_step (unhide HX), List.map_append, ← unhide HBE, ← unhide HQ]; rfl)
                have hbl2 : (bs ++ [q]).length ≤ 32 := by rw [unhide HBS]; simp; omega
                have HO1 : Hid (w1.ownsRow W4.heap.size 4 1 v1 (bs ++ [q]).length ((bs ++ [q]).map (fun b => .bool b))) := hide (by rw [List.map_append, List.length_append]; exact hO1)
                have HB1 := hide (((unhide HBa).alloc (unhide HBa).size _).grown hG1 (by have := (unhide HBa).size; simp; omega) (fun q e => ((unhide HO).lt q e).1))
                clear hO1 hG1
                go_wp2
                go_roundw
                case rel => exact ⟨j + 1, bs ++ [q], by omega, by go_num, hbl2, HBS, HO1, HB1⟩
                case measure => simp [intOf]; omega
              · have i2 : ¬ ((j : Nat) : Int) < ((FB.length : Nat) : Int) := by omega
                have HBS : Hid (bs = ldsD T k) := hide (by have := unhide HBE; rw [List.take_of_length_le (by omega)] at this; unfold ldsD; rw [unhide HFB]; exact this)
                obtain ⟨va, vc, hv⟩ := row_shape (unhide HO)
                subst hv
                have HH5 := hide ((unhide HH4).below (unhide HBw))
                have HB5 := hide ((unhide HB4).trans ((unhide HBw).mono (unhide HB4).size))
                obtain ⟨la, lc, hlv⟩ := row_shape (unhide HH5).lds
                have hlv : lv = .slice la L.length lc := hlv
                subst hlv
                have hLl := unhide HLk
                have hL32 : L.length ≤ 32 := by omega
                have c0 := (unhide HH5).c0
                have HR1 : Hid ((wr.alloc (.cells #[.slice va bs.length vc] 56)).ownsRow w.heap.size 56 1 (.slice la L.length lc) L.length (L.map Ld.v)) := hide (World.ownsRow.alloc (unhide HH5).lds _)
                have hws : w.heap.size ≤ wr.heap.size := (unhide HB5).size
                clear hLl HBE
                go_wp2_with (at_builtin; refine wpList_append_lies _ rfl _ _ 52 rfl (w.heap.size) 56 is (.slice none 0 0) 1 24 Tryd.underlying52 his hs0 hs1 hs2 rfl (by decide) (.slice la L.length lc) L.length (L.map Ld.v) rfl (unhide HR1) ⟨wr.heap.size, 0, none⟩ 1 1 [.slice va bs.length vc] rfl rfl (cell_one_newH _ _ _) (by simp [Value.oneCell']) (by omega) ?e3 ?e4 ?e5 (wr.heap.size + 1) ?e6 ?_)
                case e3 => unfold maxLen; omega
                case e4 => omega
                case e5 => first | omega | (simp; omega)
                intro g3 cap3 w1 hO1 hG1 _ _
                have HN := hide ((unhide HH5).lead ⟨va, vc, bs⟩ (.cells #[.slice va bs.length vc] 56) g3 cap3 (rowMono (base' := w.heap.size) (unhide HO) (unhide HB4).size) hws hO1 hG1)
                have k0 := (unhide HN).2.c 0 (v := .slice la L.length lc) rfl
                have f0 := (unhide HN).2.f 0
                have HB6 : Hid (Below w.heap.size w (w1.setCell ⟨g, 0, none⟩ (.slice (some ⟨g3, 0, none⟩) (L.length + 1) cap3))) := hide ((((unhide HB5).alloc (unhide HB5).size _).grown hG1 (by simp; omega) (fun q e => ((unhide HH5).lds.lt q e).1)).setCell (p := ⟨g, 0, none⟩) (unhide HH5).lo _)
                have HLK2 : Hid ((L ++ [(⟨va, vc, bs⟩ : Ld)]).length = k + 1) := hide (by rw [List.length_append, unhide HLk]; rfl)
                have HLS2 : Hid (∀ (c : Nat) (x : Ld), (L ++ [(⟨va, vc, bs⟩ : Ld)])[c]? = some x → x.bs = ldsD T c) := hide (fun c x hx => by
                  by_cases e : c < L.length
                  · rw [List.getElem?_append_left e] at hx
                    exact unhide HLS c x hx
                  · rw [List.getElem?_append_right (by omega)] at hx
                    have e2 : c - L.length = 0 := by
                      have := (List.getElem?_eq_some_iff.1 hx).1
                      simp at this
                      omega
                    rw [e2] at hx
                    simp at hx
                    subst hx
                    have e3 : c = k := by have := unhide HLk; omega
                    subst e3
                    exact unhide HBS)
                clear hO1 hG1 c0
                go_wp2
                go_roundw
                case rel => exact ⟨k + 1, _, _, by omega, by go_num, HLK2, hide (unhide HN).1, HLS2, HB6⟩
                case measure => simp [intOf]; omega
          · have i1 : ¬ ((k : Nat) : Int) < ((T.length : Nat) : Int) := by omega
            have HLT : Hid (L.length = T.length) := hide (by have := unhide HLk; omega)
            go_wp2
            go_ret2
            exact ⟨Or.inr (Or.inr ⟨(unhide HRM).1, (unhide HRM).2, unhide HM, g, lv, L, rfl, unhide HH, unhide HLT, unhide HLS⟩), unhide HBr⟩
      · have HE := hide hf
        have t0 : (er != 0) = true := bne_t hf.one.2.1
        have HB2 := hide hB2
        clear hf hB2
        go_wp2
        go_ret2
        exact ⟨Or.inr (Or.inl ⟨(unhide HRM).1, (unhide HRM).2, n, er, unhide HE, rfl⟩), unhide HB2⟩
end Go.Proofs.YtbbfnampjbdnbaaDoor
